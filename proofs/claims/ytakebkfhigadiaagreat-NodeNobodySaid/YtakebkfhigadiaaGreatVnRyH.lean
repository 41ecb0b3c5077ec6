/-
  The reckoner's rules hold in the model: regions,in the text's order and in any. No condition.
-/
import Derived.Test.YtakebkfhigadiaaGreatVnRyG
namespace Go.Proofs.YtakebkfhigadiaaGreat.Ry
open Go Go.RowKit
section
variable {P:Program} {cx:Cx} {bs:Bs} {gv:List Value} {st:St} {ν:Nat→Option (Nat × Nat)} {a:Act} {w:World} {G:Gm}
theorem pd {α:Type} {l:Array α} {d t:Nat} {v u:α} (hd:d < l.size):(l.setIfInBounds d v).getD t u=if d=t then v else l.getD t u:=by
 by_cases h:d=t
 ·subst h
  simp [hd]
 ·simp [h,Array.getElem?_setIfInBounds_ne h]
theorem KI (hr:cU bs gv st ν a w) {ν' : Nat→Option (Nat × Nat)} {h' : H} {w' : World} {dst:Option Tmp} {e:bz} {v:Value} (hx:Ext (gg bs st ν w) ⟨ν',h',bs,w'⟩) (hv:e.is ⟨ν',h',bs,w'⟩ v) (hm:Mem ⟨ν',h',bs,w'⟩) :
  cU bs gv { (st.put dst e) with heap:=h' } ν' (a.put dst v) w':=by
 cases dst with
 |none=>exact⟨hr.size,fun t e' he=>(hr.slot t e' he).ext hx,hr.gs.ext hx,hr.defers,hm⟩
 |some d =>
  refine⟨by simpa [Act.put,St.put] using hr.size,fun t e' he=>?_,hr.gs.ext hx,hr.defers,hm⟩
  simp only [St.put,List.getElem?_set] at he
  have hsz:=hr.size
  split at he
  ·rename_i hdt
   split at he
   ·rename_i hlt
    cases he
    subst hdt
    show e.is ⟨ν',h',bs,w'⟩ ((a.tmps.setIfInBounds d v).getD d undef)
    rw [pd (by omega),if_pos rfl]
    exact hv
   ·cases he
  ·rename_i hdt
   have:=(hr.slot t e' he).ext hx
   show e'.is ⟨ν',h',bs,w'⟩ ((a.tmps.setIfInBounds d v).getD t undef)
   rcases Nat.lt_or_ge d a.tmps.size with g|g
   ·rw [pd g,if_neg hdt]
    exact this
   ·rwa [Array.setIfInBounds_eq_of_size_le g]
theorem ot (hr:cU bs gv st ν a w) {dst:Option Tmp} {E:cr} {v:Value} {w' : World} (h:eZ bs st ν w E v w'):∃ ν',cU bs gv (st.app dst E) ν' (a.put dst v) w':=by
 obtain⟨ν',hx,hv,hm⟩:=h
 exact⟨ν',KI hr hx hv hm⟩
theorem oL (hr:cU bs gv st ν a w) {ops:List Oper} {o:Oper} {r:Wn} (h:nD Ar.U ops st o.guard=r) (hb:r≠.bad):Region.wanted o (yielded ops.toArray a.tmps)=match r with
  |.yes=>true
  |.no=>false
  |.sym b=>b
  |.bad=>false:=by
 unfold nD at h
 unfold Region.wanted
 split at h
 ·rename_i hg
  subst h
  simp [hg]
 ·rename_i j want hg
  split at h
  ·rename_i o' ho'
   split at h
   ·rename_i t ht
    have hy:t < a.tmps.size→yielded ops.toArray a.tmps j=match a.tmps.getD t undef with
      |.bool b=>some b
      |_=>none:=by
     intro hlt
     unfold yielded
     simp only [List.getElem?_toArray,ho',Option.bind_some,ht,Array.getElem?_eq_getElem hlt]
     simp only [Array.getD_eq_getD_getElem?,Array.getElem?_eq_getElem hlt,Option.getD_some]
     cases a.tmps[t] <;> rfl
    cases hs:st.eI[t]? with
    |none =>
     rw [List.getD_eq_getElem?_getD,hs] at h
     simp only [Option.getD_none,bz.nil,EU] at h
     exact absurd h.symm hb
    |some e =>
     rw [List.getD_eq_getElem?_getD,hs] at h
     simp only [Option.getD_some] at h
     have hlt:t < a.tmps.size:=by
      rw [hr.size]
      exact cF hs
     have hv:=hr.slot t _ hs
     simp only [hg,hy hlt]
     unfold EU at h
     split at h
     ·rename_i c
      have hv' : a.tmps.getD t undef = .bool c:=hv
      rw [hv']
      subst h
      cases want <;> cases c <;> rfl
     ·rename_i g c
      subst h
      cases g with
      |true =>
       have hv' : a.tmps.getD t undef = .bool c:=hv
       rw [hv']
       cases want <;> cases c <;> rfl
      |false =>
       have hv' : a.tmps.getD t undef=undef:=hv
       rw [hv']
       cases want <;> cases c <;> rfl
     ·rename_i c
      have hv' : a.tmps.getD t undef = .bool c:=hv
      rw [hv']
      subst h
      cases want <;> cases c <;> rfl
     ·rename_i g c
      subst h
      cases g with
      |true =>
       have hv' : a.tmps.getD t undef = .bool c:=hv
       rw [hv']
       cases want <;> cases c <;> rfl
      |false =>
       have hv' : a.tmps.getD t undef=undef:=hv
       rw [hv']
       cases want <;> cases c <;> rfl
     ·exact absurd h.symm hb
   ·exact absurd h.symm hb
  ·exact absurd h.symm hb
theorem zG (hc:cm P cx) (hr:cU bs gv st ν a w) {ops:List Oper} {o:Oper} {u:Nat} {d:Bool} {E:cr} (h:gK Ar.U cx ops st u o d=some E) (hs:E.side) {K:Act→World→Prop} {Q:Exit→Act→World→Prop}
  (hK:∀ ν' a' w',cU bs gv (st.app o.dst E) ν' a' w'→K a' w') :
  if Region.wanted o (yielded ops.toArray a.tmps) then o.wp P a w K Q∨(o.asks P a w∧LetsOut Q) else K (a.put o.dst undef) w:=by
 have skip:∀ {C:Prop} {e:bz},E=⟨C,e,[]⟩→e.is (gg bs st ν w) undef→K (a.put o.dst undef) w:=by
  intro C e hE he
  subst hE
  obtain⟨ν'',hr'⟩:=ot (dst:=o.dst) (E:=⟨C,e,[]⟩) (v:=undef) hr ⟨ν,Ext.refl _,he,hr.mem⟩
  exact hK _ _ _ hr'
 unfold gK at h
 split at h
 ·cases h
 ·rename_i hw
  rw [oL hr hw (by simp)]
  simp only [if_true]
  refine .inl (yx hc hr h hs fun v w' hres=>?_)
  obtain⟨ν',hr'⟩:=ot (dst:=o.dst) hr hres
  exact hK ν' _ _ hr'
 ·rename_i hw
  rw [oL hr hw (by simp)]
  cases h
  exact skip rfl rfl
 ·rename_i b hw
  rw [oL hr hw (by simp)]
  split at h
  ·rename_i C e he
   cases h
   cases b with
   |true =>
    simp only [if_true]
    have hs' : C:=by
     rcases hs with hs|hs
     ·cases hs
     ·exact hs
    refine .inl (yx hc hr he hs' fun v w' hres=>?_)
    obtain⟨ν',hx,hv,hm⟩:=hres
    have hv' : (⟨ML Ar.U (some true) e.g,e.v⟩:bz).is ⟨ν',aI st.heap [],bs,w'⟩ v:=by
     obtain⟨g,ev⟩:=e
     cases g with
     |none=>exact hv
     |some g=>cases g <;> exact hv
    obtain⟨ν'',hr'⟩:=ot (dst:=o.dst) (E:=⟨true=false∨C,⟨ML Ar.U (some true) e.g,e.v⟩,[]⟩) hr ⟨ν',hx,hv',hm⟩
    exact hK _ _ _ hr'
   |false =>
    simp only [Bool.false_eq_true,if_false]
    refine skip rfl ?_
    obtain⟨g,ev⟩:=e
    cases g with
    |none=>rfl
    |some g=>cases g <;> rfl
  ·rename_i C e p l he
   split at h
   ·cases h
    obtain⟨rfl,hs'⟩:=hs
    simp only [if_true]
    refine .inl (yx hc hr he hs' fun v w' hres=>?_)
    obtain⟨ν'',hr'⟩:=ot (dst:=o.dst) (E:=⟨true=true∧C,e,p :: l⟩) hr hres
    exact hK _ _ _ hr'
   ·cases h
    have hs:b=false:=hs
    subst hs
    exact skip rfl trivial
  ·cases h
   have hs:b=false:=hs
   subst hs
   exact skip rfl trivial
theorem FJ (hc:cm P cx) {r:Nat} {ops:List Oper} {Q:Exit→Act→World→Prop} {st' : St} (hQ:∀ ν' a' w',cU bs gv st' ν' a' w'→Q .normal a' w'):∀ {l:List Jt} {T:List It} {st:St} {ν:Nat→Option (Nat × Nat)} {a:Act} {w:World},
  runT Ar.U cx r ops l st=some (T,st')→jV T→cU bs gv st ν a w→wpList P ops.toArray Q (l.map (·.o)) a w
 |[],T,st,ν,a,w,h,_,hr=>by
  cases h
  exact hQ _ _ _ hr
 |j :: l,T,st,ν,a,w,h,hs,hr=>by
  simp only [runT] at h
  split at h
  ·rename_i E hE
   split at h
   ·rename_i T' st'' hT
    cases h
    exact zG hc hr hE hs.1 fun ν' a' w' hr'=>FJ hc hQ hT hs.2 hr'
   ·cases h
  ·cases h
theorem nH:∀ (l:List Oper) (k:Nat) (ds:List Bool),ds.length=l.length→(cC k l ds).map (·.o)=l
 |[],_,[],_=>rfl
 |o :: l,k,d :: ds,h=>by simp [cC,nH l (k+1) ds (by simpa using h)]
 |[],_,_ :: _,h=>by simp at h
 |_ :: _,_,[],h=>by simp at h
theorem Ck (hc:cm P cx) {id:Nat} {ops:Array Oper} {Q:Exit→Act→World→Prop} {T:List It} {st' : St} {ds:List Bool} (hds:ds.length=ops.toList.length) (h:runT Ar.U cx id ops.toList (cC 0 ops.toList ds) st=some (T,st')) (hs:jV T) (hr:cU bs gv st ν a w)
  (hQ:∀ ν' a' w',cU bs gv st' ν' a' w'→Q .normal a' w'):(Code.region id ops false).wp P Q a w:=by
 have:=FJ hc hQ h hs hr
 rw [nH _ _ _ hds] at this
 exact wp_region_list (by simpa using this)
theorem gI {A:Ar} {r:Nat} {ops:List Oper}:∀ {l:List Oper} {i:Nat} {st:St} {K:List It→St→Prop},nJ A cx r ops i l st K→∃ ds T st',ds.length=l.length∧runT A cx r ops (cC i l ds) st=some (T,st')∧(∃ T0,K T0 st'∧(jV T0→jV T)∧(∀ f:It→Nat × Oper × List Nat × List Nat,(∀ x:It,f x=(x.i,x.o,x.wb,x.ft))→T0.map f=T.map f))
 |[],i,st,K,h=>⟨[],[],st,rfl,rfl,[],h,id,fun _ _=>rfl⟩
 |o :: l,i,st,K,h=>by
  unfold nJ at h
  split at h
  ·exact h.elim
  ·rename_i hw
   split at h
   ·rename_i E hE
    obtain⟨ds,T,st',h1,h2,T0,h3,h4,h5⟩:=gI h
    refine⟨true :: ds,⟨i,o,true,E.side,E.gm.map (·.1),di cx st (uid r i) o⟩ :: T,st',by simp [h1],?_,_ :: T0,h3,fun hs=>⟨hs.1,h4 hs.2⟩,fun f hf=>?_⟩
    ·simp only [cC,runT,gK,hw,hE,h2]
    ·simp only [List.map_cons,hf,h5 f hf]
   ·exact h.elim
  ·rename_i hw
   obtain⟨ds,T,st',h1,h2,T0,h3,h4,h5⟩:=gI h
   refine⟨true :: ds,⟨i,o,true,True,[],di cx st (uid r i) o⟩ :: T,st',by simp [h1],?_,_ :: T0,h3,fun hs=>⟨hs.1,h4 hs.2⟩,fun f hf=>?_⟩
   ·simp only [cC,runT,gK,hw,h2]
    rfl
   ·simp only [List.map_cons,hf,h5 f hf]
  ·rename_i b hw
   split at h
   ·rename_i C e he
    obtain⟨ds,T,st',h1,h2,T0,h3,h4,h5⟩:=gI h
    refine⟨true :: ds,⟨i,o,true,b=false∨C,[],di cx st (uid r i) o⟩ :: T,st',by simp [h1],?_,_ :: T0,h3,fun hs=>⟨hs.1,h4 hs.2⟩,fun f hf=>?_⟩
    ·simp only [cC,runT,gK,hw,he,h2]
     rfl
    ·simp only [List.map_cons,hf,h5 f hf]
   ·rename_i C e p q he
    cases hb:b with
    |true =>
     obtain⟨ds,T,st',h1,h2,T0,h3,h4,h5⟩:=gI (h.1.resolve_left (by rw [hb];decide))
     refine⟨true :: ds,⟨i,o,true,b=true∧C,p.1 :: q.map (·.1),di cx st (uid r i) o⟩ :: T,st',by simp [h1],?_,_ :: T0,h3,fun hs=>⟨⟨hb,hs.1⟩,h4 hs.2⟩,fun f hf=>?_⟩
     ·simp only [cC,runT,gK,hw,he,h2]
      rfl
     ·simp only [List.map_cons,hf,h5 f hf]
    |false =>
     obtain⟨ds,T,st',h1,h2,T0,h3,h4,h5⟩:=gI (h.2.resolve_left (by rw [hb];decide))
     refine⟨false :: ds,⟨i,o,false,b=false,[],di cx st (uid r i) o⟩ :: T,st',by simp [h1],?_,_ :: T0,h3,fun hs=>⟨hb,h4 hs.2⟩,fun f hf=>?_⟩
     ·simp only [cC,runT,gK,hw,he,h2]
      rfl
     ·simp only [List.map_cons,hf,h5 f hf]
   ·rename_i he
    obtain⟨ds,T,st',h1,h2,T0,h3,h4,h5⟩:=gI h
    refine⟨true :: ds,⟨i,o,true,b=false,[],di cx st (uid r i) o⟩ :: T,st',by simp [h1],?_,_ :: T0,h3,fun hs=>⟨hs.1,h4 hs.2⟩,fun f hf=>?_⟩
    ·simp only [cC,runT,gK,hw,he,h2]
     rfl
    ·simp only [List.map_cons,hf,h5 f hf]
theorem CP {ops:List Oper} {T0 T:List It} (h:T0.map (fun x=>(x.i,x.o,x.wb,x.ft))=T.map (fun x=>(x.i,x.o,x.wb,x.ft))):eO ops T0=eO ops T:=by
 induction T0 generalizing T with
 |nil=>cases T with
  |nil=>rfl
  |cons _ _=>simp at h
 |cons x T0 ih=>cases T with
  |nil=>simp at h
  |cons y T =>
   simp only [List.map_cons,List.cons.injEq,Prod.mk.injEq] at h
   obtain⟨⟨e1,e2,e3,e4⟩,h⟩:=h
   have hp:∀ (A B:List It),A.map (fun x=>(x.i,x.o,x.wb,x.ft))=B.map (fun x=>(x.i,x.o,x.wb,x.ft))→A.all (rC ops x)=B.all (rC ops y):=by
    intro A
    induction A with
    |nil=>intro B hB;cases B with
     |nil=>rfl
     |cons _ _=>simp at hB
    |cons p A ihA=>intro B hB;cases B with
     |nil=>simp at hB
     |cons q B =>
      simp only [List.map_cons,List.cons.injEq,Prod.mk.injEq] at hB
      obtain⟨⟨f1,f2,f3,f4⟩,hB⟩:=hB
      simp only [List.all_cons,ihA B hB]
      congr 1
      unfold rC
      rw [e1,e2,e3,e4,f1,f2,f3,f4]
   unfold eO
   rw [hp T0 T h,ih h]
end
end Go.Proofs.YtakebkfhigadiaaGreat.Ry
