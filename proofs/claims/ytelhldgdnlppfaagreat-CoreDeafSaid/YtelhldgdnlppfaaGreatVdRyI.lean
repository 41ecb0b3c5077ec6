/-
  The reckoner's rules hold in the model: operations of a region that may change places. No condition.
-/
import Derived.Test.YtelhldgdnlppfaaGreatVdRyH
namespace Go.Proofs.YtelhldgdnlppfaaGreat.Ry
open Go Go.RowKit
section
variable {P:Program} {cx:Cx} {bs:Bs} {gv:List Value} {st:St} {ν:Nat→Option (Nat × Nat)} {a:Act} {w:World} {G:Gm}
structure iC (st st' : St) (ts bs:List Nat):Prop where
 slot:∀ t∈ts,st'.fC.getD t bB.nil=st.fC.getD t bB.nil
 ig:∀ b∈bs,ak st'.heap b=ak st.heap b
theorem iC.symm {st st' : St} {ts bs:List Nat} (h:iC st st' ts bs):iC st' st ts bs:=⟨fun t ht=>(h.slot t ht).symm,fun b hb=>(h.ig b hb).symm⟩
theorem iC.mono {st st' : St} {ts bs ts' bs' : List Nat} (h:iC st st' ts bs) (ht:∀ t∈ts',t∈ts) (hb:∀ b∈bs',b∈bs):iC st st' ts' bs':=⟨fun t h'=>h.slot t (ht t h'),fun b h'=>h.ig b (hb b h')⟩
theorem AM {st st' : St} {ts bs:List Nat} (h:iC st st' ts bs) {x:Operand} (hx:∀ t,x = .tmp t→t∈ts):aF st' x=aF st x:=by
 cases x with
 |tmp t=>exact h.slot t (hx t rfl)
 |_=>rfl
def tmpsOf (l:List Operand):List Nat:=l.filterMap fun x=>match x with
 |.tmp t=>some t
 |_=>none
theorem BX {l:List Operand} {t:Nat} (h:Operand.tmp t∈l):t∈tmpsOf l:=List.mem_filterMap.2 ⟨_,h,rfl⟩
theorem uY {st st' : St} {l:List Operand} {bs:List Nat} (h:iC st st' (tmpsOf l) bs) {x:Operand} (hx:x∈l):aF st' x=aF st x :=
 AM h fun _ e=>BX (e ▸ hx)
section
variable {h h' : H}
theorem gK:∀ (f:Nat) {todo seen:List Nat},(∀ n∈reach f h todo seen,ak h' n=ak h n)→reach f h' todo seen=reach f h todo seen
 |0,_,_,_=>rfl
 |f+1,[],_,_=>rfl
 |f+1,n :: l,seen,ha=>by
  have hsub:∀ (f:Nat) (todo seen:List Nat),∀ k∈seen,k∈reach f h todo seen:=by
   intro f
   induction f with
   |zero=>intro todo seen k hk;exact hk
   |succ f ih =>
    intro todo seen k hk
    cases todo with
    |nil=>exact hk
    |cons m todo =>
     unfold reach
     split
     ·exact ih _ _ k hk
     ·exact ih _ _ k (List.mem_append_left _ hk)
  unfold reach at ha ⊢
  split
  ·rename_i hm
   simp only [hm] at ha
   exact gK f ha
  ·rename_i hm
   simp only [hm] at ha
   have hn:ak h' n=ak h n:=ha n (hsub _ _ _ n (List.mem_append_right _ (List.mem_singleton.2 rfl)))
   rw [hn]
   exact gK f ha
theorem lS {m:List (Nat × Nat)}:∀ {l:List Nat},(∀ n∈l,ak h' n=ak h n)→mL m h' l=mL m h l
 |[],_=>rfl
 |n :: l,ha=>by
  unfold mL
  rw [ha n (List.mem_cons_self ..),lS fun k hk=>ha k (List.mem_cons_of_mem _ hk)]
theorem rU:∀ {l:List Nat},(∀ n∈l,ak h' n=ak h n)→zG h' l=zG h l
 |[],_=>rfl
 |n :: l,ha=>by
  unfold zG
  rw [ha n (List.mem_cons_self ..),rU fun k hk=>ha k (List.mem_cons_of_mem _ hk)]
theorem iN:∀ {l:List Nat},(∀ n∈l,ak h' n=ak h n)→rowsOf h' l=rowsOf h l
 |[],_=>rfl
 |n :: l,ha=>by
  unfold rowsOf
  rw [ha n (List.mem_cons_self ..),iN fun k hk=>ha k (List.mem_cons_of_mem _ hk)]
theorem gT {roots:List (Nat × Nat)}:∀ {l:List (Nat × Nat)},(∀ n∈l.map (·.2),ak h' n=ak h n)→gG h' roots l=gG h roots l
 |[],_=>rfl
 |(i,n) :: l,ha=>by
  unfold gG cC
  rw [ha n (List.mem_cons_self ..),gT fun k hk=>ha k (List.mem_cons_of_mem _ hk)]
theorem lB {hp:H} {roots:List (Nat × Nat)}:∀ {l:List (Nat × Nat)},(∀ n∈l.map (·.2),ak h' n=ak h n)→kM h' hp roots l=kM h hp roots l
 |[],_=>rfl
 |(i,n) :: l,ha=>by
  unfold kM
  rw [ha n (List.mem_cons_self ..),lB fun k hk=>ha k (List.mem_cons_of_mem _ hk)]
theorem nO {c:SC} (ha:∀ n∈bq c,ak h' n=ak h n):me h' c=me h c:=by
 unfold me
 split <;> first|rfl|skip
 rw [ha _ (by simp [bq])]
theorem lq:∀ {cs:List SC},(∀ n∈cs.flatMap bq,ak h' n=ak h n)→iO h' cs=iO h cs
 |[],_=>rfl
 |c :: cs,ha=>by
  unfold iO
  rw [nO fun n hn=>ha n (by simp [hn]),lq fun n hn=>ha n (by simp only [List.flatMap_cons,List.mem_append];exact .inr hn)]
theorem yB {x:SA} (ha:∀ n∈ba x,ak h' n=ak h n):jX h' x=jX h x:=by
 cases x with
 |one c=>simp only [jX];rw [nO ha]
 |agg cs=>simp only [jX];rw [lq ha]
 |dZ c=>rfl
theorem gR:∀ {cs:List SA},(∀ n∈cs.flatMap ba,ak h' n=ak h n)→fg h' cs=fg h cs
 |[],_=>rfl
 |c :: cs,ha=>by
  unfold fg
  rw [yB fun n hn=>ha n (by simp [hn]),gR fun n hn=>ha n (by simp only [List.flatMap_cons,List.mem_append];exact .inr hn)]
theorem jh {c:SC} (ha:∀ n∈bq c,ak h' n=ak h n):kb h' c=kb h c:=by
 unfold kb
 split
 ·rfl
 ·rw [ha _ (by simp [bq])]
 ·rfl
theorem fD {c1:Ct} {c:SC} (ha:∀ n∈bq c,ak h' n=ak h n):dV h' c1 c=dV h c1 c:=by
 unfold dV
 split
 ·rfl
 ·exact jh ha
theorem kh {u:Nat} {bE:aZ} {vs:List SA} (ha:∀ n∈cS h u bE vs,ak h' n=ak h n):cS h' u bE vs=cS h u bE vs:=by
 unfold cS at ha ⊢
 simp only at ha ⊢
 have h1:reach 200 h' (vs.flatMap ba) []=reach 200 h (vs.flatMap ba) []:=gK 200 fun n hn=>ha n (by simp only [List.mem_append];exact .inl (.inl (.inr hn)))
 have h2:mL (bM 0 (reach 200 h (vs.flatMap ba) [])) h' (reach 200 h (vs.flatMap ba) [])=mL (bM 0 (reach 200 h (vs.flatMap ba) [])) h (reach 200 h (vs.flatMap ba) []):=lS fun n hn=>ha n (by simp only [List.mem_append];exact .inl (.inl (.inr hn)))
 have h3:fg h' vs=fg h vs:=gR fun n hn=>ha n (by simp only [List.mem_append];exact .inl (.inl (.inl hn)))
 rw [h1,h2,h3]
theorem lv {kp:Bool} {u:Nat} {bE:aZ} {s:Prop} {vs:List SA} (ha:∀ n∈cS h u bE vs,ak h' n=ak h n):fe kp h' u bE s vs=fe kp h u bE s vs:=by
 unfold cS at ha
 simp only at ha
 unfold fe
 simp only
 have h1:reach 200 h' (vs.flatMap ba) []=reach 200 h (vs.flatMap ba) []:=gK 200 fun n hn=>ha n (by simp only [List.mem_append];exact .inl (.inl (.inr hn)))
 rw [h1]
 generalize hq:reach 200 h (vs.flatMap ba) []=seen at ha
 have hseen:∀ n∈seen,ak h' n=ak h n:=fun n hn=>ha n (by simp only [List.mem_append];exact .inl (.inl (.inr hn)))
 rw [lS hseen,rU hseen]
 split
 ·rename_i args h0 e1 e2
  split
  ·rename_i p e3
   have hns:∀ n∈(names (bS seen args h0 p.h vs p.as) (bR u) p.h).map (·.2),ak h' n=ak h n:=fun n hn=>ha n (by
    simp only [List.mem_append]
    refine .inl (.inr ?_)
    rw [e1,e2]
    simp only
    rw [e3]
    exact hn)
   rw [gT hns,lB hns]
  ·rfl
 ·rfl
theorem sm {u:Nat} {bE:aZ} {s:Prop} {vs:List SA} (ha:∀ n∈cS h u bE vs,ak h' n=ak h n):fq h' u bE s vs=fq h u bE s vs:=by
 unfold cS at ha
 simp only at ha
 unfold fq
 simp only
 have hrefs:∀ n∈vs.flatMap ba,ak h' n=ak h n:=fun n hn=>ha n (by simp only [List.mem_append];exact .inl (.inl (.inl hn)))
 rw [gR hrefs,iN hrefs]
 split
 ·rename_i args e1
  split
  ·rename_i p e3
   have hns:∀ n∈(names [] (bR u) p.h).map (·.2),ak h' n=ak h n:=fun n hn=>ha n (by
    simp only [List.mem_append]
    refine .inr ?_
    rw [e1]
    simp only
    rw [e3]
    exact hn)
   rw [gT hns]
  ·rfl
 ·rfl
theorem wV {kp:Bool} {u:Nat} {bE:aZ} {s:Prop} {vs:List SA} (ha:∀ n∈cS h u bE vs,ak h' n=ak h n):gX kp h' u bE s vs=gX kp h u bE s vs:=by
 unfold gX
 rw [lv ha,sm ha]
theorem bX {d:Nat} (ha:ak h' d=ak h d):cC h' d=cC h d:=by unfold cC;rw [ha]
theorem qj {d:Nat} (ha:ak h' d=ak h d):kC h' d=kC h d:=by unfold kC;rw [ha]
theorem Bt {d:Nat} (ha:ak h' d=ak h d):dy h' d=dy h d:=by unfold dy;rw [ha]
theorem Ay {c d:SC} (ha:∀ n∈bq c,ak h' n=ak h n):vq h' c d=vq h c d:=by
 unfold vq
 split
 ·rfl
 ·rw [ha _ (by simp [bq])]
 ·rfl
theorem zX {A:Ar} {op:BinOp} {xt:TypeId} {s:Prop} {c d:SC} (ha:∀ n∈bq c,ak h' n=ak h n):sN A cx h' op xt s c d=sN A cx h op xt s c d:=by
 unfold sN
 rw [Ay ha]
theorem yk {A:Ar} {op:BinOp} {xt:TypeId} {x y:bB} (ha:∀ n∈bj x,ak h' n=ak h n):lY A cx h' op xt x y=lY A cx h op xt x y:=by
 unfold lY
 split
 ·rename_i c d hx hy
  exact zX fun n hn=>ha n (by unfold bj;rw [hx];exact hn)
 ·rfl
 ·rfl
theorem uw {A:Ar} {t u:TypeId} {x:bB} (ha:∀ n∈bj x,ak h' n=ak h n):iT A cx h' t u x=iT A cx h t u x:=by
 unfold iT
 split
 ·rename_i g c
  have hc:kb h' c=kb h c:=jh fun n hn=>ha n hn
  split
  ·split
   ·split
    ·rfl
    ·rw [hc]
   ·rfl
  ·rfl
  ·split
   ·split
    ·rename_i id e k l _
     rw [qj (ha id (by simp [bj,ba,bq]))]
    ·rfl
   ·rfl
  ·rfl
  ·rfl
 ·rfl
theorem ur {A:Ar} {t:TypeId} {x:bB} (ha:∀ n∈Ej x,ak h' n=ak h n):iH A cx h' t x=iH A cx h t x:=by
 unfold iH
 split
 ·rw [ha _ (by simp [Ej,bj,ba,bq])]
 ·rw [ha _ (by simp [Ej,bj,ba,bq])]
 ·rfl
 ·rfl
 ·rfl
 ·rfl
theorem tr {A:Ar} {t:TypeId} {x y:bB} (ha:∀ n∈bj x,ak h' n=ak h n):gp A cx h' t x y=gp A cx h t x y:=by
 unfold gp
 split
 ·rw [ha _ (by simp [bj,ba,bq])]
 ·rw [ha _ (by simp [bj,ba,bq])]
 ·rfl
theorem lQ {t:TypeId} {f:Nat} {x:bB} (ha:∀ n∈Cr x,ak h' n=ak h n):da cx h' t f x=da cx h t f x:=by
 unfold da
 split
 ·split
  ·split
   ·rfl
   ·split
    ·rfl
    ·rw [Bt (ha _ (by simp [Cr]))]
    ·rfl
    ·rfl
  ·rfl
 ·rfl
theorem mg {A:Ar} {t:TypeId} {x y:bB} (ha:∀ n∈bj x,ak h' n=ak h n):cZ A cx h' t x y=cZ A cx h t x y:=by
 unfold cZ
 split
 ·split
  ·split
   ·rfl
   ·rfl
   ·rw [ha _ (by simp [bj,ba,bq])]
   ·rfl
  ·split
   ·rw [ha _ (by simp [bj,ba,bq])]
   ·rw [ha _ (by simp [bj,ba,bq])]
   ·rfl
   ·rfl
  ·rfl
 ·rfl
theorem Af {t e:TypeId} {c:SC} (ha:∀ n∈bq c,ak h' n=ak h n):qf cx h' t e c=qf cx h t e c:=by
 unfold qf
 split
 ·rw [qj (ha _ (by simp [bq]))]
 ·rfl
 ·rfl
theorem yi {A:Ar} {u t t' : Nat} {x y:bB} (hx:∀ n∈bj x,ak h' n=ak h n) (hy:∀ n∈bj y,ak h' n=ak h n) (hu:ak h' (bR u)=ak h (bR u)):lP A cx h' u t t' x y=lP A cx h u t t' x y:=by
 unfold lP
 split
 ·rename_i gx x' gy y'
  have h1:∀ c1,dV h' c1 y' = dV h c1 y':=fun c1=>fD fun n hn=>hy n hn
  have h2:∀ e,qf cx h' t e x' = qf cx h t e x':=fun e=>Af fun n hn=>hx n hn
  simp only [h1,h2,bX hu]
 ·rfl
theorem zY {e:TypeId} {c:SC} (ha:∀ n∈bq c,ak h' n=ak h n):oA h' e c=oA h e c:=by
 unfold oA
 split
 ·rw [ha _ (by simp [bq])]
 ·rfl
theorem uQ {A:Ar} {u n t t' : Nat} {x y:bB} (hy:∀ n∈bj y,ak h' n=ak h n) (hu:ak h' (bR u)=ak h (bR u)):jk A cx h' u n t t' x y=jk A cx h u n t t' x y:=by
 unfold jk
 split
 ·rename_i gx _ gy y'
  have h1:∀ c1,dV h' c1 y' = dV h c1 y':=fun c1=>fD fun n hn=>hy n hn
  simp only [h1,bX hu]
 ·rfl
theorem uT {A:Ar} {u t t' : Nat} {x y:bB} (hy:∀ n∈bj y,ak h' n=ak h n) (hu:ak h' (bR u)=ak h (bR u)):iP A cx h' u t t' x y=iP A cx h u t t' x y:=by
 unfold iP
 split
 ·rename_i gx gy y'
  have h1:∀ c1,dV h' c1 y' = dV h c1 y':=fun c1=>fD fun n hn=>hy n hn
  simp only [h1,bX hu]
 ·rfl
theorem od {e:TypeId} {c:SC} (ha:∀ n∈bq c,ak h' n=ak h n):ownRow h' e c=ownRow h e c:=by
 unfold ownRow
 split
 ·rw [ha _ (by simp [bq])]
 ·rfl
theorem uC {e:TypeId} {c:SC} (ha:∀ n∈bq c,ak h' n=ak h n) (hb:∀ n∈(bq c).flatMap (mh h),ak h' n=ak h n):gD h' e c=gD h e c:=by
 unfold gD
 split
 ·rename_i n
  rw [ha n (by simp [bq])]
  split
  ·rename_i d sz q hh
   rw [hb d (by simp [bq,mh,hh])]
  ·rfl
 ·rfl
theorem uL {A:Ar} {u n t t' : Nat} {c1:Ct} {x y:bB} (hy:∀ n∈bj y,ak h' n=ak h n) (hu:ak h' (bR u)=ak h (bR u)):jd A cx h' u n c1 t t' x y=jd A cx h u n c1 t t' x y:=by
 unfold jd
 split
 ·rename_i gx _ gy y'
  have h1:∀ c1,dV h' c1 y' = dV h c1 y':=fun c1=>fD fun n hn=>hy n hn
  simp only [h1,bX hu]
 ·rfl
theorem uH {A:Ar} {t:TypeId} {x y:bB} (hx:∀ n∈bj x,ak h' n=ak h n) (hy:∀ n∈bj y,ak h' n=ak h n):jf A cx h' t x y=jf A cx h t x y:=by
 unfold jf
 split
 ·rename_i gx n gy y'
  have h1:∀ c1,dV h' c1 y' = dV h c1 y':=fun c1=>fD fun n hn=>hy n hn
  simp only [h1,hx n (by simp [bj,ba,bq])]
 ·rfl
theorem ug {A:Ar} {t:TypeId} {x:bB} (hx:∀ n∈bj x,ak h' n=ak h n):gq A cx h' t x=gq A cx h t x:=by
 unfold gq
 split
 ·rename_i g n l
  rw [hx n (by simp [bj,ba,bq])]
 ·rfl
theorem uE {A:Ar} {t:TypeId} {ok:Bool} {x y:bB} (hx:∀ n∈bj x,ak h' n=ak h n):iM A cx h' t ok x y=iM A cx h t ok x y:=by
 unfold iM
 split
 ·rw [hx _ (by simp [bj,ba,bq])]
 ·rfl
theorem xz {A:Ar} {t:TypeId} {x y z:bB} (hx:∀ n∈bj x,ak h' n=ak h n):lZ A cx h' t x y z=lZ A cx h t x y z:=by
 unfold lZ
 split
 ·rw [hx _ (by simp [bj,ba,bq])]
 ·rfl
theorem wW {A:Ar} {t:TypeId} {s:Prop} {c:SC} (ha:∀ n∈bq c,ak h' n=ak h n):mb A cx h' t s c=mb A cx h t s c:=by
 unfold mb
 split <;> first|rfl|skip
 split <;> first|rfl|skip
 rw [jh ha]
end
theorem zH:∀ {es:List bB} {vs:List SA},AS es=some vs→∀ n∈vs.flatMap ba,n∈es.flatMap bj
 |[],vs,h,n,hn=>by cases h;cases hn
 |e :: es,vs,h,n,hn=>by
  obtain⟨g,v⟩:=e
  cases v with
  |bJ _=>cases h
  |sa x =>
   simp only [AS] at h
   split at h
   ·rename_i xs hxs
    cases h
    simp only [List.flatMap_cons,List.mem_append] at hn ⊢
    exact hn.imp (fun h=>h) (zH hxs n)
   ·cases h
theorem FI (A:Ar) (cx:Cx) {st st' : St} {o:Oper} {u:Nat} (h:iC st st' (tmpsOf o.op.operands.toList) (dB cx st u o)):dC A cx st' u o.op=dC A cx st u o.op:=by
 have ev:=fun x (hx:x∈o.op.operands.toList)=>uY h hx
 have hb:=h.ig
 unfold dB at hb
 cases ho:o.op with
 |move x=>rw [ho] at ev;simp only [dC];rw [ev x (by simp [Op.operands])]
 |assign x=>rw [ho] at ev;simp only [dC];rw [ev x (by simp [Op.operands])]
 |pick c x y=>rw [ho] at ev;simp only [dC];rw [ev c (by simp [Op.operands]),ev x (by simp [Op.operands]),ev y (by simp [Op.operands])]
 |binOp op t x y t' =>
  rw [ho] at ev hb
  simp only [dC]
  rw [ev x (by simp [Op.operands]),ev y (by simp [Op.operands])]
  exact yk fun n hn=>hb n (List.mem_append_left _ hn)
 |unOp op t x=>rw [ho] at ev;simp only [dC];rw [ev x (by simp [Op.operands])]
 |convert t t' x=>rw [ho] at ev hb;simp only [dC];rw [ev x (by simp [Op.operands])];exact uw hb
 |nilCheck x =>
  rw [ho] at ev hb
  simp only [dC]
  rw [ev x (by simp [Op.operands])]
 |fieldAddr t x f=>rw [ho] at ev hb;simp only [dC];rw [ev x (by simp [Op.operands])];exact lQ hb
 |field t x f=>rw [ho] at ev;simp only [dC];rw [ev x (by simp [Op.operands])]
 |extract x i=>rw [ho] at ev;simp only [dC];rw [ev x (by simp [Op.operands])]
 |makeFunc f first cap =>
  rw [ho] at ev
  simp only [dC]
  have h1:first.toList.map (aF st')=first.toList.map (aF st):=List.map_congr_left fun x hx=>ev x (by simp [Op.operands];exact .inl (by simpa using hx))
  have h2:cap.toList.map (aF st')=cap.toList.map (aF st):=List.map_congr_left fun x hx=>ev x (by simp [Op.operands];exact .inr (by simpa using hx))
  rw [h1,h2]
 |alloc t =>
  rw [ho] at hb
  simp only [dC]
  unfold jD
  rw [bX (hb (bR u) (by simp))]
 |box t x =>
  rw [ho] at ev hb
  simp only [dC]
  rw [ev x (by simp [Op.operands])]
  split
  ·rfl
  unfold sH
  rw [bX (hb (bR u) (by simp))]
 |load t x=>rw [ho] at ev hb;simp only [dC];rw [ev x (by simp [Op.operands])];exact ur hb
 |store t x y=>rw [ho] at ev hb;simp only [dC];rw [ev x (by simp [Op.operands]),ev y (by simp [Op.operands])];exact tr hb
 |build t ps =>
  rw [ho] at ev
  simp only [dC]
  have:ps.toList.map (fun p=>aF st' p.2)=ps.toList.map (fun p=>aF st p.2):=List.map_congr_left fun p hp=>ev p.2 (by simp only [Op.operands,List.mem_map];exact⟨p,hp,rfl⟩)
  rw [this]
 |buildSlice t n ps =>
  rw [ho] at ev hb
  simp only [dC]
  have:ps.toList.map (fun p=>aF st' p.2)=ps.toList.map (fun p=>aF st p.2):=List.map_congr_left fun p hp=>ev p.2 (by simp only [Op.operands,List.mem_map];exact⟨p,hp,rfl⟩)
  rw [this]
  unfold dO
  rw [bX (hb (bR u) (by simp))]
 |makeSlice t l c =>
  rw [ho] at ev hb
  simp only [dC]
  rw [ev l (by simp [Op.operands]),ev c (by simp [Op.operands])]
  unfold nP
  rw [bX (hb (bR u) (by simp))]
 |makeMap t hint =>
  rw [ho] at hb
  simp only [dC]
  unfold kf
  rw [bX (hb (bR u) (by simp))]
 |lookup t m x k=>rw [ho] at ev hb;simp only [dC];rw [ev m (by simp [Op.operands]),ev x (by simp [Op.operands])];exact uE hb
 |mapUpdate t m x y=>rw [ho] at ev hb;simp only [dC];rw [ev m (by simp [Op.operands]),ev x (by simp [Op.operands]),ev y (by simp [Op.operands])];exact xz hb
 |indexAddr t x y=>rw [ho] at ev hb;simp only [dC];rw [ev x (by simp [Op.operands]),ev y (by simp [Op.operands])];exact mg hb
 |index t x y=>rw [ho] at ev;simp only [dC];rw [ev x (by simp [Op.operands]),ev y (by simp [Op.operands])]
 |slice t x lo hi mx =>
  rw [ho] at ev hb
  simp only [dC]
  rw [ev x (by simp [Op.operands])]
  have bd:∀ d (y:Option Operand),(∀ z,y=some z→z∈(Op.slice t x lo hi mx).operands.toList)→qV st' d y=qV st d y:=by
   intro d y hy
   cases y with
   |none=>rfl
   |some z=>unfold qV;simp only [ev z (hy z rfl)]
  have b1:∀ d,qV st' d lo=qV st d lo:=fun d=>bd d lo (by rintro z rfl;simp [Op.operands])
  have b2:∀ d,qV st' d hi=qV st d hi:=fun d=>bd d hi (by rintro z rfl;simp [Op.operands])
  have b3:∀ d,qV st' d mx=qV st d mx:=fun d=>bd d mx (by rintro z rfl;simp [Op.operands])
  have hfr:cC st'.heap (bR u)=cC st.heap (bR u):=bX (hb (bR u) (by simp))
  have plain:∀ m:Option Operand,(∀ d,qV st' d m=qV st d m)→gr A cx st' t (aF st x) lo hi m=gr A cx st t (aF st x) lo hi m:=by
   intro m b3
   unfold gr
   simp only [b1,b2,b3]
   split
   ·rename_i g c _ _ _ _ _ _ hx _
    have hrc:∀ n∈bq c,ak st'.heap n=ak st.heap n:=fun n hn=>hb n (by simp only [hx,bj,ba];exact List.mem_cons_of_mem _ (List.mem_append_left _ hn))
    rw [jh hrc,iN hrc]
   ·rfl
  have hro:∀ (g:Option Bool) (c:SC) (e:TypeId),aF st x=⟨g,.sa (.one c)⟩→ownRow st'.heap e c=ownRow st.heap e c:=fun g c e hx =>
   od fun n hn=>hb n (by simp only [hx,bj,ba];exact List.mem_cons_of_mem _ (List.mem_append_left _ hn))
  have hpr:∀ (g:Option Bool) (c:SC) (e:TypeId),aF st x=⟨g,.sa (.one c)⟩→gD st'.heap e c=gD st.heap e c:=fun g c e hx =>
   uC (fun n hn=>hb n (by simp only [hx,bj,ba];exact List.mem_cons_of_mem _ (List.mem_append_left _ hn))) (fun n hn=>hb n (by
    simp only [hx,bj,ba]
    exact List.mem_cons_of_mem _ (List.mem_append_right _ hn)))
  split
  ·split
   ·unfold nY
    simp only [b1,b2,hfr]
    split
    ·rename_i g c _ _ _ _ _ _ hx _
     rw [hro _ _ _ hx,hpr _ _ _ hx]
    ·rfl
   ·unfold mH
    simp only [b1,b2,b3,hfr]
    split
    ·rename_i g c _ _ _ _ _ _ hx _
     rw [hro _ _ _ hx]
    ·rfl
  ·split
   ·unfold oI
    simp only [b1]
    split
    ·rename_i g c _ _ _ _ _ _ hx _
     rw [hro _ _ _ hx]
    ·rfl
   ·exact plain _ b3
 |call c =>
  rw [ho] at ev hb
  simp only [dC]
  have hargs:c.args.toList.map (aF st')=c.args.toList.map (aF st):=List.map_congr_left fun x hx=>ev x (by simp [Op.operands,Call.operands];exact .inr (by simpa using hx))
  rw [hargs]
  unfold rA
  split
  ·rename_i x hf
   simp only [hf] at hb
   rw [ev x (by simp [Op.operands,Call.operands,hf])]
   split
   ·rename_i f hx
    simp only [hx] at hb
    split
    ·rename_i bE vs _ hcon hv
     simp only [hcon,hv] at hb
     exact wV hb
    ·rfl
   ·rename_i hx
    simp only [hx] at hb
    split
    ·rename_i f n hx2
     simp only [hx2] at hb
     split
     ·rename_i bE vs _ hcon hv
      simp only [hcon,hv] at hb
      exact lv hb
     ·rfl
    ·rfl
  ·rename_i hf
   simp only [hf] at hb
   split
   ·rename_i t x ht hv
    exact wW fun n hn=>hb n (zH hv n (by simp [ba,hn]))
   ·rfl
  ·rename_i hf
   simp only [hf] at hb
   split
   ·rename_i t t' x y ht hv
    rw [hv] at hb
    split
    ·rename_i g0 c e sz nn zz bb ff hl
     have h1:oA st'.heap e c=oA st.heap e c:=zY fun n hn=>hb n (by simp [bj,ba,hn])
     rw [h1]
     split
     ·exact uQ (fun n hn=>hb n (by simp [hn])) (hb _ (by simp))
     have h2:ownRow st'.heap e c=ownRow st.heap e c:=od fun n hn=>hb n (by simp [bj,ba,hn])
     rw [h2]
     split
     ·exact uL (fun n hn=>hb n (by simp [hn])) (hb _ (by simp))
     split
     ·exact uT (fun n hn=>hb n (by simp [hn])) (hb _ (by simp))
     ·exact yi (fun n hn=>hb n (by simp [hn])) (fun n hn=>hb n (by simp [hn])) (hb _ (by simp))
    ·rfl
   ·rfl
  ·rename_i hf
   simp only [hf] at hb
   split
   ·rename_i t ts x y ht hv
    rw [hv] at hb
    exact uH (fun n hn=>hb n (by simp [hn])) (fun n hn=>hb n (by simp [hn]))
   ·rfl
  ·rename_i hf
   simp only [hf] at hb
   split
   ·rename_i t x ht hv
    rw [hv] at hb
    exact ug fun n hn=>hb n (by simp [hn])
   ·rfl
  ·rfl
  ·rfl
  ·rfl
 |_=>rfl
theorem sB {cx:Cx} {st st' : St} {o:Oper} {u:Nat} (h:iC st st' (tmpsOf o.op.operands.toList) (dB cx st u o)):dB cx st' u o=dB cx st u o:=by
 have ev:=fun x (hx:x∈o.op.operands.toList)=>uY h hx
 have hb:=h.ig
 unfold dB at hb ⊢
 cases ho:o.op with
 |binOp op t x y t'=>rw [ho] at ev;simp only;rw [ev x (by simp [Op.operands]),ev y (by simp [Op.operands])]
 |convert t t' x=>rw [ho] at ev;simp only;rw [ev x (by simp [Op.operands])]
 |load t x=>rw [ho] at ev;simp only;rw [ev x (by simp [Op.operands])]
 |slice t x lo hi mx =>
  rw [ho] at ev hb
  simp only at hb ⊢
  rw [ev x (by simp [Op.operands])]
  congr 2
  have:∀ n∈bj (aF st x),mh st'.heap n=mh st.heap n:=fun n hn=>by
   unfold mh
   rw [hb n (List.mem_cons_of_mem _ (List.mem_append_left _ hn))]
  generalize bj (aF st x)=l at this
  clear hb ev
  induction l with
  |nil=>rfl
  |cons n l ih =>
   rw [List.flatMap_cons,List.flatMap_cons,this n (by simp),ih fun m hm=>this m (by simp [hm])]
 |indexAddr t x y=>rw [ho] at ev;simp only;rw [ev x (by simp [Op.operands])]
 |fieldAddr t x f=>rw [ho] at ev;simp only;rw [ev x (by simp [Op.operands])]
 |store t x y=>rw [ho] at ev;simp only;rw [ev x (by simp [Op.operands])]
 |lookup t x y k=>rw [ho] at ev;simp only;rw [ev x (by simp [Op.operands])]
 |mapUpdate t x y z=>rw [ho] at ev;simp only;rw [ev x (by simp [Op.operands])]
 |call c =>
  rw [ho] at ev hb
  have hargs:c.args.toList.map (aF st')=c.args.toList.map (aF st):=List.map_congr_left fun x hx=>ev x (by simp [Op.operands,Call.operands];exact .inr (by simpa using hx))
  simp only [hargs] at hb ⊢
  split
  ·rfl
  ·rfl
  ·rfl
  ·rfl
  ·rename_i x hf
   simp only [hf] at hb
   rw [ev x (by simp [Op.operands,Call.operands,hf])]
   split
   ·rename_i f hx
    simp only [hx] at hb
    split
    ·rename_i bE vs hcon hv
     simp only [hcon,hv] at hb
     exact kh hb
    ·rfl
   ·rename_i hx
    simp only [hx] at hb
    split
    ·rename_i f n hx2
     simp only [hx2] at hb
     split
     ·rename_i bE vs hcon hv
      simp only [hcon,hv] at hb
      exact kh hb
     ·rfl
    ·rfl
  ·rfl
 |_=>rfl
def kP (ops:List Oper) (o:Oper):List Nat :=
 match o.guard with
 |some (g,_)=>((ops[g]?).bind (·.dst)).toList
 |none=>[]
theorem rW (ops:List Oper) (o:Oper):o.looksAt ops.toArray=tmpsOf o.op.operands.toList ++ kP ops o:=by
 unfold Oper.looksAt tmpsOf kP
 cases o.guard with
 |none=>rfl
 |some g =>
  obtain⟨g,b⟩:=g
  simp only [List.getElem?_toArray]
  rfl
theorem AG (A:Ar) {ops:List Oper} {st st' : St} {o:Oper} {bs:List Nat} (h:iC st st' (kP ops o) bs):ql A ops st' o.guard=ql A ops st o.guard:=by
 have hs:=h.slot
 unfold kP at hs
 unfold ql
 cases hg:o.guard with
 |none=>rfl
 |some g =>
  obtain⟨j,want⟩:=g
  rw [hg] at hs
  simp only at hs ⊢
  cases ho:ops[j]? with
  |none=>rfl
  |some o' =>
   simp only
   cases ht:o'.dst with
   |none=>rfl
   |some t =>
    simp only
    rw [hs t (by simp [ho,ht])]
theorem sL (A:Ar) (cx:Cx) {ops:List Oper} {st st' : St} {o:Oper} {u:Nat} {d:Bool} (h:iC st st' (o.looksAt ops.toArray) (dB cx st u o)):iU A cx ops st' u o d=iU A cx ops st u o d:=by
 rw [rW] at h
 unfold iU
 rw [AG A (h.mono (fun t ht=>List.mem_append_right _ ht) (fun b hb=>hb)),FI A cx (h.mono (fun t ht=>List.mem_append_left _ ht) (fun b hb=>hb))]
theorem sY:∀ {l h:H} {b:Nat},(∀ p∈l,p.1≠b)→ak (aH h l) b=ak h b
 |[],_,_,_=>rfl
 |p :: l,h,b,hl=>by
  show ak (aH (aS h p.1 p.2) l) b=_
  rw [sY fun q hq=>hl q (List.mem_cons_of_mem _ hq),aL _ _ (hl p (List.mem_cons_self ..))]
theorem yP {l:H} {ft:List Nat} (h:qi (l.map (·.1)) ft=true):∀ p∈l,∀ b∈ft,p.1≠b:=by
 intro p hp b hb e
 have h1:=List.all_eq_true.1 h p.1 (List.mem_map.2 ⟨p,hp,rfl⟩)
 have h2:=List.all_eq_true.1 h1 b hb
 rw [e,cI] at h2
 cases h2
theorem vC {ops:List Oper} {st:St} {p o:Oper} {E:cA} {ft:List Nat} (h1:∀ d,p.dst=some d→d ∉ o.looksAt ops.toArray) (h2:qi (E.ig.map (·.1)) ft=true):iC st (st.app p.dst E) (o.looksAt ops.toArray) ft:=by
 refine⟨fun t ht=>?_,fun b hb=>?_⟩
 ·cases hp:p.dst with
  |none=>rfl
  |some d =>
   have hne:d≠t:=fun e=>h1 d hp (e ▸ ht)
   simp [St.app,St.put,List.getD_eq_getElem?_getD,List.getElem?_set_ne hne]
 ·exact sY (fun p hp=>yP h2 p hp b hb)
theorem lR {keys:List Nat}:∀ {seen:List Nat},∀ p∈fG keys seen,p.1∈seen
 |[],p,hp=>by cases hp
 |n :: l,p,hp=>by
  unfold fG at hp
  split at hp
  ·exact List.mem_cons_of_mem _ (lR p hp)
  ·rcases List.mem_cons.1 hp with rfl|hp
   ·exact List.mem_cons_self ..
   ·exact List.mem_cons_of_mem _ (lR p hp)
theorem jc {h:H}:∀ {ids:List Nat},∀ p∈rowsOf h ids,p.1∈ids
 |[],p,hp=>by cases hp
 |n :: l,p,hp=>by
  unfold rowsOf at hp
  split at hp
  ·rcases List.mem_cons.1 hp with rfl|hp
   ·exact List.mem_cons_self ..
   ·exact List.mem_cons_of_mem _ (jc p hp)
  ·exact List.mem_cons_of_mem _ (jc p hp)
theorem tR {m:List (Nat × Nat)} {h:H}:∀ {ids:List Nat} {h1:H},mL m h ids=some h1→∀ p∈h1,p.1∈m.map (·.2)
 |[],h1,hr,p,hp=>by cases hr;cases hp
 |i :: ids,h1,hr,p,hp=>by
  unfold mL at hr
  split at hr
  ·rename_i k b r e1 e2 e3
   split at hr
   ·cases hr
    rcases List.mem_cons.1 hp with rfl|hp
    ·exact List.mem_map.2 ⟨_,fB e1,rfl⟩
    ·exact tR e3 p hp
   ·cases hr
  ·cases hr
theorem tP {kp:Bool} {h:H} {u:Nat} {bE:aZ} {s:Prop} {vs:List SA} {E:cA} (he:gX kp h u bE s vs=some E):∀ p∈E.ig,p.1∈cS h u bE vs:=by
 intro q hq
 unfold cS
 simp only [List.mem_append]
 unfold gX at he
 split at he
 ·rename_i E' hE
  cases he
  unfold fe at hE
  simp only at hE
  generalize reach 200 h (vs.flatMap ba) []=seen at hE ⊢
  split at hE
  ·rename_i args h0 e1 e2
   split at hE
   ·rename_i p e3
    split at hE
    ·rename_i r h1 e4 e5
     split at hE
     ·cases hE
      dsimp only at hq
      split at hq
      ·cases hq
      rcases List.mem_append.1 hq with hq|hq
      ·exact .inl (.inl (.inr (lR q hq)))
      ·exact .inl (.inr (tR e5 q hq))
     ·cases hE
    ·cases hE
   ·cases hE
  ·cases hE
 ·unfold fq at he
  simp only at he
  split at he
  ·rename_i args e1
   split at he
   ·rename_i p e3
    split at he
    ·rename_i r h1 e4 e5
     split at he
     ·split at he
      ·cases he
       cases hq
      ·cases he
       rcases List.mem_append.1 hq with hq|hq
       ·exact .inl (.inl (.inl (jc q hq)))
       ·exact .inr (tR e5 q hq)
     ·cases he
    ·cases he
   ·cases he
  ·cases he
theorem OC {A:Ar} {cx:Cx} {ops:List Oper} {st:St} {o:Oper} {u:Nat} {d:Bool} {E:cA} (h:iU A cx ops st u o d=some E):∀ p∈E.ig,p.1∈dB cx st u o:=by
 have main:∀ {E:cA},dC A cx st u o.op=some E→∀ p∈E.ig,p.1∈dB cx st u o:=by
  intro E h p hb
  unfold dB
  cases ho:o.op with
  |alloc t =>
   rw [ho] at h
   simp only [dC,jD] at h
   repeat' split at h
   all_goals first|(cases h;done)|skip
   all_goals
    cases h
    rw [List.mem_singleton] at hb
    subst hb
    simp
  |box t x =>
   rw [ho] at h
   simp only [dC] at h
   split at h
   ·unfold qQ at h
    split at h
    ·cases h
     exact absurd hb List.not_mem_nil
    ·cases h
   unfold sH at h
   repeat' split at h
   all_goals first|(cases h;done)|skip
   all_goals
    cases h
    rw [List.mem_singleton] at hb
    subst hb
    simp
  |buildSlice t n ps =>
   rw [ho] at h
   simp only [dC] at h
   unfold dO at h
   repeat' split at h
   all_goals first|(cases h;done)|skip
   all_goals
    cases h
    rw [List.mem_singleton] at hb
    subst hb
    simp
  |makeFunc f first cap =>
   exfalso
   rw [ho] at h
   simp only [dC] at h
   unfold CR bZ at h
   repeat' split at h
   all_goals first|(cases h;done)|(cases h;exact absurd hb List.not_mem_nil)
  |makeSlice t l c =>
   rw [ho] at h
   simp only [dC] at h
   unfold nP at h
   repeat' split at h
   all_goals first|(cases h;done)|skip
   all_goals
    cases h
    rw [List.mem_singleton] at hb
    subst hb
    simp
  |makeMap t hint =>
   rw [ho] at h
   simp only [dC] at h
   unfold kf at h
   repeat' split at h
   all_goals first|(cases h;done)|skip
   all_goals
    cases h
    rw [List.mem_singleton] at hb
    subst hb
    simp
  |lookup t m x k =>
   exfalso
   rw [ho] at h
   simp only [dC] at h
   unfold iM bZ at h
   repeat' split at h
   all_goals first|(cases h;done)|(cases h;exact absurd hb List.not_mem_nil)
  |mapUpdate t m x y =>
   rw [ho] at h
   simp only [dC] at h
   unfold lZ at h
   split at h
   ·rename_i g n g' yy g2 z hx _ _
    repeat' split at h
    all_goals first|(cases h;done)|skip
    all_goals
     cases h
     rw [List.mem_singleton] at hb
     subst hb
     simp [hx,bj,ba,bq]
   ·cases h
  |store t x y =>
   rw [ho] at h
   simp only [dC] at h
   unfold gp at h
   split at h
   ·rename_i g b off g' v ti hx _ _
    repeat' split at h
    all_goals first|(cases h;done)|skip
    all_goals
     cases h
     rw [List.mem_singleton] at hb
     subst hb
     simp [hx,bj,ba,bq]
   ·rename_i g b i j g' v ti hx _ _
    repeat' split at h
    all_goals first|(cases h;done)|skip
    all_goals
     cases h
     rw [List.mem_singleton] at hb
     subst hb
     simp [hx,bj,ba,bq]
   ·cases h
  |convert t t' x =>
   rw [ho] at h
   simp only [dC] at h
   unfold iT bZ at h
   split at h
   ·rename_i g c hx
    repeat' split at h
    all_goals first|(cases h;done)|skip
    all_goals first|(cases h;exact absurd hb List.not_mem_nil)|skip
    cases h
    rw [List.mem_singleton] at hb
    subst hb
    simp [hx,bj,ba,bq]
   ·cases h
  |slice t x lo hi mx =>
   rw [ho] at h
   simp only [dC] at h
   split at h
   ·split at h
    ·unfold nY at h
     split at h
     ·rename_i g c _ _ _ _ _ _ hx _
      split at h
      ·rename_i n00 c100 hq00
       obtain⟨rfl,_⟩:=eW hq00
       repeat' split at h
       all_goals first|(cases h;done)|skip
       cases h
       rcases List.mem_cons.1 hb with rfl|hb
       ·simp [hx,bj,ba,bq]
       ·rw [List.mem_singleton] at hb
        subst hb
        simp
      ·split at h
       ·rename_i d00 sz00 q00 cd00 g100 l00 hp00 hb100
        obtain⟨id00,rfl,hid00,_⟩:=tC hp00
        repeat' split at h
        all_goals first|(cases h;done)|skip
        cases h
        rcases List.mem_cons.1 hb with rfl|hb
        ·simp [hx,bj,ba,bq,mh,hid00]
        ·rw [List.mem_singleton] at hb
         subst hb
         simp
       ·cases h
     ·cases h
    ·unfold mH at h
     split at h
     ·rename_i g c _ _ _ _ _ _ hx _
      split at h
      ·rename_i n00 c100 hq00
       obtain⟨rfl,_⟩:=eW hq00
       repeat' split at h
       all_goals first|(cases h;done)|skip
       cases h
       rcases List.mem_cons.1 hb with rfl|hb
       ·simp [hx,bj,ba,bq]
       ·rw [List.mem_singleton] at hb
        subst hb
        simp
      ·cases h
     ·cases h
   split at h
   ·exfalso
    unfold oI bZ at h
    repeat' split at h
    all_goals first|(cases h;done)|(cases h;exact absurd hb List.not_mem_nil)
   unfold gr at h
   split at h
   ·rename_i g c _ _ _ _ _ _ hx _
    repeat' split at h
    all_goals first|(cases h;done)|skip
    all_goals first|(cases h;exact absurd hb List.not_mem_nil)|skip
    all_goals
     cases h
     have:=jc p hb
     simp only [hx,bj,ba]
     exact List.mem_cons_of_mem _ (List.mem_append_left _ this)
   ·cases h
  |call c =>
   rw [ho] at h
   simp only [dC] at h
   unfold rA at h
   split at h
   ·rename_i x hf
    simp only [hf]
    split at h
    ·rename_i f hx
     split at h
     ·rename_i bE vs _ hcon hv
      rw [hcon,hv]
      exact tP h p hb
     ·cases h
    ·rename_i hx
     split at h
     ·rename_i f n hx2
      split at h
      ·rename_i bE vs _ hcon hv
       rw [hcon,hv]
       exact tP (kp:=_) (s:=_) (by unfold gX;rw [h]) p hb
      ·cases h
     ·cases h
   ·exfalso
    unfold mb bZ at h
    repeat' split at h
    all_goals first|(cases h;done)|(cases h;exact absurd hb List.not_mem_nil)
   ·rename_i hf
    simp only [hf]
    split at h
    ·rename_i t t' x y ht hv
     rw [hv]
     split at h
     case h_2=>cases h
     rename_i g00 c00 e00 sz00 nn00 zz00 bb00 ff00 hl00
     split at h
     ·rename_i n00 hq00
      obtain⟨rfl,_⟩:=yH hq00
      unfold jk at h
      repeat' split at h
      all_goals first|(cases h;done)|skip
      cases h
      rcases List.mem_cons.1 hb with rfl|hb
      ·simp [bj,ba,bq]
      ·rw [List.mem_singleton] at hb
       subst hb
       simp
     split at h
     ·rename_i n00 c100 hq00
      obtain⟨rfl,_⟩:=eW hq00
      unfold jd at h
      repeat' split at h
      all_goals first|(cases h;done)|skip
      cases h
      rcases List.mem_cons.1 hb with rfl|hb
      ·simp [bj,ba,bq]
      ·rw [List.mem_singleton] at hb
       subst hb
       simp
     split at h
     ·unfold iP at h
      repeat' split at h
      all_goals first|(cases h;done)|skip
      cases h
      rw [List.mem_singleton] at hb
      subst hb
      simp
     unfold lP at h
     split at h
     ·rename_i gx x' gy y'
      split at h
      ·split at h
       ·split at h
        ·rename_i kill c1 hk
         split at h
         ·split at h
          ·split at h
           ·cases h
            rcases List.mem_append.1 hb with hb|hb
            ·unfold qf at hk
             split at hk
             ·split at hk
              ·cases hk
               rw [List.mem_singleton] at hb
               subst hb
               first|(simp [bj,ba,bq];done)|(simp_all [bj,ba,bq];done)
              ·cases hk
             ·split at hk
              ·cases hk
               cases hb
              ·cases hk
             ·cases hk
            ·rw [List.mem_singleton] at hb
             subst hb
             simp
           ·cases h
          ·cases h
         ·cases h
        ·cases h
       ·cases h
      ·cases h
     ·cases h
    ·cases h
   ·rename_i hf
    simp only [hf]
    split at h
    ·rename_i t ts x y ht hv
     rw [hv]
     unfold jf at h
     repeat' split at h
     all_goals first|(cases h;done)|skip
     cases h
     rw [List.mem_singleton] at hb
     subst hb
     simp [bj,ba,bq]
    ·cases h
   ·rename_i hf
    simp only [hf]
    split at h
    ·rename_i t x ht hv
     rw [hv]
     unfold gq at h
     repeat' split at h
     all_goals first|(cases h;done)|skip
     cases h
     rw [List.mem_singleton] at hb
     subst hb
     simp [bj,ba,bq]
    ·cases h
   ·exfalso
    unfold bZ at h
    repeat' split at h
    all_goals first|(cases h;done)|(cases h;exact absurd hb List.not_mem_nil)
   ·exfalso
    unfold bZ at h
    repeat' split at h
    all_goals first|(cases h;done)|(cases h;exact absurd hb List.not_mem_nil)
   ·cases h
  |binOp op t x y t' =>
   exfalso
   rw [ho] at h
   simp only [dC] at h
   unfold lY at h
   split at h
   ·unfold sN bZ at h
    repeat' split at h
    all_goals first|(cases h;done)|(cases h;exact absurd hb List.not_mem_nil)
   ·unfold bZ at h
    repeat' split at h
    all_goals first|(cases h;done)|(cases h;exact absurd hb List.not_mem_nil)
   ·cases h
  |pick c x y =>
   exfalso
   rw [ho] at h
   simp only [dC] at h
   unfold rm bZ at h
   repeat' split at h
   all_goals first|(cases h;done)|(cases h;exact absurd hb List.not_mem_nil)
  |unOp op t x =>
   exfalso
   rw [ho] at h
   simp only [dC] at h
   unfold Dj bZ at h
   repeat' split at h
   all_goals first|(cases h;done)|(cases h;exact absurd hb List.not_mem_nil)
  |nilCheck x =>
   exfalso
   rw [ho] at h
   simp only [dC] at h
   unfold wy bZ at h
   repeat' split at h
   all_goals first|(cases h;done)|(cases h;exact absurd hb List.not_mem_nil)
  |load t x =>
   exfalso
   rw [ho] at h
   simp only [dC] at h
   unfold iH bZ at h
   repeat' split at h
   all_goals first|(cases h;done)|(cases h;exact absurd hb List.not_mem_nil)
  |fieldAddr t x f =>
   exfalso
   rw [ho] at h
   simp only [dC] at h
   unfold da bZ at h
   repeat' split at h
   all_goals first|(cases h;done)|(cases h;exact absurd hb List.not_mem_nil)
  |field t x f =>
   exfalso
   rw [ho] at h
   simp only [dC] at h
   unfold mY bZ at h
   repeat' split at h
   all_goals first|(cases h;done)|(cases h;exact absurd hb List.not_mem_nil)
  |build t ps =>
   exfalso
   rw [ho] at h
   simp only [dC] at h
   unfold nV at h
   repeat' split at h
   all_goals first|(cases h;done)|(cases h;exact absurd hb List.not_mem_nil)
  |indexAddr t x y =>
   exfalso
   rw [ho] at h
   simp only [dC] at h
   unfold cZ bZ at h
   repeat' split at h
   all_goals first|(cases h;done)|(cases h;exact absurd hb List.not_mem_nil)
  |index t x y =>
   exfalso
   rw [ho] at h
   simp only [dC] at h
   unfold nU bZ at h
   repeat' split at h
   all_goals first|(cases h;done)|(cases h;exact absurd hb List.not_mem_nil)
  |extract x i =>
   exfalso
   rw [ho] at h
   simp only [dC] at h
   unfold jj at h
   repeat' split at h
   all_goals first|(cases h;done)|(cases h;exact absurd hb List.not_mem_nil)
  |move x=>rw [ho] at h;simp only [dC] at h;cases h;exact absurd hb List.not_mem_nil
  |assign x=>rw [ho] at h;simp only [dC] at h;cases h;exact absurd hb List.not_mem_nil
  |_=>rw [ho] at h;simp [dC] at h
 unfold iU at h
 split at h
 ·cases h
 ·exact main h
 ·cases h
  intro p hb
  cases hb
 ·split at h
  ·cases h
   intro p hb
   cases hb
  ·rename_i he
   split at h
   ·cases h
    intro p hb
    exact main he p hb
   ·cases h
    intro p hb
    cases hb
  ·cases h
   exact fun p hp=>absurd hp List.not_mem_nil
theorem tm:∀ {l h:H} {b:Nat} {k:eD},(∀ p∈l,p.1≠b)→aH (aS h b k) l=aS (aH h l) b k
 |[],_,_,_,_=>rfl
 |p :: l,h,b,k,hl=>by
  show aH (aS (aS h b k) p.1 p.2) l=aS (aH (aS h p.1 p.2) l) b k
  rw [GA _ _ _ (hl p (List.mem_cons_self ..)).symm,tm fun q hq=>hl q (List.mem_cons_of_mem _ hq)]
theorem pZ:∀ {l m h:H},(∀ p∈l,∀ q∈m,p.1≠q.1)→aH (aH h l) m=aH (aH h m) l
 |[],_,_,_=>rfl
 |p :: l,m,h,hl=>by
  show aH (aH (aS h p.1 p.2) l) m=aH (aS (aH h m) p.1 p.2) l
  rw [pZ fun q hq=>hl q (List.mem_cons_of_mem _ hq),tm fun q hq=>(hl p (List.mem_cons_self ..) q hq).symm]
theorem IH {st:St} {d1 d2:Option Tmp} {E1 E2:cA} (h:∀ d,d1=some d→d2≠some d) (hb:∀ p∈E1.ig,∀ q∈E2.ig,p.1≠q.1) :
  (st.app d1 E1).app d2 E2=(st.app d2 E2).app d1 E1:=by
 obtain⟨fC,heap,gs⟩:=st
 have hs:∀ s:List bB,∀ a b:Tmp,∀ e1 e2,a≠b→(s.set a e1).set b e2=(s.set b e2).set a e1:=fun s a b e1 e2 hne=>List.set_comm _ _ hne
 unfold St.app
 cases d1 <;> cases d2 <;> simp only [St.put] <;> rw [pZ hb]
 rw [hs _ _ _ _ _ (fun e=>h _ rfl (by rw [e]))]
theorem Lz {A:Ar} {cx:Cx} {ops:List Oper} {st:St} {p o:Oper} {up uo:Nat} {dp d:Bool} {Ep Eo:cA} (hp:iU A cx ops st up p dp=some Ep) (ho:iU A cx ops (st.app p.dst Ep) uo o d=some Eo) (hap:p.apart ops.toArray o=true)
  (f1:qi (Ep.ig.map (·.1)) (dB cx (st.app p.dst Ep) uo o)=true) (f2:qi (Eo.ig.map (·.1)) (dB cx st up p)=true) :
  iU A cx ops st uo o d=some Eo∧iU A cx ops (st.app o.dst Eo) up p dp=some Ep∧(st.app o.dst Eo).app p.dst Ep=(st.app p.dst Ep).app o.dst Eo∧dB cx (st.app p.dst Ep) uo o=dB cx st uo o∧dB cx (st.app o.dst Eo) up p=dB cx st up p:=by
 obtain⟨h1,h2,h3⟩:=Oper.apart_spec hap
 have a1:=vC (E:=Ep) (st:=st) h1 f1
 have e1:dB cx st uo o=dB cx (st.app p.dst Ep) uo o:=sB (a1.symm.mono (fun t ht=>by rw [rW];exact List.mem_append_left _ ht) (fun b hb=>hb))
 rw [← e1] at a1 f1
 have e2:=sL A cx (d:=d) a1
 have a2:=vC (E:=Eo) (st:=st) h3 f2
 have e3:dB cx (st.app o.dst Eo) up p=dB cx st up p:=sB (a2.mono (fun t ht=>by rw [rW];exact List.mem_append_left _ ht) (fun b hb=>hb))
 have e4:=sL A cx (d:=dp) a2
 rw [ho] at e2
 refine⟨e2.symm,by rw [e4,hp],(IH h2 ?_).symm,e1.symm,e3⟩
 intro p hp q hq
 have m:=OC ho q hq
 rw [← e1] at m
 exact yP f1 p hp q.1 m
def IG (ops:List Oper) (x y:It):Prop:=x.o.apart ops.toArray y.o=true∧qi x.wb y.ft=true∧qi y.wb x.ft=true
theorem Ln {A:Ar} {cx:Cx} {r:Nat} {ops:List Oper} (j:Jt) (post:List Jt):∀ (pre:List Jt) {st:St} {T:List It} {st' : St},runT A cx r ops (pre ++ j :: post) st=some (T,st') →
  ∃ T1 y T2,T=T1 ++ y :: T2∧T1.map (fun z=>(z.i,z.o))=pre.map (fun z=>(z.i,z.o))∧(y.o=j.o∧y.i=j.i)∧((∀ z∈T1,IG ops z y)→∃ E,iU A cx ops st (uid r j.i) j.o j.d=some E∧y.side=E.side∧y.wb=E.ig.map (·.1)∧y.ft=dB cx st (uid r j.i) j.o∧runT A cx r ops (pre ++ post) (st.app j.o.dst E)=some (T1 ++ T2,st'))
 |[],st,T,st',h=>by
  simp only [List.nil_append,runT] at h
  split at h
  ·rename_i E hE
   split at h
   ·rename_i T2 st'' hT
    cases h
    exact⟨[],_,T2,rfl,rfl,⟨rfl,rfl⟩,fun _=>⟨E,hE,rfl,rfl,rfl,hT⟩⟩
   ·cases h
  ·cases h
 |k :: pre,st,T,st',h=>by
  simp only [List.cons_append,runT] at h
  split at h
  ·rename_i Ep hEp
   split at h
   ·rename_i T' st'' hT
    cases h
    obtain⟨T1,y,T2,rfl,e2,e3,hrest⟩:=Ln j post pre hT
    refine⟨_ :: T1,y,T2,rfl,by simp [e2],e3,fun hall=>?_⟩
    obtain⟨E,g1,g2,g3,g4,g5⟩:=hrest fun z hz=>hall z (List.mem_cons_of_mem _ hz)
    obtain⟨q1,q2,q3⟩:=hall _ (List.mem_cons_self ..)
    simp only at q1 q2 q3
    rw [e3.1] at q1
    rw [g4] at q2
    rw [g3] at q3
    obtain⟨s1,s2,s3,s4,s5⟩:=Lz hEp g1 q1 q2 q3
    refine⟨E,s1,g2,g3,by rw [g4,s4],?_⟩
    simp only [List.cons_append,runT,s2,s3,g5,s5]
   ·cases h
  ·cases h
theorem Fm {T1 T2:List It} {y:It} (h:lG (T1 ++ y :: T2)):y.side∧lG (T1 ++ T2):=by
 induction T1 with
 |nil=>exact h
 |cons x T1 ih=>exact⟨(ih h.2).1,h.1,(ih h.2).2⟩
theorem Fx {ops:List Oper} {T1 T2:List It} {y:It} (h:fE ops (T1 ++ y :: T2)=true):(∀ z∈T1,uX ops z y=true)∧fE ops (T1 ++ T2)=true:=by
 induction T1 with
 |nil =>
  simp only [List.nil_append,fE,Bool.and_eq_true] at h
  exact⟨fun z hz=>(by cases hz),h.2⟩
 |cons x T1 ih =>
  simp only [List.cons_append,fE,Bool.and_eq_true,List.all_append,List.all_cons] at h
  obtain⟨⟨h1,h2,h3⟩,h4⟩:=h
  obtain⟨i1,i2⟩:=ih h4
  refine⟨fun z hz=>?_,?_⟩
  ·rcases List.mem_cons.1 hz with rfl|hz
   ·exact h2
   ·exact i1 z hz
  ·simp [fE,h1,h3,i2]
def zZ (L:List Jt) (listed:Array Bool):Prop:=∀ j,listed.getD j true=false↔j∈L.map (·.i)
theorem mi {listed:Array Bool} {i j:Nat} (hi:listed.getD i true=false):(listed.setIfInBounds i true).getD j true=false↔j≠i∧listed.getD j true=false:=by
 have hlt:i < listed.size:=by
  rcases Nat.lt_or_ge i listed.size with g|g
  ·exact g
  ·simp [Array.getElem?_eq_none g] at hi
 rw [rE hlt]
 by_cases h:i=j
 ·simp [h]
 ·simp [h,Ne.symm h]
theorem AJ {listed:Array Bool} {k:Nat} (h:listed.getD k false=true):listed.getD k true=true:=by
 rcases Nat.lt_or_ge k listed.size with g|g
 ·simp only [Array.getD_eq_getD_getElem?,Array.getElem?_eq_getElem g,Option.getD_some] at h ⊢
  exact h
 ·simp [Array.getElem?_eq_none g] at h
theorem rM {ops:List Oper} {listed:Array Bool} (hcl:∀ i o,ops[i]? = some o→listed.getD i true=true→∀ e∈o.after,Region.binds .any e=true→listed.getD e.on true=true) :
  ∀ (f:Nat) {y x:Nat},(∀ o,ops[y]? = some o→∀ e∈o.after,Region.binds .any e=true→listed.getD e.on true=true)→bef ops f y x=true→listed.getD x true=true
 |0,_,_,_,h=>by cases h
 |f+1,y,x,hy,h=>by
  unfold bef at h
  split at h
  ·rename_i o ho
   obtain⟨e,he,hb⟩:=List.any_eq_true.1 h
   simp only [Bool.and_eq_true,Bool.or_eq_true] at hb
   have h1:=hy o ho e (by simpa using he) hb.1
   rcases hb.2 with h2|h2
   ·rw [aK h2] at h1
    exact h1
   ·exact rM hcl f (fun o' ho'=>hcl e.on o' ho' h1) h2
  ·cases h
theorem TN (hc:cz P cx) {r:Nat} {ops:List Oper} {Q:Exit→Act→World→Prop} {st' : St} (hQ:∀ ν' a' w',dq bs gv st' ν' a' w'→Q .normal a' w')
  (hback:∀ i o,ops[i]? = some o→∀ e∈o.after,Region.binds .any e=true→e.on < i):∀ (fuel:Nat) {L:List Jt} {T:List It} {st:St} {ν:Nat→Option (Nat × Nat)} {a:Act} {w:World} {listed:Array Bool},
  L.length≤fuel→runT Ar.U cx r ops L st=some (T,st')→fE ops T=true→lG T→dq bs gv st ν a w→zZ L listed→(∀ x∈L,ops[x.i]? = some x.o)→L.Pairwise (fun x y=>x.i < y.i)→listed.size=ops.length→(∀ i o,ops[i]? = some o→listed.getD i true=true→∀ e∈o.after,Region.binds .any e=true→listed.getD e.on true=true) →
  wpAny P .any ops.toArray Q fuel listed a w:=by
 intro fuel
 have key:∀ {L:List Jt} {listed:Array Bool},zZ L listed→(∀ x∈L,ops[x.i]? = some x.o)→L.Pairwise (fun x y=>x.i < y.i)→listed.size=ops.length→Region.ready .any ops.toArray listed=[]→L=[]:=by
  intro L listed hl hin hs hsz hr
  cases L with
  |nil=>rfl
  |cons x L =>
   exfalso
   have hx:=hin x (List.mem_cons_self ..)
   have hun:=(hl x.i).2 (by simp)
   have:x.i∈Region.ready .any ops.toArray listed:=by
    rw [mem_ready]
    refine⟨hun,x.o,by simpa using hx,fun e he hb=>?_⟩
    have hlt:=hback x.i x.o hx e he hb
    have hxl:x.i < ops.length:=by
     rcases Nat.lt_or_ge x.i ops.length with g|g
     ·exact g
     ·rw [List.getElem?_eq_none g] at hx;cases hx
    have hne:¬listed.getD e.on true=false:=by
     intro h0
     have hm:=(hl e.on).1 h0
     simp only [List.map_cons,List.mem_cons] at hm
     rcases hm with hm|hm
     ·omega
     ·obtain⟨y,hy,hy2⟩:=List.mem_map.1 hm
      have:=(List.pairwise_cons.1 hs).1 y hy
      omega
    have h1:e.on < listed.size:=by omega
    simp only [Array.getD_eq_getD_getElem?,Array.getElem?_eq_getElem h1,Option.getD_some,Bool.not_eq_false] at hne ⊢
    exact hne
   rw [hr] at this
   cases this
 induction fuel with
 |zero =>
  intro L T st ν a w listed hf h _ _ hr hl hin hs hsz _
  have hL:L=[]:=List.length_eq_zero_iff.1 (Nat.le_zero.1 hf)
  subst hL
  cases h
  refine⟨?_,hQ _ _ _ hr⟩
  rw [List.eq_nil_iff_forall_not_mem]
  intro j hj
  have:=(hl j).1 (mem_ready.1 hj).1
  cases this
 |succ fuel ih =>
  intro L T st ν a w listed hf h hp hsd hr hl hin hs hsz hcl
  refine⟨fun hrd=>?_,fun i hi=>?_⟩
  ·have hL:=key hl hin hs hsz hrd
   subst hL
   cases h
   exact hQ _ _ _ hr
  ·obtain⟨hun,o,ho,hall⟩:=mem_ready.1 hi
   have hm:=(hl i).1 hun
   obtain⟨x,hx,hxi⟩:=List.mem_map.1 hm
   obtain⟨pre,post,hL⟩:=List.append_of_mem hx
   have hxo:=hin x hx
   rw [hxi] at hxo
   have hox:x.o=o:=by
    have:ops[i]? = some o:=by simpa using ho
    rw [this] at hxo
    exact (Option.some.inj hxo).symm
   subst hxi hox
   rw [hL] at h hs hin
   obtain⟨T1,y,T2,hT,hT1,hyo,hb⟩:=Ln x post pre h
   subst hT
   obtain⟨p1,p2⟩:=Fx hp
   obtain⟨d1,d2⟩:=Fm hsd
   have hok:∀ z∈T1,IG ops z y:=by
    intro z hz
    have hpz:=p1 z hz
    unfold uX at hpz
    rw [hyo.1,hyo.2,Bool.or_eq_true,Bool.or_eq_true] at hpz
    rcases hpz with hpz|hpz|hpz
    ·exfalso
     obtain⟨e,he,hb⟩:=List.any_eq_true.1 hpz
     simp only [Bool.and_eq_true] at hb
     have hon:=aK hb.2
     have hlisted:=hall e (by simpa using he) hb.1
     have hzin:z.i∈L.map (·.i):=by
      have hz1:(z.i,z.o)∈pre.map (fun z=>(z.i,z.o)):=by
       rw [← hT1]
       exact List.mem_map.2 ⟨z,hz,rfl⟩
      obtain⟨q,hq,he⟩:=List.mem_map.1 hz1
      simp only [Prod.mk.injEq] at he
      rw [hL]
      simp only [List.map_append,List.mem_append]
      exact .inl (List.mem_map.2 ⟨q,hq,he.1⟩)
     have hzun:=(hl z.i).2 hzin
     rw [← hon] at hzun
     have h1:e.on < listed.size:=by
      rcases Nat.lt_or_ge e.on listed.size with g|g
      ·exact g
      ·simp [Array.getElem?_eq_none g] at hzun
     simp only [Array.getD_eq_getD_getElem?,Array.getElem?_eq_getElem h1,Option.getD_some] at hzun hlisted
     rw [hzun] at hlisted
     cases hlisted
    ·simp only [Bool.and_eq_true] at hpz
     exact⟨by rw [hyo.1];exact hpz.1.1,hpz.1.2,hpz.2⟩
    ·exfalso
     have hzin:z.i∈L.map (·.i):=by
      have hz1:(z.i,z.o)∈pre.map (fun z=>(z.i,z.o)):=by
       rw [← hT1]
       exact List.mem_map.2 ⟨z,hz,rfl⟩
      obtain⟨q,hq,he⟩:=List.mem_map.1 hz1
      simp only [Prod.mk.injEq] at he
      rw [hL]
      simp only [List.map_append,List.mem_append]
      exact .inl (List.mem_map.2 ⟨q,hq,he.1⟩)
     have hzun:=(hl z.i).2 hzin
     have:=rM hcl 6 (fun o' ho' e he hb=>by
      rw [hxo] at ho'
      cases ho'
      exact AJ (hall e he hb)) hpz
     rw [hzun] at this
     cases this
   obtain⟨E,g1,g2,_,_,g5⟩:=hb hok
   unfold wpOp
   rw [ho]
   refine CV hc hr g1 (g2 ▸ d1) fun ν' a' w' hr'=>?_
   have hs':=List.pairwise_append.1 hs
   have hs2:=List.pairwise_cons.1 hs'.2.1
   refine ih ?_ g5 p2 d2 hr' ?_ ?_ ?_ (by simpa using hsz) ?_
   ·rw [hL] at hf
    simp at hf ⊢
    omega
   ·intro j
    rw [mi hun,hl j,hL]
    simp only [List.map_append,List.map_cons,List.mem_append,List.mem_cons]
    constructor
    ·rintro⟨hne,h|h|h⟩
     ·exact .inl h
     ·exact absurd h hne
     ·exact .inr h
    ·intro h
     refine⟨?_,?_⟩
     ·rcases h with h|h
      ·obtain⟨z,hz,rfl⟩:=List.mem_map.1 h
       have:=hs'.2.2 z hz x (by simp)
       omega
      ·obtain⟨z,hz,rfl⟩:=List.mem_map.1 h
       have:=hs2.1 z hz
       omega
     ·rcases h with h|h
      ·exact .inl h
      ·exact .inr (.inr h)
   ·intro z hz
    refine hin z ?_
    rcases List.mem_append.1 hz with h|h
    ·exact List.mem_append_left _ h
    ·exact List.mem_append_right _ (List.mem_cons_of_mem _ h)
   ·exact List.pairwise_append.2 ⟨hs'.1,hs2.2,fun x hx y hy=>hs'.2.2 x hx y (List.mem_cons_of_mem _ hy)⟩
   ·intro i o ho2 hg e he hb
    rw [← Bool.not_eq_false]
    intro hf2
    obtain⟨f1,f2⟩:=(mi hun).1 hf2
    by_cases hix:i=x.i
    ·subst hix
     rw [hxo] at ho2
     cases ho2
     have:=AJ (hall e he hb)
     rw [f2] at this
     cases this
    ·have hgi:listed.getD i true=true:=by
      rw [← Bool.not_eq_false]
      intro hf3
      have:=(mi hun).2 ⟨hix,hf3⟩
      rw [hg] at this
      cases this
     have:=hcl i o ho2 hgi e he hb
     rw [f2] at this
     cases this
theorem jO:∀ (l:List Oper) (k:Nat) (ds:List Bool),∀ x∈cH k l ds,k≤x.i∧l[x.i - k]? = some x.o
 |[],_,_,x,hx=>by cases hx
 |_ :: _,_,[],x,hx=>by cases hx
 |o :: l,k,d :: ds,x,hx=>by
  rcases List.mem_cons.1 hx with rfl|hx
  ·simp
  ·obtain⟨h1,h2⟩:=jO l (k+1) ds x hx
   refine⟨by omega,?_⟩
   rw [show x.i - k=(x.i - (k+1))+1 by omega]
   simpa using h2
theorem ky:∀ (l:List Oper) (k:Nat) (ds:List Bool),ds.length=l.length→(cH k l ds).map (·.i)=List.range' k l.length
 |[],_,[],_=>rfl
 |[],_,_ :: _,h=>by simp at h
 |_ :: _,_,[],h=>by simp at h
 |o :: l,k,d :: ds,h=>by simp [cH,ky l (k+1) ds (by simpa using h),List.range'_succ]
theorem ka:∀ (l:List Oper) (k:Nat) (ds:List Bool),(cH k l ds).Pairwise (fun x y=>x.i < y.i)
 |[],_,_=>.nil
 |_ :: _,_,[]=>.nil
 |o :: l,k,d :: ds=>List.pairwise_cons.2 ⟨fun y hy=>by have:=(jO l (k+1) ds y hy).1;simp only;omega,ka l (k+1) ds⟩
theorem An:∀ {l:List Oper} {k:Nat},zT k l=true→∀ i o,l[i]? = some o→∀ e∈o.after,Region.binds .any e=true→e.on < k+i
 |[],_,_,i,o,h,_,_,_=>by simp at h
 |x :: l,k,h,i,o,ho,e,he,hb=>by
  simp only [zT,Bool.and_eq_true] at h
  cases i with
  |zero =>
   simp at ho
   subst ho
   have:=List.all_eq_true.1 h.1 e (by simpa using he)
   rw [hb] at this
   have h2:=aB (by simpa using this:dM (e.on+1) k=true)
   omega
  |succ i =>
   have:=An h.2 i o (by simpa using ho) e he hb
   omega
theorem GR (hr:dq bs gv st ν a w):dq bs gv st ν a { w with drawn:=w.drawn+1 }:=by
 obtain⟨hx,hm⟩:=oQ (G:=gg bs st ν w) hr.mem (w':={ w with drawn:=w.drawn+1 }) (Below.refl w.heap.size w).drew
 exact⟨hr.size,fun t e he=>(hr.slot t e he).ext hx,hr.gs.ext hx,hr.defers,hm⟩
theorem Cy (hc:cz P cx) {id:Nat} {ops:Array Oper} {Q:Exit→Act→World→Prop} {T:List It} {st' : St} {ds:List Bool} (hds:ds.length=ops.toList.length) (h:runT Ar.U cx id ops.toList (cH 0 ops.toList ds) st=some (T,st')) (hp:fE ops.toList T=true) (hb:zT 0 ops.toList=true) (hs:lG T) (hr:dq bs gv st ν a w)
  (hQ:∀ ν' a' w',dq bs gv st' ν' a' w'→Q .normal a' w'):(Code.region id ops true).wp P Q a w:=by
 refine wp_region_any hc.mixed ?_
 refine TN (ops:=ops.toList) hc hQ (fun i o ho e he hb'=>by have:=An hb i o ho e he hb';omega) ops.size (L:=cH 0 ops.toList ds) ?_ h hp hs (GR hr) ?_ ?_ (ka _ _ _) (by simp) ?_
 ·have:=congrArg List.length (ky ops.toList 0 ds hds)
  simp at this
  omega
 ·intro j
  rw [ky _ _ _ hds]
  simp only [List.mem_range'_1,Nat.zero_le,true_and,Nat.zero_add,Array.length_toList]
  rcases Nat.lt_or_ge j ops.size with g|g
  ·simp [g]
  ·simp [g]
 ·intro x hx
  have:=(jO _ _ _ x hx).2
  simpa using this
 ·intro i o ho hg
  have hlt:i < ops.size:=by
   rcases Nat.lt_or_ge i ops.size with g|g
   ·exact g
   ·rw [List.getElem?_eq_none (by simpa using g)] at ho;cases ho
  simp [hlt] at hg
end
end Go.Proofs.YtelhldgdnlppfaaGreat.Ry
