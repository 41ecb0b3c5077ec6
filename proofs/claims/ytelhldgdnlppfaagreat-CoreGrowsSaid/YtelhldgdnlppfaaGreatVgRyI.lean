/-
  The reckoner's rules hold in the model: operations of a region that may change places. No condition.
-/
import Derived.Test.YtelhldgdnlppfaaGreatVgRyH
namespace Go.Proofs.YtelhldgdnlppfaaGreat.Ry
open Go Go.RowKit
section
variable {P:Program} {cx:Cx} {bs:Bs} {gv:List Value} {st:St} {ν:Nat→Option (Nat × Nat)} {a:Act} {w:World} {G:Gm}
structure ij (st st' : St) (ts bs:List Nat):Prop where
 slot:∀ t∈ts,st'.fw.getD t bB.nil=st.fw.getD t bB.nil
 iv:∀ b∈bs,ak st'.heap b=ak st.heap b
theorem ij.symm {st st' : St} {ts bs:List Nat} (h:ij st st' ts bs):ij st' st ts bs:=⟨fun t ht=>(h.slot t ht).symm,fun b hb=>(h.iv b hb).symm⟩
theorem ij.mono {st st' : St} {ts bs ts' bs' : List Nat} (h:ij st st' ts bs) (ht:∀ t∈ts',t∈ts) (hb:∀ b∈bs',b∈bs):ij st st' ts' bs':=⟨fun t h'=>h.slot t (ht t h'),fun b h'=>h.iv b (hb b h')⟩
theorem yz {st st' : St} {ts bs:List Nat} (h:ij st st' ts bs) {x:Operand} (hx:∀ t,x = .tmp t→t∈ts):aF st' x=aF st x:=by
 cases x with
 |tmp t=>exact h.slot t (hx t rfl)
 |_=>rfl
def tmpsOf (l:List Operand):List Nat:=l.filterMap fun x=>match x with
 |.tmp t=>some t
 |_=>none
theorem Bc {l:List Operand} {t:Nat} (h:Operand.tmp t∈l):t∈tmpsOf l:=List.mem_filterMap.2 ⟨_,h,rfl⟩
theorem vU {st st' : St} {l:List Operand} {bs:List Nat} (h:ij st st' (tmpsOf l) bs) {x:Operand} (hx:x∈l):aF st' x=aF st x :=
 yz h fun _ e=>Bc (e ▸ hx)
section
variable {h h' : H}
theorem gR:∀ (f:Nat) {todo seen:List Nat},(∀ n∈reach f h todo seen,ak h' n=ak h n)→reach f h' todo seen=reach f h todo seen
 |0,_,_,_=>rfl
 |f+1,[],_,_=>rfl
 |f+1,n :: l,seen,ha=>by
  have hsub:∀ (f:Nat) (todo seen:List Nat),∀ k∈seen,k∈reach f h todo seen:=by
   intro f
   induction f with
   |zero=>intro todo seen k hk;exact hk
   |succ f ih =>
    intro todo seen k hk
    cases todo with
    |nil=>exact hk
    |cons m todo =>
     unfold reach
     split
     ·exact ih _ _ k hk
     ·exact ih _ _ k (List.mem_append_left _ hk)
  unfold reach at ha ⊢
  split
  ·rename_i hm
   simp only [hm] at ha
   exact gR f ha
  ·rename_i hm
   simp only [hm] at ha
   have hn:ak h' n=ak h n:=ha n (hsub _ _ _ n (List.mem_append_right _ (List.mem_singleton.2 rfl)))
   rw [hn]
   exact gR f ha
theorem lH {m:List (Nat × Nat)}:∀ {l:List Nat},(∀ n∈l,ak h' n=ak h n)→mR m h' l=mR m h l
 |[],_=>rfl
 |n :: l,ha=>by
  unfold mR
  rw [ha n (List.mem_cons_self ..),lH fun k hk=>ha k (List.mem_cons_of_mem _ hk)]
theorem tV:∀ {l:List Nat},(∀ n∈l,ak h' n=ak h n)→yI h' l=yI h l
 |[],_=>rfl
 |n :: l,ha=>by
  unfold yI
  rw [ha n (List.mem_cons_self ..),tV fun k hk=>ha k (List.mem_cons_of_mem _ hk)]
theorem iZ:∀ {l:List Nat},(∀ n∈l,ak h' n=ak h n)→rowsOf h' l=rowsOf h l
 |[],_=>rfl
 |n :: l,ha=>by
  unfold rowsOf
  rw [ha n (List.mem_cons_self ..),iZ fun k hk=>ha k (List.mem_cons_of_mem _ hk)]
theorem gZ {roots:List (Nat × Nat)}:∀ {l:List (Nat × Nat)},(∀ n∈l.map (·.2),ak h' n=ak h n)→gN h' roots l=gN h roots l
 |[],_=>rfl
 |(i,n) :: l,ha=>by
  unfold gN cD
  rw [ha n (List.mem_cons_self ..),gZ fun k hk=>ha k (List.mem_cons_of_mem _ hk)]
theorem lq {hp:H} {roots:List (Nat × Nat)}:∀ {l:List (Nat × Nat)},(∀ n∈l.map (·.2),ak h' n=ak h n)→kC h' hp roots l=kC h hp roots l
 |[],_=>rfl
 |(i,n) :: l,ha=>by
  unfold kC
  rw [ha n (List.mem_cons_self ..),lq fun k hk=>ha k (List.mem_cons_of_mem _ hk)]
theorem om {c:SC} (ha:∀ n∈bn c,ak h' n=ak h n):mu h' c=mu h c:=by
 unfold mu
 split <;> first|rfl|skip
 rw [ha _ (by simp [bn])]
theorem lA:∀ {cs:List SC},(∀ n∈cs.flatMap bn,ak h' n=ak h n)→iN h' cs=iN h cs
 |[],_=>rfl
 |c :: cs,ha=>by
  unfold iN
  rw [om fun n hn=>ha n (by simp [hn]),lA fun n hn=>ha n (by simp only [List.flatMap_cons,List.mem_append];exact .inr hn)]
theorem xC {x:SA} (ha:∀ n∈aZ x,ak h' n=ak h n):jQ h' x=jQ h x:=by
 cases x with
 |one c=>simp only [jQ];rw [om ha]
 |agg cs=>simp only [jQ];rw [lA ha]
 |ef c=>rfl
theorem gW:∀ {cs:List SA},(∀ n∈cs.flatMap aZ,ak h' n=ak h n)→fo h' cs=fo h cs
 |[],_=>rfl
 |c :: cs,ha=>by
  unfold fo
  rw [xC fun n hn=>ha n (by simp [hn]),gW fun n hn=>ha n (by simp only [List.flatMap_cons,List.mem_append];exact .inr hn)]
theorem je {c:SC} (ha:∀ n∈bn c,ak h' n=ak h n):kh h' c=kh h c:=by
 unfold kh
 split
 ·rfl
 ·rw [ha _ (by simp [bn])]
 ·rfl
theorem fq {c1:Ct} {c:SC} (ha:∀ n∈bn c,ak h' n=ak h n):dY h' c1 c=dY h c1 c:=by
 unfold dY
 split
 ·rfl
 ·exact je ha
theorem jI {u:Nat} {bE:aY} {vs:List SA} (ha:∀ n∈cS h u bE vs,ak h' n=ak h n):cS h' u bE vs=cS h u bE vs:=by
 unfold cS at ha ⊢
 simp only at ha ⊢
 have h1:reach 200 h' (vs.flatMap aZ) []=reach 200 h (vs.flatMap aZ) []:=gR 200 fun n hn=>ha n (by simp only [List.mem_append];exact .inl (.inl (.inr hn)))
 have h2:mR (bL 0 (reach 200 h (vs.flatMap aZ) [])) h' (reach 200 h (vs.flatMap aZ) [])=mR (bL 0 (reach 200 h (vs.flatMap aZ) [])) h (reach 200 h (vs.flatMap aZ) []):=lH fun n hn=>ha n (by simp only [List.mem_append];exact .inl (.inl (.inr hn)))
 have h3:fo h' vs=fo h vs:=gW fun n hn=>ha n (by simp only [List.mem_append];exact .inl (.inl (.inl hn)))
 rw [h1,h2,h3]
theorem lv {kp:Bool} {u:Nat} {bE:aY} {s:Prop} {vs:List SA} (ha:∀ n∈cS h u bE vs,ak h' n=ak h n):fk kp h' u bE s vs=fk kp h u bE s vs:=by
 unfold cS at ha
 simp only at ha
 unfold fk
 simp only
 have h1:reach 200 h' (vs.flatMap aZ) []=reach 200 h (vs.flatMap aZ) []:=gR 200 fun n hn=>ha n (by simp only [List.mem_append];exact .inl (.inl (.inr hn)))
 rw [h1]
 generalize hq:reach 200 h (vs.flatMap aZ) []=seen at ha
 have hseen:∀ n∈seen,ak h' n=ak h n:=fun n hn=>ha n (by simp only [List.mem_append];exact .inl (.inl (.inr hn)))
 rw [lH hseen,tV hseen]
 split
 ·rename_i args h0 e1 e2
  split
  ·rename_i p e3
   have hns:∀ n∈(names (bT seen args h0 p.h vs p.as) (bS u) p.h).map (·.2),ak h' n=ak h n:=fun n hn=>ha n (by
    simp only [List.mem_append]
    refine .inl (.inr ?_)
    rw [e1,e2]
    simp only
    rw [e3]
    exact hn)
   rw [gZ hns,lq hns]
  ·rfl
 ·rfl
theorem sx {u:Nat} {bE:aY} {s:Prop} {vs:List SA} (ha:∀ n∈cS h u bE vs,ak h' n=ak h n):fv h' u bE s vs=fv h u bE s vs:=by
 unfold cS at ha
 simp only at ha
 unfold fv
 simp only
 have hrefs:∀ n∈vs.flatMap aZ,ak h' n=ak h n:=fun n hn=>ha n (by simp only [List.mem_append];exact .inl (.inl (.inl hn)))
 rw [gW hrefs,iZ hrefs]
 split
 ·rename_i args e1
  split
  ·rename_i p e3
   have hns:∀ n∈(names [] (bS u) p.h).map (·.2),ak h' n=ak h n:=fun n hn=>ha n (by
    simp only [List.mem_append]
    refine .inr ?_
    rw [e1]
    simp only
    rw [e3]
    exact hn)
   rw [gZ hns]
  ·rfl
 ·rfl
theorem xN {kp:Bool} {u:Nat} {bE:aY} {s:Prop} {vs:List SA} (ha:∀ n∈cS h u bE vs,ak h' n=ak h n):gV kp h' u bE s vs=gV kp h u bE s vs:=by
 unfold gV
 rw [lv ha,sx ha]
theorem bY {d:Nat} (ha:ak h' d=ak h d):cD h' d=cD h d:=by unfold cD;rw [ha]
theorem pZ {d:Nat} (ha:ak h' d=ak h d):ko h' d=ko h d:=by unfold ko;rw [ha]
theorem AU {d:Nat} (ha:ak h' d=ak h d):dC h' d=dC h d:=by unfold dC;rw [ha]
theorem zj {c d:SC} (ha:∀ n∈bn c,ak h' n=ak h n):vk h' c d=vk h c d:=by
 unfold vk
 split
 ·rfl
 ·rw [ha _ (by simp [bn])]
 ·rfl
theorem zZ {A:Ar} {op:BinOp} {xt:TypeId} {s:Prop} {c d:SC} (ha:∀ n∈bn c,ak h' n=ak h n):rz A cx h' op xt s c d=rz A cx h op xt s c d:=by
 unfold rz
 rw [zj ha]
theorem wH {A:Ar} {op:BinOp} {xt:TypeId} {x y:bB} (ha:∀ n∈bj x,ak h' n=ak h n):lM A cx h' op xt x y=lM A cx h op xt x y:=by
 unfold lM
 split
 ·rename_i c d hx hy
  exact zZ fun n hn=>ha n (by unfold bj;rw [hx];exact hn)
 ·rfl
 ·rfl
theorem um {A:Ar} {t u:TypeId} {x:bB} (ha:∀ n∈bj x,ak h' n=ak h n):jg A cx h' t u x=jg A cx h t u x:=by
 unfold jg
 split
 ·rename_i g c
  have hc:kh h' c=kh h c:=je fun n hn=>ha n hn
  split
  ·split
   ·split
    ·rfl
    ·rw [hc]
   ·rfl
  ·rfl
  ·split
   ·split
    ·rename_i id e k l _
     rw [pZ (ha id (by simp [bj,aZ,bn]))]
    ·rfl
   ·rfl
  ·rfl
  ·rfl
 ·rfl
theorem uF {A:Ar} {t:TypeId} {x:bB} (ha:∀ n∈DI x,ak h' n=ak h n):iK A cx h' t x=iK A cx h t x:=by
 unfold iK
 split
 ·rw [ha _ (by simp [DI,bj,aZ,bn])]
 ·rw [ha _ (by simp [DI,bj,aZ,bn])]
 ·rfl
 ·rfl
 ·rfl
 ·rfl
theorem rW {A:Ar} {t:TypeId} {x y:bB} (ha:∀ n∈bj x,ak h' n=ak h n):gz A cx h' t x y=gz A cx h t x y:=by
 unfold gz
 split
 ·rw [ha _ (by simp [bj,aZ,bn])]
 ·rw [ha _ (by simp [bj,aZ,bn])]
 ·rfl
theorem lW {t:TypeId} {f:Nat} {x:bB} (ha:∀ n∈BD x,ak h' n=ak h n):dg cx h' t f x=dg cx h t f x:=by
 unfold dg
 split
 ·split
  ·split
   ·rfl
   ·split
    ·rfl
    ·rw [AU (ha _ (by simp [BD]))]
    ·rfl
    ·rfl
  ·rfl
 ·rfl
theorem mg {A:Ar} {t:TypeId} {x y:bB} (ha:∀ n∈bj x,ak h' n=ak h n):dh A cx h' t x y=dh A cx h t x y:=by
 unfold dh
 split
 ·split
  ·split
   ·rfl
   ·rfl
   ·rw [ha _ (by simp [bj,aZ,bn])]
   ·rfl
  ·split
   ·rw [ha _ (by simp [bj,aZ,bn])]
   ·rw [ha _ (by simp [bj,aZ,bn])]
   ·rfl
   ·rfl
  ·rfl
 ·rfl
theorem zm {t e:TypeId} {c:SC} (ha:∀ n∈bn c,ak h' n=ak h n):pR cx h' t e c=pR cx h t e c:=by
 unfold pR
 split
 ·rw [pZ (ha _ (by simp [bn]))]
 ·rfl
 ·rfl
theorem xP {A:Ar} {u t t' : Nat} {x y:bB} (hx:∀ n∈bj x,ak h' n=ak h n) (hy:∀ n∈bj y,ak h' n=ak h n) (hu:ak h' (bS u)=ak h (bS u)):lI A cx h' u t t' x y=lI A cx h u t t' x y:=by
 unfold lI
 split
 ·rename_i gx x' gy y'
  have h1:∀ c1,dY h' c1 y' = dY h c1 y':=fun c1=>fq fun n hn=>hy n hn
  have h2:∀ e,pR cx h' t e x' = pR cx h t e x':=fun e=>zm fun n hn=>hx n hn
  simp only [h1,h2,bY hu]
 ·rfl
theorem Al {e:TypeId} {c:SC} (ha:∀ n∈bn c,ak h' n=ak h n):nU h' e c=nU h e c:=by
 unfold nU
 split
 ·rw [ha _ (by simp [bn])]
 ·rfl
theorem uJ {A:Ar} {u n t t' : Nat} {x y:bB} (hy:∀ n∈bj y,ak h' n=ak h n) (hu:ak h' (bS u)=ak h (bS u)):iI A cx h' u n t t' x y=iI A cx h u n t t' x y:=by
 unfold iI
 split
 ·rename_i gx _ gy y'
  have h1:∀ c1,dY h' c1 y' = dY h c1 y':=fun c1=>fq fun n hn=>hy n hn
  simp only [h1,bY hu]
 ·rfl
theorem ug {A:Ar} {u t t' : Nat} {x y:bB} (hy:∀ n∈bj y,ak h' n=ak h n) (hu:ak h' (bS u)=ak h (bS u)):jd A cx h' u t t' x y=jd A cx h u t t' x y:=by
 unfold jd
 split
 ·rename_i gx gy y'
  have h1:∀ c1,dY h' c1 y' = dY h c1 y':=fun c1=>fq fun n hn=>hy n hn
  simp only [h1,bY hu]
 ·rfl
theorem nD {e:TypeId} {c:SC} (ha:∀ n∈bn c,ak h' n=ak h n):ownRow h' e c=ownRow h e c:=by
 unfold ownRow
 split
 ·rw [ha _ (by simp [bn])]
 ·rfl
theorem ud {e:TypeId} {c:SC} (ha:∀ n∈bn c,ak h' n=ak h n) (hb:∀ n∈(bn c).flatMap (lV h),ak h' n=ak h n):gK h' e c=gK h e c:=by
 unfold gK
 split
 ·rename_i n
  rw [ha n (by simp [bn])]
  split
  ·rename_i d sz q hh
   rw [hb d (by simp [bn,lV,hh])]
  ·rfl
 ·rfl
theorem uc {A:Ar} {u n t t' : Nat} {c1:Ct} {x y:bB} (hy:∀ n∈bj y,ak h' n=ak h n) (hu:ak h' (bS u)=ak h (bS u)):iH A cx h' u n c1 t t' x y=iH A cx h u n c1 t t' x y:=by
 unfold iH
 split
 ·rename_i gx _ gy y'
  have h1:∀ c1,dY h' c1 y' = dY h c1 y':=fun c1=>fq fun n hn=>hy n hn
  simp only [h1,bY hu]
 ·rfl
theorem uG {A:Ar} {t:TypeId} {x y:bB} (hx:∀ n∈bj x,ak h' n=ak h n) (hy:∀ n∈bj y,ak h' n=ak h n):iW A cx h' t x y=iW A cx h t x y:=by
 unfold iW
 split
 ·rename_i gx n gy y'
  have h1:∀ c1,dY h' c1 y' = dY h c1 y':=fun c1=>fq fun n hn=>hy n hn
  simp only [h1,hx n (by simp [bj,aZ,bn])]
 ·rfl
theorem sM {A:Ar} {t:TypeId} {x:bB} (hx:∀ n∈bj x,ak h' n=ak h n):gA A cx h' t x=gA A cx h t x:=by
 unfold gA
 split
 ·rename_i g n l
  rw [hx n (by simp [bj,aZ,bn])]
 ·rfl
theorem uh {A:Ar} {t:TypeId} {ok:Bool} {x y:bB} (hx:∀ n∈bj x,ak h' n=ak h n):iT A cx h' t ok x y=iT A cx h t ok x y:=by
 unfold iT
 split
 ·rw [hx _ (by simp [bj,aZ,bn])]
 ·rfl
theorem wG {A:Ar} {t:TypeId} {x y z:bB} (hx:∀ n∈bj x,ak h' n=ak h n):lU A cx h' t x y z=lU A cx h t x y z:=by
 unfold lU
 split
 ·rw [hx _ (by simp [bj,aZ,bn])]
 ·rfl
theorem xL {A:Ar} {t:TypeId} {s:Prop} {c:SC} (ha:∀ n∈bn c,ak h' n=ak h n):ml A cx h' t s c=ml A cx h t s c:=by
 unfold ml
 split <;> first|rfl|skip
 split <;> first|rfl|skip
 rw [je ha]
end
theorem yF:∀ {es:List bB} {vs:List SA},AJ es=some vs→∀ n∈vs.flatMap aZ,n∈es.flatMap bj
 |[],vs,h,n,hn=>by cases h;cases hn
 |e :: es,vs,h,n,hn=>by
  obtain⟨g,v⟩:=e
  cases v with
  |bK _=>cases h
  |sa x =>
   simp only [AJ] at h
   split at h
   ·rename_i xs hxs
    cases h
    simp only [List.flatMap_cons,List.mem_append] at hn ⊢
    exact hn.imp (fun h=>h) (yF hxs n)
   ·cases h
theorem Fg (A:Ar) (cx:Cx) {st st' : St} {o:Oper} {u:Nat} (h:ij st st' (tmpsOf o.op.operands.toList) (dE cx st u o)):dF A cx st' u o.op=dF A cx st u o.op:=by
 have ev:=fun x (hx:x∈o.op.operands.toList)=>vU h hx
 have hb:=h.iv
 unfold dE at hb
 cases ho:o.op with
 |move x=>rw [ho] at ev;simp only [dF];rw [ev x (by simp [Op.operands])]
 |assign x=>rw [ho] at ev;simp only [dF];rw [ev x (by simp [Op.operands])]
 |pick c x y=>rw [ho] at ev;simp only [dF];rw [ev c (by simp [Op.operands]),ev x (by simp [Op.operands]),ev y (by simp [Op.operands])]
 |binOp op t x y t' =>
  rw [ho] at ev hb
  simp only [dF]
  rw [ev x (by simp [Op.operands]),ev y (by simp [Op.operands])]
  exact wH fun n hn=>hb n (List.mem_append_left _ hn)
 |unOp op t x=>rw [ho] at ev;simp only [dF];rw [ev x (by simp [Op.operands])]
 |convert t t' x=>rw [ho] at ev hb;simp only [dF];rw [ev x (by simp [Op.operands])];exact um hb
 |nilCheck x =>
  rw [ho] at ev hb
  simp only [dF]
  rw [ev x (by simp [Op.operands])]
 |fieldAddr t x f=>rw [ho] at ev hb;simp only [dF];rw [ev x (by simp [Op.operands])];exact lW hb
 |field t x f=>rw [ho] at ev;simp only [dF];rw [ev x (by simp [Op.operands])]
 |extract x i=>rw [ho] at ev;simp only [dF];rw [ev x (by simp [Op.operands])]
 |makeFunc f first cap =>
  rw [ho] at ev
  simp only [dF]
  have h1:first.toList.map (aF st')=first.toList.map (aF st):=List.map_congr_left fun x hx=>ev x (by simp [Op.operands];exact .inl (by simpa using hx))
  have h2:cap.toList.map (aF st')=cap.toList.map (aF st):=List.map_congr_left fun x hx=>ev x (by simp [Op.operands];exact .inr (by simpa using hx))
  rw [h1,h2]
 |alloc t =>
  rw [ho] at hb
  simp only [dF]
  unfold jO
  rw [bY (hb (bS u) (by simp))]
 |box t x =>
  rw [ho] at ev hb
  simp only [dF]
  rw [ev x (by simp [Op.operands])]
  split
  ·rfl
  unfold tg
  rw [bY (hb (bS u) (by simp))]
 |load t x=>rw [ho] at ev hb;simp only [dF];rw [ev x (by simp [Op.operands])];exact uF hb
 |store t x y=>rw [ho] at ev hb;simp only [dF];rw [ev x (by simp [Op.operands]),ev y (by simp [Op.operands])];exact rW hb
 |build t ps =>
  rw [ho] at ev
  simp only [dF]
  have:ps.toList.map (fun p=>aF st' p.2)=ps.toList.map (fun p=>aF st p.2):=List.map_congr_left fun p hp=>ev p.2 (by simp only [Op.operands,List.mem_map];exact⟨p,hp,rfl⟩)
  rw [this]
 |buildSlice t n ps =>
  rw [ho] at ev hb
  simp only [dF]
  have:ps.toList.map (fun p=>aF st' p.2)=ps.toList.map (fun p=>aF st p.2):=List.map_congr_left fun p hp=>ev p.2 (by simp only [Op.operands,List.mem_map];exact⟨p,hp,rfl⟩)
  rw [this]
  unfold dM
  rw [bY (hb (bS u) (by simp))]
 |makeSlice t l c =>
  rw [ho] at ev hb
  simp only [dF]
  rw [ev l (by simp [Op.operands]),ev c (by simp [Op.operands])]
  unfold nc
  rw [bY (hb (bS u) (by simp))]
 |makeMap t hint =>
  rw [ho] at hb
  simp only [dF]
  unfold jZ
  rw [bY (hb (bS u) (by simp))]
 |lookup t m x k=>rw [ho] at ev hb;simp only [dF];rw [ev m (by simp [Op.operands]),ev x (by simp [Op.operands])];exact uh hb
 |mapUpdate t m x y=>rw [ho] at ev hb;simp only [dF];rw [ev m (by simp [Op.operands]),ev x (by simp [Op.operands]),ev y (by simp [Op.operands])];exact wG hb
 |indexAddr t x y=>rw [ho] at ev hb;simp only [dF];rw [ev x (by simp [Op.operands]),ev y (by simp [Op.operands])];exact mg hb
 |index t x y=>rw [ho] at ev;simp only [dF];rw [ev x (by simp [Op.operands]),ev y (by simp [Op.operands])]
 |slice t x lo hi mx =>
  rw [ho] at ev hb
  simp only [dF]
  rw [ev x (by simp [Op.operands])]
  have bd:∀ d (y:Option Operand),(∀ z,y=some z→z∈(Op.slice t x lo hi mx).operands.toList)→re st' d y=re st d y:=by
   intro d y hy
   cases y with
   |none=>rfl
   |some z=>unfold re;simp only [ev z (hy z rfl)]
  have b1:∀ d,re st' d lo=re st d lo:=fun d=>bd d lo (by rintro z rfl;simp [Op.operands])
  have b2:∀ d,re st' d hi=re st d hi:=fun d=>bd d hi (by rintro z rfl;simp [Op.operands])
  have b3:∀ d,re st' d mx=re st d mx:=fun d=>bd d mx (by rintro z rfl;simp [Op.operands])
  have hfr:cD st'.heap (bS u)=cD st.heap (bS u):=bY (hb (bS u) (by simp))
  have plain:∀ m:Option Operand,(∀ d,re st' d m=re st d m)→gB A cx st' t (aF st x) lo hi m=gB A cx st t (aF st x) lo hi m:=by
   intro m b3
   unfold gB
   simp only [b1,b2,b3]
   split
   ·rename_i g c _ _ _ _ _ _ hx _
    have hrc:∀ n∈bn c,ak st'.heap n=ak st.heap n:=fun n hn=>hb n (by simp only [hx,bj,aZ];exact List.mem_cons_of_mem _ (List.mem_append_left _ hn))
    rw [je hrc,iZ hrc]
   ·rfl
  have hro:∀ (g:Option Bool) (c:SC) (e:TypeId),aF st x=⟨g,.sa (.one c)⟩→ownRow st'.heap e c=ownRow st.heap e c:=fun g c e hx =>
   nD fun n hn=>hb n (by simp only [hx,bj,aZ];exact List.mem_cons_of_mem _ (List.mem_append_left _ hn))
  have hpr:∀ (g:Option Bool) (c:SC) (e:TypeId),aF st x=⟨g,.sa (.one c)⟩→gK st'.heap e c=gK st.heap e c:=fun g c e hx =>
   ud (fun n hn=>hb n (by simp only [hx,bj,aZ];exact List.mem_cons_of_mem _ (List.mem_append_left _ hn))) (fun n hn=>hb n (by
    simp only [hx,bj,aZ]
    exact List.mem_cons_of_mem _ (List.mem_append_right _ hn)))
  split
  ·split
   ·unfold nK
    simp only [b1,b2,hfr]
    split
    ·rename_i g c _ _ _ _ _ _ hx _
     rw [hro _ _ _ hx,hpr _ _ _ hx]
    ·rfl
   ·unfold oo
    simp only [b1,b2,b3,hfr]
    split
    ·rename_i g c _ _ _ _ _ _ hx _
     rw [hro _ _ _ hx]
    ·rfl
  ·split
   ·unfold mZ
    simp only [b1]
    split
    ·rename_i g c _ _ _ _ _ _ hx _
     rw [hro _ _ _ hx]
    ·rfl
   ·exact plain _ b3
 |call c =>
  rw [ho] at ev hb
  simp only [dF]
  have hargs:c.args.toList.map (aF st')=c.args.toList.map (aF st):=List.map_congr_left fun x hx=>ev x (by simp [Op.operands,Call.operands];exact .inr (by simpa using hx))
  rw [hargs]
  unfold qM
  split
  ·rename_i x hf
   simp only [hf] at hb
   rw [ev x (by simp [Op.operands,Call.operands,hf])]
   split
   ·rename_i f hx
    simp only [hx] at hb
    split
    ·rename_i bE vs _ hcon hv
     simp only [hcon,hv] at hb
     exact xN hb
    ·rfl
   ·rename_i hx
    simp only [hx] at hb
    split
    ·rename_i f n hx2
     simp only [hx2] at hb
     split
     ·rename_i bE vs _ hcon hv
      simp only [hcon,hv] at hb
      exact lv hb
     ·rfl
    ·rfl
  ·rename_i hf
   simp only [hf] at hb
   split
   ·rename_i t x ht hv
    exact xL fun n hn=>hb n (yF hv n (by simp [aZ,hn]))
   ·rfl
  ·rename_i hf
   simp only [hf] at hb
   split
   ·rename_i t t' x y ht hv
    rw [hv] at hb
    split
    ·rename_i g0 c e sz nn zz bb ff hl
     have h1:nU st'.heap e c=nU st.heap e c:=Al fun n hn=>hb n (by simp [bj,aZ,hn])
     rw [h1]
     split
     ·exact uJ (fun n hn=>hb n (by simp [hn])) (hb _ (by simp))
     have h2:ownRow st'.heap e c=ownRow st.heap e c:=nD fun n hn=>hb n (by simp [bj,aZ,hn])
     rw [h2]
     split
     ·exact uc (fun n hn=>hb n (by simp [hn])) (hb _ (by simp))
     split
     ·exact ug (fun n hn=>hb n (by simp [hn])) (hb _ (by simp))
     ·exact xP (fun n hn=>hb n (by simp [hn])) (fun n hn=>hb n (by simp [hn])) (hb _ (by simp))
    ·rfl
   ·rfl
  ·rename_i hf
   simp only [hf] at hb
   split
   ·rename_i t ts x y ht hv
    rw [hv] at hb
    exact uG (fun n hn=>hb n (by simp [hn])) (fun n hn=>hb n (by simp [hn]))
   ·rfl
  ·rename_i hf
   simp only [hf] at hb
   split
   ·rename_i t x ht hv
    rw [hv] at hb
    exact sM fun n hn=>hb n (by simp [hn])
   ·rfl
  ·rfl
  ·rfl
  ·rfl
 |_=>rfl
theorem sC {cx:Cx} {st st' : St} {o:Oper} {u:Nat} (h:ij st st' (tmpsOf o.op.operands.toList) (dE cx st u o)):dE cx st' u o=dE cx st u o:=by
 have ev:=fun x (hx:x∈o.op.operands.toList)=>vU h hx
 have hb:=h.iv
 unfold dE at hb ⊢
 cases ho:o.op with
 |binOp op t x y t'=>rw [ho] at ev;simp only;rw [ev x (by simp [Op.operands]),ev y (by simp [Op.operands])]
 |convert t t' x=>rw [ho] at ev;simp only;rw [ev x (by simp [Op.operands])]
 |load t x=>rw [ho] at ev;simp only;rw [ev x (by simp [Op.operands])]
 |slice t x lo hi mx =>
  rw [ho] at ev hb
  simp only at hb ⊢
  rw [ev x (by simp [Op.operands])]
  congr 2
  have:∀ n∈bj (aF st x),lV st'.heap n=lV st.heap n:=fun n hn=>by
   unfold lV
   rw [hb n (List.mem_cons_of_mem _ (List.mem_append_left _ hn))]
  generalize bj (aF st x)=l at this
  clear hb ev
  induction l with
  |nil=>rfl
  |cons n l ih =>
   rw [List.flatMap_cons,List.flatMap_cons,this n (by simp),ih fun m hm=>this m (by simp [hm])]
 |indexAddr t x y=>rw [ho] at ev;simp only;rw [ev x (by simp [Op.operands])]
 |fieldAddr t x f=>rw [ho] at ev;simp only;rw [ev x (by simp [Op.operands])]
 |store t x y=>rw [ho] at ev;simp only;rw [ev x (by simp [Op.operands])]
 |lookup t x y k=>rw [ho] at ev;simp only;rw [ev x (by simp [Op.operands])]
 |mapUpdate t x y z=>rw [ho] at ev;simp only;rw [ev x (by simp [Op.operands])]
 |call c =>
  rw [ho] at ev hb
  have hargs:c.args.toList.map (aF st')=c.args.toList.map (aF st):=List.map_congr_left fun x hx=>ev x (by simp [Op.operands,Call.operands];exact .inr (by simpa using hx))
  simp only [hargs] at hb ⊢
  split
  ·rfl
  ·rfl
  ·rfl
  ·rfl
  ·rename_i x hf
   simp only [hf] at hb
   rw [ev x (by simp [Op.operands,Call.operands,hf])]
   split
   ·rename_i f hx
    simp only [hx] at hb
    split
    ·rename_i bE vs hcon hv
     simp only [hcon,hv] at hb
     exact jI hb
    ·rfl
   ·rename_i hx
    simp only [hx] at hb
    split
    ·rename_i f n hx2
     simp only [hx2] at hb
     split
     ·rename_i bE vs hcon hv
      simp only [hcon,hv] at hb
      exact jI hb
     ·rfl
    ·rfl
  ·rfl
 |_=>rfl
def kN (ops:List Oper) (o:Oper):List Nat :=
 match o.guard with
 |some (g,_)=>((ops[g]?).bind (·.dst)).toList
 |none=>[]
theorem tF (ops:List Oper) (o:Oper):o.looksAt ops.toArray=tmpsOf o.op.operands.toList ++ kN ops o:=by
 unfold Oper.looksAt tmpsOf kN
 cases o.guard with
 |none=>rfl
 |some g =>
  obtain⟨g,b⟩:=g
  simp only [List.getElem?_toArray]
  rfl
theorem zD (A:Ar) {ops:List Oper} {st st' : St} {o:Oper} {bs:List Nat} (h:ij st st' (kN ops o) bs):pG A ops st' o.guard=pG A ops st o.guard:=by
 have hs:=h.slot
 unfold kN at hs
 unfold pG
 cases hg:o.guard with
 |none=>rfl
 |some g =>
  obtain⟨j,want⟩:=g
  rw [hg] at hs
  simp only at hs ⊢
  cases ho:ops[j]? with
  |none=>rfl
  |some o' =>
   simp only
   cases ht:o'.dst with
   |none=>rfl
   |some t =>
    simp only
    rw [hs t (by simp [ho,ht])]
theorem sY (A:Ar) (cx:Cx) {ops:List Oper} {st st' : St} {o:Oper} {u:Nat} {d:Bool} (h:ij st st' (o.looksAt ops.toArray) (dE cx st u o)):iF A cx ops st' u o d=iF A cx ops st u o d:=by
 rw [tF] at h
 unfold iF
 rw [zD A (h.mono (fun t ht=>List.mem_append_right _ ht) (fun b hb=>hb)),Fg A cx (h.mono (fun t ht=>List.mem_append_left _ ht) (fun b hb=>hb))]
theorem sf:∀ {l h:H} {b:Nat},(∀ p∈l,p.1≠b)→ak (aH h l) b=ak h b
 |[],_,_,_=>rfl
 |p :: l,h,b,hl=>by
  show ak (aH (aS h p.1 p.2) l) b=_
  rw [sf fun q hq=>hl q (List.mem_cons_of_mem _ hq),aK _ _ (hl p (List.mem_cons_self ..))]
theorem yT {l:H} {ft:List Nat} (h:pP (l.map (·.1)) ft=true):∀ p∈l,∀ b∈ft,p.1≠b:=by
 intro p hp b hb e
 have h1:=List.all_eq_true.1 h p.1 (List.mem_map.2 ⟨p,hp,rfl⟩)
 have h2:=List.all_eq_true.1 h1 b hb
 rw [e,cL] at h2
 cases h2
theorem uS {ops:List Oper} {st:St} {p o:Oper} {E:cA} {ft:List Nat} (h1:∀ d,p.dst=some d→d ∉ o.looksAt ops.toArray) (h2:pP (E.iv.map (·.1)) ft=true):ij st (st.app p.dst E) (o.looksAt ops.toArray) ft:=by
 refine⟨fun t ht=>?_,fun b hb=>?_⟩
 ·cases hp:p.dst with
  |none=>rfl
  |some d =>
   have hne:d≠t:=fun e=>h1 d hp (e ▸ ht)
   simp [St.app,St.put,List.getD_eq_getElem?_getD,List.getElem?_set_ne hne]
 ·exact sf (fun p hp=>yT h2 p hp b hb)
theorem mi {keys:List Nat}:∀ {seen:List Nat},∀ p∈fO keys seen,p.1∈seen
 |[],p,hp=>by cases hp
 |n :: l,p,hp=>by
  unfold fO at hp
  split at hp
  ·exact List.mem_cons_of_mem _ (mi p hp)
  ·rcases List.mem_cons.1 hp with rfl|hp
   ·exact List.mem_cons_self ..
   ·exact List.mem_cons_of_mem _ (mi p hp)
theorem iJ {h:H}:∀ {ids:List Nat},∀ p∈rowsOf h ids,p.1∈ids
 |[],p,hp=>by cases hp
 |n :: l,p,hp=>by
  unfold rowsOf at hp
  split at hp
  ·rcases List.mem_cons.1 hp with rfl|hp
   ·exact List.mem_cons_self ..
   ·exact List.mem_cons_of_mem _ (iJ p hp)
  ·exact List.mem_cons_of_mem _ (iJ p hp)
theorem sv {m:List (Nat × Nat)} {h:H}:∀ {ids:List Nat} {h1:H},mR m h ids=some h1→∀ p∈h1,p.1∈m.map (·.2)
 |[],h1,hr,p,hp=>by cases hr;cases hp
 |i :: ids,h1,hr,p,hp=>by
  unfold mR at hr
  split at hr
  ·rename_i k b r e1 e2 e3
   split at hr
   ·cases hr
    rcases List.mem_cons.1 hp with rfl|hp
    ·exact List.mem_map.2 ⟨_,fx e1,rfl⟩
    ·exact sv e3 p hp
   ·cases hr
  ·cases hr
theorem sA {kp:Bool} {h:H} {u:Nat} {bE:aY} {s:Prop} {vs:List SA} {E:cA} (he:gV kp h u bE s vs=some E):∀ p∈E.iv,p.1∈cS h u bE vs:=by
 intro q hq
 unfold cS
 simp only [List.mem_append]
 unfold gV at he
 split at he
 ·rename_i E' hE
  cases he
  unfold fk at hE
  simp only at hE
  generalize reach 200 h (vs.flatMap aZ) []=seen at hE ⊢
  split at hE
  ·rename_i args h0 e1 e2
   split at hE
   ·rename_i p e3
    split at hE
    ·rename_i r h1 e4 e5
     split at hE
     ·cases hE
      dsimp only at hq
      split at hq
      ·cases hq
      rcases List.mem_append.1 hq with hq|hq
      ·exact .inl (.inl (.inr (mi q hq)))
      ·exact .inl (.inr (sv e5 q hq))
     ·cases hE
    ·cases hE
   ·cases hE
  ·cases hE
 ·unfold fv at he
  simp only at he
  split at he
  ·rename_i args e1
   split at he
   ·rename_i p e3
    split at he
    ·rename_i r h1 e4 e5
     split at he
     ·split at he
      ·cases he
       cases hq
      ·cases he
       rcases List.mem_append.1 hq with hq|hq
       ·exact .inl (.inl (.inl (iJ q hq)))
       ·exact .inr (sv e5 q hq)
     ·cases he
    ·cases he
   ·cases he
  ·cases he
theorem Nw {A:Ar} {cx:Cx} {ops:List Oper} {st:St} {o:Oper} {u:Nat} {d:Bool} {E:cA} (h:iF A cx ops st u o d=some E):∀ p∈E.iv,p.1∈dE cx st u o:=by
 have main:∀ {E:cA},dF A cx st u o.op=some E→∀ p∈E.iv,p.1∈dE cx st u o:=by
  intro E h p hb
  unfold dE
  cases ho:o.op with
  |alloc t =>
   rw [ho] at h
   simp only [dF,jO] at h
   repeat' split at h
   all_goals first|(cases h;done)|skip
   all_goals
    cases h
    rw [List.mem_singleton] at hb
    subst hb
    simp
  |box t x =>
   rw [ho] at h
   simp only [dF] at h
   split at h
   ·unfold qp at h
    split at h
    ·cases h
     exact absurd hb List.not_mem_nil
    ·cases h
   unfold tg at h
   repeat' split at h
   all_goals first|(cases h;done)|skip
   all_goals
    cases h
    rw [List.mem_singleton] at hb
    subst hb
    simp
  |buildSlice t n ps =>
   rw [ho] at h
   simp only [dF] at h
   unfold dM at h
   repeat' split at h
   all_goals first|(cases h;done)|skip
   all_goals
    cases h
    rw [List.mem_singleton] at hb
    subst hb
    simp
  |makeFunc f first cap =>
   exfalso
   rw [ho] at h
   simp only [dF] at h
   unfold EB cg at h
   repeat' split at h
   all_goals first|(cases h;done)|(cases h;exact absurd hb List.not_mem_nil)
  |makeSlice t l c =>
   rw [ho] at h
   simp only [dF] at h
   unfold nc at h
   repeat' split at h
   all_goals first|(cases h;done)|skip
   all_goals
    cases h
    rw [List.mem_singleton] at hb
    subst hb
    simp
  |makeMap t hint =>
   rw [ho] at h
   simp only [dF] at h
   unfold jZ at h
   repeat' split at h
   all_goals first|(cases h;done)|skip
   all_goals
    cases h
    rw [List.mem_singleton] at hb
    subst hb
    simp
  |lookup t m x k =>
   exfalso
   rw [ho] at h
   simp only [dF] at h
   unfold iT cg at h
   repeat' split at h
   all_goals first|(cases h;done)|(cases h;exact absurd hb List.not_mem_nil)
  |mapUpdate t m x y =>
   rw [ho] at h
   simp only [dF] at h
   unfold lU at h
   split at h
   ·rename_i g n g' yy g2 z hx _ _
    repeat' split at h
    all_goals first|(cases h;done)|skip
    all_goals
     cases h
     rw [List.mem_singleton] at hb
     subst hb
     simp [hx,bj,aZ,bn]
   ·cases h
  |store t x y =>
   rw [ho] at h
   simp only [dF] at h
   unfold gz at h
   split at h
   ·rename_i g b off g' v ti hx _ _
    repeat' split at h
    all_goals first|(cases h;done)|skip
    all_goals
     cases h
     rw [List.mem_singleton] at hb
     subst hb
     simp [hx,bj,aZ,bn]
   ·rename_i g b i j g' v ti hx _ _
    repeat' split at h
    all_goals first|(cases h;done)|skip
    all_goals
     cases h
     rw [List.mem_singleton] at hb
     subst hb
     simp [hx,bj,aZ,bn]
   ·cases h
  |convert t t' x =>
   rw [ho] at h
   simp only [dF] at h
   unfold jg cg at h
   split at h
   ·rename_i g c hx
    repeat' split at h
    all_goals first|(cases h;done)|skip
    all_goals first|(cases h;exact absurd hb List.not_mem_nil)|skip
    cases h
    rw [List.mem_singleton] at hb
    subst hb
    simp [hx,bj,aZ,bn]
   ·cases h
  |slice t x lo hi mx =>
   rw [ho] at h
   simp only [dF] at h
   split at h
   ·split at h
    ·unfold nK at h
     split at h
     ·rename_i g c _ _ _ _ _ _ hx _
      split at h
      ·rename_i n00 c100 hq00
       obtain⟨rfl,_⟩:=eX hq00
       repeat' split at h
       all_goals first|(cases h;done)|skip
       cases h
       rcases List.mem_cons.1 hb with rfl|hb
       ·simp [hx,bj,aZ,bn]
       ·rw [List.mem_singleton] at hb
        subst hb
        simp
      ·split at h
       ·rename_i d00 sz00 q00 cd00 g100 l00 hp00 hb100
        obtain⟨id00,rfl,hid00,_⟩:=rD hp00
        repeat' split at h
        all_goals first|(cases h;done)|skip
        cases h
        rcases List.mem_cons.1 hb with rfl|hb
        ·simp [hx,bj,aZ,bn,lV,hid00]
        ·rw [List.mem_singleton] at hb
         subst hb
         simp
       ·cases h
     ·cases h
    ·unfold oo at h
     split at h
     ·rename_i g c _ _ _ _ _ _ hx _
      split at h
      ·rename_i n00 c100 hq00
       obtain⟨rfl,_⟩:=eX hq00
       repeat' split at h
       all_goals first|(cases h;done)|skip
       cases h
       rcases List.mem_cons.1 hb with rfl|hb
       ·simp [hx,bj,aZ,bn]
       ·rw [List.mem_singleton] at hb
        subst hb
        simp
      ·cases h
     ·cases h
   split at h
   ·exfalso
    unfold mZ cg at h
    repeat' split at h
    all_goals first|(cases h;done)|(cases h;exact absurd hb List.not_mem_nil)
   unfold gB at h
   split at h
   ·rename_i g c _ _ _ _ _ _ hx _
    repeat' split at h
    all_goals first|(cases h;done)|skip
    all_goals first|(cases h;exact absurd hb List.not_mem_nil)|skip
    all_goals
     cases h
     have:=iJ p hb
     simp only [hx,bj,aZ]
     exact List.mem_cons_of_mem _ (List.mem_append_left _ this)
   ·cases h
  |call c =>
   rw [ho] at h
   simp only [dF] at h
   unfold qM at h
   split at h
   ·rename_i x hf
    simp only [hf]
    split at h
    ·rename_i f hx
     split at h
     ·rename_i bE vs _ hcon hv
      rw [hcon,hv]
      exact sA h p hb
     ·cases h
    ·rename_i hx
     split at h
     ·rename_i f n hx2
      split at h
      ·rename_i bE vs _ hcon hv
       rw [hcon,hv]
       exact sA (kp:=_) (s:=_) (by unfold gV;rw [h]) p hb
      ·cases h
     ·cases h
   ·exfalso
    unfold ml cg at h
    repeat' split at h
    all_goals first|(cases h;done)|(cases h;exact absurd hb List.not_mem_nil)
   ·rename_i hf
    simp only [hf]
    split at h
    ·rename_i t t' x y ht hv
     rw [hv]
     split at h
     case h_2=>cases h
     rename_i g00 c00 e00 sz00 nn00 zz00 bb00 ff00 hl00
     split at h
     ·rename_i n00 hq00
      obtain⟨rfl,_⟩:=yw hq00
      unfold iI at h
      repeat' split at h
      all_goals first|(cases h;done)|skip
      cases h
      rcases List.mem_cons.1 hb with rfl|hb
      ·simp [bj,aZ,bn]
      ·rw [List.mem_singleton] at hb
       subst hb
       simp
     split at h
     ·rename_i n00 c100 hq00
      obtain⟨rfl,_⟩:=eX hq00
      unfold iH at h
      repeat' split at h
      all_goals first|(cases h;done)|skip
      cases h
      rcases List.mem_cons.1 hb with rfl|hb
      ·simp [bj,aZ,bn]
      ·rw [List.mem_singleton] at hb
       subst hb
       simp
     split at h
     ·unfold jd at h
      repeat' split at h
      all_goals first|(cases h;done)|skip
      cases h
      rw [List.mem_singleton] at hb
      subst hb
      simp
     unfold lI at h
     split at h
     ·rename_i gx x' gy y'
      split at h
      ·split at h
       ·split at h
        ·rename_i kill c1 hk
         split at h
         ·split at h
          ·split at h
           ·cases h
            rcases List.mem_append.1 hb with hb|hb
            ·unfold pR at hk
             split at hk
             ·split at hk
              ·cases hk
               rw [List.mem_singleton] at hb
               subst hb
               first|(simp [bj,aZ,bn];done)|(simp_all [bj,aZ,bn];done)
              ·cases hk
             ·split at hk
              ·cases hk
               cases hb
              ·cases hk
             ·cases hk
            ·rw [List.mem_singleton] at hb
             subst hb
             simp
           ·cases h
          ·cases h
         ·cases h
        ·cases h
       ·cases h
      ·cases h
     ·cases h
    ·cases h
   ·rename_i hf
    simp only [hf]
    split at h
    ·rename_i t ts x y ht hv
     rw [hv]
     unfold iW at h
     repeat' split at h
     all_goals first|(cases h;done)|skip
     cases h
     rw [List.mem_singleton] at hb
     subst hb
     simp [bj,aZ,bn]
    ·cases h
   ·rename_i hf
    simp only [hf]
    split at h
    ·rename_i t x ht hv
     rw [hv]
     unfold gA at h
     repeat' split at h
     all_goals first|(cases h;done)|skip
     cases h
     rw [List.mem_singleton] at hb
     subst hb
     simp [bj,aZ,bn]
    ·cases h
   ·exfalso
    unfold cg at h
    repeat' split at h
    all_goals first|(cases h;done)|(cases h;exact absurd hb List.not_mem_nil)
   ·exfalso
    unfold cg at h
    repeat' split at h
    all_goals first|(cases h;done)|(cases h;exact absurd hb List.not_mem_nil)
   ·cases h
  |binOp op t x y t' =>
   exfalso
   rw [ho] at h
   simp only [dF] at h
   unfold lM at h
   split at h
   ·unfold rz cg at h
    repeat' split at h
    all_goals first|(cases h;done)|(cases h;exact absurd hb List.not_mem_nil)
   ·unfold cg at h
    repeat' split at h
    all_goals first|(cases h;done)|(cases h;exact absurd hb List.not_mem_nil)
   ·cases h
  |pick c x y =>
   exfalso
   rw [ho] at h
   simp only [dF] at h
   unfold qK cg at h
   repeat' split at h
   all_goals first|(cases h;done)|(cases h;exact absurd hb List.not_mem_nil)
  |unOp op t x =>
   exfalso
   rw [ho] at h
   simp only [dF] at h
   unfold Cz cg at h
   repeat' split at h
   all_goals first|(cases h;done)|(cases h;exact absurd hb List.not_mem_nil)
  |nilCheck x =>
   exfalso
   rw [ho] at h
   simp only [dF] at h
   unfold xA cg at h
   repeat' split at h
   all_goals first|(cases h;done)|(cases h;exact absurd hb List.not_mem_nil)
  |load t x =>
   exfalso
   rw [ho] at h
   simp only [dF] at h
   unfold iK cg at h
   repeat' split at h
   all_goals first|(cases h;done)|(cases h;exact absurd hb List.not_mem_nil)
  |fieldAddr t x f =>
   exfalso
   rw [ho] at h
   simp only [dF] at h
   unfold dg cg at h
   repeat' split at h
   all_goals first|(cases h;done)|(cases h;exact absurd hb List.not_mem_nil)
  |field t x f =>
   exfalso
   rw [ho] at h
   simp only [dF] at h
   unfold ou cg at h
   repeat' split at h
   all_goals first|(cases h;done)|(cases h;exact absurd hb List.not_mem_nil)
  |build t ps =>
   exfalso
   rw [ho] at h
   simp only [dF] at h
   unfold mH at h
   repeat' split at h
   all_goals first|(cases h;done)|(cases h;exact absurd hb List.not_mem_nil)
  |indexAddr t x y =>
   exfalso
   rw [ho] at h
   simp only [dF] at h
   unfold dh cg at h
   repeat' split at h
   all_goals first|(cases h;done)|(cases h;exact absurd hb List.not_mem_nil)
  |index t x y =>
   exfalso
   rw [ho] at h
   simp only [dF] at h
   unfold nH cg at h
   repeat' split at h
   all_goals first|(cases h;done)|(cases h;exact absurd hb List.not_mem_nil)
  |extract x i =>
   exfalso
   rw [ho] at h
   simp only [dF] at h
   unfold jb at h
   repeat' split at h
   all_goals first|(cases h;done)|(cases h;exact absurd hb List.not_mem_nil)
  |move x=>rw [ho] at h;simp only [dF] at h;cases h;exact absurd hb List.not_mem_nil
  |assign x=>rw [ho] at h;simp only [dF] at h;cases h;exact absurd hb List.not_mem_nil
  |_=>rw [ho] at h;simp [dF] at h
 unfold iF at h
 split at h
 ·cases h
 ·exact main h
 ·cases h
  intro p hb
  cases hb
 ·split at h
  ·cases h
   intro p hb
   cases hb
  ·rename_i he
   split at h
   ·cases h
    intro p hb
    exact main he p hb
   ·cases h
    intro p hb
    cases hb
  ·cases h
   exact fun p hp=>absurd hp List.not_mem_nil
theorem tX:∀ {l h:H} {b:Nat} {k:eH},(∀ p∈l,p.1≠b)→aH (aS h b k) l=aS (aH h l) b k
 |[],_,_,_,_=>rfl
 |p :: l,h,b,k,hl=>by
  show aH (aS (aS h b k) p.1 p.2) l=aS (aH (aS h p.1 p.2) l) b k
  rw [Fx _ _ _ (hl p (List.mem_cons_self ..)).symm,tX fun q hq=>hl q (List.mem_cons_of_mem _ hq)]
theorem pV:∀ {l m h:H},(∀ p∈l,∀ q∈m,p.1≠q.1)→aH (aH h l) m=aH (aH h m) l
 |[],_,_,_=>rfl
 |p :: l,m,h,hl=>by
  show aH (aH (aS h p.1 p.2) l) m=aH (aS (aH h m) p.1 p.2) l
  rw [pV fun q hq=>hl q (List.mem_cons_of_mem _ hq),tX fun q hq=>(hl p (List.mem_cons_self ..) q hq).symm]
theorem GH {st:St} {d1 d2:Option Tmp} {E1 E2:cA} (h:∀ d,d1=some d→d2≠some d) (hb:∀ p∈E1.iv,∀ q∈E2.iv,p.1≠q.1) :
  (st.app d1 E1).app d2 E2=(st.app d2 E2).app d1 E1:=by
 obtain⟨fw,heap,gs⟩:=st
 have hs:∀ s:List bB,∀ a b:Tmp,∀ e1 e2,a≠b→(s.set a e1).set b e2=(s.set b e2).set a e1:=fun s a b e1 e2 hne=>List.set_comm _ _ hne
 unfold St.app
 cases d1 <;> cases d2 <;> simp only [St.put] <;> rw [pV hb]
 rw [hs _ _ _ _ _ (fun e=>h _ rfl (by rw [e]))]
theorem Le {A:Ar} {cx:Cx} {ops:List Oper} {st:St} {p o:Oper} {up uo:Nat} {dp d:Bool} {Ep Eo:cA} (hp:iF A cx ops st up p dp=some Ep) (ho:iF A cx ops (st.app p.dst Ep) uo o d=some Eo) (hap:p.apart ops.toArray o=true)
  (f1:pP (Ep.iv.map (·.1)) (dE cx (st.app p.dst Ep) uo o)=true) (f2:pP (Eo.iv.map (·.1)) (dE cx st up p)=true) :
  iF A cx ops st uo o d=some Eo∧iF A cx ops (st.app o.dst Eo) up p dp=some Ep∧(st.app o.dst Eo).app p.dst Ep=(st.app p.dst Ep).app o.dst Eo∧dE cx (st.app p.dst Ep) uo o=dE cx st uo o∧dE cx (st.app o.dst Eo) up p=dE cx st up p:=by
 obtain⟨h1,h2,h3⟩:=Oper.apart_spec hap
 have a1:=uS (E:=Ep) (st:=st) h1 f1
 have e1:dE cx st uo o=dE cx (st.app p.dst Ep) uo o:=sC (a1.symm.mono (fun t ht=>by rw [tF];exact List.mem_append_left _ ht) (fun b hb=>hb))
 rw [← e1] at a1 f1
 have e2:=sY A cx (d:=d) a1
 have a2:=uS (E:=Eo) (st:=st) h3 f2
 have e3:dE cx (st.app o.dst Eo) up p=dE cx st up p:=sC (a2.mono (fun t ht=>by rw [tF];exact List.mem_append_left _ ht) (fun b hb=>hb))
 have e4:=sY A cx (d:=dp) a2
 rw [ho] at e2
 refine⟨e2.symm,by rw [e4,hp],(GH h2 ?_).symm,e1.symm,e3⟩
 intro p hp q hq
 have m:=Nw ho q hq
 rw [← e1] at m
 exact yT f1 p hp q.1 m
def JK (ops:List Oper) (x y:It):Prop:=x.o.apart ops.toArray y.o=true∧pP x.wb y.ft=true∧pP y.wb x.ft=true
theorem Lo {A:Ar} {cx:Cx} {r:Nat} {ops:List Oper} (j:Jt) (post:List Jt):∀ (pre:List Jt) {st:St} {T:List It} {st' : St},runT A cx r ops (pre ++ j :: post) st=some (T,st') →
  ∃ T1 y T2,T=T1 ++ y :: T2∧T1.map (fun z=>(z.i,z.o))=pre.map (fun z=>(z.i,z.o))∧(y.o=j.o∧y.i=j.i)∧((∀ z∈T1,JK ops z y)→∃ E,iF A cx ops st (uid r j.i) j.o j.d=some E∧y.side=E.side∧y.wb=E.iv.map (·.1)∧y.ft=dE cx st (uid r j.i) j.o∧runT A cx r ops (pre ++ post) (st.app j.o.dst E)=some (T1 ++ T2,st'))
 |[],st,T,st',h=>by
  simp only [List.nil_append,runT] at h
  split at h
  ·rename_i E hE
   split at h
   ·rename_i T2 st'' hT
    cases h
    exact⟨[],_,T2,rfl,rfl,⟨rfl,rfl⟩,fun _=>⟨E,hE,rfl,rfl,rfl,hT⟩⟩
   ·cases h
  ·cases h
 |k :: pre,st,T,st',h=>by
  simp only [List.cons_append,runT] at h
  split at h
  ·rename_i Ep hEp
   split at h
   ·rename_i T' st'' hT
    cases h
    obtain⟨T1,y,T2,rfl,e2,e3,hrest⟩:=Lo j post pre hT
    refine⟨_ :: T1,y,T2,rfl,by simp [e2],e3,fun hall=>?_⟩
    obtain⟨E,g1,g2,g3,g4,g5⟩:=hrest fun z hz=>hall z (List.mem_cons_of_mem _ hz)
    obtain⟨q1,q2,q3⟩:=hall _ (List.mem_cons_self ..)
    simp only at q1 q2 q3
    rw [e3.1] at q1
    rw [g4] at q2
    rw [g3] at q3
    obtain⟨s1,s2,s3,s4,s5⟩:=Le hEp g1 q1 q2 q3
    refine⟨E,s1,g2,g3,by rw [g4,s4],?_⟩
    simp only [List.cons_append,runT,s2,s3,g5,s5]
   ·cases h
  ·cases h
theorem Gk {T1 T2:List It} {y:It} (h:lG (T1 ++ y :: T2)):y.side∧lG (T1 ++ T2):=by
 induction T1 with
 |nil=>exact h
 |cons x T1 ih=>exact⟨(ih h.2).1,h.1,(ih h.2).2⟩
theorem FJ {ops:List Oper} {T1 T2:List It} {y:It} (h:fL ops (T1 ++ y :: T2)=true):(∀ z∈T1,vJ ops z y=true)∧fL ops (T1 ++ T2)=true:=by
 induction T1 with
 |nil =>
  simp only [List.nil_append,fL,Bool.and_eq_true] at h
  exact⟨fun z hz=>(by cases hz),h.2⟩
 |cons x T1 ih =>
  simp only [List.cons_append,fL,Bool.and_eq_true,List.all_append,List.all_cons] at h
  obtain⟨⟨h1,h2,h3⟩,h4⟩:=h
  obtain⟨i1,i2⟩:=ih h4
  refine⟨fun z hz=>?_,?_⟩
  ·rcases List.mem_cons.1 hz with rfl|hz
   ·exact h2
   ·exact i1 z hz
  ·simp [fL,h1,h3,i2]
def zc (L:List Jt) (listed:Array Bool):Prop:=∀ j,listed.getD j true=false↔j∈L.map (·.i)
theorem lP {listed:Array Bool} {i j:Nat} (hi:listed.getD i true=false):(listed.setIfInBounds i true).getD j true=false↔j≠i∧listed.getD j true=false:=by
 have hlt:i < listed.size:=by
  rcases Nat.lt_or_ge i listed.size with g|g
  ·exact g
  ·simp [Array.getElem?_eq_none g] at hi
 rw [rT hlt]
 by_cases h:i=j
 ·simp [h]
 ·simp [h,Ne.symm h]
theorem zI {listed:Array Bool} {k:Nat} (h:listed.getD k false=true):listed.getD k true=true:=by
 rcases Nat.lt_or_ge k listed.size with g|g
 ·simp only [Array.getD_eq_getD_getElem?,Array.getElem?_eq_getElem g,Option.getD_some] at h ⊢
  exact h
 ·simp [Array.getElem?_eq_none g] at h
theorem sB {ops:List Oper} {listed:Array Bool} (hcl:∀ i o,ops[i]? = some o→listed.getD i true=true→∀ e∈o.after,Region.binds .any e=true→listed.getD e.on true=true) :
  ∀ (f:Nat) {y x:Nat},(∀ o,ops[y]? = some o→∀ e∈o.after,Region.binds .any e=true→listed.getD e.on true=true)→ZO ops f y x=true→listed.getD x true=true
 |0,_,_,_,h=>by cases h
 |f+1,y,x,hy,h=>by
  unfold ZO at h
  split at h
  ·rename_i o ho
   obtain⟨e,he,hb⟩:=List.any_eq_true.1 h
   simp only [Bool.and_eq_true,Bool.or_eq_true] at hb
   have h1:=hy o ho e (by simpa using he) hb.1
   rcases hb.2 with h2|h2
   ·rw [aJ h2] at h1
    exact h1
   ·exact sB hcl f (fun o' ho'=>hcl e.on o' ho' h1) h2
  ·cases h
theorem Uu (hc:cy P cx) {r:Nat} {ops:List Oper} {Q:Exit→Act→World→Prop} {st' : St} (hQ:∀ ν' a' w',dr bs gv st' ν' a' w'→Q .normal a' w')
  (hback:∀ i o,ops[i]? = some o→∀ e∈o.after,Region.binds .any e=true→e.on < i):∀ (fuel:Nat) {L:List Jt} {T:List It} {st:St} {ν:Nat→Option (Nat × Nat)} {a:Act} {w:World} {listed:Array Bool},
  L.length≤fuel→runT Ar.U cx r ops L st=some (T,st')→fL ops T=true→lG T→dr bs gv st ν a w→zc L listed→(∀ x∈L,ops[x.i]? = some x.o)→L.Pairwise (fun x y=>x.i < y.i)→listed.size=ops.length→(∀ i o,ops[i]? = some o→listed.getD i true=true→∀ e∈o.after,Region.binds .any e=true→listed.getD e.on true=true) →
  wpAny P .any ops.toArray Q fuel listed a w:=by
 intro fuel
 have key:∀ {L:List Jt} {listed:Array Bool},zc L listed→(∀ x∈L,ops[x.i]? = some x.o)→L.Pairwise (fun x y=>x.i < y.i)→listed.size=ops.length→Region.ready .any ops.toArray listed=[]→L=[]:=by
  intro L listed hl hin hs hsz hr
  cases L with
  |nil=>rfl
  |cons x L =>
   exfalso
   have hx:=hin x (List.mem_cons_self ..)
   have hun:=(hl x.i).2 (by simp)
   have:x.i∈Region.ready .any ops.toArray listed:=by
    rw [mem_ready]
    refine⟨hun,x.o,by simpa using hx,fun e he hb=>?_⟩
    have hlt:=hback x.i x.o hx e he hb
    have hxl:x.i < ops.length:=by
     rcases Nat.lt_or_ge x.i ops.length with g|g
     ·exact g
     ·rw [List.getElem?_eq_none g] at hx;cases hx
    have hne:¬listed.getD e.on true=false:=by
     intro h0
     have hm:=(hl e.on).1 h0
     simp only [List.map_cons,List.mem_cons] at hm
     rcases hm with hm|hm
     ·omega
     ·obtain⟨y,hy,hy2⟩:=List.mem_map.1 hm
      have:=(List.pairwise_cons.1 hs).1 y hy
      omega
    have h1:e.on < listed.size:=by omega
    simp only [Array.getD_eq_getD_getElem?,Array.getElem?_eq_getElem h1,Option.getD_some,Bool.not_eq_false] at hne ⊢
    exact hne
   rw [hr] at this
   cases this
 induction fuel with
 |zero =>
  intro L T st ν a w listed hf h _ _ hr hl hin hs hsz _
  have hL:L=[]:=List.length_eq_zero_iff.1 (Nat.le_zero.1 hf)
  subst hL
  cases h
  refine⟨?_,hQ _ _ _ hr⟩
  rw [List.eq_nil_iff_forall_not_mem]
  intro j hj
  have:=(hl j).1 (mem_ready.1 hj).1
  cases this
 |succ fuel ih =>
  intro L T st ν a w listed hf h hp hsd hr hl hin hs hsz hcl
  refine⟨fun hrd=>?_,fun i hi=>?_⟩
  ·have hL:=key hl hin hs hsz hrd
   subst hL
   cases h
   exact hQ _ _ _ hr
  ·obtain⟨hun,o,ho,hall⟩:=mem_ready.1 hi
   have hm:=(hl i).1 hun
   obtain⟨x,hx,hxi⟩:=List.mem_map.1 hm
   obtain⟨pre,post,hL⟩:=List.append_of_mem hx
   have hxo:=hin x hx
   rw [hxi] at hxo
   have hox:x.o=o:=by
    have:ops[i]? = some o:=by simpa using ho
    rw [this] at hxo
    exact (Option.some.inj hxo).symm
   subst hxi hox
   rw [hL] at h hs hin
   obtain⟨T1,y,T2,hT,hT1,hyo,hb⟩:=Lo x post pre h
   subst hT
   obtain⟨p1,p2⟩:=FJ hp
   obtain⟨d1,d2⟩:=Gk hsd
   have hok:∀ z∈T1,JK ops z y:=by
    intro z hz
    have hpz:=p1 z hz
    unfold vJ at hpz
    rw [hyo.1,hyo.2,Bool.or_eq_true,Bool.or_eq_true] at hpz
    rcases hpz with hpz|hpz|hpz
    ·exfalso
     obtain⟨e,he,hb⟩:=List.any_eq_true.1 hpz
     simp only [Bool.and_eq_true] at hb
     have hon:=aJ hb.2
     have hlisted:=hall e (by simpa using he) hb.1
     have hzin:z.i∈L.map (·.i):=by
      have hz1:(z.i,z.o)∈pre.map (fun z=>(z.i,z.o)):=by
       rw [← hT1]
       exact List.mem_map.2 ⟨z,hz,rfl⟩
      obtain⟨q,hq,he⟩:=List.mem_map.1 hz1
      simp only [Prod.mk.injEq] at he
      rw [hL]
      simp only [List.map_append,List.mem_append]
      exact .inl (List.mem_map.2 ⟨q,hq,he.1⟩)
     have hzun:=(hl z.i).2 hzin
     rw [← hon] at hzun
     have h1:e.on < listed.size:=by
      rcases Nat.lt_or_ge e.on listed.size with g|g
      ·exact g
      ·simp [Array.getElem?_eq_none g] at hzun
     simp only [Array.getD_eq_getD_getElem?,Array.getElem?_eq_getElem h1,Option.getD_some] at hzun hlisted
     rw [hzun] at hlisted
     cases hlisted
    ·simp only [Bool.and_eq_true] at hpz
     exact⟨by rw [hyo.1];exact hpz.1.1,hpz.1.2,hpz.2⟩
    ·exfalso
     have hzin:z.i∈L.map (·.i):=by
      have hz1:(z.i,z.o)∈pre.map (fun z=>(z.i,z.o)):=by
       rw [← hT1]
       exact List.mem_map.2 ⟨z,hz,rfl⟩
      obtain⟨q,hq,he⟩:=List.mem_map.1 hz1
      simp only [Prod.mk.injEq] at he
      rw [hL]
      simp only [List.map_append,List.mem_append]
      exact .inl (List.mem_map.2 ⟨q,hq,he.1⟩)
     have hzun:=(hl z.i).2 hzin
     have:=sB hcl 6 (fun o' ho' e he hb=>by
      rw [hxo] at ho'
      cases ho'
      exact zI (hall e he hb)) hpz
     rw [hzun] at this
     cases this
   obtain⟨E,g1,g2,_,_,g5⟩:=hb hok
   unfold wpOp
   rw [ho]
   refine CF hc hr g1 (g2 ▸ d1) fun ν' a' w' hr'=>?_
   have hs':=List.pairwise_append.1 hs
   have hs2:=List.pairwise_cons.1 hs'.2.1
   refine ih ?_ g5 p2 d2 hr' ?_ ?_ ?_ (by simpa using hsz) ?_
   ·rw [hL] at hf
    simp at hf ⊢
    omega
   ·intro j
    rw [lP hun,hl j,hL]
    simp only [List.map_append,List.map_cons,List.mem_append,List.mem_cons]
    constructor
    ·rintro⟨hne,h|h|h⟩
     ·exact .inl h
     ·exact absurd h hne
     ·exact .inr h
    ·intro h
     refine⟨?_,?_⟩
     ·rcases h with h|h
      ·obtain⟨z,hz,rfl⟩:=List.mem_map.1 h
       have:=hs'.2.2 z hz x (by simp)
       omega
      ·obtain⟨z,hz,rfl⟩:=List.mem_map.1 h
       have:=hs2.1 z hz
       omega
     ·rcases h with h|h
      ·exact .inl h
      ·exact .inr (.inr h)
   ·intro z hz
    refine hin z ?_
    rcases List.mem_append.1 hz with h|h
    ·exact List.mem_append_left _ h
    ·exact List.mem_append_right _ (List.mem_cons_of_mem _ h)
   ·exact List.pairwise_append.2 ⟨hs'.1,hs2.2,fun x hx y hy=>hs'.2.2 x hx y (List.mem_cons_of_mem _ hy)⟩
   ·intro i o ho2 hg e he hb
    rw [← Bool.not_eq_false]
    intro hf2
    obtain⟨f1,f2⟩:=(lP hun).1 hf2
    by_cases hix:i=x.i
    ·subst hix
     rw [hxo] at ho2
     cases ho2
     have:=zI (hall e he hb)
     rw [f2] at this
     cases this
    ·have hgi:listed.getD i true=true:=by
      rw [← Bool.not_eq_false]
      intro hf3
      have:=(lP hun).2 ⟨hix,hf3⟩
      rw [hg] at this
      cases this
     have:=hcl i o ho2 hgi e he hb
     rw [f2] at this
     cases this
theorem kb:∀ (l:List Oper) (k:Nat) (ds:List Bool),∀ x∈cI k l ds,k≤x.i∧l[x.i - k]? = some x.o
 |[],_,_,x,hx=>by cases hx
 |_ :: _,_,[],x,hx=>by cases hx
 |o :: l,k,d :: ds,x,hx=>by
  rcases List.mem_cons.1 hx with rfl|hx
  ·simp
  ·obtain⟨h1,h2⟩:=kb l (k+1) ds x hx
   refine⟨by omega,?_⟩
   rw [show x.i - k=(x.i - (k+1))+1 by omega]
   simpa using h2
theorem jT:∀ (l:List Oper) (k:Nat) (ds:List Bool),ds.length=l.length→(cI k l ds).map (·.i)=List.range' k l.length
 |[],_,[],_=>rfl
 |[],_,_ :: _,h=>by simp at h
 |_ :: _,_,[],h=>by simp at h
 |o :: l,k,d :: ds,h=>by simp [cI,jT l (k+1) ds (by simpa using h),List.range'_succ]
theorem jw:∀ (l:List Oper) (k:Nat) (ds:List Bool),(cI k l ds).Pairwise (fun x y=>x.i < y.i)
 |[],_,_=>.nil
 |_ :: _,_,[]=>.nil
 |o :: l,k,d :: ds=>List.pairwise_cons.2 ⟨fun y hy=>by have:=(kb l (k+1) ds y hy).1;simp only;omega,jw l (k+1) ds⟩
theorem An:∀ {l:List Oper} {k:Nat},yD k l=true→∀ i o,l[i]? = some o→∀ e∈o.after,Region.binds .any e=true→e.on < k+i
 |[],_,_,i,o,h,_,_,_=>by simp at h
 |x :: l,k,h,i,o,ho,e,he,hb=>by
  simp only [yD,Bool.and_eq_true] at h
  cases i with
  |zero =>
   simp at ho
   subst ho
   have:=List.all_eq_true.1 h.1 e (by simpa using he)
   rw [hb] at this
   have h2:=aB (by simpa using this:dP (e.on+1) k=true)
   omega
  |succ i =>
   have:=An h.2 i o (by simpa using ho) e he hb
   omega
theorem Hc (hr:dr bs gv st ν a w):dr bs gv st ν a { w with drawn:=w.drawn+1 }:=by
 obtain⟨hx,hm⟩:=pq (G:=gg bs st ν w) hr.mem (w':={ w with drawn:=w.drawn+1 }) (Below.refl w.heap.size w).drew
 exact⟨hr.size,fun t e he=>(hr.slot t e he).ext hx,hr.gs.ext hx,hr.defers,hm⟩
theorem AP (hc:cy P cx) {id:Nat} {ops:Array Oper} {Q:Exit→Act→World→Prop} {T:List It} {st' : St} {ds:List Bool} (hds:ds.length=ops.toList.length) (h:runT Ar.U cx id ops.toList (cI 0 ops.toList ds) st=some (T,st')) (hp:fL ops.toList T=true) (hb:yD 0 ops.toList=true) (hs:lG T) (hr:dr bs gv st ν a w)
  (hQ:∀ ν' a' w',dr bs gv st' ν' a' w'→Q .normal a' w'):(Code.region id ops true).wp P Q a w:=by
 refine wp_region_any hc.mixed ?_
 refine Uu (ops:=ops.toList) hc hQ (fun i o ho e he hb'=>by have:=An hb i o ho e he hb';omega) ops.size (L:=cI 0 ops.toList ds) ?_ h hp hs (Hc hr) ?_ ?_ (jw _ _ _) (by simp) ?_
 ·have:=congrArg List.length (jT ops.toList 0 ds hds)
  simp at this
  omega
 ·intro j
  rw [jT _ _ _ hds]
  simp only [List.mem_range'_1,Nat.zero_le,true_and,Nat.zero_add,Array.length_toList]
  rcases Nat.lt_or_ge j ops.size with g|g
  ·simp [g]
  ·simp [g]
 ·intro x hx
  have:=(kb _ _ _ x hx).2
  simpa using this
 ·intro i o ho hg
  have hlt:i < ops.size:=by
   rcases Nat.lt_or_ge i ops.size with g|g
   ·exact g
   ·rw [List.getElem?_eq_none (by simpa using g)] at ho;cases ho
  simp [hlt] at hg
end
end Go.Proofs.YtelhldgdnlppfaaGreat.Ry
