/-
  The reckoner's rules hold in the model: operations of a region that may change places. No condition.
-/
import Derived.Test.YtakebkfhigadiaaGreatVnRyH
namespace Go.Proofs.YtakebkfhigadiaaGreat.Ry
open Go Go.RowKit
section
variable {P:Program} {cx:Cx} {bs:Bs} {gv:List Value} {st:St} {ν:Nat→Option (Nat × Nat)} {a:Act} {w:World} {G:Gm}
structure gl (st st' : St) (ts bs:List Nat):Prop where
 slot:∀ t∈ts,st'.eI.getD t bz.nil=st.eI.getD t bz.nil
 gm:∀ b∈bs,ak st'.heap b=ak st.heap b
theorem gl.symm {st st' : St} {ts bs:List Nat} (h:gl st st' ts bs):gl st' st ts bs:=⟨fun t ht=>(h.slot t ht).symm,fun b hb=>(h.gm b hb).symm⟩
theorem gl.mono {st st' : St} {ts bs ts' bs' : List Nat} (h:gl st st' ts bs) (ht:∀ t∈ts',t∈ts) (hb:∀ b∈bs',b∈bs):gl st st' ts' bs':=⟨fun t h'=>h.slot t (ht t h'),fun b h'=>h.gm b (hb b h')⟩
theorem vu {st st' : St} {ts bs:List Nat} (h:gl st st' ts bs) {x:Operand} (hx:∀ t,x = .tmp t→t∈ts):aG st' x=aG st x:=by
 cases x with
 |tmp t=>exact h.slot t (hx t rfl)
 |_=>rfl
def tmpsOf (l:List Operand):List Nat:=l.filterMap fun x=>match x with
 |.tmp t=>some t
 |_=>none
theorem yi {l:List Operand} {t:Nat} (h:Operand.tmp t∈l):t∈tmpsOf l:=List.mem_filterMap.2 ⟨_,h,rfl⟩
theorem rV {st st' : St} {l:List Operand} {bs:List Nat} (h:gl st st' (tmpsOf l) bs) {x:Operand} (hx:x∈l):aG st' x=aG st x :=
 vu h fun _ e=>yi (e ▸ hx)
section
variable {h h' : H}
theorem fB:∀ (f:Nat) {todo seen:List Nat},(∀ n∈reach f h todo seen,ak h' n=ak h n)→reach f h' todo seen=reach f h todo seen
 |0,_,_,_=>rfl
 |f+1,[],_,_=>rfl
 |f+1,n :: l,seen,ha=>by
  have hsub:∀ (f:Nat) (todo seen:List Nat),∀ k∈seen,k∈reach f h todo seen:=by
   intro f
   induction f with
   |zero=>intro todo seen k hk;exact hk
   |succ f ih =>
    intro todo seen k hk
    cases todo with
    |nil=>exact hk
    |cons m todo =>
     unfold reach
     split
     ·exact ih _ _ k hk
     ·exact ih _ _ k (List.mem_append_left _ hk)
  unfold reach at ha ⊢
  split
  ·rename_i hm
   simp only [hm] at ha
   exact fB f ha
  ·rename_i hm
   simp only [hm] at ha
   have hn:ak h' n=ak h n:=ha n (hsub _ _ _ n (List.mem_append_right _ (List.mem_singleton.2 rfl)))
   rw [hn]
   exact fB f ha
theorem kc {m:List (Nat × Nat)}:∀ {l:List Nat},(∀ n∈l,ak h' n=ak h n)→lg m h' l=lg m h l
 |[],_=>rfl
 |n :: l,ha=>by
  unfold lg
  rw [ha n (List.mem_cons_self ..),kc fun k hk=>ha k (List.mem_cons_of_mem _ hk)]
theorem qo:∀ {l:List Nat},(∀ n∈l,ak h' n=ak h n)→vg h' l=vg h l
 |[],_=>rfl
 |n :: l,ha=>by
  unfold vg
  rw [ha n (List.mem_cons_self ..),qo fun k hk=>ha k (List.mem_cons_of_mem _ hk)]
theorem gG:∀ {l:List Nat},(∀ n∈l,ak h' n=ak h n)→rowsOf h' l=rowsOf h l
 |[],_=>rfl
 |n :: l,ha=>by
  unfold rowsOf
  rw [ha n (List.mem_cons_self ..),gG fun k hk=>ha k (List.mem_cons_of_mem _ hk)]
theorem fP {roots:List (Nat × Nat)}:∀ {l:List (Nat × Nat)},(∀ n∈l.map (·.2),ak h' n=ak h n)→fC h' roots l=fC h roots l
 |[],_=>rfl
 |(i,n) :: l,ha=>by
  unfold fC cy
  rw [ha n (List.mem_cons_self ..),fP fun k hk=>ha k (List.mem_cons_of_mem _ hk)]
theorem jU {hp:H} {roots:List (Nat × Nat)}:∀ {l:List (Nat × Nat)},(∀ n∈l.map (·.2),ak h' n=ak h n)→jA h' hp roots l=jA h hp roots l
 |[],_=>rfl
 |(i,n) :: l,ha=>by
  unfold jA
  rw [ha n (List.mem_cons_self ..),jU fun k hk=>ha k (List.mem_cons_of_mem _ hk)]
theorem lQ {c:SC} (ha:∀ n∈bp c,ak h' n=ak h n):ki h' c=ki h c:=by
 unfold ki
 split <;> first|rfl|skip
 rw [ha _ (by simp [bp])]
theorem jR:∀ {cs:List SC},(∀ n∈cs.flatMap bp,ak h' n=ak h n)→gD h' cs=gD h cs
 |[],_=>rfl
 |c :: cs,ha=>by
  unfold gD
  rw [lQ fun n hn=>ha n (by simp [hn]),jR fun n hn=>ha n (by simp only [List.flatMap_cons,List.mem_append];exact .inr hn)]
theorem sU {x:SA} (ha:∀ n∈bg x,ak h' n=ak h n):iF h' x=iF h x:=by
 cases x with
 |one c=>simp only [iF];rw [lQ ha]
 |agg cs=>simp only [iF];rw [jR ha]
 |fb c=>rfl
theorem fN:∀ {cs:List SA},(∀ n∈cs.flatMap bg,ak h' n=ak h n)→ek h' cs=ek h cs
 |[],_=>rfl
 |c :: cs,ha=>by
  unfold ek
  rw [sU fun n hn=>ha n (by simp [hn]),fN fun n hn=>ha n (by simp only [List.flatMap_cons,List.mem_append];exact .inr hn)]
theorem gT {c:SC} (ha:∀ n∈bp c,ak h' n=ak h n):jd h' c=jd h c:=by
 unfold jd
 split
 ·rfl
 ·rw [ha _ (by simp [bp])]
 ·rfl
theorem eG {c1:Ct} {c:SC} (ha:∀ n∈bp c,ak h' n=ak h n):dD h' c1 c=dD h c1 c:=by
 unfold dD
 split
 ·rfl
 ·exact gT ha
theorem iP {u:Nat} {bJ:aW} {vs:List SA} (ha:∀ n∈cH h u bJ vs,ak h' n=ak h n):cH h' u bJ vs=cH h u bJ vs:=by
 unfold cH at ha ⊢
 simp only at ha ⊢
 have h1:reach 200 h' (vs.flatMap bg) []=reach 200 h (vs.flatMap bg) []:=fB 200 fun n hn=>ha n (by simp only [List.mem_append];exact .inl (.inl (.inr hn)))
 have h2:lg (bG 0 (reach 200 h (vs.flatMap bg) [])) h' (reach 200 h (vs.flatMap bg) [])=lg (bG 0 (reach 200 h (vs.flatMap bg) [])) h (reach 200 h (vs.flatMap bg) []):=kc fun n hn=>ha n (by simp only [List.mem_append];exact .inl (.inl (.inr hn)))
 have h3:ek h' vs=ek h vs:=fN fun n hn=>ha n (by simp only [List.mem_append];exact .inl (.inl (.inl hn)))
 rw [h1,h2,h3]
theorem jY {kp:Bool} {u:Nat} {bJ:aW} {s:Prop} {vs:List SA} (ha:∀ n∈cH h u bJ vs,ak h' n=ak h n):en kp h' u bJ s vs=en kp h u bJ s vs:=by
 unfold cH at ha
 simp only at ha
 unfold en
 simp only
 have h1:reach 200 h' (vs.flatMap bg) []=reach 200 h (vs.flatMap bg) []:=fB 200 fun n hn=>ha n (by simp only [List.mem_append];exact .inl (.inl (.inr hn)))
 rw [h1]
 generalize hq:reach 200 h (vs.flatMap bg) []=seen at ha
 have hseen:∀ n∈seen,ak h' n=ak h n:=fun n hn=>ha n (by simp only [List.mem_append];exact .inl (.inl (.inr hn)))
 rw [kc hseen,qo hseen]
 split
 ·rename_i args h0 e1 e2
  split
  ·rename_i p e3
   have hns:∀ n∈(names (bO seen args h0 p.h vs p.as) (bM u) p.h).map (·.2),ak h' n=ak h n:=fun n hn=>ha n (by
    simp only [List.mem_append]
    refine .inl (.inr ?_)
    rw [e1,e2]
    simp only
    rw [e3]
    exact hn)
   rw [fP hns,jU hns]
  ·rfl
 ·rfl
theorem oI {u:Nat} {bJ:aW} {s:Prop} {vs:List SA} (ha:∀ n∈cH h u bJ vs,ak h' n=ak h n):eB h' u bJ s vs=eB h u bJ s vs:=by
 unfold cH at ha
 simp only at ha
 unfold eB
 simp only
 have hrefs:∀ n∈vs.flatMap bg,ak h' n=ak h n:=fun n hn=>ha n (by simp only [List.mem_append];exact .inl (.inl (.inl hn)))
 rw [fN hrefs,gG hrefs]
 split
 ·rename_i args e1
  split
  ·rename_i p e3
   have hns:∀ n∈(names [] (bM u) p.h).map (·.2),ak h' n=ak h n:=fun n hn=>ha n (by
    simp only [List.mem_append]
    refine .inr ?_
    rw [e1]
    simp only
    rw [e3]
    exact hn)
   rw [fP hns]
  ·rfl
 ·rfl
theorem uO {kp:Bool} {u:Nat} {bJ:aW} {s:Prop} {vs:List SA} (ha:∀ n∈cH h u bJ vs,ak h' n=ak h n):fQ kp h' u bJ s vs=fQ kp h u bJ s vs:=by
 unfold fQ
 rw [jY ha,oI ha]
theorem bT {d:Nat} (ha:ak h' d=ak h d):cy h' d=cy h d:=by unfold cy;rw [ha]
theorem nt {d:Nat} (ha:ak h' d=ak h d):iC h' d=iC h d:=by unfold iC;rw [ha]
theorem zn {d:Nat} (ha:ak h' d=ak h d):dq h' d=dq h d:=by unfold dq;rw [ha]
theorem wK {c d:SC} (ha:∀ n∈bp c,ak h' n=ak h n):sw h' c d=sw h c d:=by
 unfold sw
 split
 ·rfl
 ·rw [ha _ (by simp [bp])]
 ·rfl
theorem vF {A:Ar} {op:BinOp} {xt:TypeId} {s:Prop} {c d:SC} (ha:∀ n∈bp c,ak h' n=ak h n):oF A cx h' op xt s c d=oF A cx h op xt s c d:=by
 unfold oF
 rw [wK ha]
theorem va {A:Ar} {op:BinOp} {xt:TypeId} {x y:bz} (ha:∀ n∈bm x,ak h' n=ak h n):kd A cx h' op xt x y=kd A cx h op xt x y:=by
 unfold kd
 split
 ·rename_i c d hx hy
  exact vF fun n hn=>ha n (by unfold bm;rw [hx];exact hn)
 ·rfl
 ·rfl
theorem qT {A:Ar} {t u:TypeId} {x:bz} (ha:∀ n∈bm x,ak h' n=ak h n):gL A cx h' t u x=gL A cx h t u x:=by
 unfold gL
 split
 ·rename_i g c
  have hc:jd h' c=jd h c:=gT fun n hn=>ha n hn
  split
  ·split
   ·split
    ·rfl
    ·rw [hc]
   ·rfl
  ·rfl
  ·split
   ·split
    ·rename_i id e k l _
     rw [nt (ha id (by simp [bm,bg,bp]))]
    ·rfl
   ·rfl
  ·rfl
  ·rfl
 ·rfl
theorem qV {A:Ar} {t:TypeId} {x:bz} (ha:∀ n∈BP x,ak h' n=ak h n):gM A cx h' t x=gM A cx h t x:=by
 unfold gM
 split
 ·rw [ha _ (by simp [BP,bm,bg,bp])]
 ·rw [ha _ (by simp [BP,bm,bg,bp])]
 ·rfl
 ·rfl
 ·rfl
 ·rfl
theorem pE {A:Ar} {t:TypeId} {x y:bz} (ha:∀ n∈bm x,ak h' n=ak h n):fm A cx h' t x y=fm A cx h t x y:=by
 unfold fm
 split
 ·rw [ha _ (by simp [bm,bg,bp])]
 ·rw [ha _ (by simp [bm,bg,bp])]
 ·rfl
theorem ka {t:TypeId} {f:Nat} {x:bz} (ha:∀ n∈xZ x,ak h' n=ak h n):cN cx h' t f x=cN cx h t f x:=by
 unfold cN
 split
 ·split
  ·split
   ·rfl
   ·split
    ·rfl
    ·rw [zn (ha _ (by simp [xZ]))]
    ·rfl
    ·rfl
  ·rfl
 ·rfl
theorem kb {A:Ar} {t:TypeId} {x y:bz} (ha:∀ n∈bm x,ak h' n=ak h n):cO A cx h' t x y=cO A cx h t x y:=by
 unfold cO
 split
 ·split
  ·split
   ·rfl
   ·rfl
   ·rw [ha _ (by simp [bm,bg,bp])]
   ·rfl
  ·split
   ·rw [ha _ (by simp [bm,bg,bp])]
   ·rw [ha _ (by simp [bm,bg,bp])]
   ·rfl
   ·rfl
  ·rfl
 ·rfl
theorem vS {t e:TypeId} {c:SC} (ha:∀ n∈bp c,ak h' n=ak h n):mZ cx h' t e c=mZ cx h t e c:=by
 unfold mZ
 split
 ·rw [nt (ha _ (by simp [bp]))]
 ·rfl
 ·rfl
theorem tV {A:Ar} {u t t' : Nat} {x y:bz} (hx:∀ n∈bm x,ak h' n=ak h n) (hy:∀ n∈bm y,ak h' n=ak h n) (hu:ak h' (bM u)=ak h (bM u)):ko A cx h' u t t' x y=ko A cx h u t t' x y:=by
 unfold ko
 split
 ·rename_i gx x' gy y'
  have h1:∀ c1,dD h' c1 y' = dD h c1 y':=fun c1=>eG fun n hn=>hy n hn
  have h2:∀ e,mZ cx h' t e x' = mZ cx h t e x':=fun e=>vS fun n hn=>hx n hn
  simp only [h1,h2,bT hu]
 ·rfl
theorem xv {e:TypeId} {c:SC} (ha:∀ n∈bp c,ak h' n=ak h n):kJ h' e c=kJ h e c:=by
 unfold kJ
 split
 ·rw [ha _ (by simp [bp])]
 ·rfl
theorem qH {A:Ar} {u n t t' : Nat} {x y:bz} (hy:∀ n∈bm y,ak h' n=ak h n) (hu:ak h' (bM u)=ak h (bM u)):gJ A cx h' u n t t' x y=gJ A cx h u n t t' x y:=by
 unfold gJ
 split
 ·rename_i gx _ gy y'
  have h1:∀ c1,dD h' c1 y' = dD h c1 y':=fun c1=>eG fun n hn=>hy n hn
  simp only [h1,bT hu]
 ·rfl
theorem qR {A:Ar} {u t t' : Nat} {x y:bz} (hy:∀ n∈bm y,ak h' n=ak h n) (hu:ak h' (bM u)=ak h (bM u)):gz A cx h' u t t' x y=gz A cx h u t t' x y:=by
 unfold gz
 split
 ·rename_i gx gy y'
  have h1:∀ c1,dD h' c1 y' = dD h c1 y':=fun c1=>eG fun n hn=>hy n hn
  simp only [h1,bT hu]
 ·rfl
theorem kI {e:TypeId} {c:SC} (ha:∀ n∈bp c,ak h' n=ak h n):ownRow h' e c=ownRow h e c:=by
 unfold ownRow
 split
 ·rw [ha _ (by simp [bp])]
 ·rfl
theorem qI {e:TypeId} {c:SC} (ha:∀ n∈bp c,ak h' n=ak h n) (hb:∀ n∈(bp c).flatMap (kr h),ak h' n=ak h n):fF h' e c=fF h e c:=by
 unfold fF
 split
 ·rename_i n
  rw [ha n (by simp [bp])]
  split
  ·rename_i d sz q hh
   rw [hb d (by simp [bp,kr,hh])]
  ·rfl
 ·rfl
theorem qY {A:Ar} {u n t t' : Nat} {c1:Ct} {x y:bz} (hy:∀ n∈bm y,ak h' n=ak h n) (hu:ak h' (bM u)=ak h (bM u)):gw A cx h' u n c1 t t' x y=gw A cx h u n c1 t t' x y:=by
 unfold gw
 split
 ·rename_i gx _ gy y'
  have h1:∀ c1,dD h' c1 y' = dD h c1 y':=fun c1=>eG fun n hn=>hy n hn
  simp only [h1,bT hu]
 ·rfl
theorem qJ {A:Ar} {t:TypeId} {x y:bz} (hx:∀ n∈bm x,ak h' n=ak h n) (hy:∀ n∈bm y,ak h' n=ak h n):gE A cx h' t x y=gE A cx h t x y:=by
 unfold gE
 split
 ·rename_i gx n gy y'
  have h1:∀ c1,dD h' c1 y' = dD h c1 y':=fun c1=>eG fun n hn=>hy n hn
  simp only [h1,hx n (by simp [bm,bg,bp])]
 ·rfl
theorem oJ {A:Ar} {t:TypeId} {x:bz} (hx:∀ n∈bm x,ak h' n=ak h n):fg A cx h' t x=fg A cx h t x:=by
 unfold fg
 split
 ·rename_i g n l
  rw [hx n (by simp [bm,bg,bp])]
 ·rfl
theorem qO {A:Ar} {t:TypeId} {ok:Bool} {x y:bz} (hx:∀ n∈bm x,ak h' n=ak h n):gQ A cx h' t ok x y=gQ A cx h t ok x y:=by
 unfold gQ
 split
 ·rw [hx _ (by simp [bm,bg,bp])]
 ·rfl
theorem uV {A:Ar} {t:TypeId} {x y z:bz} (hx:∀ n∈bm x,ak h' n=ak h n):kD A cx h' t x y z=kD A cx h t x y z:=by
 unfold kD
 split
 ·rw [hx _ (by simp [bm,bg,bp])]
 ·rfl
theorem uf {A:Ar} {t:TypeId} {s:Prop} {c:SC} (ha:∀ n∈bp c,ak h' n=ak h n):kn A cx h' t s c=kn A cx h t s c:=by
 unfold kn
 split <;> first|rfl|skip
 split <;> first|rfl|skip
 rw [gT ha]
end
theorem wG:∀ {es:List bz} {vs:List SA},xG es=some vs→∀ n∈vs.flatMap bg,n∈es.flatMap bm
 |[],vs,h,n,hn=>by cases h;cases hn
 |e :: es,vs,h,n,hn=>by
  obtain⟨g,v⟩:=e
  cases v with
  |bB _=>cases h
  |sa x =>
   simp only [xG] at h
   split at h
   ·rename_i xs hxs
    cases h
    simp only [List.flatMap_cons,List.mem_append] at hn ⊢
    exact hn.imp (fun h=>h) (wG hxs n)
   ·cases h
theorem DU (A:Ar) (cx:Cx) {st st' : St} {o:Oper} {u:Nat} (h:gl st st' (tmpsOf o.op.operands.toList) (di cx st u o)):dm A cx st' u o.op=dm A cx st u o.op:=by
 have ev:=fun x (hx:x∈o.op.operands.toList)=>rV h hx
 have hb:=h.gm
 unfold di at hb
 cases ho:o.op with
 |move x=>rw [ho] at ev;simp only [dm];rw [ev x (by simp [Op.operands])]
 |assign x=>rw [ho] at ev;simp only [dm];rw [ev x (by simp [Op.operands])]
 |pick c x y=>rw [ho] at ev;simp only [dm];rw [ev c (by simp [Op.operands]),ev x (by simp [Op.operands]),ev y (by simp [Op.operands])]
 |binOp op t x y t' =>
  rw [ho] at ev hb
  simp only [dm]
  rw [ev x (by simp [Op.operands]),ev y (by simp [Op.operands])]
  exact va fun n hn=>hb n (List.mem_append_left _ hn)
 |unOp op t x=>rw [ho] at ev;simp only [dm];rw [ev x (by simp [Op.operands])]
 |convert t t' x=>rw [ho] at ev hb;simp only [dm];rw [ev x (by simp [Op.operands])];exact qT hb
 |nilCheck x =>
  rw [ho] at ev hb
  simp only [dm]
  rw [ev x (by simp [Op.operands])]
 |fieldAddr t x f=>rw [ho] at ev hb;simp only [dm];rw [ev x (by simp [Op.operands])];exact ka hb
 |field t x f=>rw [ho] at ev;simp only [dm];rw [ev x (by simp [Op.operands])]
 |extract x i=>rw [ho] at ev;simp only [dm];rw [ev x (by simp [Op.operands])]
 |makeFunc f first cap =>
  rw [ho] at ev
  simp only [dm]
  have h1:first.toList.map (aG st')=first.toList.map (aG st):=List.map_congr_left fun x hx=>ev x (by simp [Op.operands];exact .inl (by simpa using hx))
  have h2:cap.toList.map (aG st')=cap.toList.map (aG st):=List.map_congr_left fun x hx=>ev x (by simp [Op.operands];exact .inr (by simpa using hx))
  rw [h1,h2]
 |alloc t =>
  rw [ho] at hb
  simp only [dm]
  unfold iQ
  rw [bT (hb (bM u) (by simp))]
 |box t x =>
  rw [ho] at ev hb
  simp only [dm]
  rw [ev x (by simp [Op.operands])]
  split
  ·rfl
  unfold pV
  rw [bT (hb (bM u) (by simp))]
 |load t x=>rw [ho] at ev hb;simp only [dm];rw [ev x (by simp [Op.operands])];exact qV hb
 |store t x y=>rw [ho] at ev hb;simp only [dm];rw [ev x (by simp [Op.operands]),ev y (by simp [Op.operands])];exact pE hb
 |build t ps =>
  rw [ho] at ev
  simp only [dm]
  have:ps.toList.map (fun p=>aG st' p.2)=ps.toList.map (fun p=>aG st p.2):=List.map_congr_left fun p hp=>ev p.2 (by simp only [Op.operands,List.mem_map];exact⟨p,hp,rfl⟩)
  rw [this]
 |buildSlice t n ps =>
  rw [ho] at ev hb
  simp only [dm]
  have:ps.toList.map (fun p=>aG st' p.2)=ps.toList.map (fun p=>aG st p.2):=List.map_congr_left fun p hp=>ev p.2 (by simp only [Op.operands,List.mem_map];exact⟨p,hp,rfl⟩)
  rw [this]
  unfold dy
  rw [bT (hb (bM u) (by simp))]
 |makeSlice t l c =>
  rw [ho] at ev hb
  simp only [dm]
  rw [ev l (by simp [Op.operands]),ev c (by simp [Op.operands])]
  unfold mc
  rw [bT (hb (bM u) (by simp))]
 |makeMap t hint =>
  rw [ho] at hb
  simp only [dm]
  unfold iB
  rw [bT (hb (bM u) (by simp))]
 |lookup t m x k=>rw [ho] at ev hb;simp only [dm];rw [ev m (by simp [Op.operands]),ev x (by simp [Op.operands])];exact qO hb
 |mapUpdate t m x y=>rw [ho] at ev hb;simp only [dm];rw [ev m (by simp [Op.operands]),ev x (by simp [Op.operands]),ev y (by simp [Op.operands])];exact uV hb
 |indexAddr t x y=>rw [ho] at ev hb;simp only [dm];rw [ev x (by simp [Op.operands]),ev y (by simp [Op.operands])];exact kb hb
 |index t x y=>rw [ho] at ev;simp only [dm];rw [ev x (by simp [Op.operands]),ev y (by simp [Op.operands])]
 |slice t x lo hi mx =>
  rw [ho] at ev hb
  simp only [dm]
  rw [ev x (by simp [Op.operands])]
  have bd:∀ d (y:Option Operand),(∀ z,y=some z→z∈(Op.slice t x lo hi mx).operands.toList)→oz st' d y=oz st d y:=by
   intro d y hy
   cases y with
   |none=>rfl
   |some z=>unfold oz;simp only [ev z (hy z rfl)]
  have b1:∀ d,oz st' d lo=oz st d lo:=fun d=>bd d lo (by rintro z rfl;simp [Op.operands])
  have b2:∀ d,oz st' d hi=oz st d hi:=fun d=>bd d hi (by rintro z rfl;simp [Op.operands])
  have b3:∀ d,oz st' d mx=oz st d mx:=fun d=>bd d mx (by rintro z rfl;simp [Op.operands])
  have hfr:cy st'.heap (bM u)=cy st.heap (bM u):=bT (hb (bM u) (by simp))
  have plain:∀ m:Option Operand,(∀ d,oz st' d m=oz st d m)→fq A cx st' t (aG st x) lo hi m=fq A cx st t (aG st x) lo hi m:=by
   intro m b3
   unfold fq
   simp only [b1,b2,b3]
   split
   ·rename_i g c _ _ _ _ _ _ hx _
    have hrc:∀ n∈bp c,ak st'.heap n=ak st.heap n:=fun n hn=>hb n (by simp only [hx,bm,bg];exact List.mem_cons_of_mem _ (List.mem_append_left _ hn))
    rw [gT hrc,gG hrc]
   ·rfl
  have hro:∀ (g:Option Bool) (c:SC) (e:TypeId),aG st x=⟨g,.sa (.one c)⟩→ownRow st'.heap e c=ownRow st.heap e c:=fun g c e hx =>
   kI fun n hn=>hb n (by simp only [hx,bm,bg];exact List.mem_cons_of_mem _ (List.mem_append_left _ hn))
  have hpr:∀ (g:Option Bool) (c:SC) (e:TypeId),aG st x=⟨g,.sa (.one c)⟩→fF st'.heap e c=fF st.heap e c:=fun g c e hx =>
   qI (fun n hn=>hb n (by simp only [hx,bm,bg];exact List.mem_cons_of_mem _ (List.mem_append_left _ hn))) (fun n hn=>hb n (by
    simp only [hx,bm,bg]
    exact List.mem_cons_of_mem _ (List.mem_append_right _ hn)))
  split
  ·split
   ·unfold lL
    simp only [b1,b2,hfr]
    split
    ·rename_i g c _ _ _ _ _ _ hx _
     rw [hro _ _ _ hx,hpr _ _ _ hx]
    ·rfl
   ·unfold lj
    simp only [b1,b2,b3,hfr]
    split
    ·rename_i g c _ _ _ _ _ _ hx _
     rw [hro _ _ _ hx]
    ·rfl
  ·split
   ·unfold lR
    simp only [b1]
    split
    ·rename_i g c _ _ _ _ _ _ hx _
     rw [hro _ _ _ hx]
    ·rfl
   ·exact plain _ b3
 |call c =>
  rw [ho] at ev hb
  simp only [dm]
  have hargs:c.args.toList.map (aG st')=c.args.toList.map (aG st):=List.map_congr_left fun x hx=>ev x (by simp [Op.operands,Call.operands];exact .inr (by simpa using hx))
  rw [hargs]
  unfold nU
  split
  ·rename_i x hf
   simp only [hf] at hb
   rw [ev x (by simp [Op.operands,Call.operands,hf])]
   split
   ·rename_i f hx
    simp only [hx] at hb
    split
    ·rename_i bJ vs _ hcon hv
     simp only [hcon,hv] at hb
     exact uO hb
    ·rfl
   ·rename_i hx
    simp only [hx] at hb
    split
    ·rename_i f n hx2
     simp only [hx2] at hb
     split
     ·rename_i bJ vs _ hcon hv
      simp only [hcon,hv] at hb
      exact jY hb
     ·rfl
    ·rfl
  ·rename_i hf
   simp only [hf] at hb
   split
   ·rename_i t x ht hv
    exact uf fun n hn=>hb n (wG hv n (by simp [bg,hn]))
   ·rfl
  ·rename_i hf
   simp only [hf] at hb
   split
   ·rename_i t t' x y ht hv
    rw [hv] at hb
    split
    ·rename_i g0 c e sz nn zz bb ff hl
     have h1:kJ st'.heap e c=kJ st.heap e c:=xv fun n hn=>hb n (by simp [bm,bg,hn])
     rw [h1]
     split
     ·exact qH (fun n hn=>hb n (by simp [hn])) (hb _ (by simp))
     have h2:ownRow st'.heap e c=ownRow st.heap e c:=kI fun n hn=>hb n (by simp [bm,bg,hn])
     rw [h2]
     split
     ·exact qY (fun n hn=>hb n (by simp [hn])) (hb _ (by simp))
     split
     ·exact qR (fun n hn=>hb n (by simp [hn])) (hb _ (by simp))
     ·exact tV (fun n hn=>hb n (by simp [hn])) (fun n hn=>hb n (by simp [hn])) (hb _ (by simp))
    ·rfl
   ·rfl
  ·rename_i hf
   simp only [hf] at hb
   split
   ·rename_i t ts x y ht hv
    rw [hv] at hb
    exact qJ (fun n hn=>hb n (by simp [hn])) (fun n hn=>hb n (by simp [hn]))
   ·rfl
  ·rename_i hf
   simp only [hf] at hb
   split
   ·rename_i t x ht hv
    rw [hv] at hb
    exact oJ fun n hn=>hb n (by simp [hn])
   ·rfl
  ·rfl
  ·rfl
  ·rfl
 |_=>rfl
theorem oO {cx:Cx} {st st' : St} {o:Oper} {u:Nat} (h:gl st st' (tmpsOf o.op.operands.toList) (di cx st u o)):di cx st' u o=di cx st u o:=by
 have ev:=fun x (hx:x∈o.op.operands.toList)=>rV h hx
 have hb:=h.gm
 unfold di at hb ⊢
 cases ho:o.op with
 |binOp op t x y t'=>rw [ho] at ev;simp only;rw [ev x (by simp [Op.operands]),ev y (by simp [Op.operands])]
 |convert t t' x=>rw [ho] at ev;simp only;rw [ev x (by simp [Op.operands])]
 |load t x=>rw [ho] at ev;simp only;rw [ev x (by simp [Op.operands])]
 |slice t x lo hi mx =>
  rw [ho] at ev hb
  simp only at hb ⊢
  rw [ev x (by simp [Op.operands])]
  congr 2
  have:∀ n∈bm (aG st x),kr st'.heap n=kr st.heap n:=fun n hn=>by
   unfold kr
   rw [hb n (List.mem_cons_of_mem _ (List.mem_append_left _ hn))]
  generalize bm (aG st x)=l at this
  clear hb ev
  induction l with
  |nil=>rfl
  |cons n l ih =>
   rw [List.flatMap_cons,List.flatMap_cons,this n (by simp),ih fun m hm=>this m (by simp [hm])]
 |indexAddr t x y=>rw [ho] at ev;simp only;rw [ev x (by simp [Op.operands])]
 |fieldAddr t x f=>rw [ho] at ev;simp only;rw [ev x (by simp [Op.operands])]
 |store t x y=>rw [ho] at ev;simp only;rw [ev x (by simp [Op.operands])]
 |lookup t x y k=>rw [ho] at ev;simp only;rw [ev x (by simp [Op.operands])]
 |mapUpdate t x y z=>rw [ho] at ev;simp only;rw [ev x (by simp [Op.operands])]
 |call c =>
  rw [ho] at ev hb
  have hargs:c.args.toList.map (aG st')=c.args.toList.map (aG st):=List.map_congr_left fun x hx=>ev x (by simp [Op.operands,Call.operands];exact .inr (by simpa using hx))
  simp only [hargs] at hb ⊢
  split
  ·rfl
  ·rfl
  ·rfl
  ·rfl
  ·rename_i x hf
   simp only [hf] at hb
   rw [ev x (by simp [Op.operands,Call.operands,hf])]
   split
   ·rename_i f hx
    simp only [hx] at hb
    split
    ·rename_i bJ vs hcon hv
     simp only [hcon,hv] at hb
     exact iP hb
    ·rfl
   ·rename_i hx
    simp only [hx] at hb
    split
    ·rename_i f n hx2
     simp only [hx2] at hb
     split
     ·rename_i bJ vs hcon hv
      simp only [hcon,hv] at hb
      exact iP hb
     ·rfl
    ·rfl
  ·rfl
 |_=>rfl
def jq (ops:List Oper) (o:Oper):List Nat :=
 match o.guard with
 |some (g,_)=>((ops[g]?).bind (·.dst)).toList
 |none=>[]
theorem qa (ops:List Oper) (o:Oper):o.looksAt ops.toArray=tmpsOf o.op.operands.toList ++ jq ops o:=by
 unfold Oper.looksAt tmpsOf jq
 cases o.guard with
 |none=>rfl
 |some g =>
  obtain⟨g,b⟩:=g
  simp only [List.getElem?_toArray]
  rfl
theorem wF (A:Ar) {ops:List Oper} {st st' : St} {o:Oper} {bs:List Nat} (h:gl st st' (jq ops o) bs):nD A ops st' o.guard=nD A ops st o.guard:=by
 have hs:=h.slot
 unfold jq at hs
 unfold nD
 cases hg:o.guard with
 |none=>rfl
 |some g =>
  obtain⟨j,want⟩:=g
  rw [hg] at hs
  simp only at hs ⊢
  cases ho:ops[j]? with
  |none=>rfl
  |some o' =>
   simp only
   cases ht:o'.dst with
   |none=>rfl
   |some t =>
    simp only
    rw [hs t (by simp [ho,ht])]
theorem oT (A:Ar) (cx:Cx) {ops:List Oper} {st st' : St} {o:Oper} {u:Nat} {d:Bool} (h:gl st st' (o.looksAt ops.toArray) (di cx st u o)):gK A cx ops st' u o d=gK A cx ops st u o d:=by
 rw [qa] at h
 unfold gK
 rw [wF A (h.mono (fun t ht=>List.mem_append_right _ ht) (fun b hb=>hb)),DU A cx (h.mono (fun t ht=>List.mem_append_left _ ht) (fun b hb=>hb))]
theorem qn:∀ {l h:H} {b:Nat},(∀ p∈l,p.1≠b)→ak (aI h l) b=ak h b
 |[],_,_,_=>rfl
 |p :: l,h,b,hl=>by
  show ak (aI (aS h p.1 p.2) l) b=_
  rw [qn fun q hq=>hl q (List.mem_cons_of_mem _ hq),aN _ _ (hl p (List.mem_cons_self ..))]
theorem vj {l:H} {ft:List Nat} (h:nI (l.map (·.1)) ft=true):∀ p∈l,∀ b∈ft,p.1≠b:=by
 intro p hp b hb e
 have h1:=List.all_eq_true.1 h p.1 (List.mem_map.2 ⟨p,hp,rfl⟩)
 have h2:=List.all_eq_true.1 h1 b hb
 rw [e,cJ] at h2
 cases h2
theorem re {ops:List Oper} {st:St} {p o:Oper} {E:cr} {ft:List Nat} (h1:∀ d,p.dst=some d→d ∉ o.looksAt ops.toArray) (h2:nI (E.gm.map (·.1)) ft=true):gl st (st.app p.dst E) (o.looksAt ops.toArray) ft:=by
 refine⟨fun t ht=>?_,fun b hb=>?_⟩
 ·cases hp:p.dst with
  |none=>rfl
  |some d =>
   have hne:d≠t:=fun e=>h1 d hp (e ▸ ht)
   simp [St.app,St.put,List.getD_eq_getElem?_getD,List.getElem?_set_ne hne]
 ·exact qn (fun p hp=>vj h2 p hp b hb)
theorem kE {keys:List Nat}:∀ {seen:List Nat},∀ p∈eN keys seen,p.1∈seen
 |[],p,hp=>by cases hp
 |n :: l,p,hp=>by
  unfold eN at hp
  split at hp
  ·exact List.mem_cons_of_mem _ (kE p hp)
  ·rcases List.mem_cons.1 hp with rfl|hp
   ·exact List.mem_cons_self ..
   ·exact List.mem_cons_of_mem _ (kE p hp)
theorem gu {h:H}:∀ {ids:List Nat},∀ p∈rowsOf h ids,p.1∈ids
 |[],p,hp=>by cases hp
 |n :: l,p,hp=>by
  unfold rowsOf at hp
  split at hp
  ·rcases List.mem_cons.1 hp with rfl|hp
   ·exact List.mem_cons_self ..
   ·exact List.mem_cons_of_mem _ (gu p hp)
  ·exact List.mem_cons_of_mem _ (gu p hp)
theorem oR {m:List (Nat × Nat)} {h:H}:∀ {ids:List Nat} {h1:H},lg m h ids=some h1→∀ p∈h1,p.1∈m.map (·.2)
 |[],h1,hr,p,hp=>by cases hr;cases hp
 |i :: ids,h1,hr,p,hp=>by
  unfold lg at hr
  split at hr
  ·rename_i k b r e1 e2 e3
   split at hr
   ·cases hr
    rcases List.mem_cons.1 hp with rfl|hp
    ·exact List.mem_map.2 ⟨_,eE e1,rfl⟩
    ·exact oR e3 p hp
   ·cases hr
  ·cases hr
theorem oE {kp:Bool} {h:H} {u:Nat} {bJ:aW} {s:Prop} {vs:List SA} {E:cr} (he:fQ kp h u bJ s vs=some E):∀ p∈E.gm,p.1∈cH h u bJ vs:=by
 intro q hq
 unfold cH
 simp only [List.mem_append]
 unfold fQ at he
 split at he
 ·rename_i E' hE
  cases he
  unfold en at hE
  simp only at hE
  generalize reach 200 h (vs.flatMap bg) []=seen at hE ⊢
  split at hE
  ·rename_i args h0 e1 e2
   split at hE
   ·rename_i p e3
    split at hE
    ·rename_i r h1 e4 e5
     split at hE
     ·cases hE
      dsimp only at hq
      split at hq
      ·cases hq
      rcases List.mem_append.1 hq with hq|hq
      ·exact .inl (.inl (.inr (kE q hq)))
      ·exact .inl (.inr (oR e5 q hq))
     ·cases hE
    ·cases hE
   ·cases hE
  ·cases hE
 ·unfold eB at he
  simp only at he
  split at he
  ·rename_i args e1
   split at he
   ·rename_i p e3
    split at he
    ·rename_i r h1 e4 e5
     split at he
     ·split at he
      ·cases he
       cases hq
      ·cases he
       rcases List.mem_append.1 hq with hq|hq
       ·exact .inl (.inl (.inl (gu q hq)))
       ·exact .inr (oR e5 q hq)
     ·cases he
    ·cases he
   ·cases he
  ·cases he
theorem Jp {A:Ar} {cx:Cx} {ops:List Oper} {st:St} {o:Oper} {u:Nat} {d:Bool} {E:cr} (h:gK A cx ops st u o d=some E):∀ p∈E.gm,p.1∈di cx st u o:=by
 have main:∀ {E:cr},dm A cx st u o.op=some E→∀ p∈E.gm,p.1∈di cx st u o:=by
  intro E h p hb
  unfold di
  cases ho:o.op with
  |alloc t =>
   rw [ho] at h
   simp only [dm,iQ] at h
   repeat' split at h
   all_goals first|(cases h;done)|skip
   all_goals
    cases h
    rw [List.mem_singleton] at hb
    subst hb
    simp
  |box t x =>
   rw [ho] at h
   simp only [dm] at h
   split at h
   ·unfold oj at h
    split at h
    ·cases h
     exact absurd hb List.not_mem_nil
    ·cases h
   unfold pV at h
   repeat' split at h
   all_goals first|(cases h;done)|skip
   all_goals
    cases h
    rw [List.mem_singleton] at hb
    subst hb
    simp
  |buildSlice t n ps =>
   rw [ho] at h
   simp only [dm] at h
   unfold dy at h
   repeat' split at h
   all_goals first|(cases h;done)|skip
   all_goals
    cases h
    rw [List.mem_singleton] at hb
    subst hb
    simp
  |makeFunc f first cap =>
   exfalso
   rw [ho] at h
   simp only [dm] at h
   unfold BK bV at h
   repeat' split at h
   all_goals first|(cases h;done)|(cases h;exact absurd hb List.not_mem_nil)
  |makeSlice t l c =>
   rw [ho] at h
   simp only [dm] at h
   unfold mc at h
   repeat' split at h
   all_goals first|(cases h;done)|skip
   all_goals
    cases h
    rw [List.mem_singleton] at hb
    subst hb
    simp
  |makeMap t hint =>
   rw [ho] at h
   simp only [dm] at h
   unfold iB at h
   repeat' split at h
   all_goals first|(cases h;done)|skip
   all_goals
    cases h
    rw [List.mem_singleton] at hb
    subst hb
    simp
  |lookup t m x k =>
   exfalso
   rw [ho] at h
   simp only [dm] at h
   unfold gQ bV at h
   repeat' split at h
   all_goals first|(cases h;done)|(cases h;exact absurd hb List.not_mem_nil)
  |mapUpdate t m x y =>
   rw [ho] at h
   simp only [dm] at h
   unfold kD at h
   split at h
   ·rename_i g n g' yy g2 z hx _ _
    repeat' split at h
    all_goals first|(cases h;done)|skip
    all_goals
     cases h
     rw [List.mem_singleton] at hb
     subst hb
     simp [hx,bm,bg,bp]
   ·cases h
  |store t x y =>
   rw [ho] at h
   simp only [dm] at h
   unfold fm at h
   split at h
   ·rename_i g b off g' v ti hx _ _
    repeat' split at h
    all_goals first|(cases h;done)|skip
    all_goals
     cases h
     rw [List.mem_singleton] at hb
     subst hb
     simp [hx,bm,bg,bp]
   ·rename_i g b i j g' v ti hx _ _
    repeat' split at h
    all_goals first|(cases h;done)|skip
    all_goals
     cases h
     rw [List.mem_singleton] at hb
     subst hb
     simp [hx,bm,bg,bp]
   ·cases h
  |convert t t' x =>
   rw [ho] at h
   simp only [dm] at h
   unfold gL bV at h
   split at h
   ·rename_i g c hx
    repeat' split at h
    all_goals first|(cases h;done)|skip
    all_goals first|(cases h;exact absurd hb List.not_mem_nil)|skip
    cases h
    rw [List.mem_singleton] at hb
    subst hb
    simp [hx,bm,bg,bp]
   ·cases h
  |slice t x lo hi mx =>
   rw [ho] at h
   simp only [dm] at h
   split at h
   ·split at h
    ·unfold lL at h
     split at h
     ·rename_i g c _ _ _ _ _ _ hx _
      split at h
      ·rename_i n00 c100 hq00
       obtain⟨rfl,_⟩:=dU hq00
       repeat' split at h
       all_goals first|(cases h;done)|skip
       cases h
       rcases List.mem_cons.1 hb with rfl|hb
       ·simp [hx,bm,bg,bp]
       ·rw [List.mem_singleton] at hb
        subst hb
        simp
      ·split at h
       ·rename_i d00 sz00 q00 cd00 g100 l00 hp00 hb100
        obtain⟨id00,rfl,hid00,_⟩:=pt hp00
        repeat' split at h
        all_goals first|(cases h;done)|skip
        cases h
        rcases List.mem_cons.1 hb with rfl|hb
        ·simp [hx,bm,bg,bp,kr,hid00]
        ·rw [List.mem_singleton] at hb
         subst hb
         simp
       ·cases h
     ·cases h
    ·unfold lj at h
     split at h
     ·rename_i g c _ _ _ _ _ _ hx _
      split at h
      ·rename_i n00 c100 hq00
       obtain⟨rfl,_⟩:=dU hq00
       repeat' split at h
       all_goals first|(cases h;done)|skip
       cases h
       rcases List.mem_cons.1 hb with rfl|hb
       ·simp [hx,bm,bg,bp]
       ·rw [List.mem_singleton] at hb
        subst hb
        simp
      ·cases h
     ·cases h
   split at h
   ·exfalso
    unfold lR bV at h
    repeat' split at h
    all_goals first|(cases h;done)|(cases h;exact absurd hb List.not_mem_nil)
   unfold fq at h
   split at h
   ·rename_i g c _ _ _ _ _ _ hx _
    repeat' split at h
    all_goals first|(cases h;done)|skip
    all_goals first|(cases h;exact absurd hb List.not_mem_nil)|skip
    all_goals
     cases h
     have:=gu p hb
     simp only [hx,bm,bg]
     exact List.mem_cons_of_mem _ (List.mem_append_left _ this)
   ·cases h
  |call c =>
   rw [ho] at h
   simp only [dm] at h
   unfold nU at h
   split at h
   ·rename_i x hf
    simp only [hf]
    split at h
    ·rename_i f hx
     split at h
     ·rename_i bJ vs _ hcon hv
      rw [hcon,hv]
      exact oE h p hb
     ·cases h
    ·rename_i hx
     split at h
     ·rename_i f n hx2
      split at h
      ·rename_i bJ vs _ hcon hv
       rw [hcon,hv]
       exact oE (kp:=_) (s:=_) (by unfold fQ;rw [h]) p hb
      ·cases h
     ·cases h
   ·exfalso
    unfold kn bV at h
    repeat' split at h
    all_goals first|(cases h;done)|(cases h;exact absurd hb List.not_mem_nil)
   ·rename_i hf
    simp only [hf]
    split at h
    ·rename_i t t' x y ht hv
     rw [hv]
     split at h
     case h_2=>cases h
     rename_i g00 c00 e00 sz00 nn00 zz00 bb00 ff00 hl00
     split at h
     ·rename_i n00 hq00
      obtain⟨rfl,_⟩:=xi hq00
      unfold gJ at h
      repeat' split at h
      all_goals first|(cases h;done)|skip
      cases h
      rcases List.mem_cons.1 hb with rfl|hb
      ·simp [bm,bg,bp]
      ·rw [List.mem_singleton] at hb
       subst hb
       simp
     split at h
     ·rename_i n00 c100 hq00
      obtain⟨rfl,_⟩:=dU hq00
      unfold gw at h
      repeat' split at h
      all_goals first|(cases h;done)|skip
      cases h
      rcases List.mem_cons.1 hb with rfl|hb
      ·simp [bm,bg,bp]
      ·rw [List.mem_singleton] at hb
       subst hb
       simp
     split at h
     ·unfold gz at h
      repeat' split at h
      all_goals first|(cases h;done)|skip
      cases h
      rw [List.mem_singleton] at hb
      subst hb
      simp
     unfold ko at h
     split at h
     ·rename_i gx x' gy y'
      split at h
      ·split at h
       ·split at h
        ·rename_i kill c1 hk
         split at h
         ·split at h
          ·split at h
           ·cases h
            rcases List.mem_append.1 hb with hb|hb
            ·unfold mZ at hk
             split at hk
             ·split at hk
              ·cases hk
               rw [List.mem_singleton] at hb
               subst hb
               first|(simp [bm,bg,bp];done)|(simp_all [bm,bg,bp];done)
              ·cases hk
             ·split at hk
              ·cases hk
               cases hb
              ·cases hk
             ·cases hk
            ·rw [List.mem_singleton] at hb
             subst hb
             simp
           ·cases h
          ·cases h
         ·cases h
        ·cases h
       ·cases h
      ·cases h
     ·cases h
    ·cases h
   ·rename_i hf
    simp only [hf]
    split at h
    ·rename_i t ts x y ht hv
     rw [hv]
     unfold gE at h
     repeat' split at h
     all_goals first|(cases h;done)|skip
     cases h
     rw [List.mem_singleton] at hb
     subst hb
     simp [bm,bg,bp]
    ·cases h
   ·rename_i hf
    simp only [hf]
    split at h
    ·rename_i t x ht hv
     rw [hv]
     unfold fg at h
     repeat' split at h
     all_goals first|(cases h;done)|skip
     cases h
     rw [List.mem_singleton] at hb
     subst hb
     simp [bm,bg,bp]
    ·cases h
   ·exfalso
    unfold bV at h
    repeat' split at h
    all_goals first|(cases h;done)|(cases h;exact absurd hb List.not_mem_nil)
   ·exfalso
    unfold bV at h
    repeat' split at h
    all_goals first|(cases h;done)|(cases h;exact absurd hb List.not_mem_nil)
   ·cases h
  |binOp op t x y t' =>
   exfalso
   rw [ho] at h
   simp only [dm] at h
   unfold kd at h
   split at h
   ·unfold oF bV at h
    repeat' split at h
    all_goals first|(cases h;done)|(cases h;exact absurd hb List.not_mem_nil)
   ·unfold bV at h
    repeat' split at h
    all_goals first|(cases h;done)|(cases h;exact absurd hb List.not_mem_nil)
   ·cases h
  |pick c x y =>
   exfalso
   rw [ho] at h
   simp only [dm] at h
   unfold ov bV at h
   repeat' split at h
   all_goals first|(cases h;done)|(cases h;exact absurd hb List.not_mem_nil)
  |unOp op t x =>
   exfalso
   rw [ho] at h
   simp only [dm] at h
   unfold zW bV at h
   repeat' split at h
   all_goals first|(cases h;done)|(cases h;exact absurd hb List.not_mem_nil)
  |nilCheck x =>
   exfalso
   rw [ho] at h
   simp only [dm] at h
   unfold uk bV at h
   repeat' split at h
   all_goals first|(cases h;done)|(cases h;exact absurd hb List.not_mem_nil)
  |load t x =>
   exfalso
   rw [ho] at h
   simp only [dm] at h
   unfold gM bV at h
   repeat' split at h
   all_goals first|(cases h;done)|(cases h;exact absurd hb List.not_mem_nil)
  |fieldAddr t x f =>
   exfalso
   rw [ho] at h
   simp only [dm] at h
   unfold cN bV at h
   repeat' split at h
   all_goals first|(cases h;done)|(cases h;exact absurd hb List.not_mem_nil)
  |field t x f =>
   exfalso
   rw [ho] at h
   simp only [dm] at h
   unfold lX bV at h
   repeat' split at h
   all_goals first|(cases h;done)|(cases h;exact absurd hb List.not_mem_nil)
  |build t ps =>
   exfalso
   rw [ho] at h
   simp only [dm] at h
   unfold kP at h
   repeat' split at h
   all_goals first|(cases h;done)|(cases h;exact absurd hb List.not_mem_nil)
  |indexAddr t x y =>
   exfalso
   rw [ho] at h
   simp only [dm] at h
   unfold cO bV at h
   repeat' split at h
   all_goals first|(cases h;done)|(cases h;exact absurd hb List.not_mem_nil)
  |index t x y =>
   exfalso
   rw [ho] at h
   simp only [dm] at h
   unfold lH bV at h
   repeat' split at h
   all_goals first|(cases h;done)|(cases h;exact absurd hb List.not_mem_nil)
  |extract x i =>
   exfalso
   rw [ho] at h
   simp only [dm] at h
   unfold gB at h
   repeat' split at h
   all_goals first|(cases h;done)|(cases h;exact absurd hb List.not_mem_nil)
  |move x=>rw [ho] at h;simp only [dm] at h;cases h;exact absurd hb List.not_mem_nil
  |assign x=>rw [ho] at h;simp only [dm] at h;cases h;exact absurd hb List.not_mem_nil
  |_=>rw [ho] at h;simp [dm] at h
 unfold gK at h
 split at h
 ·cases h
 ·exact main h
 ·cases h
  intro p hb
  cases hb
 ·split at h
  ·cases h
   intro p hb
   cases hb
  ·rename_i he
   split at h
   ·cases h
    intro p hb
    exact main he p hb
   ·cases h
    intro p hb
    cases hb
  ·cases h
   exact fun p hp=>absurd hp List.not_mem_nil
theorem pn:∀ {l h:H} {b:Nat} {k:dP},(∀ p∈l,p.1≠b)→aI (aS h b k) l=aS (aI h l) b k
 |[],_,_,_,_=>rfl
 |p :: l,h,b,k,hl=>by
  show aI (aS (aS h b k) p.1 p.2) l=aS (aI (aS h p.1 p.2) l) b k
  rw [Cm _ _ _ (hl p (List.mem_cons_self ..)).symm,pn fun q hq=>hl q (List.mem_cons_of_mem _ hq)]
theorem nj:∀ {l m h:H},(∀ p∈l,∀ q∈m,p.1≠q.1)→aI (aI h l) m=aI (aI h m) l
 |[],_,_,_=>rfl
 |p :: l,m,h,hl=>by
  show aI (aI (aS h p.1 p.2) l) m=aI (aS (aI h m) p.1 p.2) l
  rw [nj fun q hq=>hl q (List.mem_cons_of_mem _ hq),pn fun q hq=>(hl p (List.mem_cons_self ..) q hq).symm]
theorem HM {st:St} {d1 d2:Option Tmp} {E1 E2:cr} (h:∀ d,d1=some d→d2≠some d) (hb:∀ p∈E1.gm,∀ q∈E2.gm,p.1≠q.1) :
  (st.app d1 E1).app d2 E2=(st.app d2 E2).app d1 E1:=by
 obtain⟨eI,heap,gs⟩:=st
 have hs:∀ s:List bz,∀ a b:Tmp,∀ e1 e2,a≠b→(s.set a e1).set b e2=(s.set b e2).set a e1:=fun s a b e1 e2 hne=>List.set_comm _ _ hne
 unfold St.app
 cases d1 <;> cases d2 <;> simp only [St.put] <;> rw [nj hb]
 rw [hs _ _ _ _ _ (fun e=>h _ rfl (by rw [e]))]
theorem ER {A:Ar} {cx:Cx} {ops:List Oper} {st:St} {p o:Oper} {up uo:Nat} {dp d:Bool} {Ep Eo:cr} (hp:gK A cx ops st up p dp=some Ep) (ho:gK A cx ops (st.app p.dst Ep) uo o d=some Eo) (hap:p.apart ops.toArray o=true)
  (f1:nI (Ep.gm.map (·.1)) (di cx (st.app p.dst Ep) uo o)=true) (f2:nI (Eo.gm.map (·.1)) (di cx st up p)=true) :
  gK A cx ops st uo o d=some Eo∧gK A cx ops (st.app o.dst Eo) up p dp=some Ep∧(st.app o.dst Eo).app p.dst Ep=(st.app p.dst Ep).app o.dst Eo∧di cx (st.app p.dst Ep) uo o=di cx st uo o∧di cx (st.app o.dst Eo) up p=di cx st up p:=by
 obtain⟨h1,h2,h3⟩:=Oper.apart_spec hap
 have a1:=re (E:=Ep) (st:=st) h1 f1
 have e1:di cx st uo o=di cx (st.app p.dst Ep) uo o:=oO (a1.symm.mono (fun t ht=>by rw [qa];exact List.mem_append_left _ ht) (fun b hb=>hb))
 rw [← e1] at a1 f1
 have e2:=oT A cx (d:=d) a1
 have a2:=re (E:=Eo) (st:=st) h3 f2
 have e3:di cx (st.app o.dst Eo) up p=di cx st up p:=oO (a2.mono (fun t ht=>by rw [qa];exact List.mem_append_left _ ht) (fun b hb=>hb))
 have e4:=oT A cx (d:=dp) a2
 rw [ho] at e2
 refine⟨e2.symm,by rw [e4,hp],(HM h2 ?_).symm,e1.symm,e3⟩
 intro p hp q hq
 have m:=Jp ho q hq
 rw [← e1] at m
 exact vj f1 p hp q.1 m
def FT (ops:List Oper) (x y:It):Prop:=x.o.apart ops.toArray y.o=true∧nI x.wb y.ft=true∧nI y.wb x.ft=true
theorem EH {A:Ar} {cx:Cx} {r:Nat} {ops:List Oper} (j:Jt) (post:List Jt):∀ (pre:List Jt) {st:St} {T:List It} {st' : St},runT A cx r ops (pre ++ j :: post) st=some (T,st') →
  ∃ T1 y T2,T=T1 ++ y :: T2∧T1.map (fun z=>(z.i,z.o))=pre.map (fun z=>(z.i,z.o))∧(y.o=j.o∧y.i=j.i)∧((∀ z∈T1,FT ops z y)→∃ E,gK A cx ops st (uid r j.i) j.o j.d=some E∧y.side=E.side∧y.wb=E.gm.map (·.1)∧y.ft=di cx st (uid r j.i) j.o∧runT A cx r ops (pre ++ post) (st.app j.o.dst E)=some (T1 ++ T2,st'))
 |[],st,T,st',h=>by
  simp only [List.nil_append,runT] at h
  split at h
  ·rename_i E hE
   split at h
   ·rename_i T2 st'' hT
    cases h
    exact⟨[],_,T2,rfl,rfl,⟨rfl,rfl⟩,fun _=>⟨E,hE,rfl,rfl,rfl,hT⟩⟩
   ·cases h
  ·cases h
 |k :: pre,st,T,st',h=>by
  simp only [List.cons_append,runT] at h
  split at h
  ·rename_i Ep hEp
   split at h
   ·rename_i T' st'' hT
    cases h
    obtain⟨T1,y,T2,rfl,e2,e3,hrest⟩:=EH j post pre hT
    refine⟨_ :: T1,y,T2,rfl,by simp [e2],e3,fun hall=>?_⟩
    obtain⟨E,g1,g2,g3,g4,g5⟩:=hrest fun z hz=>hall z (List.mem_cons_of_mem _ hz)
    obtain⟨q1,q2,q3⟩:=hall _ (List.mem_cons_self ..)
    simp only at q1 q2 q3
    rw [e3.1] at q1
    rw [g4] at q2
    rw [g3] at q3
    obtain⟨s1,s2,s3,s4,s5⟩:=ER hEp g1 q1 q2 q3
    refine⟨E,s1,g2,g3,by rw [g4,s4],?_⟩
    simp only [List.cons_append,runT,s2,s3,g5,s5]
   ·cases h
  ·cases h
theorem CC {T1 T2:List It} {y:It} (h:jV (T1 ++ y :: T2)):y.side∧jV (T1 ++ T2):=by
 induction T1 with
 |nil=>exact h
 |cons x T1 ih=>exact⟨(ih h.2).1,h.1,(ih h.2).2⟩
theorem Cr {ops:List Oper} {T1 T2:List It} {y:It} (h:eO ops (T1 ++ y :: T2)=true):(∀ z∈T1,rC ops z y=true)∧eO ops (T1 ++ T2)=true:=by
 induction T1 with
 |nil =>
  simp only [List.nil_append,eO,Bool.and_eq_true] at h
  exact⟨fun z hz=>(by cases hz),h.2⟩
 |cons x T1 ih =>
  simp only [List.cons_append,eO,Bool.and_eq_true,List.all_append,List.all_cons] at h
  obtain⟨⟨h1,h2,h3⟩,h4⟩:=h
  obtain⟨i1,i2⟩:=ih h4
  refine⟨fun z hz=>?_,?_⟩
  ·rcases List.mem_cons.1 hz with rfl|hz
   ·exact h2
   ·exact i1 z hz
  ·simp [eO,h1,h3,i2]
def vQ (L:List Jt) (listed:Array Bool):Prop:=∀ j,listed.getD j true=false↔j∈L.map (·.i)
theorem kF {listed:Array Bool} {i j:Nat} (hi:listed.getD i true=false):(listed.setIfInBounds i true).getD j true=false↔j≠i∧listed.getD j true=false:=by
 have hlt:i < listed.size:=by
  rcases Nat.lt_or_ge i listed.size with g|g
  ·exact g
  ·simp [Array.getElem?_eq_none g] at hi
 rw [pd hlt]
 by_cases h:i=j
 ·simp [h]
 ·simp [h,Ne.symm h]
theorem wP {listed:Array Bool} {k:Nat} (h:listed.getD k false=true):listed.getD k true=true:=by
 rcases Nat.lt_or_ge k listed.size with g|g
 ·simp only [Array.getD_eq_getD_getElem?,Array.getElem?_eq_getElem g,Option.getD_some] at h ⊢
  exact h
 ·simp [Array.getElem?_eq_none g] at h
theorem qb {ops:List Oper} {listed:Array Bool} (hcl:∀ i o,ops[i]? = some o→listed.getD i true=true→∀ e∈o.after,Region.binds .any e=true→listed.getD e.on true=true) :
  ∀ (f:Nat) {y x:Nat},(∀ o,ops[y]? = some o→∀ e∈o.after,Region.binds .any e=true→listed.getD e.on true=true)→Vv ops f y x=true→listed.getD x true=true
 |0,_,_,_,h=>by cases h
 |f+1,y,x,hy,h=>by
  unfold Vv at h
  split at h
  ·rename_i o ho
   obtain⟨e,he,hb⟩:=List.any_eq_true.1 h
   simp only [Bool.and_eq_true,Bool.or_eq_true] at hb
   have h1:=hy o ho e (by simpa using he) hb.1
   rcases hb.2 with h2|h2
   ·rw [aL h2] at h1
    exact h1
   ·exact qb hcl f (fun o' ho'=>hcl e.on o' ho' h1) h2
  ·cases h
theorem Oo (hc:cm P cx) {r:Nat} {ops:List Oper} {Q:Exit→Act→World→Prop} {st' : St} (hQ:∀ ν' a' w',cU bs gv st' ν' a' w'→Q .normal a' w')
  (hback:∀ i o,ops[i]? = some o→∀ e∈o.after,Region.binds .any e=true→e.on < i):∀ (fuel:Nat) {L:List Jt} {T:List It} {st:St} {ν:Nat→Option (Nat × Nat)} {a:Act} {w:World} {listed:Array Bool},
  L.length≤fuel→runT Ar.U cx r ops L st=some (T,st')→eO ops T=true→jV T→cU bs gv st ν a w→vQ L listed→(∀ x∈L,ops[x.i]? = some x.o)→L.Pairwise (fun x y=>x.i < y.i)→listed.size=ops.length→(∀ i o,ops[i]? = some o→listed.getD i true=true→∀ e∈o.after,Region.binds .any e=true→listed.getD e.on true=true) →
  wpAny P .any ops.toArray Q fuel listed a w:=by
 intro fuel
 have key:∀ {L:List Jt} {listed:Array Bool},vQ L listed→(∀ x∈L,ops[x.i]? = some x.o)→L.Pairwise (fun x y=>x.i < y.i)→listed.size=ops.length→Region.ready .any ops.toArray listed=[]→L=[]:=by
  intro L listed hl hin hs hsz hr
  cases L with
  |nil=>rfl
  |cons x L =>
   exfalso
   have hx:=hin x (List.mem_cons_self ..)
   have hun:=(hl x.i).2 (by simp)
   have:x.i∈Region.ready .any ops.toArray listed:=by
    rw [mem_ready]
    refine⟨hun,x.o,by simpa using hx,fun e he hb=>?_⟩
    have hlt:=hback x.i x.o hx e he hb
    have hxl:x.i < ops.length:=by
     rcases Nat.lt_or_ge x.i ops.length with g|g
     ·exact g
     ·rw [List.getElem?_eq_none g] at hx;cases hx
    have hne:¬listed.getD e.on true=false:=by
     intro h0
     have hm:=(hl e.on).1 h0
     simp only [List.map_cons,List.mem_cons] at hm
     rcases hm with hm|hm
     ·omega
     ·obtain⟨y,hy,hy2⟩:=List.mem_map.1 hm
      have:=(List.pairwise_cons.1 hs).1 y hy
      omega
    have h1:e.on < listed.size:=by omega
    simp only [Array.getD_eq_getD_getElem?,Array.getElem?_eq_getElem h1,Option.getD_some,Bool.not_eq_false] at hne ⊢
    exact hne
   rw [hr] at this
   cases this
 induction fuel with
 |zero =>
  intro L T st ν a w listed hf h _ _ hr hl hin hs hsz _
  have hL:L=[]:=List.length_eq_zero_iff.1 (Nat.le_zero.1 hf)
  subst hL
  cases h
  refine⟨?_,hQ _ _ _ hr⟩
  rw [List.eq_nil_iff_forall_not_mem]
  intro j hj
  have:=(hl j).1 (mem_ready.1 hj).1
  cases this
 |succ fuel ih =>
  intro L T st ν a w listed hf h hp hsd hr hl hin hs hsz hcl
  refine⟨fun hrd=>?_,fun i hi=>?_⟩
  ·have hL:=key hl hin hs hsz hrd
   subst hL
   cases h
   exact hQ _ _ _ hr
  ·obtain⟨hun,o,ho,hall⟩:=mem_ready.1 hi
   have hm:=(hl i).1 hun
   obtain⟨x,hx,hxi⟩:=List.mem_map.1 hm
   obtain⟨pre,post,hL⟩:=List.append_of_mem hx
   have hxo:=hin x hx
   rw [hxi] at hxo
   have hox:x.o=o:=by
    have:ops[i]? = some o:=by simpa using ho
    rw [this] at hxo
    exact (Option.some.inj hxo).symm
   subst hxi hox
   rw [hL] at h hs hin
   obtain⟨T1,y,T2,hT,hT1,hyo,hb⟩:=EH x post pre h
   subst hT
   obtain⟨p1,p2⟩:=Cr hp
   obtain⟨d1,d2⟩:=CC hsd
   have hok:∀ z∈T1,FT ops z y:=by
    intro z hz
    have hpz:=p1 z hz
    unfold rC at hpz
    rw [hyo.1,hyo.2,Bool.or_eq_true,Bool.or_eq_true] at hpz
    rcases hpz with hpz|hpz|hpz
    ·exfalso
     obtain⟨e,he,hb⟩:=List.any_eq_true.1 hpz
     simp only [Bool.and_eq_true] at hb
     have hon:=aL hb.2
     have hlisted:=hall e (by simpa using he) hb.1
     have hzin:z.i∈L.map (·.i):=by
      have hz1:(z.i,z.o)∈pre.map (fun z=>(z.i,z.o)):=by
       rw [← hT1]
       exact List.mem_map.2 ⟨z,hz,rfl⟩
      obtain⟨q,hq,he⟩:=List.mem_map.1 hz1
      simp only [Prod.mk.injEq] at he
      rw [hL]
      simp only [List.map_append,List.mem_append]
      exact .inl (List.mem_map.2 ⟨q,hq,he.1⟩)
     have hzun:=(hl z.i).2 hzin
     rw [← hon] at hzun
     have h1:e.on < listed.size:=by
      rcases Nat.lt_or_ge e.on listed.size with g|g
      ·exact g
      ·simp [Array.getElem?_eq_none g] at hzun
     simp only [Array.getD_eq_getD_getElem?,Array.getElem?_eq_getElem h1,Option.getD_some] at hzun hlisted
     rw [hzun] at hlisted
     cases hlisted
    ·simp only [Bool.and_eq_true] at hpz
     exact⟨by rw [hyo.1];exact hpz.1.1,hpz.1.2,hpz.2⟩
    ·exfalso
     have hzin:z.i∈L.map (·.i):=by
      have hz1:(z.i,z.o)∈pre.map (fun z=>(z.i,z.o)):=by
       rw [← hT1]
       exact List.mem_map.2 ⟨z,hz,rfl⟩
      obtain⟨q,hq,he⟩:=List.mem_map.1 hz1
      simp only [Prod.mk.injEq] at he
      rw [hL]
      simp only [List.map_append,List.mem_append]
      exact .inl (List.mem_map.2 ⟨q,hq,he.1⟩)
     have hzun:=(hl z.i).2 hzin
     have:=qb hcl 6 (fun o' ho' e he hb=>by
      rw [hxo] at ho'
      cases ho'
      exact wP (hall e he hb)) hpz
     rw [hzun] at this
     cases this
   obtain⟨E,g1,g2,_,_,g5⟩:=hb hok
   unfold wpOp
   rw [ho]
   refine zG hc hr g1 (g2 ▸ d1) fun ν' a' w' hr'=>?_
   have hs':=List.pairwise_append.1 hs
   have hs2:=List.pairwise_cons.1 hs'.2.1
   refine ih ?_ g5 p2 d2 hr' ?_ ?_ ?_ (by simpa using hsz) ?_
   ·rw [hL] at hf
    simp at hf ⊢
    omega
   ·intro j
    rw [kF hun,hl j,hL]
    simp only [List.map_append,List.map_cons,List.mem_append,List.mem_cons]
    constructor
    ·rintro⟨hne,h|h|h⟩
     ·exact .inl h
     ·exact absurd h hne
     ·exact .inr h
    ·intro h
     refine⟨?_,?_⟩
     ·rcases h with h|h
      ·obtain⟨z,hz,rfl⟩:=List.mem_map.1 h
       have:=hs'.2.2 z hz x (by simp)
       omega
      ·obtain⟨z,hz,rfl⟩:=List.mem_map.1 h
       have:=hs2.1 z hz
       omega
     ·rcases h with h|h
      ·exact .inl h
      ·exact .inr (.inr h)
   ·intro z hz
    refine hin z ?_
    rcases List.mem_append.1 hz with h|h
    ·exact List.mem_append_left _ h
    ·exact List.mem_append_right _ (List.mem_cons_of_mem _ h)
   ·exact List.pairwise_append.2 ⟨hs'.1,hs2.2,fun x hx y hy=>hs'.2.2 x hx y (List.mem_cons_of_mem _ hy)⟩
   ·intro i o ho2 hg e he hb
    rw [← Bool.not_eq_false]
    intro hf2
    obtain⟨f1,f2⟩:=(kF hun).1 hf2
    by_cases hix:i=x.i
    ·subst hix
     rw [hxo] at ho2
     cases ho2
     have:=wP (hall e he hb)
     rw [f2] at this
     cases this
    ·have hgi:listed.getD i true=true:=by
      rw [← Bool.not_eq_false]
      intro hf3
      have:=(kF hun).2 ⟨hix,hf3⟩
      rw [hg] at this
      cases this
     have:=hcl i o ho2 hgi e he hb
     rw [f2] at this
     cases this
theorem iw:∀ (l:List Oper) (k:Nat) (ds:List Bool),∀ x∈cC k l ds,k≤x.i∧l[x.i - k]? = some x.o
 |[],_,_,x,hx=>by cases hx
 |_ :: _,_,[],x,hx=>by cases hx
 |o :: l,k,d :: ds,x,hx=>by
  rcases List.mem_cons.1 hx with rfl|hx
  ·simp
  ·obtain⟨h1,h2⟩:=iw l (k+1) ds x hx
   refine⟨by omega,?_⟩
   rw [show x.i - k=(x.i - (k+1))+1 by omega]
   simpa using h2
theorem iH:∀ (l:List Oper) (k:Nat) (ds:List Bool),ds.length=l.length→(cC k l ds).map (·.i)=List.range' k l.length
 |[],_,[],_=>rfl
 |[],_,_ :: _,h=>by simp at h
 |_ :: _,_,[],h=>by simp at h
 |o :: l,k,d :: ds,h=>by simp [cC,iH l (k+1) ds (by simpa using h),List.range'_succ]
theorem jl:∀ (l:List Oper) (k:Nat) (ds:List Bool),(cC k l ds).Pairwise (fun x y=>x.i < y.i)
 |[],_,_=>.nil
 |_ :: _,_,[]=>.nil
 |o :: l,k,d :: ds=>List.pairwise_cons.2 ⟨fun y hy=>by have:=(iw l (k+1) ds y hy).1;simp only;omega,jl l (k+1) ds⟩
theorem wq:∀ {l:List Oper} {k:Nat},wI k l=true→∀ i o,l[i]? = some o→∀ e∈o.after,Region.binds .any e=true→e.on < k+i
 |[],_,_,i,o,h,_,_,_=>by simp at h
 |x :: l,k,h,i,o,ho,e,he,hb=>by
  simp only [wI,Bool.and_eq_true] at h
  cases i with
  |zero =>
   simp at ho
   subst ho
   have:=List.all_eq_true.1 h.1 e (by simpa using he)
   rw [hb] at this
   have h2:=av (by simpa using this:dr (e.on+1) k=true)
   omega
  |succ i =>
   have:=wq h.2 i o (by simpa using ho) e he hb
   omega
theorem FU (hr:cU bs gv st ν a w):cU bs gv st ν a { w with drawn:=w.drawn+1 }:=by
 obtain⟨hx,hm⟩:=mq (G:=gg bs st ν w) hr.mem (w':={ w with drawn:=w.drawn+1 }) (Below.refl w.heap.size w).drew
 exact⟨hr.size,fun t e he=>(hr.slot t e he).ext hx,hr.gs.ext hx,hr.defers,hm⟩
theorem zp (hc:cm P cx) {id:Nat} {ops:Array Oper} {Q:Exit→Act→World→Prop} {T:List It} {st' : St} {ds:List Bool} (hds:ds.length=ops.toList.length) (h:runT Ar.U cx id ops.toList (cC 0 ops.toList ds) st=some (T,st')) (hp:eO ops.toList T=true) (hb:wI 0 ops.toList=true) (hs:jV T) (hr:cU bs gv st ν a w)
  (hQ:∀ ν' a' w',cU bs gv st' ν' a' w'→Q .normal a' w'):(Code.region id ops true).wp P Q a w:=by
 refine wp_region_any hc.mixed ?_
 refine Oo (ops:=ops.toList) hc hQ (fun i o ho e he hb'=>by have:=wq hb i o ho e he hb';omega) ops.size (L:=cC 0 ops.toList ds) ?_ h hp hs (FU hr) ?_ ?_ (jl _ _ _) (by simp) ?_
 ·have:=congrArg List.length (iH ops.toList 0 ds hds)
  simp at this
  omega
 ·intro j
  rw [iH _ _ _ hds]
  simp only [List.mem_range'_1,Nat.zero_le,true_and,Nat.zero_add,Array.length_toList]
  rcases Nat.lt_or_ge j ops.size with g|g
  ·simp [g]
  ·simp [g]
 ·intro x hx
  have:=(iw _ _ _ x hx).2
  simpa using this
 ·intro i o ho hg
  have hlt:i < ops.size:=by
   rcases Nat.lt_or_ge i ops.size with g|g
   ·exact g
   ·rw [List.getElem?_eq_none (by simpa using g)] at ho;cases ho
  simp [hlt] at hg
end
end Go.Proofs.YtakebkfhigadiaaGreat.Ry
