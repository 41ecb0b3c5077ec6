/-
  Steps of walks je library functions,each builtin's run being known by an equation. No condition.
-/
import Derived.Test.YtakebkfhigadiaaGreatVnRyOp
import Derived.Shelf.RegionOpenPlain
namespace Go.Proofs.YtakebkfhigadiaaGreat.Dk
open Go Go.RowKit Ry
variable {P:Program}
theorem jQ {ops:Array Oper} {o:Oper} {a:Act} {w:World} {K:Act→World→Prop} {Q:Exit→Act→World→Prop} {E:Prop}
  (hg:o.guard=none) (d x:Operand) (dT sT:TypeId) (hop:o.op=Op.call { callee:=Callee.builtin Builtin.copy,args:=#[d,x],argTypes:=#[dT,sT] })
  (v u:Value) (hd:a.eval d=v) (hx:a.eval x=u) {v' : Value} {w' : World} (hr:(Builtin.copy_ #[dT,sT] o.type #[v,u]).run P w = .ok v' w') (hK:K (a.put o.dst v') w') :
  if Region.wanted o (yielded ops a.tmps)=true then Oper.wp P o a w K Q else E:=by
 have hw:Region.wanted o (yielded ops a.tmps)=true:=by simp [Region.wanted,hg]
 rw [if_pos hw]
 unfold Oper.wp
 simp [execOp,hop,resolve,invoke,builtin,hd,hx,hr,Result.andThen]
 exact hK
theorem yk (w:World) {o:Oper} {a:Act} {K:Act→World→Prop} {Q:Exit→Act→World→Prop} (d s:Operand) (t t' : TypeId)
  (ho:o.op = .call { callee:=.builtin .copy,args:=#[d,s],argTypes:=#[t,t'] }) (v u:Value) (hd:a.eval d=v) (hs:a.eval s=u) {v' : Value} {w' : World}
  (hr:(Builtin.copy_ #[t,t'] o.type #[v,u]).run P w = .ok v' w') (h:K (a.put o.dst v') w'):o.wp P a w K Q:=by
 unfold Oper.wp execOp
 simp only [ho,resolve,invoke,builtin,Sem.run_bind,Sem.run_pure,Result.andThen_ok,List.map_toArray,List.map_cons,List.map_nil,hd,hs,hr]
 exact h
theorem gY (w:World) {ops:Array Oper} {rest:List Oper} {o:Oper} {a:Act} {Q:Exit→Act→World→Prop} (hgd:o.guard=none) (d s:Operand) (t t' : TypeId)
  (ho:o.op = .call { callee:=.builtin .copy,args:=#[d,s],argTypes:=#[t,t'] }) (v u:Value) (hd:a.eval d=v) (hs:a.eval s=u) {v' : Value} {w' : World}
  (hr:(Builtin.copy_ #[t,t'] o.type #[v,u]).run P w = .ok v' w') (h:wpList P ops Q rest (a.put o.dst v') w'):wpList P ops Q (o :: rest) a w :=
 wpList_plain hgd fun _ hK=>yk w d s t t' ho v u hd hs hr (hK _ _ h)
theorem yD (w:World) {o:Oper} {a:Act} {K:Act→World→Prop} {Q:Exit→Act→World→Prop} (d s:Operand) (t t' : TypeId)
  (ho:o.op = .call { callee:=.builtin .append,args:=#[d,s],argTypes:=#[t,t'] }) (v u:Value) (hd:a.eval d=v) (hs:a.eval s=u) {v' : Value} {w' : World}
  (hr:(Builtin.append_ #[t,t'] o.type #[v,u]).run P w = .ok v' w') (h:K (a.put o.dst v') w'):o.wp P a w K Q:=by
 unfold Oper.wp execOp
 simp only [ho,resolve,invoke,builtin,Sem.run_bind,Sem.run_pure,Result.andThen_ok,List.map_toArray,List.map_cons,List.map_nil,hd,hs,hr]
 exact h
theorem wpList_append_run (w:World) {ops:Array Oper} {rest:List Oper} {o:Oper} {a:Act} {Q:Exit→Act→World→Prop} (hgd:o.guard=none) (d s:Operand) (t t' : TypeId)
  (ho:o.op = .call { callee:=.builtin .append,args:=#[d,s],argTypes:=#[t,t'] }) (v u:Value) (hd:a.eval d=v) (hs:a.eval s=u) {v' : Value} {w' : World}
  (hr:(Builtin.append_ #[t,t'] o.type #[v,u]).run P w = .ok v' w') (h:wpList P ops Q rest (a.put o.dst v') w'):wpList P ops Q (o :: rest) a w :=
 wpList_plain hgd fun _ hK=>yD w d s t t' ho v u hd hs hr (hK _ _ h)
theorem SH {G:Gm} (hm:Mem G) {e:TypeId} {c c' : Ct} (d:Nat) (hid:ak G.h 0=some (.row e c)) (hd:ak G.h d=none) {g cap:Nat} {pre vs rest vs' rest' : List Value} (ho:G.o 0=some (g,pre.length)) (hg:G.w.heap[g]? = some (.cells (pre ++ (vs ++ rest)).toArray e (0,0))) {W:World}
  (hW:W.heap=G.w.heap∧W.os=G.w.os∧W.tape=G.w.tape∧W.output=G.w.output) (hlen:vs'.length+rest'.length=vs.length+rest.length) (hf:aX G c' vs') (h1:∀ u∈vs',u.oneCell' = true) (hcn:c'.n≤cap) (hcap:cap≤maxLen) (hfit:pre.length+cap * c'.sz≤pre.length+(vs.length+rest.length)) (hpos:0 < cap) :
  ∃ G' : Gm,G'.w=W.setRow g (pre ++ (vs' ++ rest')).toArray∧G'.bs=G.bs∧G'.h=[(d,.row e c')]∧Mem G'∧(SC.own d).is G' (.slice (some ⟨g,pre.length,none⟩) c'.n cap):=by
 obtain⟨wh,wo,wt,wp⟩:=hW
 have hg' : W.heap[g]? = some (.cells (pre ++ (vs ++ rest)).toArray e (0,0)):=by rw [wh];exact hg
 have hsW:∀ b x,G.w.shape? b=some x→W.shape? b=some x:=fun b x h=>by unfold World.shape? at h ⊢;rw [wh];exact h
 have hsh:hY G.w (W.setRow g (pre ++ (vs' ++ rest')).toArray):=hY.trans hsW (kK hg' (by simp;omega))
 obtain⟨x2,m2⟩:=lz (k':=.row e c') hm hid rfl hd ho (Nat.le_refl _) (w':=W.setRow g (pre ++ (vs' ++ rest')).toArray) (by simpa using wo) (by simpa using wt) (by simpa using wp) (by simp [wh]) (fun b _ hb=>by rw [setRow_other _ _ _ _ hb,wh])
  (fun j hj=>by
   simp only [World.cell?,setRow_heap W g _ _ _ _ hg',hg]
   have:=iy (pre:=pre) (q:=vs' ++ rest') (q':=vs ++ rest) hj
   simpa using this)
  hsh
  (fun hx=>.inr ⟨g,pre,vs',rest',by simp,ck _ _ _ _ _ hg',hf.sub hx.toSub,h1⟩)
 have hlk:Ry.look [(d,d)] d=some d:=by simp [Ry.look]
 obtain⟨_,m3⟩:=gA (m:=[(d,d)]) (h':=[(d,.row e c')]) (fr:=true) (bs':=G.bs) m2 (by simp [kept,hlk,Ry.distinct,kg]) ⟨by
  show (match Ry.look [(d,d)] d with
   |some k=>(match ak (aS (aS G.h 0 .dead) d (.row e c')) k with
    |some b0=>eU _ b0 (.row e c')
    |none=>False)
   |none=>rz (.row e c'))
  rw [hlk]
  show (match ak (aS (aS G.h 0 .dead) d (.row e c')) d with
   |some b0=>eU _ b0 (.row e c')
   |none=>False)
  rw [aJ]
  refine⟨rfl,?_⟩
  cases c' <;> exact⟨rfl,rfl⟩,trivial⟩ rfl (.inl ⟨rfl,trivial⟩)
 refine⟨⟨eL [(d,d)] (fun k=>if k=d then some (g,pre.length) else G.o k),[(d,.row e c')],G.bs,W.setRow g (pre ++ (vs' ++ rest')).toArray⟩,rfl,rfl,rfl,m3,⟨_,_,_,rfl⟩,?_⟩
 unfold br
 rw [show ak [(d,.row e c')] d=some (.row e c') by simp [ak]]
 refine .inr ⟨g,pre.length,cap,e,pre.length+(vs.length+rest.length),by simp [eL,hlk],rfl,hcn,hcap,?_,hfit,hpos⟩
 show World.shape? (W.setRow g _) g=_
 unfold World.shape?
 rw [setRow_heap W g _ _ _ _ hg']
 simp
 omega
theorem grown {G:Gm} (hm:Mem G) {e:TypeId} {c c' : Ct} (d:Nat) (hid:ak G.h 0=some (.row e c)) (hd:ak G.h d=none) {g cap:Nat} {vs' rest' : List Value} {w' : World} (hb:Below G.w.heap.size G.w w') (hge:G.w.heap.size≤g) (hg:w'.heap[g]? = some (.cells (vs' ++ rest').toArray e (0,0)))
  (hf:aX G c' vs') (h1:∀ u∈vs',u.oneCell' = true) (hcn:c'.n≤cap) (hcap:cap≤maxLen) (hfit:cap * c'.sz≤vs'.length+rest'.length) (hpos:0 < cap) :
  ∃ G' : Gm,G'.w=w'∧G'.bs=G.bs∧G'.h=[(d,.row e c')]∧Mem G'∧(SC.own d).is G' (.slice (some ⟨g,0,none⟩) c'.n cap):=by
 obtain⟨x1,m1⟩:=bH (d:=0) (k':=.dead) (x:=none) (w':=G.w) hm rfl rfl rfl (Nat.le_refl _) (fun _ _ _=>rfl) (fun _ _ _ _ _ _=>rfl) (fun b m h=>by cases h) (fun k _ _=>by cases k <;> trivial) (fun _=>trivial)
 have d1:ak (one G 0 .dead none G.w).h d=none:=by
  show ak (aS G.h 0 .dead) d=none
  rw [aN _ _ (fun e=>by subst e;rw [hid] at hd;cases hd)]
  exact hd
 obtain⟨x2,m2⟩:=eo (G:=one G 0 .dead none G.w) (d:=d) (k':=.row e c') (x:=some (g,0)) m1 d1 hb (fun b m h=>by cases h;exact⟨hge,bU hg⟩)
  (fun hx=>.inr ⟨g,[],vs',rest',by simp [one],by show w'.heap[g]? = _;simpa using hg,(hf.sub x1.toSub).sub hx.toSub,h1⟩)
 have hlk:Ry.look [(d,d)] d=some d:=by simp [Ry.look]
 obtain⟨_,m3⟩:=gA (m:=[(d,d)]) (h':=[(d,.row e c')]) (fr:=true) (bs':=G.bs) m2 (by simp [kept,hlk,Ry.distinct,kg]) ⟨by
  show (match Ry.look [(d,d)] d with
   |some k=>(match ak (aS (aS G.h 0 .dead) d (.row e c')) k with
    |some b0=>eU _ b0 (.row e c')
    |none=>False)
   |none=>rz (.row e c'))
  rw [hlk]
  show (match ak (aS (aS G.h 0 .dead) d (.row e c')) d with
   |some b0=>eU _ b0 (.row e c')
   |none=>False)
  rw [aJ]
  refine⟨rfl,?_⟩
  cases c' <;> exact⟨rfl,rfl⟩,trivial⟩ rfl (.inl ⟨rfl,trivial⟩)
 refine⟨⟨eL [(d,d)] (one (one G 0 .dead none G.w) d (.row e c') (some (g,0)) w').o,[(d,.row e c')],G.bs,w'⟩,rfl,rfl,rfl,m3,⟨_,_,_,rfl⟩,?_⟩
 unfold br
 rw [show ak [(d,.row e c')] d=some (.row e c') by simp [ak]]
 refine .inr ⟨g,0,cap,e,vs'.length+rest'.length,by simp [eL,hlk,one],rfl,hcn,hcap,?_,by omega,hpos⟩
 show World.shape? w' g=_
 unfold World.shape?
 rw [hg]
 simp
theorem fG {w:World} {t t' e:TypeId} {i:TypeInfo} (ht:P.underlying t=some (.slice e)) (hi:P.info? e=some i) {g o n1 c1 k m:Nat} {v:Value} {ys:List Value} {cur:Array Value} {bt:TypeId} (hg:w.heap[g]? = some (.cells cur bt (0,0))) (hlen:(Builtin.lenOf v).run P w = .ok m w) (hk:min m n1=k) (hfirst:(Builtin.firstCells i.size k v).run P w = .ok ys.toArray w) (h1:∀ u∈ys,u.oneCell' = true) (hfit:o+ys.length≤cur.size) (ty:TypeId) :
  (Builtin.copy_ #[t,t'] ty #[.slice (some ⟨g,o,none⟩) n1 c1,v]).run P w = .ok (goInt k) (w.setRow g (cur.toList.take o ++ ys ++ cur.toList.drop (o+ys.length)).toArray):=by
 subst hk
 have hst:=run_storeCells_at P g o bt ys 0 cur w hg (by simpa using hfit) h1
 simp only [Nat.add_zero] at hst
 simp [Builtin.copy_,run_underlying ht,hlen,hfirst,sizeOf,typeInfo,hi,hst]
theorem iA {w:World} {sz k:Nat} {A:Addr} {n c:Nat} {ys:List Value} (hk:ys.length=k * sz) (hc:∀ t u,ys[t]? = some u→w.cell? (A.add t)=some u):(Builtin.firstCells sz k (.slice (some A) n c)).run P w = .ok ys.toArray w:=by
 have:=run_loadCells_list (P:=P) w A ys hc
 rw [hk] at this
 exact this
theorem pz {w:World} {g:Nat} {pre vs rest:List Value} {e:TypeId} (hg:w.heap[g]? = some (.cells (pre ++ (vs ++ rest)).toArray e (0,0))) {k t:Nat} {u:Value} (h:(vs.drop k)[t]? = some u):w.cell? ((⟨g,pre.length+k,none⟩:Addr).add t)=some u:=by
 rw [List.getElem?_drop] at h
 have hlt:=(List.getElem?_eq_some_iff.1 h).1
 have h5:(pre ++ (vs ++ rest))[pre.length+(k+t)]? = some u:=by
  rw [nS,List.getElem?_append_left hlt]
  exact h
 rw [cM,Nat.add_assoc]
 simp only [World.cell?,hg]
 simpa using h5
end Go.Proofs.YtakebkfhigadiaaGreat.Dk
