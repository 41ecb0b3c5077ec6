/-
  Steps of walks El library functions,each builtin's run being known by an equation. No condition.
-/
import Derived.Test.YtelhldgdnlppfaaGreatVsRyOp
import Derived.Shelf.RegionOpenPlain
namespace Go.Proofs.YtelhldgdnlppfaaGreat.Dk
open Go Go.RowKit Ry
variable {P:Program}
theorem kh {ops:Array Oper} {o:Oper} {a:Act} {w:World} {K:Act→World→Prop} {Q:Exit→Act→World→Prop} {E:Prop}
  (hg:o.guard=none) (d x:Operand) (dT sT:TypeId) (hop:o.op=Op.call { callee:=Callee.builtin Builtin.append,args:=#[d,x],argTypes:=#[dT,sT] })
  (v u:Value) (hd:a.eval d=v) (hx:a.eval x=u) {v' : Value} {w' : World} (hr:(Builtin.append_ #[dT,sT] o.type #[v,u]).run P w = .ok v' w') (hK:K (a.put o.dst v') w') :
  if Region.wanted o (yielded ops a.tmps)=true then Oper.wp P o a w K Q else E:=by
 have hw:Region.wanted o (yielded ops a.tmps)=true:=by simp [Region.wanted,hg]
 rw [if_pos hw];unfold Oper.wp;simp [execOp,hop,resolve,invoke,builtin,hd,hx,hr,Result.andThen];exact hK
theorem mv {ops:Array Oper} {o:Oper} {a:Act} {w:World} {K:Act→World→Prop} {Q:Exit→Act→World→Prop} {E:Prop}
  (hg:o.guard=none) (d x:Operand) (dT sT:TypeId) (hop:o.op=Op.call { callee:=Callee.builtin Builtin.copy,args:=#[d,x],argTypes:=#[dT,sT] })
  (v u:Value) (hd:a.eval d=v) (hx:a.eval x=u) {v' : Value} {w' : World} (hr:(Builtin.copy_ #[dT,sT] o.type #[v,u]).run P w = .ok v' w') (hK:K (a.put o.dst v') w') :
  if Region.wanted o (yielded ops a.tmps)=true then Oper.wp P o a w K Q else E:=by
 have hw:Region.wanted o (yielded ops a.tmps)=true:=by simp [Region.wanted,hg]
 rw [if_pos hw];unfold Oper.wp;simp [execOp,hop,resolve,invoke,builtin,hd,hx,hr,Result.andThen];exact hK
theorem Ej (w:World) {o:Oper} {a:Act} {K:Act→World→Prop} {Q:Exit→Act→World→Prop} (d s:Operand) (t t' : TypeId)
  (ho:o.op = .call { callee:=.builtin .copy,args:=#[d,s],argTypes:=#[t,t'] }) (v u:Value) (hd:a.eval d=v) (hs:a.eval s=u) {v' : Value} {w' : World}
  (hr:(Builtin.copy_ #[t,t'] o.type #[v,u]).run P w = .ok v' w') (h:K (a.put o.dst v') w'):o.wp P a w K Q:=by
 unfold Oper.wp execOp;simp only [ho,resolve,invoke,builtin,Sem.run_bind,Sem.run_pure,Result.andThen_ok,List.map_toArray,List.map_cons,List.map_nil,hd,hs,hr];exact h
theorem km (w:World) {ops:Array Oper} {rest:List Oper} {o:Oper} {a:Act} {Q:Exit→Act→World→Prop} (hgd:o.guard=none) (d s:Operand) (t t' : TypeId)
  (ho:o.op = .call { callee:=.builtin .copy,args:=#[d,s],argTypes:=#[t,t'] }) (v u:Value) (hd:a.eval d=v) (hs:a.eval s=u) {v' : Value} {w' : World}
  (hr:(Builtin.copy_ #[t,t'] o.type #[v,u]).run P w = .ok v' w') (h:wpList P ops Q rest (a.put o.dst v') w'):wpList P ops Q (o :: rest) a w :=
 wpList_plain hgd fun _ hK=>Ej w d s t t' ho v u hd hs hr (hK _ _ h)
theorem EW (w:World) {o:Oper} {a:Act} {K:Act→World→Prop} {Q:Exit→Act→World→Prop} (d s:Operand) (t t' : TypeId)
  (ho:o.op = .call { callee:=.builtin .append,args:=#[d,s],argTypes:=#[t,t'] }) (v u:Value) (hd:a.eval d=v) (hs:a.eval s=u) {v' : Value} {w' : World}
  (hr:(Builtin.append_ #[t,t'] o.type #[v,u]).run P w = .ok v' w') (h:K (a.put o.dst v') w'):o.wp P a w K Q:=by
 unfold Oper.wp execOp;simp only [ho,resolve,invoke,builtin,Sem.run_bind,Sem.run_pure,Result.andThen_ok,List.map_toArray,List.map_cons,List.map_nil,hd,hs,hr];exact h
theorem wpList_append_run (w:World) {ops:Array Oper} {rest:List Oper} {o:Oper} {a:Act} {Q:Exit→Act→World→Prop} (hgd:o.guard=none) (d s:Operand) (t t' : TypeId)
  (ho:o.op = .call { callee:=.builtin .append,args:=#[d,s],argTypes:=#[t,t'] }) (v u:Value) (hd:a.eval d=v) (hs:a.eval s=u) {v' : Value} {w' : World}
  (hr:(Builtin.append_ #[t,t'] o.type #[v,u]).run P w = .ok v' w') (h:wpList P ops Q rest (a.put o.dst v') w'):wpList P ops Q (o :: rest) a w :=
 wpList_plain hgd fun _ hK=>EW w d s t t' ho v u hd hs hr (hK _ _ h)
theorem pb {w:World} {t e:TypeId} {i:TypeInfo} {z:Value} (ht:P.underlying t=some (.slice e)) (hi:P.info? e=some i) (hz:i.zero=some z) (h1:∀ u∈z.cells,u.oneCell' = true) {g off n cap:Nat} {cur:Array Value} {bt:TypeId} (hg:w.heap[g]? = some (.cells cur bt (0,0))) (hfit:off+n * z.cells.size≤cur.size) (hn:0 < n) (ty:TypeId) :
  (Builtin.clear_ #[t] ty #[.slice (some ⟨g,off,none⟩) n cap]).run P w = .ok (.tuple #[]) (w.setRow g (cur.toList.take off ++ (Builtin.zeroCells z.cells n).toList ++ cur.toList.drop (off+n * z.cells.size)).toArray):=by
 have hzl:(Builtin.zeroCells z.cells n).toList.length=n * z.cells.size:=by simp [Builtin.zeroCells]
 have hst:=run_storeCells_at P g off bt (Builtin.zeroCells z.cells n).toList 0 cur w hg (by rw [hzl];simpa using hfit) (fun u hu=>by
  simp [Builtin.zeroCells] at hu;obtain⟨k,hk,rfl⟩:=hu;have hpos:0 < z.cells.size:=by
   rcases Nat.eq_zero_or_pos z.cells.size with h|h
   ·rw [h] at hk;omega
   ·exact h
  have hlt:=Nat.mod_lt k hpos;rw [getElem!_pos z.cells _ hlt];exact h1 _ (Array.getElem_mem hlt))
 simp only [Nat.add_zero,hzl] at hst;obtain⟨m,rfl⟩:∃ m,n=m+1:=⟨n - 1,by omega⟩;have hzero:∀ w:World,(zeroValue e).run P w = .ok z w:=fun w=>by simp [zeroValue,typeInfo,hi,hz]
 simp [Builtin.clear_,run_underlying ht,hzero,hst]
theorem Mv {G:Gm} (hm:Mem G) {e:TypeId} {c c' : Ct} (d:Nat) (hid:ar G.h 0=some (.row e c)) (hd:ar G.h d=none) {g cap:Nat} {pre vs rest vs' rest' : List Value} (ho:G.o 0=some (g,pre.length)) (hg:G.w.heap[g]? = some (.cells (pre ++ (vs ++ rest)).toArray e (0,0))) {W:World}
  (hW:W.heap=G.w.heap∧W.os=G.w.os∧W.tape=G.w.tape∧W.output=G.w.output) (hlen:vs'.length+rest'.length=vs.length+rest.length) (hf:aV G c' vs') (h1:∀ u∈vs',u.oneCell' = true) (hcn:c'.n≤cap) (hcap:cap≤maxLen) (hfit:pre.length+cap * c'.sz≤pre.length+(vs.length+rest.length)) (hpos:0 < cap) :
  ∃ G' : Gm,G'.w=W.setRow g (pre ++ (vs' ++ rest')).toArray∧G'.bs=G.bs∧G'.h=[(d,.row e c')]∧Mem G'∧(SC.own d).is G' (.slice (some ⟨g,pre.length,none⟩) c'.n cap):=by
 obtain⟨wh,wo,wt,wp⟩:=hW;have hg' : W.heap[g]? = some (.cells (pre ++ (vs ++ rest)).toArray e (0,0)):=by rw [wh];exact hg
 have hsW:∀ b x,G.w.shape? b=some x→W.shape? b=some x:=fun b x h=>by unfold World.shape? at h ⊢;rw [wh];exact h
 have hsh:ku G.w (W.setRow g (pre ++ (vs' ++ rest')).toArray):=ku.trans hsW (pQ hg' (by simp;omega));obtain⟨x2,m2⟩:=oE (k':=.row e c') hm hid rfl hd ho (Nat.le_refl _) (w':=W.setRow g (pre ++ (vs' ++ rest')).toArray) (by simpa using wo) (by simpa using wt) (by simpa using wp) (by simp [wh]) (fun b _ hb=>by rw [setRow_other _ _ _ _ hb,wh])
  (fun j hj=>by
   simp only [World.cell?,setRow_heap W g _ _ _ _ hg',hg];have:=lF (pre:=pre) (q:=vs' ++ rest') (q':=vs ++ rest) hj;simpa using this)
  hsh
  (fun hx=>.inr ⟨g,pre,vs',rest',by simp,bZ _ _ _ _ _ hg',hf.sub hx.toSub,h1⟩)
 have hlk:Ry.look [(d,d)] d=some d:=by simp [Ry.look]
 obtain⟨_,m3⟩:=iX (m:=[(d,d)]) (h':=[(d,.row e c')]) (fr:=true) (bs':=G.bs) m2 (by simp [kept,hlk,Ry.distinct,nP]) ⟨by
  show (match Ry.look [(d,d)] d with
   |some k=>(match ar (aM (aM G.h 0 .dead) d (.row e c')) k with
    |some b0=>gH _ b0 (.row e c')
    |none=>False)
   |none=>wz (.row e c'))
  rw [hlk];show (match ar (aM (aM G.h 0 .dead) d (.row e c')) d with
   |some b0=>gH _ b0 (.row e c')
   |none=>False)
  rw [aG];refine⟨rfl,?_⟩;cases c' <;> exact⟨rfl,rfl⟩,trivial⟩ rfl (.inl ⟨rfl,trivial⟩)
 refine⟨⟨fq [(d,d)] (fun k=>if k=d then some (g,pre.length) else G.o k),[(d,.row e c')],G.bs,W.setRow g (pre ++ (vs' ++ rest')).toArray⟩,rfl,rfl,rfl,m3,⟨_,_,_,rfl⟩,?_⟩;unfold bp;rw [show ar [(d,.row e c')] d=some (.row e c') by simp [ar]];refine .inr ⟨g,pre.length,cap,e,pre.length+(vs.length+rest.length),by simp [fq,hlk],rfl,hcn,hcap,?_,hfit,hpos⟩;show World.shape? (W.setRow g _) g=_;unfold World.shape?;rw [setRow_heap W g _ _ _ _ hg'];simp;omega
theorem grown {G:Gm} (hm:Mem G) {e:TypeId} {c c' : Ct} (d:Nat) (hid:ar G.h 0=some (.row e c)) (hd:ar G.h d=none) {g cap:Nat} {vs' rest' : List Value} {w' : World} (hb:Below G.w.heap.size G.w w') (hge:G.w.heap.size≤g) (hg:w'.heap[g]? = some (.cells (vs' ++ rest').toArray e (0,0)))
  (hf:aV G c' vs') (h1:∀ u∈vs',u.oneCell' = true) (hcn:c'.n≤cap) (hcap:cap≤maxLen) (hfit:cap * c'.sz≤vs'.length+rest'.length) (hpos:0 < cap) :
  ∃ G' : Gm,G'.w=w'∧G'.bs=G.bs∧G'.h=[(d,.row e c')]∧Mem G'∧(SC.own d).is G' (.slice (some ⟨g,0,none⟩) c'.n cap):=by
 obtain⟨x1,m1⟩:=bQ (d:=0) (k':=.dead) (x:=none) (w':=G.w) hm rfl rfl rfl (Nat.le_refl _) (fun _ _ _=>rfl) (fun _ _ _ _ _ _=>rfl) (fun b m h=>by cases h) (fun k _ _=>by cases k <;> trivial) (fun _=>trivial);have d1:ar (one G 0 .dead none G.w).h d=none:=by
  show ar (aM G.h 0 .dead) d=none;rw [aI _ _ (fun e=>by subst e;rw [hid] at hd;cases hd)];exact hd
 obtain⟨x2,m2⟩:=fL (G:=one G 0 .dead none G.w) (d:=d) (k':=.row e c') (x:=some (g,0)) m1 d1 hb (fun b m h=>by cases h;exact⟨hge,cm hg⟩)
  (fun hx=>.inr ⟨g,[],vs',rest',by simp [one],by show w'.heap[g]? = _;simpa using hg,(hf.sub x1.toSub).sub hx.toSub,h1⟩)
 have hlk:Ry.look [(d,d)] d=some d:=by simp [Ry.look]
 obtain⟨_,m3⟩:=iX (m:=[(d,d)]) (h':=[(d,.row e c')]) (fr:=true) (bs':=G.bs) m2 (by simp [kept,hlk,Ry.distinct,nP]) ⟨by
  show (match Ry.look [(d,d)] d with
   |some k=>(match ar (aM (aM G.h 0 .dead) d (.row e c')) k with
    |some b0=>gH _ b0 (.row e c')
    |none=>False)
   |none=>wz (.row e c'))
  rw [hlk];show (match ar (aM (aM G.h 0 .dead) d (.row e c')) d with
   |some b0=>gH _ b0 (.row e c')
   |none=>False)
  rw [aG];refine⟨rfl,?_⟩;cases c' <;> exact⟨rfl,rfl⟩,trivial⟩ rfl (.inl ⟨rfl,trivial⟩)
 refine⟨⟨fq [(d,d)] (one (one G 0 .dead none G.w) d (.row e c') (some (g,0)) w').o,[(d,.row e c')],G.bs,w'⟩,rfl,rfl,rfl,m3,⟨_,_,_,rfl⟩,?_⟩;unfold bp;rw [show ar [(d,.row e c')] d=some (.row e c') by simp [ar]];refine .inr ⟨g,0,cap,e,vs'.length+rest'.length,by simp [fq,hlk,one],rfl,hcn,hcap,?_,by omega,hpos⟩;show World.shape? w' g=_;unfold World.shape?;rw [hg];simp
theorem iz {w:World} {t t' e:TypeId} {i:TypeInfo} (ht:P.underlying t=some (.slice e)) (hi:P.info? e=some i) {g o n1 c1 k m:Nat} {v:Value} {ys:List Value} {cur:Array Value} {bt:TypeId} (hg:w.heap[g]? = some (.cells cur bt (0,0))) (hlen:(Builtin.lenOf v).run P w = .ok m w) (hk:min m n1=k) (hfirst:(Builtin.firstCells i.size k v).run P w = .ok ys.toArray w) (h1:∀ u∈ys,u.oneCell' = true) (hfit:o+ys.length≤cur.size) (ty:TypeId) :
  (Builtin.copy_ #[t,t'] ty #[.slice (some ⟨g,o,none⟩) n1 c1,v]).run P w = .ok (goInt k) (w.setRow g (cur.toList.take o ++ ys ++ cur.toList.drop (o+ys.length)).toArray):=by
 subst hk;have hst:=run_storeCells_at P g o bt ys 0 cur w hg (by simpa using hfit) h1;simp only [Nat.add_zero] at hst;simp [Builtin.copy_,run_underlying ht,hlen,hfirst,sizeOf,typeInfo,hi,hst]
theorem kL {w:World} {sz k:Nat} {A:Addr} {n c:Nat} {ys:List Value} (hk:ys.length=k * sz) (hc:∀ t u,ys[t]? = some u→w.cell? (A.add t)=some u):(Builtin.firstCells sz k (.slice (some A) n c)).run P w = .ok ys.toArray w:=by
 have:=run_loadCells_list (P:=P) w A ys hc;rw [hk] at this;exact this
theorem tE {w:World} {g:Nat} {pre vs rest:List Value} {e:TypeId} (hg:w.heap[g]? = some (.cells (pre ++ (vs ++ rest)).toArray e (0,0))) {k t:Nat} {u:Value} (h:(vs.drop k)[t]? = some u):w.cell? ((⟨g,pre.length+k,none⟩:Addr).add t)=some u:=by
 rw [List.getElem?_drop] at h;have hlt:=(List.getElem?_eq_some_iff.1 h).1;have h5:(pre ++ (vs ++ rest))[pre.length+(k+t)]? = some u:=by
  rw [lL,List.getElem?_append_left hlt];exact h
 rw [cS,Nat.add_assoc];simp only [World.cell?,hg];simpa using h5
end Go.Proofs.YtelhldgdnlppfaaGreat.Dk
