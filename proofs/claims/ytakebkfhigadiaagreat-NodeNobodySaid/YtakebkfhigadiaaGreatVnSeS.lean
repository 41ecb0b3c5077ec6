
/-
  senders: what is pushed,sent and acked. No condition.
-/
import Derived.Test.YtakebkfhigadiaaGreatVnSeR
set_option maxHeartbeats 2000000
set_option maxRecDepth 100000
namespace Go.Proofs.YtakebkfhigadiaaGreat.SeS
open Go Ry SeR
def AX (b s:Int) (q:List E) (c:Int) (p:List Int) (n:Int):SD:=if bZ b s q c=false∨n < 1∨2147483647 < n then zS 1 else if 16384 < p.length then zS 3 else if 256≤q.length then zS 2 else if n≤b+q.length then zS 10 else ⟨b,s,nq q ++ [[D.ints p]],c,0⟩
def Rt (b s:Int) (q:List E) (c:Int) (p:List Int) (n:Int):SD:=if bZ b s q c=false∨n < 1∨2147483647 < n then zS 1 else if 16384 < p.length then zS 3 else if 256≤q.length then zS 2 else if n≤b+q.length then zS 10 else ⟨b,s,q ++ [[D.ints p]],c,0⟩
def Jb (b:Int) (q:List E) (f:Int) (k:Nat):List E:=(List.range k).map fun j:Nat=>[D.int (b+f+(j:Int)),D.ints (rl (q.getD (f+(j:Int)).toNat []) 0)]
def Bn (b:Int) (q:List E) (f t:Int):List E:=Jb b q f (t - f).toNat
def Ps (b:Int) (q:List E) (f t:Int):Bool:=Je q && decide (0≤b∧b≤2147483647∧0≤f∧f≤100000∧t≤q.length)
def Dx (b s:Int) (q:List E) (c:Int):SD:=if bZ b s q c=false then zS 1 else if s < BS q then ⟨b,BS q,nq q,4,0⟩ else ⟨b,s,nq q,c,0⟩
def yB (b s:Int) (q:List E) (c:Int):List E:=if bZ b s q c=false then [] else Bn b q s (BS q)
def Xg (b s:Int) (q:List E) (k:Int):Bool:=decide (0≤k∧k≤s∧k≤q.length∧s≤16∧0≤b∧b≤2147483647)
def Wo (b s:Int) (q:List E) (k:Int):SD:=⟨b+k,s - k,q.drop k.toNat,if s - k=0 then 0 else 4,0⟩
def SZ (b s:Int) (q:List E) (c k:Int):SD:=if bZ b s q c=false then zS 1 else if b < k∧k≤b+s then ⟨k,s - (k - b),nq (q.drop (k - b).toNat),if s - (k - b)=0 then 0 else 4,0⟩ else ⟨b,s,nq q,c,0⟩
theorem oD {b s:Int} {q:List E} {c:Int} (h:bZ b s q c=true):Je q=true∧q.length≤256∧0≤b∧b≤2147483647∧0≤s∧s≤16∧s≤q.length∧0≤c∧c≤4∧(c=0↔s=0):=by
 simp only [bZ,Bool.and_eq_true,decide_eq_true_eq] at h
 obtain⟨h0,h1⟩:=h
 have h0:=of_decide_eq_true h0
 refine⟨decide_eq_true ⟨by omega,fun y hy=>?_⟩,h1.2.2.1,h1.1,h1.2.1,h1.2.2.2.1,h1.2.2.2.2.1,h1.2.2.2.2.2.1,h1.2.2.2.2.2.2⟩
 have:=h0 y hy
 omega
theorem MQ (q:List E):BS q≤16∧BS q≤q.length∧0≤BS q:=by
 unfold BS
 split <;> omega
theorem Fg (b:Int) (q:List E) (f:Int) (k:Nat):(Jb b q f k).length=k:=by simp [Jb]
theorem ou (b:Int) (q:List E) (f t:Int):(Bn b q f t).length=(t - f).toNat:=Fg _ _ _ _
theorem Kv (b:Int) (q:List E) (f i:Int) (h:f≤i):Jb b q f (i - f).toNat ++ [[D.int (b+i),D.ints (rl (q.getD i.toNat []) 0)]]=Jb b q f (i+1 - f).toNat:=by
 have e:(i+1 - f).toNat=(i - f).toNat+1:=by omega
 have e2:f+(((i - f).toNat:Nat):Int)=i:=by omega
 have e3:b+f+(((i - f).toNat:Nat):Int)=b+i:=by omega
 rw [e]
 unfold Jb
 rw [List.range_succ,List.map_append,List.map_cons,List.map_nil,e2,e3]
structure XN where
 i:Int
 o:List E
def Ja (b:Int) (q:List E) (f t:Int) (y:XN):Prop:=f≤y.i∧(y.i≤t∨y.i=f)∧y.o=Jb b q f (y.i - f).toNat
def Qn (t:Int) (y:XN):Nat:=(t - y.i).toNat
noncomputable def Wb (b s:Int) (q:List E) (c t:Int) (y:XN):St:=bW Tryz.f153.ntmps [(2,.val (.int .i64 t)),(3,.ptr 1 0),(7,.sl (some (2,243)) (.ae (.int .i64 (.ints .u8 .nil)) y.o)),(8,.val (.int .i64 y.i))] [(1,.cells 51 [.val (.int .i64 b),.val (.int .i64 s),.sl none (.ae (.ints .u8 .nil) q),.val (.int .i64 c)]),(2,.tok)] [Any,Any,Any]
def WC (st:St):XN:=⟨bA st 8,oV st 7⟩
theorem La (b:Int) (q:List E) (f t:Int):Ja b q f t ⟨f,[]⟩:=⟨Int.le_refl _,.inr rfl,by simp [Jb]⟩
theorem nZ (b:Int) (q:List E) (f t i:Int) (o:List E) (hk:Ps b q f t=true) (hq:Ja b q f t ⟨i,o⟩) (h:i < t):0≤i∧i < q.length∧aB .add .i64 b i=b+i∧(rl (q.getD i.toNat []) 0).length≤1000000∧o.length≤100000∧Ja b q f t ⟨i+1,o ++ [[D.int (b+i),D.ints (rl (q.getD i.toNat []) 0)]]⟩:=by
 obtain⟨h0,h1,h2⟩:=hq
 simp only at h0 h1 h2
 simp only [Ps,Bool.and_eq_true,decide_eq_true_eq] at hk
 have ho:=of_decide_eq_true hk.1
 have hk:=hk.2
 refine⟨by omega,by omega,by rw [aY,wr _ (by omega) (by omega)],ho.2 _ (mU (by omega) (by omega)),by rw [h2,Fg];omega,by simp only;omega,.inl (by simp only;omega),?_⟩
 simp only
 rw [h2,Kv b q f i h0]
theorem uC (b:Int) (q:List E) (f t i:Int) (o:List E) (hq:Ja b q f t ⟨i,o⟩) (h:¬i < t):o=Bn b q f t:=by
 obtain⟨h0,h1,h2⟩:=hq
 simp only at h0 h1 h2
 rw [h2]
 unfold Bn
 congr 1
 omega
theorem Rb (b:Int) (q:List E) (f t:Int) (h0:0≤f) (ht:t≤q.length):Bn b (nq q) f t=Bn b q f t:=by
 unfold Bn Jb
 apply List.map_congr_left
 intro j hj
 have hj:=List.mem_range.1 hj
 have hi:(f+(j:Int)).toNat < q.length:=by omega
 have e:rl ((nq q).getD (f+(j:Int)).toNat []) 0=rl (q.getD (f+(j:Int)).toNat []) 0:=by
  rw [List.getD_eq_getElem?_getD,List.getD_eq_getElem?_getD,nq,List.getElem?_map,List.getElem?_eq_getElem hi]
  rfl
 rw [e]
structure Gs where
 Rr:List E→Bool
 Xk:Int→Int→List E→Int→List Int→Int→SD
 VH:Int→Int→List E→Int→List Int→Int→SD
 SU:Int→List E→Int→Int→List E
 II:Int→List E→Int→Int→Bool
 jX:Int→Int→List E→Int→SD
 Hx:Int→Int→List E→Int→List E
 YK:Int→Int→List E→Int→SD
 VQ:Int→Int→List E→Int→Bool
 Yb:Int→Int→List E→Int→Int→SD
def Gs.U:Gs:=⟨fun q=>decide (q.length≤100000),AX,Rt,Bn,Ps,Dx,yB,Wo,Xg,SZ⟩
def ni (F:Gs):aW:=fun xs h=>match xs,h with
 |[.agg [.val (.int .i64 v_b),.val (.int .i64 _),.sl none (.ae (.ints .u8 .nil) v_q),.val (.int .i64 _)],.one (.val (.int .i64 f)),.one (.val (.int .i64 t))],[]=>some ⟨F.II v_b v_q f t=true,.sa (.one (.sl none (.ae (.int .i64 (.ints .u8 .nil)) (F.SU v_b v_q f t)))),[],[Any,Any,Any]⟩
 |_,_=>none
theorem IL (v_b:Int) (v_s:Int) (v_q:List E) (v_c:Int) (f:Int) (t:Int) (hC:Gs.U.II v_b v_q f t=true):aR [(93,fA Fs.U)] Tryz.f153 [.agg [.val (.int .i64 v_b),.val (.int .i64 v_s),.sl none (.ae (.ints .u8 .nil) v_q),.val (.int .i64 v_c)],.one (.val (.int .i64 f)),.one (.val (.int .i64 t))] [] ⟨Gs.U.II v_b v_q f t=true,.sa (.one (.sl none (.ae (.int .i64 (.ints .u8 .nil)) (Gs.U.SU v_b v_q f t)))),[],[Any,Any,Any]⟩:=by
 intro b gv
 have hk:Ps v_b v_q f t=true:=hC
 have hlq:v_q.length≤100000:=by
  have h:=hk
  simp only [Ps,Bool.and_eq_true] at h
  exact (of_decide_eq_true h.1).1
 have hfs:=(af.cons fv af.nil rfl)
 generalize hF:Gs.U=F at hC hfs ⊢
 generalize hG0:Fs.U=G0 at hC hfs ⊢
 generalize hA:Ar.U=A
 generalize hL:Lp _ _ _=L
 obtain⟨Z,zq⟩:=aH
 refine aA (aa hL) zq rfl ?_
 repeat' (first|(refine ay zq ?_;try dsimp only)|refine ax zq ?_ (aa hL)|refine az zq ?_|refine aw ?_|refine aq ?_|refine au ?_|refine ar ?_|refine al rfl ?_|refine ai rfl ?_|refine aj rfl ?_|(refine Cd.mk ?_;cbv)|(refine aF.mk ?_;cbv)|(refine aK.mk ?_;cbv)|exact trivial|refine And.intro ?_ ?_|refine aZ fun _=>?_|refine ba fun _=>?_)
 subst hL
 refine bj (bo hfs) (Ja v_b v_q f t) (Wb v_b v_s v_q v_c t) (Qn t) WC ⟨f,[]⟩ ?_ ?_ ?_
 ·exact La v_b v_q f t
 ·cbv
  repeat' (first|exact trivial|exact rfl|refine And.intro ?_ ?_)
 rintro⟨i,o⟩ hq O hO
 have hst:=nZ v_b v_q f t i o hk hq
 have hen:=uC v_b v_q f t i o hq
 have q0:=hq.1
 dsimp only at q0
 have hb:=of_decide_eq_true ((Bool.and_eq_true _ _ ▸ (show (Je v_q && decide (0≤v_b∧v_b≤2147483647∧0≤f∧f≤100000∧t≤v_q.length))=true from hk)).2)
 subst hA
 generalize hA:Ar.U=A
 generalize hL:Lp _ _ _=L
 refine aT zq ?_
 repeat' (first|(refine ay zq ?_;try dsimp only)|refine ax zq ?_ (aa hL)|refine az zq ?_|refine aw ?_|refine aq ?_|refine au ?_|refine ar ?_|refine al rfl ?_|refine ai rfl ?_|refine aj rfl ?_|(refine Cd.mk ?_;cbv)|(refine aF.mk ?_;cbv)|(refine aK.mk ?_;cbv)|exact trivial|refine And.intro ?_ ?_|refine aZ fun _=>?_|refine ba fun _=>?_)
 all_goals (clear hL hfs zq Z hq;subst hA hF hG0 hO;simp only [Gs.U,Fs.U,Ar.U] at * <;> grind [ah,aY,wr,Qn])
theorem mR:aC Tryz.prog 153 (ni Gs.U):=by
 refine aD (af.cons fv af.nil rfl) Tryz.func153 rfl rfl fun xs h p hp=>?_
 unfold ni at hp
 split at hp
 ·cases hp
  exact⟨av rfl,fun hC _=>IL _ _ _ _ _ _ hC⟩
 ·cases hp
def tC (F:Gs):aW:=fun xs h=>match xs,h with
 |[.agg [.val (.int .i64 v_b),.val (.int .i64 v_s),.sl none (.ae (.ints .u8 .nil) v_q),.val (.int .i64 v_c)]],[]=>some ⟨F.Rr v_q=true,.bB [.agg [.val (.int .i64 (F.jX v_b v_s v_q v_c).b),.val (.int .i64 (F.jX v_b v_s v_q v_c).s),.sl none (.ae (.ints .u8 .nil) (F.jX v_b v_s v_q v_c).q),.val (.int .i64 (F.jX v_b v_s v_q v_c).c)],.one (.sl none (.ae (.int .i64 (.ints .u8 .nil)) (F.Hx v_b v_s v_q v_c))),I (F.jX v_b v_s v_q v_c).e],[],[Any]⟩
 |_,_=>none
theorem JP (v_b:Int) (v_s:Int) (v_q:List E) (v_c:Int) (hC:Gs.U.Rr v_q=true):aR [(125,eh Fs.U),(178,LS Fs.U),(153,ni Gs.U),(152,lN Fs.U)] Tryz.f143 [.agg [.val (.int .i64 v_b),.val (.int .i64 v_s),.sl none (.ae (.ints .u8 .nil) v_q),.val (.int .i64 v_c)]] [] ⟨Gs.U.Rr v_q=true,.bB [.agg [.val (.int .i64 (Gs.U.jX v_b v_s v_q v_c).b),.val (.int .i64 (Gs.U.jX v_b v_s v_q v_c).s),.sl none (.ae (.ints .u8 .nil) (Gs.U.jX v_b v_s v_q v_c).q),.val (.int .i64 (Gs.U.jX v_b v_s v_q v_c).c)],.one (.sl none (.ae (.int .i64 (.ints .u8 .nil)) (Gs.U.Hx v_b v_s v_q v_c))),I (Gs.U.jX v_b v_s v_q v_c).e],[],[Any]⟩:=by
 intro b gv
 have hlq:v_q.length≤100000:=of_decide_eq_true (show decide (v_q.length≤100000)=true from hC)
 have hm:=oD (b:=v_b) (s:=v_s) (q:=v_q) (c:=v_c)
 have hb:=MQ v_q
 have hnl:=ou v_b v_q v_s (BS v_q)
 have hfs:=(af.cons cW (af.cons AA (af.cons mR (af.cons jw af.nil rfl) rfl) rfl) rfl)
 generalize hF:Gs.U=F at hC hfs ⊢
 generalize hG0:Fs.U=G0 at hC hfs ⊢
 generalize hA:Ar.U=A
 generalize hL:Lp _ _ _=L
 obtain⟨Z,zq⟩:=aH
 refine aA (aa hL) zq rfl ?_
 repeat' (first|(refine ay zq ?_;try dsimp only)|refine ax zq ?_ (aa hL)|refine az zq ?_|refine aw ?_|refine aq ?_|refine au ?_|refine ar ?_|refine al rfl ?_|refine ai rfl ?_|refine aj rfl ?_|(refine Cd.mk ?_;cbv)|(refine aF.mk ?_;cbv)|(refine aK.mk ?_;cbv)|exact trivial|refine And.intro ?_ ?_|refine aZ fun _=>?_|refine ba fun _=>?_)
 all_goals
  clear hL zq Z hfs
  subst hF hA hG0
  simp only [Gs.U,Fs.U,Ar.U] at *
  try (grind [ah,aY,wr,Dx,yB,zS,RP,Ps])
theorem vM:aC Tryz.prog 143 (tC Gs.U):=by
 refine aD (af.cons cW (af.cons AA (af.cons mR (af.cons jw af.nil rfl) rfl) rfl) rfl) Tryz.func143 rfl rfl fun xs h p hp=>?_
 unfold tC at hp
 split at hp
 ·cases hp
  exact⟨av rfl,fun hC _=>JP _ _ _ _ hC⟩
 ·cases hp
end Go.Proofs.YtakebkfhigadiaaGreat.SeS
