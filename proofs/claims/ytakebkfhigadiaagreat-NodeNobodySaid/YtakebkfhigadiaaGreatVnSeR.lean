
/-
  senders je the reckoner. No condition.
-/
import Derived.Test.YtakebkfhigadiaaGreatVnRyOp
set_option maxRecDepth 100000
set_option maxHeartbeats 2000000
namespace Go.Proofs.YtakebkfhigadiaaGreat.SeR
open Go Ry
structure SD where
 b:Int
 s:Int
 q:List E
 c:Int
 e:Int
def pq (q:List E):List (List Int):=q.map fun y=>rl y 0
def nq (q:List E):List E:=q.map fun y=>[D.ints (rl y 0)]
def IZ (q:List E):Bool:=decide (∀ y∈q,(rl y 0).length≤16384)
def YL (q:List E):Bool:=decide (∀ y∈q,∀ x∈rl y 0,0≤x∧x≤255)
def Je (q:List E):Bool:=decide (q.length≤100000∧∀ y∈q,(rl y 0).length≤1000000)
def bZ (b s:Int) (q:List E) (c:Int):Bool:=IZ q && decide (0≤b∧b≤2147483647∧q.length≤256∧0≤s∧s≤16∧s≤q.length∧0≤c∧c≤4∧(c=0↔s=0))
def RP (b s:Int) (q:List E) (c:Int):Int:=if bZ b s q c=true then 0 else 1
def BS (q:List E):Int:=if (q.length:Int) < 16 then q.length else 16
def zS (e:Int):SD:=⟨0,0,[],0,e⟩
theorem GG (q:List E):(pq q).length=q.length:=by simp [pq]
theorem um (q:List E):(nq q).length=q.length:=by simp [nq]
theorem NF (q:List E):pq (nq q)=pq q:=by simp [pq,nq,rl]
theorem mU {q:List E} {i:Int} (h0:0≤i) (h:i < q.length):q.getD i.toNat []∈q:=by
 have hi:i.toNat < q.length:=by omega
 rw [List.getD_eq_getElem?_getD,List.getElem?_eq_getElem hi]
 exact List.getElem_mem hi
structure XI where
 i:Int
theorem dh (l:List E) (i:Int) (h0:0≤i) (h:i < l.length):l.take (i+1).toNat=l.take i.toNat ++ [l.getD i.toNat []]:=by
 have e:(i+1).toNat=i.toNat+1:=by omega
 have hi:i.toNat < l.length:=by omega
 rw [e,List.take_add_one,List.getD_eq_getElem?_getD,List.getElem?_eq_getElem hi]
 rfl
def DY (q:List E) (y:XI):Prop:=0≤y.i∧y.i≤q.length∧∀ y'∈q.take y.i.toNat,(rl y' 0).length≤16384
theorem Km (q:List E):DY q ⟨0⟩:=⟨Int.le_refl 0,Int.natCast_nonneg _,fun y h=>by cases h⟩
theorem tl (q:List E) (i:Int) (hq:DY q ⟨i⟩) (h:i < q.length):((rl (q.getD i.toNat []) 0).length≤16384→DY q ⟨i+1⟩)∧(¬(rl (q.getD i.toNat []) 0).length≤16384→IZ q=false):=by
 obtain⟨h0,h1,h2⟩:=hq
 simp only at h0 h1 h2
 refine⟨fun g=>⟨by simp only;omega,by simp only;omega,fun y hy=>?_⟩,fun g=>decide_eq_false fun w=>g (w _ (mU h0 h))⟩
 rw [dh q i h0 h] at hy
 rcases List.mem_append.1 hy with hy|hy
 ·exact h2 y hy
 ·rw [List.mem_singleton] at hy
  rw [hy]
  exact g
theorem RN (q:List E) (i:Int) (hq:DY q ⟨i⟩) (h:i=q.length):IZ q=true:=by
 obtain⟨h0,h1,h2⟩:=hq
 simp only at h2
 rw [h,Int.toNat_natCast,List.take_length] at h2
 exact decide_eq_true h2
noncomputable def ckI (A:Ar) (b s:Int) (q:List E) (c:Int) (y:XI):St:=bW Tryz.f125.ntmps [(1,.ptr 1 0),(20,.sl none (.ae (.ints .u8 .nil) q)),(21,.val (.int .i64 (A.dw q))),(22,.val (.int .i64 y.i))] [(1,.cells 51 [.val (.int .i64 b),.val (.int .i64 s),.sl none (.ae (.ints .u8 .nil) q),.val (.int .i64 c)])] [Any]
def Yl (q:List E) (y:XI):Nat:=q.length - y.i.toNat
def ZO (st:St):XI:=⟨bA st 22⟩
structure Fs where
 Og:Int→Int→List E→Int→Bool
 zB:Int→Int→List E→Int→Int
 Vd:List E→Int
 kL:List E→Bool
 Dd:List E→List E
 Qx:List E→Bool
 PG:List Int→Bool
 Sw:List E→List E→Bool
 Yc:List E→List E→Bool
 Xe:List Int→List Int→Bool
 ZP:List Int→List Int→Bool
def Fs.U:Fs:=⟨bZ,RP,BS,Je,nq,fun q=>decide (q.length≤100000),fun l=>decide (l.length≤1000000),fun p q=>YL p && YL q,fun p q=>decide (pq p=pq q),fun p q=>decide ((∀ x∈p,0≤x∧x≤255)∧∀ x∈q,0≤x∧x≤255),fun p q=>decide (p=q)⟩
def LS (F:Fs):aW:=fun xs h=>match xs,h with
 |[.agg [.val (.int .i64 _),.val (.int .i64 _),.sl none (.ae (.ints .u8 .nil) v_q),.val (.int .i64 _)]],[]=>some ⟨True,.sa (I (F.Vd v_q)),[],[Any]⟩
 |_,_=>none
theorem Xj (v_b:Int) (v_s:Int) (v_q:List E) (v_c:Int):aR [] Tryz.f178 [.agg [.val (.int .i64 v_b),.val (.int .i64 v_s),.sl none (.ae (.ints .u8 .nil) v_q),.val (.int .i64 v_c)]] [] ⟨True,.sa (I (Fs.U.Vd v_q)),[],[Any]⟩:=by
 intro b gv
 generalize hF:Fs.U=F
 generalize hA:Ar.U=A
 generalize hL:Lp _ _ _=L
 obtain⟨Z,zq⟩:=aH
 refine aA (aa hL) zq rfl ?_
 repeat' (first|(refine ay zq ?_;try dsimp only)|refine ax zq ?_ (aa hL)|refine az zq ?_|refine aw ?_|refine aq ?_|refine au ?_|refine ar ?_|refine al rfl ?_|refine ai rfl ?_|refine aj rfl ?_|(refine Cd.mk ?_;cbv)|(refine aF.mk ?_;cbv)|(refine aK.mk ?_;cbv)|exact trivial|refine And.intro ?_ ?_|refine aZ fun _=>?_|refine ba fun _=>?_)
 all_goals
  clear hL zq Z
  subst hF hA
  simp only [Fs.U,Ar.U] at *
  try (grind [ah,BS])
theorem AA:aC Tryz.prog 178 (LS Fs.U):=by
 refine aD af.nil Tryz.func178 rfl rfl fun xs h p hp=>?_
 unfold LS at hp
 split at hp
 ·cases hp
  exact⟨av rfl,fun _ _=>Xj _ _ _ _⟩
 ·cases hp
def eh (F:Fs):aW:=fun xs h=>match xs,h with
 |[.agg [.val (.int .i64 v_b),.val (.int .i64 v_s),.sl none (.ae (.ints .u8 .nil) v_q),.val (.int .i64 v_c)]],[]=>some ⟨F.Qx v_q=true,.sa (I (F.zB v_b v_s v_q v_c)),[],[Any]⟩
 |_,_=>none
theorem uJ (v_b:Int) (v_s:Int) (v_q:List E) (v_c:Int) (hC:Fs.U.Qx v_q=true):aR [(178,LS Fs.U)] Tryz.f125 [.agg [.val (.int .i64 v_b),.val (.int .i64 v_s),.sl none (.ae (.ints .u8 .nil) v_q),.val (.int .i64 v_c)]] [] ⟨Fs.U.Qx v_q=true,.sa (I (Fs.U.zB v_b v_s v_q v_c)),[],[Any]⟩:=by
 intro b gv
 have hlq:v_q.length≤100000:=of_decide_eq_true (show decide (v_q.length≤100000)=true from hC)
 have hfs:=(af.cons AA af.nil rfl)
 generalize hF:Fs.U=F at hC hfs ⊢
 generalize hA:Ar.U=A
 generalize hL:Lp _ _ _=L
 obtain⟨Z,zq⟩:=aH
 refine aA (aa hL) zq rfl ?_
 repeat' (first|(refine ay zq ?_;try dsimp only)|refine ax zq ?_ (aa hL)|refine az zq ?_|refine aw ?_|refine aq ?_|refine au ?_|refine ar ?_|refine al rfl ?_|refine ai rfl ?_|refine aj rfl ?_|(refine Cd.mk ?_;cbv)|(refine aF.mk ?_;cbv)|(refine aK.mk ?_;cbv)|exact trivial|refine And.intro ?_ ?_|refine aZ fun _=>?_|refine ba fun _=>?_)
 all_goals first|(show L _ _ _;skip)|(clear hfs hL zq Z;subst hA hF;simp only [Fs.U,Ar.U] at * <;> grind [ah,RP,bZ];done)
 subst hL
 refine bj (bo hfs) (DY v_q) (ckI A v_b v_s v_q v_c) (Yl v_q) ZO ⟨0⟩ ?_ ?_ ?_
 ·exact Km v_q
 ·cbv
  repeat' (first|exact trivial|exact rfl|refine And.intro ?_ ?_)
 rintro⟨i⟩ hq O hO
 have hst:=tl v_q i hq
 have hen:=RN v_q i hq
 have q0:=hq.1
 have q1:=hq.2.1
 dsimp only at q0 q1
 subst hA
 generalize hA:Ar.U=A
 generalize hL:Lp _ _ _=L
 refine aT zq ?_
 repeat' (first|(refine ay zq ?_;try dsimp only)|refine ax zq ?_ (aa hL)|refine az zq ?_|refine aw ?_|refine aq ?_|refine au ?_|refine ar ?_|refine al rfl ?_|refine ai rfl ?_|refine aj rfl ?_|(refine Cd.mk ?_;cbv)|(refine aF.mk ?_;cbv)|(refine aK.mk ?_;cbv)|exact trivial|refine And.intro ?_ ?_|refine aZ fun _=>?_|refine ba fun _=>?_)
 all_goals (clear hL hfs zq Z hq;subst hA hF hO;simp only [Fs.U,Ar.U] at * <;> grind [ah,aY,wr,Yl,RP,bZ,BS])
theorem cW:aC Tryz.prog 125 (eh Fs.U):=by
 refine aD (af.cons AA af.nil rfl) Tryz.func125 rfl rfl fun xs h p hp=>?_
 unfold eh at hp
 split at hp
 ·cases hp
  exact⟨av rfl,fun hC _=>uJ _ _ _ _ hC⟩
 ·cases hp
def fA (F:Fs):aW:=fun xs h=>match xs,h with
 |[.one (.sl none (.ints .u8 l))],[]=>some ⟨F.PG l=true,.sa (Bytes l),[],[Any]⟩
 |_,_=>none
theorem ug (l:List Int) (hC:Fs.U.PG l=true):aR [] Tryz.f93 [.one (.sl none (.ints .u8 l))] [] ⟨Fs.U.PG l=true,.sa (Bytes l),[],[Any]⟩:=by
 intro b gv
 generalize hF:Fs.U=F at hC ⊢
 generalize hA:Ar.U=A
 generalize hL:Lp _ _ _=L
 obtain⟨Z,zq⟩:=aH
 refine aA (aa hL) zq rfl ?_
 repeat' (first|(refine ay zq ?_;try dsimp only)|refine ax zq ?_ (aa hL)|refine az zq ?_|refine aw ?_|refine aq ?_|refine au ?_|refine ar ?_|refine al rfl ?_|refine ai rfl ?_|refine aj rfl ?_|(refine Cd.mk ?_;cbv)|(refine aF.mk ?_;cbv)|(refine aK.mk ?_;cbv)|exact trivial|refine And.intro ?_ ?_|refine aZ fun _=>?_|refine ba fun _=>?_)
 all_goals
  clear hL zq Z
  subst hF hA
  have hk:l.length≤1000000:=of_decide_eq_true (show decide (l.length≤1000000)=true from hC)
  simp only [Ar.U,List.nil_append] at *
  try (grind)
theorem fv:aC Tryz.prog 93 (fA Fs.U):=by
 refine aD af.nil Tryz.func93 rfl rfl fun xs h p hp=>?_
 unfold fA at hp
 split at hp
 ·cases hp
  exact⟨av rfl,fun hC _=>ug _ hC⟩
 ·cases hp
structure XA where
 i:Int
 o:List E
def VN (q:List E) (y:XA):Prop:=0≤y.i∧y.i≤q.length∧y.o=nq (q.take y.i.toNat)
noncomputable def alI (A:Ar) (q:List E) (y:XA):St:=bW Tryz.f92.ntmps [(1,.val (.func (.func 93) ⟨[]⟩ ⟨[]⟩)),(5,.sl (some (1,22)) (.ae (.ints .u8 .nil) y.o)),(8,.sl none (.ae (.ints .u8 .nil) q)),(9,.val (.int .i64 (A.dw q))),(10,.val (.int .i64 y.i))] [(1,.tok)] [Any,Any]
def alR (st:St):XA:=⟨bA st 10,oV st 5⟩
def Yf (q:List E) (y:XA):Nat:=q.length - y.i.toNat
theorem Kf (q:List E) (i:Int) (o:List E) (hk:Je q=true) (hq:VN q ⟨i,o⟩) (h:i < q.length):(rl (q.getD i.toNat []) 0).length≤1000000∧o.length≤100000∧VN q ⟨i+1,o ++ [[D.ints (rl (q.getD i.toNat []) 0)]]⟩:=by
 obtain⟨h0,h1,h2⟩:=hq
 simp only at h0 h1 h2
 have hk:=of_decide_eq_true hk
 refine⟨hk.2 _ (mU h0 h),by rw [h2,um,List.length_take];omega,by simp only;omega,by simp only;omega,?_⟩
 simp only
 rw [dh q i h0 h,h2]
 simp [nq]
theorem Pm (q:List E) (i:Int) (o:List E) (hq:VN q ⟨i,o⟩) (h:i=q.length):o=nq q:=by
 obtain⟨h0,h1,h2⟩:=hq
 simp only at h2
 rw [h,Int.toNat_natCast,List.take_length] at h2
 exact h2
def Ip (F:Fs):aW:=fun xs h=>match xs,h with
 |[.one (.sl none (.ae (.ints .u8 .nil) q)),.one (.val (.func (.func 93) ⟨[]⟩ ⟨[]⟩))],[]=>some ⟨F.kL q=true,.sa (.one (.sl (some (0,22)) (.ae (.ints .u8 .nil) (F.Dd q)))),[(0,.tok)],[Any,Any]⟩
 |_,_=>none
theorem Vg (q:List E) (hC:Fs.U.kL q=true):aR [(93,fA Fs.U)] Tryz.f92 [.one (.sl none (.ae (.ints .u8 .nil) q)),.one (.val (.func (.func 93) ⟨[]⟩ ⟨[]⟩))] [] ⟨Fs.U.kL q=true,.sa (.one (.sl (some (0,22)) (.ae (.ints .u8 .nil) (Fs.U.Dd q)))),[(0,.tok)],[Any,Any]⟩:=by
 intro b gv
 have hk:Je q=true:=hC
 have hlq:=(of_decide_eq_true hk).1
 have hfs:=(af.cons fv af.nil rfl)
 generalize hF:Fs.U=F at hC hfs ⊢
 generalize hA:Ar.U=A
 generalize hL:Lp _ _ _=L
 obtain⟨Z,zq⟩:=aH
 refine aA (aa hL) zq rfl ?_
 repeat' (first|(refine ay zq ?_;try dsimp only)|refine ax zq ?_ (aa hL)|refine az zq ?_|refine aw ?_|refine aq ?_|refine au ?_|refine ar ?_|refine al rfl ?_|refine ai rfl ?_|refine aj rfl ?_|(refine Cd.mk ?_;cbv)|(refine aF.mk ?_;cbv)|(refine aK.mk ?_;cbv)|exact trivial|refine And.intro ?_ ?_|refine aZ fun _=>?_|refine ba fun _=>?_)
 subst hL
 refine bj (bo hfs) (VN q) (alI A q) (Yf q) alR ⟨0,[]⟩ ?_ ?_ ?_
 ·exact⟨Int.le_refl 0,Int.natCast_nonneg _,rfl⟩
 ·cbv
  repeat' (first|exact trivial|exact rfl|refine And.intro ?_ ?_)
 rintro⟨i,o⟩ hq O hO
 have hst:=Kf q i o hk hq
 have hen:=Pm q i o hq
 have q0:=hq.1
 have q1:=hq.2.1
 dsimp only at q0 q1
 subst hA
 generalize hA:Ar.U=A
 generalize hL:Lp _ _ _=L
 refine aT zq ?_
 repeat' (first|(refine ay zq ?_;try dsimp only)|refine ax zq ?_ (aa hL)|refine az zq ?_|refine aw ?_|refine aq ?_|refine au ?_|refine ar ?_|refine al rfl ?_|refine ai rfl ?_|refine aj rfl ?_|(refine Cd.mk ?_;cbv)|(refine aF.mk ?_;cbv)|(refine aK.mk ?_;cbv)|exact trivial|refine And.intro ?_ ?_|refine aZ fun _=>?_|refine ba fun _=>?_)
 all_goals (clear hL hfs zq Z hq;subst hA hF hO;simp only [Fs.U,Ar.U] at * <;> grind [ah,aY,wr,Yf])
theorem QZ:aC Tryz.prog 92 (Ip Fs.U):=by
 refine aD (af.cons fv af.nil rfl) Tryz.func92 rfl rfl fun xs h p hp=>?_
 unfold Ip at hp
 split at hp
 ·cases hp
  exact⟨av rfl,fun hC _=>Vg _ hC⟩
 ·cases hp
def uy (F:Fs):aW:=fun xs h=>match xs,h with
 |[.one (.sl none (.ae (.ints .u8 .nil) q))],[]=>some ⟨F.kL q=true,.sa (.one (.sl (some (0,22)) (.ae (.ints .u8 .nil) (F.Dd q)))),[(0,.tok)],[Any]⟩
 |_,_=>none
theorem Lb (q:List E) (hC:Fs.U.kL q=true):aR [(92,Ip Fs.U)] Tryz.f55 [.one (.sl none (.ae (.ints .u8 .nil) q))] [] ⟨Fs.U.kL q=true,.sa (.one (.sl (some (0,22)) (.ae (.ints .u8 .nil) (Fs.U.Dd q)))),[(0,.tok)],[Any]⟩:=by
 intro b gv
 generalize hF:Fs.U=F at hC ⊢
 generalize hA:Ar.U=A
 generalize hL:Lp _ _ _=L
 obtain⟨Z,zq⟩:=aH
 refine aA (aa hL) zq rfl ?_
 repeat' (first|(refine ay zq ?_;try dsimp only)|refine ax zq ?_ (aa hL)|refine az zq ?_|refine aw ?_|refine aq ?_|refine au ?_|refine ar ?_|refine al rfl ?_|refine ai rfl ?_|refine aj rfl ?_|(refine Cd.mk ?_;cbv)|(refine aF.mk ?_;cbv)|(refine aK.mk ?_;cbv)|exact trivial|refine And.intro ?_ ?_|refine aZ fun _=>?_|refine ba fun _=>?_)
 all_goals (clear hL zq Z;subst hF hA;simp only [Fs.U] at * <;> grind)
theorem IF:aC Tryz.prog 55 (uy Fs.U):=by
 refine aD (af.cons QZ af.nil rfl) Tryz.func55 rfl rfl fun xs h p hp=>?_
 unfold uy at hp
 split at hp
 ·cases hp
  exact⟨av rfl,fun hC _=>Lb _ hC⟩
 ·cases hp
def lN (F:Fs):aW:=fun xs h=>match xs,h with
 |[.agg [.val (.int .i64 v_b),.val (.int .i64 v_s),.sl none (.ae (.ints .u8 .nil) v_q),.val (.int .i64 v_c)]],[]=>some ⟨F.kL v_q=true,.sa (.agg [.val (.int .i64 v_b),.val (.int .i64 v_s),.sl (some (0,22)) (.ae (.ints .u8 .nil) (F.Dd v_q)),.val (.int .i64 v_c)]),[(0,.tok)],[Any]⟩
 |_,_=>none
theorem Eg (v_b:Int) (v_s:Int) (v_q:List E) (v_c:Int) (hC:Fs.U.kL v_q=true):aR [(55,uy Fs.U)] Tryz.f152 [.agg [.val (.int .i64 v_b),.val (.int .i64 v_s),.sl none (.ae (.ints .u8 .nil) v_q),.val (.int .i64 v_c)]] [] ⟨Fs.U.kL v_q=true,.sa (.agg [.val (.int .i64 v_b),.val (.int .i64 v_s),.sl (some (0,22)) (.ae (.ints .u8 .nil) (Fs.U.Dd v_q)),.val (.int .i64 v_c)]),[(0,.tok)],[Any]⟩:=by
 intro b gv
 generalize hF:Fs.U=F at hC ⊢
 generalize hA:Ar.U=A
 generalize hL:Lp _ _ _=L
 obtain⟨Z,zq⟩:=aH
 refine aA (aa hL) zq rfl ?_
 repeat' (first|(refine ay zq ?_;try dsimp only)|refine ax zq ?_ (aa hL)|refine az zq ?_|refine aw ?_|refine aq ?_|refine au ?_|refine ar ?_|refine al rfl ?_|refine ai rfl ?_|refine aj rfl ?_|(refine Cd.mk ?_;cbv)|(refine aF.mk ?_;cbv)|(refine aK.mk ?_;cbv)|exact trivial|refine And.intro ?_ ?_|refine aZ fun _=>?_|refine ba fun _=>?_)
 all_goals (clear hL zq Z;subst hF hA;simp only [Fs.U] at * <;> grind)
theorem jw:aC Tryz.prog 152 (lN Fs.U):=by
 refine aD (af.cons IF af.nil rfl) Tryz.func152 rfl rfl fun xs h p hp=>?_
 unfold lN at hp
 split at hp
 ·cases hp
  exact⟨av rfl,fun hC _=>Eg _ _ _ _ hC⟩
 ·cases hp
end Go.Proofs.YtakebkfhigadiaaGreat.SeR
