
/-
  senders: the answer,and what is alike. No condition.
-/
import Derived.Test.YtakebkfhigadiaaGreatVnSeS
set_option maxRecDepth 100000
set_option maxHeartbeats 1000000
namespace Go.Proofs.YtakebkfhigadiaaGreat.SeT
open Go Ry SeR SeS
def Ny (b s:Int) (q:List E) (c:Int) (b' s' : Int) (q' : List E) (c' : Int):Bool:=decide (b=b'∧s=s'∧c=c'∧pq q=pq q')
def NL (l:List E):List (Int × List Int):=l.map fun y=>(ri y 0,rl y 1)
def VM (a c:List E):Bool:=decide (NL a=NL c)
def Px (l:List E):Bool:=decide (l.length≤100000∧∀ y∈l,∀ x∈rl y 1,0≤x∧x≤255)
def kW (q:List E):Bool:=decide (q.length≤100000∧∀ y∈q,∀ x∈rl y 0,0≤x∧x≤255)
def IU (l:List Int):List Int:=l.map fun n=>((UInt8.ofNat n.toNat).toNat:Int)
theorem yh:∀ {l:List Int},(∀ x∈l,0≤x∧x≤255)→IU l=l
 |[],_=>rfl
 |x :: l,h=>by
  have hx:=h x (List.mem_cons_self ..)
  have ih:=yh (l:=l) fun y hy=>h y (List.mem_cons_of_mem _ hy)
  unfold IU at *
  rw [List.map_cons,ih]
  congr 1
  have:x.toNat < 256:=by omega
  simp [UInt8.toNat_ofNat',Nat.mod_eq_of_lt this]
  omega
structure XE where
 i:Int
def Se {α:Type} (f:E→α) (p q:List E) (y:XE):Prop:=0≤y.i∧y.i≤p.length∧(p.map f).take y.i.toNat=(q.map f).take y.i.toNat
def ZE (p:List E) (y:XE):Nat:=p.length - y.i.toNat
theorem Ln {α:Type} (f:E→α) (p q:List E):Se f p q ⟨0⟩:=⟨Int.le_refl 0,Int.natCast_nonneg _,rfl⟩
theorem Mn {α:Type} (f:E→α) (p q:List E) (hl:p.length=q.length) (i:Int) (hq:Se f p q ⟨i⟩) (h:i < p.length) :
  (f (p.getD i.toNat [])=f (q.getD i.toNat [])→Se f p q ⟨i+1⟩)∧(¬f (p.getD i.toNat [])=f (q.getD i.toNat [])→¬p.map f=q.map f):=by
 obtain⟨h0,h1,h2⟩:=hq
 simp only at h0 h1 h2
 have e:(i+1).toNat=i.toNat+1:=by omega
 have hi:i.toNat < p.length:=by omega
 have hj:i.toNat < q.length:=by omega
 have gp:p.getD i.toNat []=p[i.toNat]:=by rw [List.getD_eq_getElem?_getD,List.getElem?_eq_getElem hi];rfl
 have gq:q.getD i.toNat []=q[i.toNat]:=by rw [List.getD_eq_getElem?_getD,List.getElem?_eq_getElem hj];rfl
 refine⟨fun g=>⟨by simp only;omega,by simp only;omega,?_⟩,fun g w=>g ?_⟩
 ·simp only
  rw [e,List.take_add_one,List.take_add_one,h2,List.getElem?_map,List.getElem?_map,List.getElem?_eq_getElem hi,List.getElem?_eq_getElem hj,← gp,← gq]
  simp only [Option.map_some,g]
 ·have:=congrArg (fun l=>l[i.toNat]?) w
  simp only [List.getElem?_map,List.getElem?_eq_getElem hi,List.getElem?_eq_getElem hj,Option.map_some,Option.some.injEq] at this
  rw [gp,gq]
  exact this
theorem Po {α:Type} (f:E→α) (p q:List E) (hl:p.length=q.length) (i:Int) (hq:Se f p q ⟨i⟩) (h:i=p.length):p.map f=q.map f:=by
 obtain⟨h0,h1,h2⟩:=hq
 simp only at h2
 have e1:i.toNat=(p.map f).length:=by rw [List.length_map];omega
 have e2:i.toNat=(q.map f).length:=by rw [List.length_map];omega
 rw [e1,List.take_length,← e1,e2,List.take_length] at h2
 exact h2
theorem QH {α:Type} (f:E→α) {p q:List E} (h:¬p.length=q.length):¬p.map f=q.map f:=fun w=>h (by have:=congrArg List.length w;simpa using this)
noncomputable def efI (A:Ar) (q q' : List E) (y:XE):St:=bW Tryz.f204.ntmps [(1,.sl none (.ae (.ints .u8 .nil) q')),(2,.val (.func (.func 205) ⟨[]⟩ ⟨[]⟩)),(15,.sl none (.ae (.ints .u8 .nil) q)),(16,.val (.int .i64 (A.dw q))),(17,.val (.int .i64 y.i))] [] [Any,Any,Any]
def efR (st:St):XE:=⟨bA st 17⟩
structure Hs where
 TW:Int→Int→List E→Int→Int→Int→List E→Int→Bool
 CL:List E→List E→Bool
 To:List E→List E→Bool
 QY:List Int→List Int→Bool
 Uz:List Int→List Int→Bool
 YM:List E→List E→Bool
 aat:List E→List E→Bool
def Hs.U:Hs:=⟨Ny,fun p q=>kW p && kW q,fun p q=>decide (pq p=pq q),fun p q=>decide ((∀ x∈p,0≤x∧x≤255)∧∀ x∈q,0≤x∧x≤255),fun p q=>decide (p=q),fun p q=>Px p && Px q,VM⟩
def Hz (F:Hs):aW:=fun xs h=>match xs,h with
 |[.one (.sl none (.ints .u8 p)),.one (.sl none (.ints .u8 q))],[]=>some ⟨F.QY p q=true,.sa (B (F.Uz p q)),[],[Any,Any]⟩
 |_,_=>none
theorem Sn (p:List Int) (q:List Int) (hC:Hs.U.QY p q=true):aR [] Tryz.f205 [.one (.sl none (.ints .u8 p)),.one (.sl none (.ints .u8 q))] [] ⟨Hs.U.QY p q=true,.sa (B (Hs.U.Uz p q)),[],[Any,Any]⟩:=by
 intro b gv
 have hk:=of_decide_eq_true (show decide ((∀ x∈p,0≤x∧x≤255)∧∀ x∈q,0≤x∧x≤255)=true from hC)
 have e1:=yh hk.1
 have e2:=yh hk.2
 generalize hF:Hs.U=F at hC ⊢
 generalize hA:Ar.U=A
 generalize hL:Lp _ _ _=L
 obtain⟨Z,zq⟩:=aH
 refine aA (aa hL) zq rfl ?_
 repeat' (first|(refine ay zq ?_;try dsimp only)|refine ax zq ?_ (aa hL)|refine az zq ?_|refine aw ?_|refine aq ?_|refine au ?_|refine ar ?_|refine al rfl ?_|refine ai rfl ?_|refine aj rfl ?_|(refine Cd.mk ?_;cbv)|(refine aF.mk ?_;cbv)|(refine aK.mk ?_;cbv)|exact trivial|refine And.intro ?_ ?_|refine aZ fun _=>?_|refine ba fun _=>?_)
 all_goals
  clear hL zq Z
  subst hF hA
  simp only [Hs.U,Ar.U] at *
  try (grind [IU])
theorem FK:aC Tryz.prog 205 (Hz Hs.U):=by
 refine aD af.nil Tryz.func205 rfl rfl fun xs h p hp=>?_
 unfold Hz at hp
 split at hp
 ·cases hp
  exact⟨av rfl,fun hC _=>Sn _ _ hC⟩
 ·cases hp
def HY (F:Hs):aW:=fun xs h=>match xs,h with
 |[.one (.sl none (.ae (.ints .u8 .nil) p)),.one (.sl none (.ae (.ints .u8 .nil) q)),.one (.val (.func (.func 205) ⟨[]⟩ ⟨[]⟩))],[]=>some ⟨F.CL p q=true,.sa (B (F.To p q)),[],[Any,Any,Any]⟩
 |_,_=>none
theorem TA (p:List E) (q:List E) (hC:Hs.U.CL p q=true):aR [(205,Hz Hs.U)] Tryz.f204 [.one (.sl none (.ae (.ints .u8 .nil) p)),.one (.sl none (.ae (.ints .u8 .nil) q)),.one (.val (.func (.func 205) ⟨[]⟩ ⟨[]⟩))] [] ⟨Hs.U.CL p q=true,.sa (B (Hs.U.To p q)),[],[Any,Any,Any]⟩:=by
 intro b gv
 have hk:(p.length≤100000∧∀ y∈p,∀ x∈rl y 0,0≤x∧x≤255)∧(q.length≤100000∧∀ y∈q,∀ x∈rl y 0,0≤x∧x≤255):=by
  have h:(kW p && kW q)=true:=hC
  simp only [Bool.and_eq_true] at h
  exact⟨of_decide_eq_true h.1,of_decide_eq_true h.2⟩
 have hlq:=hk.1.1
 have hne:=QH (fun y=>rl y 0) (p:=p) (q:=q)
 have hfs:=(af.cons FK af.nil rfl)
 generalize hF:Hs.U=F at hC hfs ⊢
 generalize hA:Ar.U=A
 generalize hL:Lp _ _ _=L
 obtain⟨Z,zq⟩:=aH
 refine aA (aa hL) zq rfl ?_
 repeat' (first|(refine ay zq ?_;try dsimp only)|refine ax zq ?_ (aa hL)|refine az zq ?_|refine aw ?_|refine aq ?_|refine au ?_|refine ar ?_|refine al rfl ?_|refine ai rfl ?_|refine aj rfl ?_|(refine Cd.mk ?_;cbv)|(refine aF.mk ?_;cbv)|(refine aK.mk ?_;cbv)|exact trivial|refine And.intro ?_ ?_|refine aZ fun _=>?_|refine ba fun _=>?_)
 all_goals first|(show L _ _ _;skip)|(clear hfs hL zq Z;subst hA hF;simp only [Hs.U,Ar.U] at * <;> grind [ah,Ny,VM,pq,NL];done)
 rename_i hx
 have hl:p.length=q.length:=by
  clear hfs hL zq Z hF
  subst hA
  simp only [Ar.U] at hx
  grind [ah]
 clear hx
 subst hL
 refine bj (bo hfs) (Se (fun y=>rl y 0) p q) (efI A p q) (ZE p) efR ⟨0⟩ ?_ ?_ ?_
 ·exact Ln _ _ _
 ·cbv
  repeat' (first|exact trivial|exact rfl|refine And.intro ?_ ?_)
 rintro⟨i⟩ hq O hO
 have hst:=Mn (fun y=>rl y 0) p q hl i hq
 have hen:=Po (fun y=>rl y 0) p q hl i hq
 have q0:=hq.1
 have q1:=hq.2.1
 dsimp only at q0 q1
 have m3:i < p.length→decide ((∀ x∈rl (p.getD i.toNat []) 0,0≤x∧x≤255)∧∀ x∈rl (q.getD i.toNat []) 0,0≤x∧x≤255)=true:=fun h=>decide_eq_true ⟨hk.1.2 _ (mU q0 h),hk.2.2 _ (mU q0 (by omega))⟩
 subst hA
 generalize hA:Ar.U=A
 generalize hL:Lp _ _ _=L
 refine aT zq ?_
 repeat' (first|(refine ay zq ?_;try dsimp only)|refine ax zq ?_ (aa hL)|refine az zq ?_|refine aw ?_|refine aq ?_|refine au ?_|refine ar ?_|refine al rfl ?_|refine ai rfl ?_|refine aj rfl ?_|(refine Cd.mk ?_;cbv)|(refine aF.mk ?_;cbv)|(refine aK.mk ?_;cbv)|exact trivial|refine And.intro ?_ ?_|refine aZ fun _=>?_|refine ba fun _=>?_)
 all_goals (clear hL hfs zq Z hq;subst hA hF hO;simp only [Hs.U,Ar.U] at * <;> grind [ah,aY,wr,ZE,pq])
theorem Pa:aC Tryz.prog 204 (HY Hs.U):=by
 refine aD (af.cons FK af.nil rfl) Tryz.func204 rfl rfl fun xs h p hp=>?_
 unfold HY at hp
 split at hp
 ·cases hp
  exact⟨av rfl,fun hC _=>TA _ _ hC⟩
 ·cases hp
def zm (F:Hs):aW:=fun xs h=>match xs,h with
 |[.agg [.val (.int .i64 x_b),.val (.int .i64 x_s),.sl none (.ae (.ints .u8 .nil) x_q),.val (.int .i64 x_c)],.agg [.val (.int .i64 y_b),.val (.int .i64 y_s),.sl none (.ae (.ints .u8 .nil) y_q),.val (.int .i64 y_c)]],[]=>some ⟨F.CL x_q y_q=true,.sa (B (F.TW x_b x_s x_q x_c y_b y_s y_q y_c)),[],[Any,Any]⟩
 |_,_=>none
theorem Rl (x_b:Int) (x_s:Int) (x_q:List E) (x_c:Int) (y_b:Int) (y_s:Int) (y_q:List E) (y_c:Int) (hC:Hs.U.CL x_q y_q=true):aR [(204,HY Hs.U)] Tryz.f179 [.agg [.val (.int .i64 x_b),.val (.int .i64 x_s),.sl none (.ae (.ints .u8 .nil) x_q),.val (.int .i64 x_c)],.agg [.val (.int .i64 y_b),.val (.int .i64 y_s),.sl none (.ae (.ints .u8 .nil) y_q),.val (.int .i64 y_c)]] [] ⟨Hs.U.CL x_q y_q=true,.sa (B (Hs.U.TW x_b x_s x_q x_c y_b y_s y_q y_c)),[],[Any,Any]⟩:=by
 intro b gv
 generalize hF:Hs.U=F at hC ⊢
 generalize hA:Ar.U=A
 generalize hL:Lp _ _ _=L
 obtain⟨Z,zq⟩:=aH
 refine aA (aa hL) zq rfl ?_
 repeat' (first|(refine ay zq ?_;try dsimp only)|refine ax zq ?_ (aa hL)|refine az zq ?_|refine aw ?_|refine aq ?_|refine au ?_|refine ar ?_|refine al rfl ?_|refine ai rfl ?_|refine aj rfl ?_|(refine Cd.mk ?_;cbv)|(refine aF.mk ?_;cbv)|(refine aK.mk ?_;cbv)|exact trivial|refine And.intro ?_ ?_|refine aZ fun _=>?_|refine ba fun _=>?_)
 all_goals
  clear hL zq Z
  subst hF hA
  simp only [Hs.U,Ar.U] at *
  try (first|(grind;done)|(refine congrArg Value.bool ?_;simp only [ah,Ny];by_cases h1:x_b=y_b <;> by_cases h2:x_s=y_s <;> by_cases h3:x_c=y_c <;> simp [h1,h2,h3]))
theorem AD:aC Tryz.prog 179 (zm Hs.U):=by
 refine aD (af.cons Pa af.nil rfl) Tryz.func179 rfl rfl fun xs h p hp=>?_
 unfold zm at hp
 split at hp
 ·cases hp
  exact⟨av rfl,fun hC _=>Rl _ _ _ _ _ _ _ _ hC⟩
 ·cases hp
end Go.Proofs.YtakebkfhigadiaaGreat.SeT
