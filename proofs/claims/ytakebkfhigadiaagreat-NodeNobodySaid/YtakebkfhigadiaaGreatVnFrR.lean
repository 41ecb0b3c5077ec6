/-
  frames je the reckoner. No condition.
-/
import Derived.Test.YtakebkfhigadiaaGreatVnCrcR
import Derived.Test.YtakebkfhigadiaaGreatVnW44
import Derived.Test.YtakebkfhigadiaaGreatVnRyOp
set_option maxRecDepth 100000
set_option maxHeartbeats 2000000
namespace Go.Proofs.YtakebkfhigadiaaGreat.FrR
open Go Ry OctR OctP OctQ
open CrcR (tF uZ uh uw jG iM lU lu)
structure DF where
 k:Int
 s:Int
 q:Int
 a:Int
 p:List Int
 e:Int
def rF (n:Int):Bool:=decide (0≤n∧n≤2147483647)
def eX (k s q a:Int) (p:List Int):Bool:=decide (1≤k∧k≤5) && rF s && rF q && rF a && decide (p.length≤16384) && (decide (k=3) || decide (p.length=0))
def Lt (k s q a:Int) (p:List Int):Int:=if eX k s q a p=true then 0 else 1
def fy (k s q a:Int) (p:List Int):List Int:=hU p.length 2 ++ hU k 1 ++ hU s 4 ++ hU q 4 ++ hU a 4 ++ p
def qX (k s q a:Int) (p:List Int):List Int:=if eX k s q a p=true then CrcR.rh (fy k s q a p) else []
def zF (e:Int):DF:=⟨0,0,0,0,[],e⟩
def WM (c:List Int):DF :=
 let r0:=c.take 15
 let n:=nd r0 0 2
 let r1:=Ai r0 0 2
 let e1:=BM r0 0 2
 let k:=nd r1 e1 1
 let r2:=Ai r1 e1 1
 let e2:=BM r1 e1 1
 let s:=nd r2 e2 4
 let r3:=Ai r2 e2 4
 let e3:=BM r2 e2 4
 let q:=nd r3 e3 4
 let r4:=Ai r3 e3 4
 let e4:=BM r3 e3 4
 let a:=nd r4 e4 4
 let e5:=BM r4 e4 4
 if e5=0∧n=(c.drop 15).length∧eX k s q a (c.drop 15)=true then ⟨k,s,q,a,c.drop 15,0⟩ else zF 5
def qL (l:List Int):DF:=if 16403 < l.length then zF 3 else if l.length < 19 then zF 5 else if CrcR.wQ l=0 then WM (CrcR.pR l) else zF (CrcR.wQ l)
def Ux (k s q a:Int) (p:List Int) (k' s' q' a' : Int) (p' : List Int):Bool:=decide (k=k'∧s=s'∧q=q'∧a=a'∧p=p')
def Es (l:List Int) (n w:Int):Bool:=fits n w && xu l
def Zy (l:List Int):Bool:=decide (15≤l.length∧l.length≤1000000)
theorem Ri {l:List Int} {n w:Int} (h:Es l n w=true):xu l=true∧nf w=true∧yN n w=0∧¬n < 0∧¬DS w < n∧1≤w∧w≤4∧l.length≤1000000:=by
 simp only [Es,Bool.and_eq_true] at h
 have h2:=h.1
 simp only [fits,Bool.and_eq_true,decide_eq_true_eq] at h2
 have hw:=of_decide_eq_true h2.2
 have hs:=of_decide_eq_true h.2
 exact⟨h.2,h2.2,(KL h.1).1,by omega,by omega,hw.1,hw.2,hs⟩
structure Rs where
 Og:Int→Int→Int→Int→List Int→Bool
 zB:Int→Int→Int→Int→List Int→Int
 NC:Int→Int→Int→Int→List Int→List Int
 Wt:Int→Int→Int→Int→List Int→List Int
 nO:List Int→DF
 hJ:List Int→DF
 aah:Int→Int→Int→Int→List Int→Int→Int→Int→Int→List Int→Bool
 rk:List Int→Int→Int→Bool
 pU:List Int→Int→Int→List Int
 Pk:List Int→Bool
 Xe:List Int→Bool
 Nv:Int→Bool
 PG:List Int→Bool
 Sw:List Int→List Int→Bool
def Rs.U:Rs:=⟨eX,Lt,qX,fy,WM,qL,Ux,Es,dJ,Zy,Vz,rF,xu,fun p q=>kG p && kG q⟩
def Ee (F:Rs):aW:=fun xs h=>match xs,h with
 |[.one (.val (.int .i64 n))],[]=>some ⟨True,.sa (B (F.Nv n)),[],[Any]⟩
 |_,_=>none
theorem Tu (n:Int):aR [] Tryz.f147 [.one (.val (.int .i64 n))] [] ⟨True,.sa (B (Rs.U.Nv n)),[],[Any]⟩:=by
 intro b gv
 generalize hF:Rs.U=F
 generalize hA:Ar.U=A
 generalize hL:Lp _ _ _=L
 obtain⟨Z,zq⟩:=aH
 refine aA (aa hL) zq rfl ?_
 repeat' (first|(refine ay zq ?_;try dsimp only)|refine ax zq ?_ (aa hL)|refine az zq ?_|refine aw ?_|refine aq ?_|refine au ?_|refine ar ?_|refine al rfl ?_|refine ai rfl ?_|refine aj rfl ?_|(refine Cd.mk ?_;cbv)|(refine aF.mk ?_;cbv)|(refine aK.mk ?_;cbv)|exact trivial|refine And.intro ?_ ?_|refine aZ fun _=>?_|refine ba fun _=>?_)
 all_goals (clear hL zq Z;subst hF hA;simp only [Rs.U,Ar.U] at * <;> grind [ah,rF])
theorem Qb:aC Tryz.prog 147 (Ee Rs.U):=by
 refine aD af.nil Tryz.func147 rfl rfl fun xs h p hp=>?_
 unfold Ee at hp
 split at hp
 ·cases hp
  exact⟨av rfl,fun _ _=>Tu _⟩
 ·cases hp
def eh (F:Rs):aW:=fun xs h=>match xs,h with
 |[.agg [.val (.int .i64 f_k),.val (.int .i64 f_s),.val (.int .i64 f_q),.val (.int .i64 f_a),.sl none (.ints .u8 f_p)]],[]=>some ⟨True,.sa (I (F.zB f_k f_s f_q f_a f_p)),[],[Any]⟩
 |_,_=>none
theorem uJ (f_k:Int) (f_s:Int) (f_q:Int) (f_a:Int) (f_p:List Int):aR [(147,Ee Rs.U)] Tryz.f96 [.agg [.val (.int .i64 f_k),.val (.int .i64 f_s),.val (.int .i64 f_q),.val (.int .i64 f_a),.sl none (.ints .u8 f_p)]] [] ⟨True,.sa (I (Rs.U.zB f_k f_s f_q f_a f_p)),[],[Any]⟩:=by
 intro b gv
 generalize hF:Rs.U=F
 generalize hA:Ar.U=A
 generalize hL:Lp _ _ _=L
 obtain⟨Z,zq⟩:=aH
 refine aA (aa hL) zq rfl ?_
 repeat' (first|(refine ay zq ?_;try dsimp only)|refine ax zq ?_ (aa hL)|refine az zq ?_|refine aw ?_|refine aq ?_|refine au ?_|refine ar ?_|refine al rfl ?_|refine ai rfl ?_|refine aj rfl ?_|(refine Cd.mk ?_;cbv)|(refine aF.mk ?_;cbv)|(refine aK.mk ?_;cbv)|exact trivial|refine And.intro ?_ ?_|refine aZ fun _=>?_|refine ba fun _=>?_)
 all_goals (clear hL zq Z;subst hF hA;simp only [Rs.U,Ar.U] at * <;> grind [ah,rF,Lt,eX])
theorem cW:aC Tryz.prog 96 (eh Rs.U):=by
 refine aD (af.cons Qb af.nil rfl) Tryz.func96 rfl rfl fun xs h p hp=>?_
 unfold eh at hp
 split at hp
 ·cases hp
  exact⟨av rfl,fun _ _=>uJ _ _ _ _ _⟩
 ·cases hp
def yM (F:Rs):aW:=fun xs h=>match xs,h with
 |[.one (.sl none (.ints .u8 l)),.one (.val (.int .i64 n)),.one (.val (.int .i64 w))],[]=>some ⟨F.rk l n w=true,.bB [.one (.sl (some (0,5)) (.ints .u8 (F.pU l n w))),I 0],[(0,.tok)],[Any,Any,Any]⟩
 |_,_=>none
theorem OW (l:List Int) (n:Int) (w:Int) (hC:Rs.U.rk l n w=true):aR [(132,wj Fs.U),(134,GQ Fs.U),(131,pC Fs.U),(206,zX Fs.U)] Tryz.f180 [.one (.sl none (.ints .u8 l)),.one (.val (.int .i64 n)),.one (.val (.int .i64 w))] [] ⟨Rs.U.rk l n w=true,.bB [.one (.sl (some (0,5)) (.ints .u8 (Rs.U.pU l n w))),I 0],[(0,.tok)],[Any,Any,Any]⟩:=by
 intro b gv
 have hk:=Ri (show Es l n w=true from hC)
 have hfs:=(af.cons tp (af.cons Bd (af.cons nV (af.cons yI af.nil rfl) rfl) rfl) rfl)
 generalize hF:Rs.U=F at hC hfs ⊢
 generalize hG0:Fs.U=G0 at hC hfs ⊢
 generalize hA:Ar.U=A
 generalize hL:Lp _ _ _=L
 obtain⟨Z,zq⟩:=aH
 refine aA (aa hL) zq rfl ?_
 repeat' (first|(refine ay zq ?_;try dsimp only)|refine ax zq ?_ (aa hL)|refine az zq ?_|refine aw ?_|refine aq ?_|refine au ?_|refine ar ?_|refine al rfl ?_|refine ai rfl ?_|refine aj rfl ?_|(refine Cd.mk ?_;cbv)|(refine aF.mk ?_;cbv)|(refine aK.mk ?_;cbv)|exact trivial|refine And.intro ?_ ?_|refine aZ fun _=>?_|refine ba fun _=>?_)
 all_goals
  clear hL zq Z hfs
  subst hF hA hG0
  simp only [Rs.U,Fs.U,Ar.U] at *
  try (grind [ah,room,xu,dJ])
theorem JZ:aC Tryz.prog 180 (yM Rs.U):=by
 refine aD (af.cons tp (af.cons Bd (af.cons nV (af.cons yI af.nil rfl) rfl) rfl) rfl) Tryz.func180 rfl rfl fun xs h p hp=>?_
 unfold yM at hp
 split at hp
 ·cases hp
  exact⟨av rfl,fun hC _=>OW _ _ _ hC⟩
 ·cases hp
def rA (F:Rs):aW:=fun xs h=>match xs,h with
 |[.one (.sl none (.ints .u8 l)),.one (.val (.int .i64 n)),.one (.val (.int .i64 w))],[]=>some ⟨F.rk l n w=true,.sa (.one (.sl (some (0,5)) (.ints .u8 (F.pU l n w)))),[(0,.tok)],[Any,Any,Any]⟩
 |_,_=>none
theorem Ef (l:List Int) (n:Int) (w:Int) (hC:Rs.U.rk l n w=true):aR [(180,yM Rs.U)] Tryz.f129 [.one (.sl none (.ints .u8 l)),.one (.val (.int .i64 n)),.one (.val (.int .i64 w))] [] ⟨Rs.U.rk l n w=true,.sa (.one (.sl (some (0,5)) (.ints .u8 (Rs.U.pU l n w)))),[(0,.tok)],[Any,Any,Any]⟩:=by
 intro b gv
 generalize hF:Rs.U=F at hC ⊢
 generalize hA:Ar.U=A
 generalize hL:Lp _ _ _=L
 obtain⟨Z,zq⟩:=aH
 refine aA (aa hL) zq rfl ?_
 repeat' (first|(refine ay zq ?_;try dsimp only)|refine ax zq ?_ (aa hL)|refine az zq ?_|refine aw ?_|refine aq ?_|refine au ?_|refine ar ?_|refine al rfl ?_|refine ai rfl ?_|refine aj rfl ?_|(refine Cd.mk ?_;cbv)|(refine aF.mk ?_;cbv)|(refine aK.mk ?_;cbv)|exact trivial|refine And.intro ?_ ?_|refine aZ fun _=>?_|refine ba fun _=>?_)
 all_goals (clear hL zq Z;subst hF hA;simp only [Rs.U] at * <;> grind)
theorem ya:aC Tryz.prog 129 (rA Rs.U):=by
 refine aD (af.cons JZ af.nil rfl) Tryz.func129 rfl rfl fun xs h p hp=>?_
 unfold rA at hp
 split at hp
 ·cases hp
  exact⟨av rfl,fun hC _=>Ef _ _ _ hC⟩
 ·cases hp
theorem Rw {k s q a:Int} {p:List Int} (h:eX k s q a p=true) :
  Es [] p.length 2=true∧Es (dJ [] p.length 2) k 1=true∧Es (dJ (dJ [] p.length 2) k 1) s 4=true∧Es (dJ (dJ (dJ [] p.length 2) k 1) s 4) q 4=true∧Es (dJ (dJ (dJ (dJ [] p.length 2) k 1) s 4) q 4) a 4=true ∧
  dJ (dJ (dJ (dJ (dJ [] p.length 2) k 1) s 4) q 4) a 4 ++ p=fy k s q a p∧(fy k s q a p).length=15+p.length∧p.length≤16384∧(dJ (dJ (dJ (dJ (dJ [] p.length 2) k 1) s 4) q 4) a 4).length=15:=by
 simp only [eX,rF,Bool.and_eq_true,decide_eq_true_eq] at h
 obtain⟨⟨⟨⟨⟨h1,h2⟩,h3⟩,h4⟩,h5⟩,h6⟩:=h
 have e1:nf 1=true:=rfl
 have e2:nf 2=true:=rfl
 have e4:nf 4=true:=rfl
 have g1:DS 1=255:=rfl
 have g2:DS 2=65535:=rfl
 have g4:DS 4=2147483647:=rfl
 have t1:(1:Int).toNat=1:=rfl
 have t2:(2:Int).toNat=2:=rfl
 have t4:(4:Int).toNat=4:=rfl
 simp only [Es,fits,e1,e2,e4,g1,g2,g4,Bool.and_true,Bool.and_eq_true,decide_eq_true_eq,xu,dJ,List.length_append,BR,t1,t2,t4,List.length_nil,fy,List.nil_append]
 refine⟨by omega,by omega,by omega,by omega,by omega,trivial,trivial,by omega,trivial⟩
def qq (F:Rs):aW:=fun xs h=>match xs,h with
 |[.agg [.val (.int .i64 f_k),.val (.int .i64 f_s),.val (.int .i64 f_q),.val (.int .i64 f_a),.sl none (.ints .u8 f_p)]],[]=>some ⟨True,.bB [Bytes (F.NC f_k f_s f_q f_a f_p),I (F.zB f_k f_s f_q f_a f_p)],[],[Any]⟩
 |_,_=>none
theorem Hh (f_k:Int) (f_s:Int) (f_q:Int) (f_a:Int) (f_p:List Int):aR [(96,eh Rs.U),(129,HI [some (.ints .u8 []),none,none] (rA Rs.U)),(130,tF CrcR.Fs.U)] Tryz.f82 [.agg [.val (.int .i64 f_k),.val (.int .i64 f_s),.val (.int .i64 f_q),.val (.int .i64 f_a),.sl none (.ints .u8 f_p)]] [] ⟨True,.bB [Bytes (Rs.U.NC f_k f_s f_q f_a f_p),I (Rs.U.zB f_k f_s f_q f_a f_p)],[],[Any]⟩:=by
 intro b gv
 have hk:=Rw (k:=f_k) (s:=f_s) (q:=f_q) (a:=f_a) (p:=f_p)
 have hfs:=(af.cons cW (af.cons (lC [some (.ints .u8 []),none,none] ya) (af.cons uZ af.nil rfl) rfl) rfl)
 generalize hF:Rs.U=F at hfs ⊢
 generalize hG0:CrcR.Fs.U=G0 at hfs ⊢
 generalize hA:Ar.U=A
 generalize hL:Lp _ _ _=L
 obtain⟨Z,zq⟩:=aH
 refine aA (aa hL) zq rfl ?_
 repeat' (first|(refine ay zq ?_;try dsimp only)|refine ax zq ?_ (aa hL)|refine az zq ?_|refine aw ?_|refine aq ?_|refine au ?_|refine ar ?_|refine al rfl ?_|refine ai rfl ?_|refine aj rfl ?_|(refine Cd.mk ?_;cbv)|(refine aF.mk ?_;cbv)|(refine aK.mk ?_;cbv)|exact trivial|refine And.intro ?_ ?_|refine aZ fun _=>?_|refine ba fun _=>?_)
 all_goals
  clear hL zq Z hfs
  subst hF hA hG0
  simp only [Rs.U,CrcR.Fs.U,Ar.U] at *
  try (grind [ah,Lt,qX,CrcR.mL])
theorem rH:aC Tryz.prog 82 (qq Rs.U):=by
 refine aD (af.cons cW (af.cons (lC [some (.ints .u8 []),none,none] ya) (af.cons uZ af.nil rfl) rfl) rfl) Tryz.func82 rfl rfl fun xs h p hp=>?_
 unfold qq at hp
 split at hp
 ·cases hp
  exact⟨av rfl,fun _ _=>Hh _ _ _ _ _⟩
 ·cases hp
def fA (F:Rs):aW:=fun xs h=>match xs,h with
 |[.one (.sl none (.ints .u8 l))],[]=>some ⟨F.PG l=true,.sa (Bytes l),[],[Any]⟩
 |_,_=>none
theorem ug (l:List Int) (hC:Rs.U.PG l=true):aR [] Tryz.f93 [.one (.sl none (.ints .u8 l))] [] ⟨Rs.U.PG l=true,.sa (Bytes l),[],[Any]⟩:=by
 intro b gv
 generalize hF:Rs.U=F at hC ⊢
 generalize hA:Ar.U=A
 generalize hL:Lp _ _ _=L
 obtain⟨Z,zq⟩:=aH
 refine aA (aa hL) zq rfl ?_
 repeat' (first|(refine ay zq ?_;try dsimp only)|refine ax zq ?_ (aa hL)|refine az zq ?_|refine aw ?_|refine aq ?_|refine au ?_|refine ar ?_|refine al rfl ?_|refine ai rfl ?_|refine aj rfl ?_|(refine Cd.mk ?_;cbv)|(refine aF.mk ?_;cbv)|(refine aK.mk ?_;cbv)|exact trivial|refine And.intro ?_ ?_|refine aZ fun _=>?_|refine ba fun _=>?_)
 all_goals
  clear hL zq Z
  subst hF hA
  have hk:l.length≤1000000:=of_decide_eq_true (show decide (l.length≤1000000)=true from hC)
  simp only [Ar.U,List.nil_append] at *
  try (grind)
theorem fv:aC Tryz.prog 93 (fA Rs.U):=by
 refine aD af.nil Tryz.func93 rfl rfl fun xs h p hp=>?_
 unfold fA at hp
 split at hp
 ·cases hp
  exact⟨av rfl,fun hC _=>ug _ hC⟩
 ·cases hp
def zi (F:Rs):aW:=fun xs h=>match xs,h with
 |[.one (.sl none (.ints .u8 c))],[]=>some ⟨F.Pk c=true,.bB [.agg [.val (.int .i64 (F.nO c).k),.val (.int .i64 (F.nO c).s),.val (.int .i64 (F.nO c).q),.val (.int .i64 (F.nO c).a),.sl none (.ints .u8 (F.nO c).p)],I (F.nO c).e],[],[Any]⟩
 |_,_=>none
theorem OJ (c:List Int) (hC:Rs.U.Pk c=true):aR [(83,gX Fs.U),(84,yP Fs.U),(93,fA Rs.U),(135,wg Fs.U),(bn 135,cT),(96,eh Rs.U)] Tryz.f95 [.one (.sl none (.ints .u8 c))] [] ⟨Rs.U.Pk c=true,.bB [.agg [.val (.int .i64 (Rs.U.nO c).k),.val (.int .i64 (Rs.U.nO c).s),.val (.int .i64 (Rs.U.nO c).q),.val (.int .i64 (Rs.U.nO c).a),.sl none (.ints .u8 (Rs.U.nO c).p)],I (Rs.U.nO c).e],[],[Any]⟩:=by
 intro b gv
 have hfs:=(af.cons iL (af.cons BL (af.cons fv (af.keeps HW EK (af.cons cW af.nil rfl)) rfl) rfl) rfl)
 generalize hF:Rs.U=F at hC hfs ⊢
 generalize hG0:Fs.U=G0 at hC hfs ⊢
 generalize hA:Ar.U=A
 generalize hL:Lp _ _ _=L
 obtain⟨Z,zq⟩:=aH
 refine aA (aa hL) zq rfl ?_
 repeat' (first|(refine ay zq ?_;try dsimp only)|refine ax zq ?_ (aa hL)|refine az zq ?_|refine aw ?_|refine aq ?_|refine au ?_|refine ar ?_|refine al rfl ?_|refine ai rfl ?_|refine aj rfl ?_|(refine Cd.mk ?_;cbv)|(refine aF.mk ?_;cbv)|(refine aK.mk ?_;cbv)|exact trivial|refine And.intro ?_ ?_|refine aZ fun _=>?_|refine ba fun _=>?_)
 all_goals
  clear hL zq Z hfs
  subst hF hA hG0
  have hk:=of_decide_eq_true (show decide (15≤c.length∧c.length≤1000000)=true from hC)
  have z0:(0:Int).toNat=0:=rfl
  have z15:(15:Int).toNat=15:=rfl
  simp only [Rs.U,Fs.U,Ar.U,z0,z15,List.drop_zero,Int.toNat_natCast,List.take_length,List.length_drop] at *
  try (grind [ah,xu,WM,zF,Lt])
theorem zP:aC Tryz.prog 95 (zi Rs.U):=by
 refine aD (af.cons iL (af.cons BL (af.cons fv (af.keeps HW EK (af.cons cW af.nil rfl)) rfl) rfl) rfl) Tryz.func95 rfl rfl fun xs h p hp=>?_
 unfold zi at hp
 split at hp
 ·cases hp
  exact⟨av rfl,fun hC _=>OJ _ hC⟩
 ·cases hp
def pX (F:Rs):aW:=fun xs h=>match xs,h with
 |[.one (.sl none (.ints .u8 l))],[]=>some ⟨True,.bB [.agg [.val (.int .i64 (F.hJ l).k),.val (.int .i64 (F.hJ l).s),.val (.int .i64 (F.hJ l).q),.val (.int .i64 (F.hJ l).a),.sl none (.ints .u8 (F.hJ l).p)],I (F.hJ l).e],[],[Any]⟩
 |_,_=>none
theorem Ov (l:List Int) (h:CrcR.wQ l=0):(CrcR.pR l).length+4=l.length:=by
 unfold CrcR.wQ at h
 unfold CrcR.pR
 repeat' split at h
 all_goals first|(exfalso;revert h;decide)|skip
 rw [if_neg (by assumption),if_pos (by assumption),List.length_take]
 omega
theorem Ht (l:List Int):aR [(94,uh CrcR.Fs.U),(95,zi Rs.U)] Tryz.f56 [.one (.sl none (.ints .u8 l))] [] ⟨True,.bB [.agg [.val (.int .i64 (Rs.U.hJ l).k),.val (.int .i64 (Rs.U.hJ l).s),.val (.int .i64 (Rs.U.hJ l).q),.val (.int .i64 (Rs.U.hJ l).a),.sl none (.ints .u8 (Rs.U.hJ l).p)],I (Rs.U.hJ l).e],[],[Any]⟩:=by
 intro b gv
 have hfs:=(af.cons uw (af.cons zP af.nil rfl) rfl)
 generalize hF:Rs.U=F at hfs ⊢
 generalize hG0:CrcR.Fs.U=G0 at hfs ⊢
 generalize hA:Ar.U=A
 generalize hL:Lp _ _ _=L
 obtain⟨Z,zq⟩:=aH
 refine aA (aa hL) zq rfl ?_
 repeat' (first|(refine ay zq ?_;try dsimp only)|refine ax zq ?_ (aa hL)|refine az zq ?_|refine aw ?_|refine aq ?_|refine au ?_|refine ar ?_|refine al rfl ?_|refine ai rfl ?_|refine aj rfl ?_|(refine Cd.mk ?_;cbv)|(refine aF.mk ?_;cbv)|(refine aK.mk ?_;cbv)|exact trivial|refine And.intro ?_ ?_|refine aZ fun _=>?_|refine ba fun _=>?_)
 all_goals
  clear hL zq Z hfs
  subst hF hA hG0
  simp only [Rs.U,CrcR.Fs.U,Ar.U] at *
  have hop:CrcR.wQ l=0→(CrcR.pR l).length+4=l.length:=Ov l
  try (grind [ah,Zy,qL,zF,CrcR.mL])
theorem Cj:aC Tryz.prog 56 (pX Rs.U):=by
 refine aD (af.cons uw (af.cons zP af.nil rfl) rfl) Tryz.func56 rfl rfl fun xs h p hp=>?_
 unfold pX at hp
 split at hp
 ·cases hp
  exact⟨av rfl,fun _ _=>Ht _⟩
 ·cases hp
end Go.Proofs.YtakebkfhigadiaaGreat.FrR
