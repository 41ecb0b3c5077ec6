
/-
  the answer's frames je the reckoner. No condition.
-/
import Derived.Test.YtakebkfhigadiaaGreatVnFrR
set_option maxHeartbeats 4000000
set_option maxRecDepth 100000
namespace Go.Proofs.YtakebkfhigadiaaGreat.FrQ
open Go Ry OctR OctP OctQ FrR
open CrcR (jG iM lU lu)
def IU (l:List Int):List Int:=l.map fun n=>((UInt8.ofNat n.toNat).toNat:Int)
structure XM where
 i:Int
def Vq (s q a:Int) (y:XM):Prop:=0≤y.i∧y.i≤3∧(1≤y.i→rF s=true)∧(2≤y.i→rF q=true)∧(3≤y.i→rF a=true)
noncomputable def rmI (A:Ar) (k s q a:Int) (p:List Int) (y:XM):St:=bW Tryz.f70.ntmps [(1,.ptr 1 0),(11,.sl none (.ints .i64 [s,q,a])),(12,.val (.int .i64 (A.gr [s,q,a]))),(13,.val (.int .i64 y.i))] [(1,.cells 24 [.val (.int .i64 k),.val (.int .i64 s),.val (.int .i64 q),.val (.int .i64 a),.sl none (.ints .u8 p)])] [Any]
def Zk (y:XM):Nat:=(3 - y.i).toNat
def ZQ (st:St):XM:=⟨bA st 13⟩
theorem Mh {k s q a:Int} {p:List Int} {i:Int} (hq:Vq s q a ⟨i⟩) (h:i < 3):(rF ([s,q,a].getD i.toNat 0)=true→Vq s q a ⟨i+1⟩)∧(rF ([s,q,a].getD i.toNat 0)=false→eX k s q a p=false):=by
 obtain⟨h0,h1,h2,h3,h4⟩:=hq
 simp only at h0 h1 h2 h3 h4
 have:i=0∨i=1∨i=2:=by omega
 rcases this with rfl|rfl|rfl
 ·refine⟨fun q=>⟨by simp only;omega,by simp only;omega,fun _=>q,fun g=>by simp only at g;omega,fun g=>by simp only at g;omega⟩,fun q=>?_⟩
  have q:rF s=false:=q
  unfold eX
  rw [q]
  simp
 ·refine⟨fun q=>⟨by simp only;omega,by simp only;omega,fun _=>h2 (by omega),fun _=>q,fun g=>by simp only at g;omega⟩,fun q'=>?_⟩
  have q' : rF q=false:=q'
  unfold eX
  rw [q']
  simp
 ·refine⟨fun q=>⟨by simp only;omega,by simp only;omega,fun _=>h2 (by omega),fun _=>h3 (by omega),fun _=>q⟩,fun q'=>?_⟩
  have q' : rF a=false:=q'
  unfold eX
  rw [q']
  simp
theorem OE {k s q a:Int} {p:List Int} {i:Int} (hq:Vq s q a ⟨i⟩) (h:¬i < 3):eX k s q a p=(decide (1≤k∧k≤5) && decide (p.length≤16384) && (decide (k=3) || decide (p.length=0))):=by
 obtain⟨h0,h1,h2,h3,h4⟩:=hq
 simp only at h0 h1 h2 h3 h4
 unfold eX
 rw [h2 (by omega),h3 (by omega),h4 (by omega)]
 simp
def Yi (l c:List Int):DF :=
 let r1:=Ai c 0 2
 let e1:=BM c 0 2
 let k:=nd r1 e1 1
 let r2:=Ai r1 e1 1
 let e2:=BM r1 e1 1
 let s:=nd r2 e2 4
 let r3:=Ai r2 e2 4
 let e3:=BM r2 e2 4
 let q:=nd r3 e3 4
 let r4:=Ai r3 e3 4
 let e4:=BM r3 e3 4
 let a:=nd r4 e4 4
 let p:=Ai r4 e4 4
 let e5:=BM r4 e4 4
 if e5=0∧eX k s q a p=true∧IU (CrcR.rh (fy k s q a p))=IU l then ⟨k,s,q,a,p,0⟩ else zF 5
def NK (l:List Int):DF:=if 16403 < l.length then zF 3 else if l.length < 19 then zF 5 else if CrcR.BJ l=true then Yi l (CrcR.jZ l) else zF 6
theorem IQ (r:List Int) (e w:Int) (h:kG r=true):kG (Ai r e w)=true:=by
 unfold Ai
 split
 ·simp only [kG,decide_eq_true_eq] at *
  exact fun x hx=>h x (List.mem_of_mem_drop hx)
 ·exact h
theorem Jn (l:List Int) (h:kG l=true):kG (CrcR.jZ l)=true:=by
 unfold CrcR.jZ
 split
 ·rfl
 ·simp only [kG,decide_eq_true_eq] at *
  exact fun x hx=>h x (List.mem_of_mem_take hx)
theorem QR {l:List Int} (h:kG l=true) (hl:l.length≤16403):CrcR.okB l=true:=by
 have h:=of_decide_eq_true h
 exact decide_eq_true ⟨by omega,fun x hx=>(h x hx).1⟩
theorem LH {k s q a:Int} {p:List Int} (h:eX k s q a p=true) (hp:kG p=true):CrcR.okB (fy k s q a p)=true∧fits k 1=true∧fits s 4=true∧fits q 4=true∧fits a 4=true∧fits p.length 2=true∧(fy k s q a p).length=15+p.length∧Vz (fy k s q a p)=true:=by
 have h5:=Rw h
 simp only [Es,Bool.and_eq_true] at h5
 have n2:=pH h5.1.1
 have n1:=pH h5.2.1.1
 have ns:=pH h5.2.2.1.1
 have nq:=pH h5.2.2.2.1.1
 have na:=pH h5.2.2.2.2.1.1
 have hp:=of_decide_eq_true hp
 have hb:∀ x∈fy k s q a p,0≤x∧x≤255:=by
  intro x hx
  simp only [fy,List.mem_append] at hx
  rcases hx with ((((hx|hx)|hx)|hx)|hx)|hx
  ·exact n2 x hx
  ·exact n1 x hx
  ·exact ns x hx
  ·exact nq x hx
  ·exact na x hx
  ·exact hp x hx
 have hl:(fy k s q a p).length≤1000000:=by omega
 refine⟨decide_eq_true ⟨hl,fun x hx=>(hb x hx).1⟩,h5.2.1.1,h5.2.2.1.1,h5.2.2.2.1.1,h5.2.2.2.2.1.1,h5.1.1,h5.2.2.2.2.2.2.1,?_⟩
 unfold Vz kG xu
 rw [decide_eq_true hb,decide_eq_true hl]
 rfl
theorem qg {n w:Int} (h:fits n w=true):CX n w=true:=by
 have hf:=Ba h
 simp only [fits,Bool.and_eq_true] at h
 unfold CX
 rw [h.2,decide_eq_true (by omega)]
 rfl
structure Qs where
 NM:Int→Int→Int→Int→List Int→Bool
 Kg:List Int→Bool
 fh:List Int→DF
 Rn:Int→Int→Int→Int→List Int→Bool
 HE:Int→Int→Int→Int→List Int→List Int
 aaC:Int→Int→Int→Int→List Int→Int→Int→Int→Int→List Int→Bool
 aad:List Int→List Int→Bool
 aaE:List Int→List Int→Bool
def Qs.U:Qs:=⟨eX,kG,NK,fun k s q a p=>eX k s q a p && kG p,fun k s q a p=>CrcR.rh (fy k s q a p),Ux,fun p q=>kG p && kG q,fun p q=>decide (p=q)⟩
def yw (F:Qs):aW:=fun xs h=>match xs,h with
 |[.agg [.val (.int .i64 f_k),.val (.int .i64 f_s),.val (.int .i64 f_q),.val (.int .i64 f_a),.sl none (.ints .u8 f_p)]],[]=>some ⟨True,.sa (B (F.NM f_k f_s f_q f_a f_p)),[],[Any]⟩
 |_,_=>none
theorem QE (f_k:Int) (f_s:Int) (f_q:Int) (f_a:Int) (f_p:List Int):aR [] Tryz.f70 [.agg [.val (.int .i64 f_k),.val (.int .i64 f_s),.val (.int .i64 f_q),.val (.int .i64 f_a),.sl none (.ints .u8 f_p)]] [] ⟨True,.sa (B (Qs.U.NM f_k f_s f_q f_a f_p)),[],[Any]⟩:=by
 intro b gv
 have hfs:=af.nil
 generalize hF:Qs.U=F at hfs ⊢
 generalize hA:Ar.U=A
 generalize hL:Lp _ _ _=L
 obtain⟨Z,zq⟩:=aH
 refine aA (aa hL) zq rfl ?_
 repeat' (first|(refine ay zq ?_;try dsimp only)|refine ax zq ?_ (aa hL)|refine az zq ?_|refine aw ?_|refine aq ?_|refine au ?_|refine ar ?_|refine al rfl ?_|refine ai rfl ?_|refine aj rfl ?_|(refine Cd.mk ?_;cbv)|(refine aF.mk ?_;cbv)|(refine aK.mk ?_;cbv)|exact trivial|refine And.intro ?_ ?_|refine aZ fun _=>?_|refine ba fun _=>?_)
 subst hL
 refine bj (bo hfs) (Vq f_s f_q f_a) (rmI A f_k f_s f_q f_a f_p) Zk ZQ ⟨0⟩ ?_ ?_ ?_
 ·exact⟨Int.le_refl 0,show (0:Int)≤3 by decide,fun g=>absurd g (by simp only;omega),fun g=>absurd g (by simp only;omega),fun g=>absurd g (by simp only;omega)⟩
 ·cbv
  repeat' (first|exact trivial|exact rfl|refine And.intro ?_ ?_)
 rintro⟨i⟩ hq O hO
 have hst:=Mh (k:=f_k) (p:=f_p) hq
 have hen:=OE (k:=f_k) (p:=f_p) hq
 have q0:=hq.1
 have q1:=hq.2.1
 dsimp only at q0 q1
 subst hA
 generalize hA:Ar.U=A
 generalize hL:Lp _ _ _=L
 refine aT zq ?_
 repeat' (first|(refine ay zq ?_;try dsimp only)|refine ax zq ?_ (aa hL)|refine az zq ?_|refine aw ?_|refine aq ?_|refine au ?_|refine ar ?_|refine al rfl ?_|refine ai rfl ?_|refine aj rfl ?_|(refine Cd.mk ?_;cbv)|(refine aF.mk ?_;cbv)|(refine aK.mk ?_;cbv)|exact trivial|refine And.intro ?_ ?_|refine aZ fun _=>?_|refine ba fun _=>?_)
 all_goals (clear hL hfs zq Z hq;subst hA hF hO;simp only [Qs.U,Ar.U] at * <;> grind [ah,aY,wr,Zk,rF])
theorem AH:aC Tryz.prog 70 (yw Qs.U):=by
 refine aD af.nil Tryz.func70 rfl rfl fun xs h p hp=>?_
 unfold yw at hp
 split at hp
 ·cases hp
  exact⟨av rfl,fun _ _=>QE _ _ _ _ _⟩
 ·cases hp
def pQ (F:Qs):aW:=fun xs h=>match xs,h with
 |[.agg [.val (.int .i64 f_k),.val (.int .i64 f_s),.val (.int .i64 f_q),.val (.int .i64 f_a),.sl none (.ints .u8 f_p)]],[]=>some ⟨F.Rn f_k f_s f_q f_a f_p=true,.sa (Bytes (F.HE f_k f_s f_q f_a f_p)),[],[Any]⟩
 |_,_=>none
theorem Ev (f_k:Int) (f_s:Int) (f_q:Int) (f_a:Int) (f_p:List Int) (hC:Qs.U.Rn f_k f_s f_q f_a f_p=true):aR [(113,sF Hs.U),(110,jG CrcR.Fs.U)] Tryz.f71 [.agg [.val (.int .i64 f_k),.val (.int .i64 f_s),.val (.int .i64 f_q),.val (.int .i64 f_a),.sl none (.ints .u8 f_p)]] [] ⟨Qs.U.Rn f_k f_s f_q f_a f_p=true,.sa (Bytes (Qs.U.HE f_k f_s f_q f_a f_p)),[],[Any]⟩:=by
 intro b gv
 have hk:eX f_k f_s f_q f_a f_p=true∧kG f_p=true:=by
  have h:(eX f_k f_s f_q f_a f_p && kG f_p)=true:=hC
  simpa using h
 have h5:=Rw hk.1
 have h6:=LH hk.1 hk.2
 have n1:=qg h6.2.1
 have ns:=qg h6.2.2.1
 have nq:=qg h6.2.2.2.1
 have na:=qg h6.2.2.2.2.1
 have np:=qg h6.2.2.2.2.2.1
 have hfs:=(af.cons vL (af.cons iM af.nil rfl) rfl)
 generalize hF:Qs.U=F at hC hfs ⊢
 generalize hG0:Hs.U=G0 at hC hfs ⊢
 generalize hG1:CrcR.Fs.U=G1 at hC hfs ⊢
 generalize hA:Ar.U=A
 generalize hL:Lp _ _ _=L
 obtain⟨Z,zq⟩:=aH
 refine aA (aa hL) zq rfl ?_
 repeat' (first|(refine ay zq ?_;try dsimp only)|refine ax zq ?_ (aa hL)|refine az zq ?_|refine aw ?_|refine aq ?_|refine au ?_|refine ar ?_|refine al rfl ?_|refine ai rfl ?_|refine aj rfl ?_|(refine Cd.mk ?_;cbv)|(refine aF.mk ?_;cbv)|(refine aK.mk ?_;cbv)|exact trivial|refine And.intro ?_ ?_|refine aZ fun _=>?_|refine ba fun _=>?_)
 all_goals
  clear hL zq Z hfs
  subst hF hA hG0 hG1
  simp only [Qs.U,Hs.U,CrcR.Fs.U,Ar.U] at *
  try (grind [ah,fy,BR])
theorem rU:aC Tryz.prog 71 (pQ Qs.U):=by
 refine aD (af.cons vL (af.cons iM af.nil rfl) rfl) Tryz.func71 rfl rfl fun xs h p hp=>?_
 unfold pQ at hp
 split at hp
 ·cases hp
  exact⟨av rfl,fun hC _=>Ev _ _ _ _ _ hC⟩
 ·cases hp
def mj (F:Qs):aW:=fun xs h=>match xs,h with
 |[.one (.sl none (.ints .u8 l))],[]=>some ⟨F.Kg l=true,.bB [.agg [.val (.int .i64 (F.fh l).k),.val (.int .i64 (F.fh l).s),.val (.int .i64 (F.fh l).q),.val (.int .i64 (F.fh l).a),.sl none (.ints .u8 (F.fh l).p)],I (F.fh l).e],[],[Any]⟩
 |_,_=>none
theorem CK (l:List Int) (hC:Qs.U.Kg l=true):aR [(68,lU CrcR.Fs.U),(69,tS Gs.U),(70,yw Qs.U),(71,pQ Qs.U)] Tryz.f33 [.one (.sl none (.ints .u8 l))] [] ⟨Qs.U.Kg l=true,.bB [.agg [.val (.int .i64 (Qs.U.fh l).k),.val (.int .i64 (Qs.U.fh l).s),.val (.int .i64 (Qs.U.fh l).q),.val (.int .i64 (Qs.U.fh l).a),.sl none (.ints .u8 (Qs.U.fh l).p)],I (Qs.U.fh l).e],[],[Any]⟩:=by
 intro b gv
 have hl:kG l=true:=hC
 have hcr:l.length≤16403→CrcR.okB l=true:=QR hl
 have o0:=Jn l hl
 have o1:=IQ _ 0 2 o0
 have o2:=IQ _ (BM (CrcR.jZ l) 0 2) 1 o1
 have hfs:=(af.cons lu (af.cons wN (af.cons AH (af.cons rU af.nil rfl) rfl) rfl) rfl)
 generalize hF:Qs.U=F at hC hfs ⊢
 generalize hG0:Gs.U=G0 at hC hfs ⊢
 generalize hG1:CrcR.Fs.U=G1 at hC hfs ⊢
 generalize hA:Ar.U=A
 generalize hL:Lp _ _ _=L
 obtain⟨Z,zq⟩:=aH
 refine aA (aa hL) zq rfl ?_
 repeat' (first|(refine ay zq ?_;try dsimp only)|refine ax zq ?_ (aa hL)|refine az zq ?_|refine aw ?_|refine aq ?_|refine au ?_|refine ar ?_|refine al rfl ?_|refine ai rfl ?_|refine aj rfl ?_|(refine Cd.mk ?_;cbv)|(refine aF.mk ?_;cbv)|(refine aK.mk ?_;cbv)|exact trivial|refine And.intro ?_ ?_|refine aZ fun _=>?_|refine ba fun _=>?_)
 all_goals
  clear hL zq Z hfs
  subst hF hA hG0 hG1
  simp only [Qs.U,Gs.U,Fs.U,CrcR.Fs.U,Ar.U] at *
  try (grind [ah,NK,Yi,zF,IU,IQ])
theorem yT:aC Tryz.prog 33 (mj Qs.U):=by
 refine aD (af.cons lu (af.cons wN (af.cons AH (af.cons rU af.nil rfl) rfl) rfl) rfl) Tryz.func33 rfl rfl fun xs h p hp=>?_
 unfold mj at hp
 split at hp
 ·cases hp
  exact⟨av rfl,fun hC _=>CK _ hC⟩
 ·cases hp
end Go.Proofs.YtakebkfhigadiaaGreat.FrQ
