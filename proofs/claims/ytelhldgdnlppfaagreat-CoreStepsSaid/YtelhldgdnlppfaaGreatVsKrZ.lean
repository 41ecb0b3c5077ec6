/-
  Events of a core that may be: all that they do may be done,and what is told is short. No condition.
-/
import Derived.Test.YtelhldgdnlppfaaGreatVsKrY
import Derived.Test.YtelhldgdnlppfaaGreatVsW45
import Derived.Test.YtelhldgdnlppfaaGreatVsW46
namespace Go.Proofs.YtelhldgdnlppfaaGreat.KrZ
open Go Ry ViR VoR KsS KsC KsT KsE KsF KrV KrW KrX KrY
open ViM (e5)
open ChQ (jt ef CH)
open TrR (bS)
open WoR (kx WD)
open ViS (gE dV kg kT)
open KsG (iW eJ rN)
def CI (i l:Int):CS:=VV.B (iW i l)
theorem zZ {i:Int} (h:bG i=true) (l:Int):Vd (iW i l):=⟨h,fun y hy=>(by cases hy),List.Pairwise.nil,ye,fun y hy=>(by cases hy),fun q=>rfl,⟨List.nodup_nil,Nat.zero_le _⟩,Nat.zero_le _,Nat.zero_le _,Nat.zero_le _⟩
theorem aai {i:Int} (h:bG i=true) (l:Int):Vd (CI i l):=Ce.v _ (zZ h l)
def NS (y:E):Prop:=(rl y 4).length≤1000∧(rr y 5).length≤1000
def Uq (d:CS):Prop:=∀ y∈d.q,NS y
theorem Ez {p:Int} {w:WK} (h1:w.n.length≤1000) (h2:w.l.length≤1000):NS (cB p w):=⟨h1,h2⟩
theorem NC {q r:List E} (h:∀ y∈q,NS y) (g:∀ y∈r,NS y):∀ y∈q ++ r,NS y:=fun y hy=>(List.mem_append.1 hy).elim (h y) (g y)
theorem kN {d:CS} (h:Uq d) (a:Int) (r:VT):Uq (aE d a r):=by
 unfold aE;split
 ·exact NC h fun y hy=>by
   obtain⟨k,_,rfl⟩:=List.mem_map.1 hy;exact Ez (Nat.zero_le _) (Nat.zero_le _)
 ·exact h
theorem Wb {d:CS} (h:Uq d):∀ n,Uq (eh d n)
 |0=>h
 |n+1=>kN (Wb h n) _ _
theorem VJ {d:CS} (h:Uq d):∀ n,Uq (cD d n)
 |0=>h
 |n+1=>kN (VJ h n) _ _
theorem UU {d:CS} (h:Uq d) (l:List Int) {w:WK} (h1:w.n.length≤1000) (h2:w.l.length≤1000):Uq (ed d l w):=NC h fun y hy=>by
 obtain⟨k,_,rfl⟩:=List.mem_map.1 hy;exact Ez h1 h2
theorem Wi {d:CS} (h:Uq d) (e r p:Int):Uq (eR d e r p):=by
 unfold eR;refine Wb (UU ?_ _ (Nat.zero_le _) (Nat.zero_le _)) _;exact h
theorem Pt {d:CS} (h:Uq d):Uq (mj d):=by
 unfold mj;split
 ·exact h
 ·exact VJ h _
theorem adr {d:CS} (h:Uq d) (c:CH) {v:List Int} {l:List E} (hv:v.length≤1000) (hl:l.length≤1000):Uq (dH d c v l):=by
 have:Uq (ed d (bJ d.U d.p) (rM d c v l)):=by
  refine UU h _ ?_ ?_
  ·unfold rM;simp only;split
   ·exact hv
   ·exact Nat.zero_le _
  ·unfold rM;simp only;split
   ·exact hl
   ·exact Nat.zero_le _
 unfold dH;split <;> exact this
def Ub (L:Lv):Prop:=∀ x,Vd x→Uq x→Uq (L.B x)
theorem aaT {L:Lv} (hB:Ub L) {d:CS} (h:Vd d) (u:Uq d) (k:Int) {a:Int} (h0:0≤a) (h1:a < d.U.length):Uq (jh L d k a):=by
 have hv:=(h.t _ (bT h0 h1)).v;unfold jh;split
 ·have g:=(cP h h0 h1 (Kp hv)).1;split
  ·exact hB _ g (kN u _ _)
  ·exact kN u _ _
 ·split
  ·have g:=(cP h h0 h1 (xP hv)).1;split
   ·exact hB _ g (kN u _ _)
   ·exact kN u _ _
  ·exact u
theorem abO {L:Lv} (hB:Ub L) {d:CS} (h:Vd d) (u:Uq d) (ho:d.o=false) (c:CH) {v:List Int} {l:List E} (hv:v.length≤500) (hl:l.length≤500):Uq (mh L d c v l):=by
 obtain⟨g,_,t⟩:=tz h ho c hv hl;have g2:=adr u c (show v.length≤1000 by omega) (show l.length≤1000 by omega);unfold mh;split
 ·rename_i e;obtain⟨m1,m2⟩:=rU e;exact aaT hB g g2 _ m1 (by rw [t];exact m2)
 ·exact g2
theorem HA {L:Lv} (hB:Ub L) {d:CS} (h:Vd d) (u:Uq d):Uq (cy L d):=by
 have hs:=lz h;unfold cy;split
 ·exact u
 ·rename_i e;have ho:=(jc e).1;split
  ·exact NC u fun y hy=>by
    rw [List.mem_singleton] at hy;rw [hy];exact Ez (show (cW d).length≤1000 by omega) (show (cT d).length≤1000 by omega)
  ·split
   ·exact u
   ·exact abO hB h u ho _ (by omega) (by omega)
theorem WG {L:Lv} (hB:Ub L) {d:CS} (h:Vd d) (u:Uq d):Uq (gu L d):=by
 unfold gu;split
 ·exact u
 ·rename_i e;split
  ·exact HA hB (iU h (by simpa using e) _ _ _).1 (Wi u _ _ _)
  ·exact Pt u
theorem agk:Ub VV:=fun _ h u=>WG (L:=vF.up) (fun _ h u=>WG (L:=vF) (fun _ _ u=>u) h u) h u
structure Lt (w:WK):Prop where
 n:w.n.length≤70∧w.l.length≤60
 c:∀ y∈w.l,y=e5 y
noncomputable def ltB (w:WK):Bool:=@decide (Lt w) (Classical.propDecidable _)
theorem lt_iff {w:WK}:ltB w=true↔Lt w:=by
 unfold ltB;exact @decide_eq_true_iff _ (Classical.propDecidable _)
theorem xQ {i:Int} {v:EV} (h:dy i v=true) (k:v.k=1):bG v.p=true∧v.p≠i∧0≤v.w∧v.w≤2147483647∧1≤v.s∧v.s≤2147483647:=by
 unfold dy at h;rw [if_pos k,Bool.and_eq_true,decide_eq_true_eq] at h;exact h
theorem uS {i:Int} {v:EV} (h:dy i v=true) (k:v.k=3):kx (tH v.x)=true:=by
 unfold dy at h;rw [if_neg (by omega),if_pos k] at h;exact h
theorem aaH {L:Lv} (hL:Lk L 5000) {d:CS} (h:Vd d) (hq:d.q.length≤100) (hg:d.gl.length≤100) {v:EV} (hc:dy d.i v=true) (hx:Lt v.x):vm L d v=true:=by
 have hl:=h.len;have hgn:=h.VQ;have hw6:=h.w.2;have n1:=hx.n.1;have n2:=hx.n.2;have sg:IU d v.x=true:=decide_eq_true ⟨by omega,by omega,by omega,by omega,by omega,by omega,by omega⟩;have su:Bu d=true:=decide_eq_true ⟨by omega,by omega⟩;have k1:v.k=1→CG L d v.p v.w v.s=true:=fun e=>by
  obtain⟨c1,c2,c3⟩:=xQ hc e;unfold CG;rw [su,hL.ok _ (GD h c1 c2 c3) (show d.q.length≤5000 by omega)];rfl
 have k2:Cy L d v.p=true:=by
  unfold Cy;rw [su,show L.ok (dnS d v.p)=true from hL.ok _ (HP h (bA d.U v.p)) (show d.q.length≤5000 by omega)];simp
 have k3:v.k=3→lq L d v.p v.x=true:=fun e=>by
  have mw:=uS hc e;unfold lq;rw [su,decide_eq_true (show v.x.n.length≤1000∧v.x.l.length≤1000 from ⟨by omega,by omega⟩)];simp only [Bool.true_and,Bool.or_eq_true,Bool.and_eq_true,Bool.not_eq_true',decide_eq_true_eq,decide_eq_false_iff_not]
  by_cases na:bA d.U v.p < 0
  ·exact .inl na
  ·have at2:=(jd d.U v.p).2;refine .inr ⟨.inr (YT (n:=100) (Lk.mono hL (by omega)) (by omega) h (by omega) at2 hq _),?_,?_⟩
   ·by_cases g:d.o=false
    ·exact .inr (Iw (n:=100) (Lk.mono hL (by omega)) (by omega) h g hq _ _ _)
    ·exact .inl fun q=>g q.2.2.2
   ·by_cases g:d.o=false
    ·exact .inr (Mc (n:=100) (Lk.mono hL (by omega)) (by omega) h g hq _ (by omega) (by omega))
    ·exact .inl fun q=>g q.2.2.2.2.2
 have k4:v.k=3∧v.x.k=2→rH L d v.p v.x=true:=fun e=>by
  have mw:=uS hc e.1;obtain⟨v2,q2,_,_⟩:=vd h hg ⟨mw,hx.n,hx.c⟩ e.2 v.p;unfold rH uf;rw [sg,oH (n:=100) (Lk.mono hL (by omega)) (by omega) v2 (by rw [q2];omega)];simp
 unfold vm;simp only [Bool.and_eq_true,Bool.or_eq_true,Bool.not_eq_true',decide_eq_false_iff_not];refine⟨sg,?_,.inr k2,?_,?_⟩
 ·by_cases e:v.k=1
  ·exact .inr (k1 e)
  ·exact .inl e
 ·by_cases e:v.k=3∧¬v.x.k=2
  ·exact .inr (k3 e.1)
  ·exact .inl e
 ·by_cases e:v.k=3∧v.x.k=2
  ·exact .inr (k4 e)
  ·exact .inl e
theorem ads {L:Lv} (hB:∀ x,Vd x→Vd (L.B x)) {d:CS} (h:Vd d) {a:Int} (h0:0≤a) (h1:a < d.U.length) (k:Int):Vd (AP L d a k):=by
 have hv:=(h.t _ (bT h0 h1)).v;obtain⟨g,_,l⟩:=cP h h0 h1 (IZ k hv);have h2:a < (aE d a (eT k (tie d a))).U.length:=by rw [l];exact h1
 unfold AP;split
 ·exact (cP g h0 h2 (xP (g.t _ (bT h0 h2)).v)).1
 ·split
  ·exact hB _ g
  ·split
   ·exact Ae hB g
   ·exact g
theorem agq {L:Lv} (hB:Ub L) {d:CS} (h:Vd d) (u:Uq d) {a:Int} (h0:0≤a) (h1:a < d.U.length) (k:Int):Uq (AP L d a k):=by
 have hv:=(h.t _ (bT h0 h1)).v;obtain⟨g,_,l⟩:=cP h h0 h1 (IZ k hv);have u2:=kN u a (eT k (tie d a));unfold AP;split
 ·exact kN u2 _ _
 ·split
  ·exact hB _ g u2
  ·split
   ·exact HA hB g u2
   ·exact u2
theorem acS {L:Lv} (hB:∀ x,Vd x→Vd (L.B x)) (hU:Ub L) {d:CS} (h:Vd d) (u:Uq d) (hg:d.gl.length≤100) {v:EV} (hc:dy d.i v=true) (hx:Lt v.x):Vd (ju L d v)∧Uq (ju L d v):=by
 have n1:=hx.n.1;have n2:=hx.n.2;unfold ju;split
 ·rename_i e;obtain⟨c1,c2,c3⟩:=xQ hc e;have g:=GD h c1 c2 c3;exact⟨hB _ g,hU _ g u⟩
 ·split
  ·unfold QC;split
   ·exact⟨h,u⟩
   ·have g:=HP h (bA d.U v.p);exact⟨hB _ g,hU _ g u⟩
  ·split
   ·rename_i e;have mw:=uS hc e;unfold iD;split
    ·rename_i e2;split
     ·exact⟨h,u⟩
     ·split
      ·exact⟨h,u⟩
      ·unfold nX;split
       ·obtain⟨v2,q2,_,_⟩:=vd h hg ⟨mw,hx.n,hx.c⟩ e2 v.p;exact⟨Ae hB v2,HA hU v2 (by unfold Uq;rw [q2];exact u)⟩
       ·exact⟨h,u⟩
    ·unfold dG;split
     ·exact⟨h,u⟩
     ·rename_i na;have at2:=(jd d.U v.p).2;split
      ·exact⟨ads hB h (by omega) at2 _,agq hU h u (by omega) at2 _⟩
      ·split
       ·exact⟨h,u⟩
       ·rename_i ho;have ho:d.o=false:=by simpa using ho
        split
        ·split
         ·have g:=(iU h ho v.x.e v.x.r v.p).1;exact⟨Ae hB g,HA hU g (Wi u _ _ _)⟩
         ·exact⟨h,u⟩
        ·split
         ·split
          ·exact⟨UL hB h ho _ (by omega) (by omega),abO hU h u ho _ (by omega) (by omega)⟩
          ·exact⟨h,u⟩
         ·exact⟨h,u⟩
   ·exact⟨(yH h).1,Pt u⟩
def k7 (y:E):(Int × Int × Int × Int) × (Bool × Bool × Int):=((ri y 0,ri y 1,ri y 2,ri y 3),(rb y 4,rb y 5,ri y 6))
def lB (p q:List E):Bool:=decide (p.map k7=q.map k7)
def wN (a b:CS):Bool:=decide (a.i=b.i∧a.ee=b.ee∧a.er=b.er∧a.t=b.t∧a.p=b.p∧a.ph=b.ph∧a.l=b.l∧a.o=b.o) && (lB a.U b.U && (gE a.w b.w && (dV a.gn a.gl b.gn b.gl && dV a.tn a.tl b.tn b.tl)))
def rP (a:CS):Bool:=decide (a.U.length≤1000∧a.w.length≤1000∧a.gn.length≤1000∧a.gl.length≤1000∧a.tn.length≤1000∧a.tl.length≤1000)
def CE (a b:CS):Bool:=rP a && rP b
theorem ka (n:List Int) (l:List E):dV n l n l=true:=by
 unfold dV gE kg;simp
theorem Ea (a:CS):wN a a=true:=by
 unfold wN lB;rw [ka,ka];simp [gE]
def tU (w u:WK):Bool:=decide (w.k=u.k∧w.e=u.e∧w.r=u.r∧w.ck=u.ck∧w.ca=u.ca∧w.cb=u.cb∧w.cs=u.cs) && dV w.n w.l u.n u.l
def YY (w:WK):Bool:=decide (w.n.length≤1000∧w.l.length≤1000)
def wkO (y:E):WK:=⟨ri y 1,ri y 2,ri y 3,rl y 4,rr y 5,ri y 6,ri y 7,ri y 8,ri y 9⟩
def BB (x y:E):Bool:=decide (ri x 0=ri y 0) && tU (wkO x) (wkO y)
def FM (p q:List E):Bool:=decide (p.length=q.length) && (List.range p.length).all fun i=>BB (p.getD i []) (q.getD i [])
theorem Ev (p:List E):FM p p=true:=by
 unfold FM BB tU;simp [ka]
noncomputable def Ze (p:List E):Bool:=@decide (p.length≤1000000∧∀ y∈p,NS y) (Classical.propDecidable _)
theorem yx {p:List E}:Ze p=true↔p.length≤1000000∧∀ y∈p,NS y:=by
 unfold Ze;exact @decide_eq_true_iff _ (Classical.propDecidable _)
def YO (p q:List E) (f:E→E→Bool) (y:KsC.XI):Prop:=0≤y.i∧y.i≤p.length∧∀ k:Nat,k < y.i→f (p.getD k []) (q.getD k [])=true
theorem xR (p q:List E) (f:E→E→Bool):YO p q f ⟨0⟩:=⟨Int.le_refl 0,Int.natCast_nonneg _,fun k h=>by simp only at h;omega⟩
def Cv (p q:List E) (f:E→E→Bool):Bool:=(List.range p.length).all fun i=>f (p.getD i []) (q.getD i [])
theorem Ab {p q:List E} {f:E→E→Bool} (hp:p.length≤1000000) {i:Int} (hq:YO p q f ⟨i⟩) (h:i < p.length):aD .add .i64 i 1=i+1∧KsC.mF p.length ⟨i+1⟩ < KsC.mF p.length ⟨i⟩∧(f (p.getD i.toNat []) (q.getD i.toNat [])=true→YO p q f ⟨i+1⟩)∧(f (p.getD i.toNat []) (q.getD i.toNat [])=false→Cv p q f=false):=by
 obtain⟨h0,h1,h2⟩:=hq;simp only at h0 h1 h2;refine⟨by rw [aW,wr _ (by omega) (by omega)],by simp only [KsC.mF];omega,fun g=>⟨by simp only;omega,by simp only;omega,fun k hk=>?_⟩,fun g=>?_⟩
 ·simp only at hk
  by_cases c:k=i.toNat
  ·rw [c];exact g
  ·exact h2 k (by omega)
 ·cases e:Cv p q f
  ·rfl
  ·have:=List.all_eq_true.1 e i.toNat (List.mem_range.2 (by omega));rw [g] at this;cases this
theorem DN {p q:List E} {f:E→E→Bool} {i:Int} (hq:YO p q f ⟨i⟩) (h:¬i < p.length):Cv p q f=true:=by
 obtain⟨h0,h1,h2⟩:=hq;simp only at h0 h1 h2;refine List.all_eq_true.2 fun k hk=>h2 k ?_;have:=List.mem_range.1 hk;omega
def f7 (x y:E):Bool:=decide (k7 x=k7 y)
theorem WA (x y:E):f7 x y=decide (ri x 0=ri y 0∧ri x 1=ri y 1∧ri x 2=ri y 2∧ri x 3=ri y 3∧rb x 4=rb y 4∧rb x 5=rb y 5∧ri x 6=ri y 6):=by
 unfold f7 k7;refine decide_eq_decide.2 ?_;simp only [Prod.mk.injEq];constructor
 ·rintro⟨⟨a,b,c,d⟩,e,f,g⟩;exact⟨a,b,c,d,e,f,g⟩
 ·rintro⟨a,b,c,d,e,f,g⟩;exact⟨⟨a,b,c,d⟩,e,f,g⟩
theorem PX (x y:E):BB x y=(decide (ri x 0=ri y 0) && tU ⟨ri x 1,ri x 2,ri x 3,rl x 4,rr x 5,ri x 6,ri x 7,ri x 8,ri x 9⟩ ⟨ri y 1,ri y 2,ri y 3,rl y 4,rr y 5,ri y 6,ri y 7,ri y 8,ri y 9⟩):=rfl
theorem acO {p q:List E} (hp:∀ y∈p,NS y) (hq:∀ y∈q,NS y) {i:Int} (h0:0≤i) (h1:i < p.length) (h2:i < q.length):YY ⟨ri (p.getD i.toNat []) 1,ri (p.getD i.toNat []) 2,ri (p.getD i.toNat []) 3,rl (p.getD i.toNat []) 4,rr (p.getD i.toNat []) 5,ri (p.getD i.toNat []) 6,ri (p.getD i.toNat []) 7,ri (p.getD i.toNat []) 8,ri (p.getD i.toNat []) 9⟩=true∧YY ⟨ri (q.getD i.toNat []) 1,ri (q.getD i.toNat []) 2,ri (q.getD i.toNat []) 3,rl (q.getD i.toNat []) 4,rr (q.getD i.toNat []) 5,ri (q.getD i.toNat []) 6,ri (q.getD i.toNat []) 7,ri (q.getD i.toNat []) 8,ri (q.getD i.toNat []) 9⟩=true:=by
 have a:=hp _ (nh h0 h1);have b:=hq _ (nh h0 h2);exact⟨decide_eq_true a,decide_eq_true b⟩
theorem wK {p q:List E} (h:p.length=q.length):lB p q=Cv p q f7:=by
 have:lB p q=true↔Cv p q f7=true:=by
  unfold lB Cv f7;rw [decide_eq_true_eq,List.all_eq_true];constructor
  ·intro e k hk;have hk:=List.mem_range.1 hk;have:=congrArg (fun l=>l[k]?) e;simp only [List.getElem?_map,List.getElem?_eq_getElem hk,List.getElem?_eq_getElem (show k < q.length by omega),Option.map_some,Option.some.injEq] at this;rw [List.getD_eq_getElem?_getD,List.getElem?_eq_getElem hk,List.getD_eq_getElem?_getD,List.getElem?_eq_getElem (show k < q.length by omega)];exact decide_eq_true this
  ·intro e;refine List.ext_getElem (by simp [h]) fun k h1 h2=>?_;rw [List.length_map] at h1 h2;have:=of_decide_eq_true (e k (List.mem_range.2 h1));rw [List.getD_eq_getElem?_getD,List.getElem?_eq_getElem h1,List.getD_eq_getElem?_getD,List.getElem?_eq_getElem h2] at this;rw [List.getElem_map,List.getElem_map];exact this
 cases h1:lB p q <;> cases h2:Cv p q f7
 ·rfl
 ·rw [this.2 h2] at h1;cases h1
 ·rw [this.1 h1] at h2;cases h2
 ·rfl
theorem BP {p q:List E} (h:¬p.length=q.length):lB p q=false:=by
 unfold lB;refine decide_eq_false fun e=>h ?_;have:=congrArg List.length e;rw [List.length_map,List.length_map] at this;exact this
noncomputable def Jz (d:CS) (v:EV):Bool:=vR d && (ltB v.x && decide (d.q=[]∧d.gl.length≤100))
theorem adw {d:CS} {v:EV} (h:Jz d v=true):Vd d∧d.q=[]∧d.U.length≤64∧v.x.n.length≤70∧v.x.l.length≤60∧-1≤bA d.U v.p∧bA d.U v.p < d.U.length ∧
  (dy d.i v=false→dg VV d v=⟨0,0,0,0,0,[],[],[],[],0,[],[],0,false,[]⟩) ∧
  (v.k=1→(dy d.i v=true↔(bG v.p=true∧v.p≠d.i∧0≤v.w∧v.w≤2147483647∧1≤v.s∧v.s≤2147483647))) ∧
  (v.k=1→dy d.i v=true→dg VV d v=VV.B (Jl d v.p v.w v.s)∧(vR d && decide (bG v.p=true∧v.p≠d.i∧0≤v.w∧v.w≤2147483647∧1≤v.s∧v.s≤2147483647∧d.q.length≤100))=true) ∧
  (v.k=2→dy d.i v=true∧(bA d.U v.p < 0→dg VV d v=d)∧(¬bA d.U v.p < 0→dg VV d v=VV.B ⟨d.i,d.ee,d.er,d.t,d.p,d.U.take (bA d.U v.p).toNat ++ d.U.drop (bA d.U v.p+1).toNat,d.w,d.gn,d.gl,d.ph,d.tn,d.tl,d.l,d.o,[]⟩∧RV.ok ⟨d.i,d.ee,d.er,d.t,d.p,d.U.take (bA d.U v.p).toNat ++ d.U.drop (bA d.U v.p+1).toNat,d.w,d.gn,d.gl,d.ph,d.tn,d.tl,d.l,d.o,[]⟩=true)) ∧
  (v.k=3→dy d.i v=kx ⟨v.x.k,v.x.e,v.x.r,v.x.n,v.x.l,v.x.ck,v.x.ca,v.x.cb,v.x.cs⟩) ∧
  (v.k=3→dy d.i v=true→(bA d.U v.p < 0→dg VV d v=d)∧(¬bA d.U v.p < 0→dg VV d v=Dc d (bA d.U v.p) v.x∧Kn d (bA d.U v.p) v.x=true)) ∧
  (v.k=4→dy d.i v=true∧(d.o=true→dg VV d v=d)∧(d.o=false→dg VV d v=Qr (cD d d.U.length)∧(vR d && decide (d.q.length≤90000))=true)) ∧
  (¬v.k=1→¬v.k=2→¬v.k=3→¬v.k=4→dy d.i v=false):=by
 unfold Jz at h;simp only [Bool.and_eq_true,decide_eq_true_eq] at h;obtain⟨h1,h2,hq,hg⟩:=h;have v':=dA.1 h1;have hx:=lt_iff.1 h2;have hl:=v'.len;have hat:=jd d.U v.p;have hq0:d.q.length=0:=by rw [hq];rfl
 have s1:dy d.i v=true→dg VV d v=ju VV d v:=fun e=>if_pos (if_pos e);refine⟨v',hq,hl,hx.n.1,hx.n.2,hat.1,hat.2,fun e=>if_neg (by unfold eV;rw [e];decide),fun e=>?_,fun e c=>?_,fun e=>?_,fun e=>?_,fun e c=>?_,fun e=>?_,fun e1 e2 e3 e4=>?_⟩
 ·unfold dy;rw [if_pos e,Bool.and_eq_true,decide_eq_true_eq]
 ·have c1:=xQ c e;refine⟨?_,?_⟩
  ·rw [s1 c];unfold ju;rw [if_pos e]
  ·rw [h1];simp only [Bool.true_and,decide_eq_true_eq];exact⟨c1.1,c1.2.1,c1.2.2.1,c1.2.2.2.1,c1.2.2.2.2.1,c1.2.2.2.2.2,by omega⟩
 ·have c:dy d.i v=true:=by
   unfold dy;rw [if_neg (by omega),if_neg (by omega)];exact decide_eq_true (.inl e)
  have s:=s1 c;unfold ju QC at s;rw [if_neg (by omega),if_pos e] at s;refine⟨c,fun a=>by rw [s,if_pos a],fun a=>?_⟩;have ex:({ d with U:=PG d.U (bA d.U v.p) }:CS)=⟨d.i,d.ee,d.er,d.t,d.p,d.U.take (bA d.U v.p).toNat ++ d.U.drop (bA d.U v.p+1).toNat,d.w,d.gn,d.gl,d.ph,d.tn,d.tl,d.l,d.o,[]⟩:=by rw [← hq];rfl
  rw [← ex];refine⟨by rw [s,if_neg a];rfl,Ig.ok _ (HP v' _) ?_⟩;show d.q.length≤50000;omega
 ·unfold dy;rw [if_neg (by omega),if_pos e];rfl
 ·have s:=s1 c;have mw:=uS c e;unfold ju at s;rw [if_neg (by omega),if_neg (by omega),if_pos e] at s;refine⟨fun a=>?_,fun a=>?_⟩
  ·rw [s];unfold iD dG;rw [if_pos a,if_pos a];split <;> rfl
  ·have g:=Xt (l:=d.U) (p:=v.p) (by omega);refine⟨?_,?_⟩
   ·rw [s];unfold Dc;rw [g]
   ·unfold Kn;rw [h1,KR.2 ⟨mw,hx.n,hx.c⟩,g];simp only [Bool.true_and,decide_eq_true_eq];exact⟨by omega,hat.2,trivial,by omega,hg⟩
 ·have c:dy d.i v=true:=by
   unfold dy;rw [if_neg (by omega),if_neg (by omega)];exact decide_eq_true (.inr e)
  have s:=s1 c;unfold ju mj at s;rw [if_neg (by omega),if_neg (by omega),if_neg (by omega)] at s;refine⟨c,fun a=>by rw [s,if_pos a],fun a=>⟨by rw [s,if_neg (by rw [a];decide)],?_⟩⟩;rw [h1,hq];rfl
 ·unfold dy;rw [if_neg e1,if_neg e3];exact decide_eq_false (by omega)
end Go.Proofs.YtelhldgdnlppfaaGreat.KrZ
