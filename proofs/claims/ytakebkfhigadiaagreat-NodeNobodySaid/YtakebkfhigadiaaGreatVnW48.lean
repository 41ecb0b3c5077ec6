
/-
  lines: what the code makes is what the document Ud. No condition.
-/
import Derived.Test.YtakebkfhigadiaaGreatVnLiR
import Derived.Test.YtakebkfhigadiaaGreatVnFrQ
import Derived.Test.YtakebkfhigadiaaGreatVnW17
namespace Go.Proofs.YtakebkfhigadiaaGreat.LiQ
open Go Ry HaR SeR SeS SeT SeU SeL SeV LiR
open FrR (eX Lt rF Ux)
open OctR (kG)
def FL (limit:Int):LN:=let h:=uI 0 limit;⟨h.l,h.c,h.p,h.o,0,0,[],0,0,false⟩
def Ng (x:LN):LD :=
 if 0 < x.p then ⟨x,⟨[[.int 1,.int x.p,.int 0,.int 0,.ints []]],[],false,0⟩,0⟩
 else ⟨qk x (oU x.b x.s x.q x.t),⟨Ea x.c x.n (nd x.b x.s x.q x.t),[],false,0⟩,0⟩
def fr1 (y:E):Int × Int × Int × Int × List Int:=(ri y 0,ri y 1,ri y 2,ri y 3,rl y 4)
def YE (l:List E):List (Int × Int × Int × Int × List Int):=l.map fr1
def Vr (l:List E):Bool:=decide (l.length≤100000∧∀ y∈l,∀ x∈rl y 4,0≤x∧x≤255)
def vX (x:NW):Bool:=Vr x.f && kW x.g
def Yj (x y:NW):Bool:=decide (x.d=y.d∧x.s=y.s∧YE x.f=YE y.f∧pq x.g=pq y.g)
end Go.Proofs.YtakebkfhigadiaaGreat.LiQ
namespace Go.Proofs.YtakebkfhigadiaaGreat.LiS
open Go Ry HaR SeR SeS SeT SeU SeL SeV LiR LiQ
open FrR (eX Lt rF Ux)
theorem Pn {q:List E} (h:pq q=[]):q=[]:=by
 cases q with
 |nil=>rfl
 |cons a l=>cases h
theorem shut {x:LN} (h:iV x=true) (ho:nc x=false):x=xS x:=by
 have h4:=(wM h).2.2.2
 rcases h4 with h4|h4
 ·exact absurd h4 (by rw [ho];decide)
 ·obtain⟨l,c,p,o,b,s,q,t,n,w⟩:=x
  unfold Jc at h4
  rw [Bool.and_eq_true,Bool.and_eq_true] at h4
  obtain⟨h5,h6⟩:=of_decide_eq_true h4.1.2
  obtain⟨h7,h8,h9,h10⟩:=of_decide_eq_true h4.2
  simp only [xS] at h5 h6 h7 h8 h9 h10
  have:=Pn (q:=q) h10
  simp only [xS]
  subst h5 h6 h7 h8 h9 this
  rfl
theorem uH (y:NW):Yj y y=true:=decide_eq_true ⟨rfl,rfl,rfl,rfl⟩
structure Al (a b:LD):Prop where
 e:a.e=0
 s:Jc a.x b.x=true
 n:Yj a.y b.y=true
 b1:kW a.x.q=true
 b2:kW b.x.q=true
 n1:vX a.y=true
 n2:vX b.y=true
theorem Nq {x y:LN} (h1:x.l=y.l) (h2:x.c=y.c) (h3:x.p=y.p) (h4:x.o=y.o) (h5:x.n=y.n) (h6:x.w=y.w) (h7:Ny x.b x.s x.q x.t y.b y.s y.q y.t=true):Jc x y=true:=by
 unfold Jc
 rw [h7,decide_eq_true ⟨h1,h2,h3,h4⟩,decide_eq_true ⟨h5,h6⟩]
 rfl
theorem Aw (x:LN):Jc x x=true:=Nq rfl rfl rfl rfl rfl rfl (decide_eq_true ⟨rfl,rfl,rfl,rfl⟩)
theorem Sy {c n:Int} {l:List E} (h:Px l=true):Vr (Ea c n l)=true:=by
 have h:=of_decide_eq_true h
 refine decide_eq_true ⟨by rw [yZ];exact h.1,fun y hy x hx=>?_⟩
 obtain⟨z,hz,rfl⟩:=List.mem_map.1 hy
 exact h.2 z hz x hx
theorem TB {k s q a:Int} {p:List Int} (h:∀ x∈p,0≤x∧x≤255):Vr [[D.int k,D.int s,D.int q,D.int a,D.ints p]]=true:=by
 refine decide_eq_true ⟨by simp,fun y hy x hx=>?_⟩
 rw [List.mem_singleton] at hy
 subst hy
 exact h x hx
theorem Ti {x:LN} (h:nc x=true):x.c≠0:=by
 unfold nc at h
 simpa using h
theorem Wf {x:LN} (h:iV x=true) (ho:nc x=true):x.p=0:=by
 have h1:=(wM h).1
 have h2:=Ti ho
 simp only [pf,rT,gi,rG,Bool.and_eq_true,Bool.or_eq_true,decide_eq_true_eq,beq_iff_eq] at h1
 omega
theorem PF {x:LN} (h:iV x=true) (ho:nc x=false):(x.o=true→¬0 < x.p)∧(x.o=false→0 < x.p):=by
 have h1:=(wM h).1
 have h2:x.c=0:=by
  unfold nc at ho
  simpa using ho
 obtain⟨l,c,p,o,b,s,q,t,n,w⟩:=x
 simp only at h1 h2 ⊢
 cases o <;> simp_all [pf,rT,gi,rG] <;> omega
theorem ID {x:LN} {n:Int} (hb:kW x.q=true) (hm:iV x=true) (hl:ca n=true):Al (fw x n) (Ng x):=by
 have h4:=wM hm
 have h2:=Gw ⟨h4.2.1,h4.2.1,rfl,rfl,rfl,rfl,hb,hb⟩
 unfold fw Ng
 rw [if_pos ⟨hm,hl⟩]
 by_cases g:nc x=true
 ·rw [if_pos g,if_neg (by rw [Wf hm g];decide)]
  have hd:vX ⟨Ea x.c x.n (nd x.b x.s x.q x.t),[],false,0⟩=true:=by
   simp only [vX,Bool.and_eq_true]
   exact⟨Sy h2.2.1,rfl⟩
  exact⟨rfl,Nq rfl rfl rfl rfl rfl rfl h2.2.2.2.2.1,uH _,h2.2.2.2.2.2.y,h2.2.2.2.2.2.y',hd,hd⟩
 ·have g:nc x=false:=by simpa using g
  rw [if_neg (by rw [g];decide)]
  have hs:=PF hm g
  have hx:=shut hm g
  cases ho:x.o with
  |false =>
   rw [if_pos (hs.2 ho)]
   have hd:vX ⟨[[.int 1,.int x.p,.int 0,.int 0,.ints []]],[],false,0⟩=true:=by
    simp only [vX,Bool.and_eq_true]
    exact⟨TB (fun _ h=>by cases h),rfl⟩
   exact⟨rfl,hx ▸ Aw _,uH _,rfl,hb,hd,hd⟩
  |true =>
   rw [if_neg (hs.1 ho),hx]
   exact⟨rfl,Aw _,uH _,rfl,rfl,rfl,rfl⟩
theorem pW {n:Int}:(ca n=true→(ml n).e=0∧(ml n).x=FL n∧kW (ml n).x.q=true∧kW (FL n).q=true)∧(ca n=false→ml n=⟨zL,zN,1⟩):=by
 refine⟨fun h=>?_,fun h=>?_⟩
 ·have e:vY 0 n=uI 0 n:=by
   unfold vY
   exact if_pos ⟨Int.le_refl 0,by decide,h⟩
  have e0:(uI 0 n).e=0:=by
   unfold uI
   split <;> rfl
  unfold ml FL
  rw [e]
  dsimp only
  rw [if_pos e0]
  exact⟨rfl,rfl,rfl,rfl⟩
 ·have e:vY 0 n=⟨0,0,0,false,1⟩:=by
   unfold vY
   exact if_neg fun w=>by rw [h] at w;exact absurd w.2.2 (by decide)
  unfold ml
  rw [e]
  rfl
end Go.Proofs.YtakebkfhigadiaaGreat.LiS
