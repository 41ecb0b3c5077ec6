/-
  The reckoner's words,in the model: what a symbolic value stands for,and what stays true of it. No condition.
-/
import Derived.Test.YtakebkfhigadiaaGreatVnRy
import Derived.Test.YtakebkfhigadiaaGreatVnLaw
import Derived.Great.BuildSlice
import Derived.MapKept
namespace Go.Proofs.YtakebkfhigadiaaGreat.Ry
open Go Go.RowKit
def dP.alive:dP→Bool
 |.cells _ _ | .row _ _ | .emp _ | .mp _ | .tok=>true
 |_=>false
def alive (h:H) (n:Nat):Prop:=∃ k,ak h n=some k∧k.alive=true
theorem dn {n i:Nat} (h:¬n=i):bF n i=false:=by
 cases e:bF n i with
 |false=>rfl
 |true=>exact absurd (aL e) h
theorem xO {n i:Nat} (h:bF n i=false):¬n=i:=by
 rintro rfl
 rw [cJ] at h
 cases h
theorem oX (h:H) (n:Nat) (b:dP) (i:Nat):ak (aS h n b) i=if n=i then some b else ak h i:=by
 induction h with
 |nil =>
  simp only [aS,ak]
  by_cases e:n=i
  ·subst e;simp
  ·have:bF n i=false:=dn e
   simp [this,e]
 |cons p h ih =>
  obtain⟨k,c⟩:=p
  simp only [aS]
  split
  ·rename_i hk
   have hk:=aL hk
   subst hk
   by_cases e:k=i
   ·subst e;simp [ak]
   ·have:bF k i=false:=dn e
    simp [ak,this,e]
  ·rename_i hk
   have hk:¬k=n:=xO hk
   split
   ·by_cases e:n=i
    ·subst e;simp [ak]
    ·have:bF n i=false:=dn e
     simp [ak,this,e]
   ·simp only [ak]
    by_cases e:n=i
    ·subst e
     have:bF k n=false:=dn hk
     simp [this,ih]
    ·simp only [e,if_false] at ih ⊢
     split
     ·rfl
     ·exact ih
theorem aJ (h:H) (n:Nat) (b:dP):ak (aS h n b) n=some b:=by simp [oX]
theorem aN (h:H) {n i:Nat} (b:dP) (hne:n≠i):ak (aS h n b) i=ak h i:=by simp [oX,hne]
theorem Cm (h:H) {n i:Nat} (b c:dP) (hne:n≠i):aS (aS h n b) i c=aS (aS h i c) n b:=by
 induction h with
 |nil =>
  have h1:bF n i=false:=dn hne
  have h2:bF i n=false:=dn hne.symm
  simp only [aS,h1,h2]
  by_cases e:n≤i
  ·have g1:dr n i=true:=by simpa using e
   have g2:dr i n=false:=by rw [← Bool.not_eq_true];simp;omega
   simp [g1,g2]
  ·have g1:dr n i=false:=by rw [← Bool.not_eq_true];simp;omega
   have g2:dr i n=true:=by simp;omega
   simp [g1,g2]
 |cons p h ih =>
  obtain⟨k,d⟩:=p
  have h1:bF n i=false:=dn hne
  have h2:bF i n=false:=dn hne.symm
  by_cases e1:k=n
  ·subst e1
   have:bF k k=true:=by simp
   by_cases e2:i≤k
   ·have g:dr i k=true:=by simpa using e2
    have g2:dr k i=false:=by rw [← Bool.not_eq_true];simp;omega
    simp [aS,h1,h2,g,g2]
   ·have g:dr i k=false:=by rw [← Bool.not_eq_true];simp;omega
    simp [aS,h1,g]
  ·by_cases e2:k=i
   ·subst e2
    have:bF k k=true:=by simp
    by_cases e3:n≤k
    ·have g:dr n k=true:=by simpa using e3
     have g2:dr k n=false:=by rw [← Bool.not_eq_true];simp;omega
     simp [aS,h1,h2,g,g2]
    ·have g:dr n k=false:=by rw [← Bool.not_eq_true];simp;omega
     simp [aS,h2,g]
   ·have k1:bF k n=false:=dn e1
    have k2:bF k i=false:=dn e2
    by_cases e3:n≤k
    ·have g:dr n k=true:=by simpa using e3
     by_cases e4:i≤k
     ·have g' : dr i k=true:=by simpa using e4
      by_cases e:n≤i
      ·have g1:dr n i=true:=by simpa using e
       have g2:dr i n=false:=by rw [← Bool.not_eq_true];simp;omega
       simp [aS,k1,k2,h1,h2,g,g',g1,g2]
      ·have g1:dr n i=false:=by rw [← Bool.not_eq_true];simp;omega
       have g2:dr i n=true:=by simp;omega
       simp [aS,k1,k2,h1,h2,g,g',g1,g2]
     ·have g' : dr i k=false:=by rw [← Bool.not_eq_true];simp;omega
      have g2:dr i n=false:=by rw [← Bool.not_eq_true];simp;omega
      simp [aS,k1,k2,h1,g,g',g2]
    ·have g:dr n k=false:=by rw [← Bool.not_eq_true];simp;omega
     by_cases e4:i≤k
     ·have g' : dr i k=true:=by simpa using e4
      have g2:dr n i=false:=by rw [← Bool.not_eq_true];simp;omega
      simp [aS,k1,k2,h2,g,g',g2]
     ·have g' : dr i k=false:=by rw [← Bool.not_eq_true];simp;omega
      simp [aS,k1,k2,g,g',ih]
structure Bs where
 W:World
 K:Nat→Nat→Prop
 X:Nat→Prop
structure Gm where
 o:Nat→Option (Nat × Nat)
 h:H
 bs:Bs
 w:World
def hY (w w' : World):Prop:=∀ b x,w.shape? b=some x→w'.shape? b=some x
theorem hY.refl (w:World):hY w w:=fun _ _ h=>h
theorem hY.trans {a b c:World} (x:hY a b) (y:hY b c):hY a c:=fun g z h=>y g z (x g z h)
theorem zx {w w' : World} (h:∀ b,b < w.heap.size→w'.heap[b]? = w.heap[b]?):hY w w':=fun b x hx=>by
 unfold World.shape? at hx ⊢
 by_cases hb:b < w.heap.size
 ·rw [h b hb]
  exact hx
 ·rw [Array.getElem?_eq_none (by omega)] at hx
  cases hx
theorem kK {w:World} {g:Nat} {t:TypeId} {old cs:Array Value} {f:Nat × Nat} (hg:w.heap[g]? = some (.cells old t f)) (h:cs.size=old.size):hY w (w.setRow g cs):=fun b x hx=>by
 unfold World.shape? at hx ⊢
 by_cases e:g=b
 ·subst e
  rw [hg] at hx
  rw [setRow_heap w g old cs t f hg]
  simpa [h] using hx
 ·rw [setRow_other _ _ _ _ (fun q=>e q.symm)]
  exact hx
structure Gm.ok (G:Gm) (b j:Nat):Prop where
 lt:b < G.w.heap.size
 old:b < G.bs.W.heap.size→G.bs.K b j∨G.bs.X b
 own:∀ n,alive G.h n→∀ g m,G.o n=some (g,m)→g=b→j < m
structure cellAt (G:Gm) (b j:Nat) (u:Value):Prop where
 ok:G.ok b j
 cell:G.w.cell? ⟨b,j,none⟩=some u
 one:u.oneCell' = true
def dg (G:Gm) (sz:Nat) {α:Type} (P:α→List Value→Prop) (l:List α) (v:Value):Prop :=
 ∃ A c,v = .slice A l.length c∧l.length≤c∧c≤maxLen∧(l≠[]→∃ b o,A=some ⟨b,o,none⟩∧∀ i x,l[i]? = some x→∃ us:List Value,us.length=sz∧P x us∧∀ j u,us[j]? = some u→cellAt G b (o+i * sz+j) u)
def iG (G:Gm) (k:IntKind) (l:List Int) (v:Value):Prop:=dg G 1 (fun n us=>us=[.int k n]) l v
def bf (G:Gm):Sh→E→Nat→List Value→Prop
 |.nil,_,_,vs=>vs=[]
 |.int k r,x,j,vs=>∃ us,vs = .int k (ri x j) :: us∧bf G r x (j+1) us
 |.bool r,x,j,vs=>∃ us,vs = .bool (rb x j) :: us∧bf G r x (j+1) us
 |.str r,x,j,vs=>∃ u us,vs = .string u :: us∧bQ u=rs x j∧bf G r x (j+1) us
 |.ints k r,x,j,vs=>∃ u us,vs=u :: us∧iG G k (rl x j) u∧bf G r x (j+1) us
 |.ae s r,x,j,vs=>∃ u us,vs=u :: us∧dg G s.size (fun y us=>bf G s y 0 us) (rr x j) u∧bf G r x (j+1) us
def Ct.is (G:Gm):Ct→Value→Prop
 |.ints k l,v=>iG G k l v
 |.ae s l,v=>dg G s.size (fun y us=>bf G s y 0 us) l v
def Ct.n:Ct→Nat
 |.ints _ l=>l.length
 |.ae _ l=>l.length
def aX (G:Gm):Ct→List Value→Prop
 |.ints k l,us=>us=l.map (Value.int k)
 |.ae s l,us=>us.length=l.length * s.size∧∀ i x,l[i]? = some x→bf G s x 0 ((us.drop (i * s.size)).take s.size)
def jW (G:Gm) (n:Nat) (c:Ct) (v:Value):Prop:=(c.n=0∧G.o n=none∧∃ A,v = .slice A 0 0)∨∃ g off cap t k,G.o n=some (g,off)∧v = .slice (some ⟨g,off,none⟩) c.n cap∧c.n≤cap∧cap≤maxLen∧G.w.shape? g=some (t,k)∧off+cap * c.sz≤k∧0 < cap
def km (G:Gm) (d sz:Nat) (q:Int) (v:Value):Prop :=
 ∃ A l cp,v = .slice A l cp∧0≤q∧q.toNat≤l∧l≤cp∧cp≤maxLen∧(match ak G.h d with
  |some (.row _ c)=>c.n=l - q.toNat∧c.sz=sz∧(cp≠q.toNat→jW G d c (.slice (A.map (·.add (q.toNat * sz))) (l - q.toNat) (cp - q.toNat)))
  |some (.eK _)|some .dead|some (.cg _ _ _)=>True
  |_=>False)
def br (G:Gm) (n:Nat) (v:Value):Prop :=
 match ak G.h n with
 |some (.row _ c)=>jW G n c v
 |some (.eK c)=>c.is G v
 |some (.emp _)=>∃ g,G.o n=some (g,0)∧v = .slice (some ⟨g,0,none⟩) 0 0
 |some (.cg d sz q)=>km G d sz q v
 |some .dead=>True
 |_=>False
def bu (G:Gm) (n off:Nat) (v:Value):Prop :=
 match ak G.h n with
 |some (.cells _ _)|some (.row _ _)=>∃ g,G.o n=some (g,0)∧v = .pointer (some ⟨g,off,none⟩)
 |some (.eK _)|some .dead|some (.cg _ _ _)=>True
 |_=>False
def qZ (G:Gm) (g n:Nat) (v:Value):Prop :=
 match ak G.h n with
 |some (.cells _ _)|some (.row _ _)=>∃ b,G.o n=some (b,0)∧v = .func (.func g) #[] #[.pointer (some ⟨b,0,none⟩)]
 |some (.eK _)|some .dead|some (.cg _ _ _)=>True
 |_=>False
def gZ (G:Gm) (n off b:Nat):Prop:=∃ A,cellAt G b 0 (.pointer (some A))∧bu G n off (.pointer (some A))
def tZ (G:Gm) (n:Nat) (l:Int) (v:Value):Prop :=
 match ak G.h n with
 |some (.row _ c)=>(0≤l∧l.toNat≤c.n)∧∃ A cp,v = .slice A (c.n - l.toNat) cp∧(l.toNat < c.n→∃ g off,G.o n=some (g,off)∧A=some ⟨g,off+l.toNat * c.sz,none⟩)
 |some (.eK _)|some .dead|some (.cg _ _ _)=>True
 |_=>False
def jP (G:Gm) (n:Nat) (v:Value):Prop :=
 match ak G.h n with
 |some (.mp _)=>∃ g,G.o n=some (g,0)∧v = .map (some g)
 |some (.eK _)|some .dead|some (.cg _ _ _)=>True
 |_=>False
def rK (es:Array MapEntry) (clock:Nat) (l:List (Int × Int)):Prop :=
 es.size≤maxLen∧MapKept.Stamped es clock∧es.toList.map (fun x=>(x.key,x.val))=l.map fun p=>(Value.int .i64 p.1,Value.int .i64 p.2)
def eH (G:Gm) (n:Nat) (i:Int) (j:Nat) (v:Value):Prop :=
 match ak G.h n with
 |some (.row _ c)=>∃ g off,G.o n=some (g,off)∧(0≤i∧i.toNat < c.n)∧v = .pointer (some ⟨g,off+(i.toNat * c.sz+j),none⟩)
 |some (.eK _)|some .dead|some (.cg _ _ _)=>True
 |_=>False
def mS (G:Gm) (id:Nat) (e:TypeId) (sz:Nat) (v:Value):Prop :=
 (∃ a,v = .slice a 0 0)∨∃ g off n cap cur,v = .slice (some ⟨g,off,none⟩) n cap∧G.o id=some (g,off+n * sz)∧G.w.heap[g]? = some (.cells cur e (0,0))∧n≤cap∧cap≤maxLen∧cur.size=off+cap * sz∧off=0
def fo (G:Gm) (sz:Nat) (v:Value):Option (Nat × TypeId)→Prop
 |none=>True
 |some (id,e)=>match ak G.h id with
  |some .tok=>mS G id e sz v
  |some .dead=>True
  |_=>False
def SC.is (G:Gm):SC→Value→Prop
 |.any,_=>True
 |.val u,v=>v=u
 |.num k n,v=>v = .int k n
 |.tf b,v=>v = .bool b
 |.ptr n off,v=>(∃ A,v = .pointer (some A))∧bu G n off v
 |.fn g n,v=>(∃ A,v = .func (.func g) #[] #[.pointer (some A)])∧qZ G g n v
 |.nw n off,v=>∃ b,v = .pointer (some ⟨b,0,none⟩)∧gZ G n off b
 |.ux g n off,v=>∃ b,v = .func (.func g) #[] #[.pointer (some ⟨b,0,none⟩)]∧gZ G n off b
 |.tr g n k,v=>∃ p q,v = .func (.func g) #[] #[p,q]∧((∃ A,p = .pointer (some A))∧bu G n 0 p)∧(∃ A,q = .pointer (some A))∧bu G k 0 q
 |.vw n l,v=>(∃ A m c,v = .slice A m c)∧tZ G n l v
 |.str l,v=>∃ s,v = .string s∧bQ s=l
 |.sl tk c,v=>c.is G v∧fo G c.sz v tk
 |.own n,v=>(∃ A l c,v = .slice A l c)∧br G n v
 |.mp n,v=>(∃ A,v = .map (some A))∧jP G n v
 |.rp n i j,v=>(∃ A,v = .pointer (some A))∧eH G n i j v
 |.Mr k n,v=>∃ b o,v = .pointer (some ⟨b,o,none⟩)∧cellAt G b o (.int k n)
 |.CE s x j,v=>∃ b o us,v = .pointer (some ⟨b,o,none⟩)∧bf G s x j us∧∀ i u,us[i]? = some u→cellAt G b (o+i) u
def aO (G:Gm):List SC→List Value→Prop
 |[],[]=>True
 |c :: cs,v :: vs=>(c.is G v∧v.oneCell' = true)∧aO G cs vs
 |_,_=>False
def SA.is (G:Gm):SA→Value→Prop
 |.one c,v=>c.is G v
 |.agg cs,v=>∃ vs:List Value,v = .agg vs.toArray∧aO G cs vs
 |.fb c,v=>∃ vs:List Value,v = .agg vs.toArray∧aX G c vs∧∀ u∈vs,u.oneCell' = true
def bh (G:Gm):List SA→List Value→Prop
 |[],[]=>True
 |c :: cs,v :: vs=>c.is G v∧bh G cs vs
 |_,_=>False
def hN (G:Gm):List SA→List Value→Prop
 |[],_=>True
 |c :: cs,v :: vs=>c.is G v∧hN G cs vs
 |_,_=>False
def SV.is (G:Gm):SV→Value→Prop
 |.sa x,v=>x.is G v
 |.bB xs,v=>∃ vs:List Value,v = .tuple vs.toArray∧bh G xs vs
def bz.is (G:Gm) (e:bz) (v:Value):Prop :=
 match e.g with
 |none=>e.v.is G v
 |some true=>e.v.is G v
 |some false=>v=undef
def nA (G:Gm) (n:Nat):dP→Prop
 |.cells t cs=>∃ g vs,G.o n=some (g,0)∧G.w.heap[g]? = some (.cells (List.toArray vs) t (0,0))∧aO G cs vs
 |.row t c=>(c.n=0∧G.o n=none)∨∃ g pre vs rest,G.o n=some (g,List.length pre)∧G.w.heap[g]? = some (.cells (List.toArray (pre ++ (vs ++ rest))) t (0,0))∧aX G c vs∧∀ u∈vs,u.oneCell' = true
 |.emp t=>∃ g,G.o n=some (g,0)∧G.w.heap[g]? = some (.cells #[] t (0,0))
 |.mp l=>∃ g es clock,G.o n=some (g,0)∧G.w.heap[g]? = some (.map es clock)∧rK es clock l
 |_=>True
structure Mem (G:Gm):Prop where
 os:G.w.os=G.bs.W.os
 tape:G.w.tape=G.bs.W.tape
 output:G.w.output=G.bs.W.output
 size:G.bs.W.heap.size≤G.w.heap.size
 block:∀ k,k < G.bs.W.heap.size→¬G.bs.X k→G.w.heap[k]? = G.bs.W.heap[k]?
 mI:∀ b j,b < G.bs.W.heap.size→G.bs.K b j→G.w.cell? ⟨b,j,none⟩=G.bs.W.cell? ⟨b,j,none⟩
 own:∀ n,alive G.h n→∀ g m,G.o n=some (g,m)→g < G.w.heap.size∧(G.bs.W.heap.size≤g∨G.bs.X g∧∀ j,G.bs.K g j→j < m)
 inj:∀ n n',alive G.h n→alive G.h n'→∀ g m m',G.o n=some (g,m)→G.o n' = some (g,m')→n=n'
 gm:∀ n k,ak G.h n=some k→nA G n k
 AS:hY G.bs.W G.w
structure Sub (G G' : Gm):Prop where
 ok:∀ b j,G.ok b j→G'.ok b j
 cell:∀ b j,G.ok b j→G'.w.cell? ⟨b,j,none⟩=G.w.cell? ⟨b,j,none⟩
 AS:hY G.w G'.w
theorem Sub.refl (G:Gm):Sub G G:=⟨fun _ _ h=>h,fun _ _ _=>rfl,hY.refl _⟩
theorem Sub.trans {A B C:Gm} (x:Sub A B) (y:Sub B C):Sub A C:=⟨fun b j h=>y.ok b j (x.ok b j h),fun b j h=>(y.cell b j (x.ok b j h)).trans (x.cell b j h),x.AS.trans y.AS⟩
def LF (G G' : Gm) (n:Nat):dP→dP→Prop
 |_,.dead=>True
 |.eK c,.eK c'=>c' = c
 |.cells _ _,.cells _ _=>G'.o n=G.o n
 |.emp _,.emp _=>G'.o n=G.o n
 |.mp _,.mp _=>G'.o n=G.o n
 |.row _ c,.row _ c'=>G'.o n=G.o n∧c'.sz=c.sz∧c'.n=c.n
 |.row _ c,.eK c'=>∀ v,jW G n c v→c'.is G' v
 |.row _ c,.cg d sz q=>∀ v,jW G n c v→km G' d sz q v
 |.cg d sz q,.cg d' sz' q'=>d' = d∧sz' = sz∧q' = q
 |.tok,.tok=>G'.o n=G.o n∧∀ g m,G.o n=some (g,m)→G'.w.heap[g]? = G.w.heap[g]?
 |_,_=>False
structure Ext (G G' : Gm):Prop extends Sub G G' where
 ids:∀ n k,ak G.h n=some k→∃ k',ak G'.h n=some k'∧LF G G' n k k'
theorem Ext.refl (G:Gm):Ext G G:=by
 refine⟨Sub.refl G,fun n k hk=>⟨k,hk,?_⟩⟩
 cases k with
 |row t c=>exact⟨rfl,rfl,rfl⟩
 |tok=>exact⟨rfl,fun _ _ _=>rfl⟩
 |cells=>rfl
 |emp=>rfl
 |mp=>rfl
 |eK=>rfl
 |cg=>exact⟨rfl,rfl,rfl⟩
 |dead=>trivial
section
variable {G G' : Gm}
theorem cellAt.sub (x:Sub G G') {b j:Nat} {u:Value} (h:cellAt G b j u):cellAt G' b j u:=⟨x.ok _ _ h.ok,(x.cell _ _ h.ok).trans h.cell,h.one⟩
theorem dg.sub (x:Sub G G') {sz:Nat} {α:Type} {P P' : α→List Value→Prop} (hP:∀ y us,P y us→P' y us) {l:List α} {v:Value} (h:dg G sz P l v):dg G' sz P' l v:=by
 obtain⟨A,c,e,h1,h2,h3⟩:=h
 refine⟨A,c,e,h1,h2,fun hne=>?_⟩
 obtain⟨b,o,ha,hc⟩:=h3 hne
 refine⟨b,o,ha,fun i y hy=>?_⟩
 obtain⟨us,u1,u2,u3⟩:=hc i y hy
 exact⟨us,u1,hP _ _ u2,fun j u hu=>(u3 j u hu).sub x⟩
theorem iG.sub (x:Sub G G') {k:IntKind} {l:List Int} {v:Value} (h:iG G k l v):iG G' k l v:=dg.sub x (fun _ _ h=>h) h
theorem bf.sub (x:Sub G G'):∀ {s:Sh} {y:E} {j:Nat} {vs:List Value},bf G s y j vs→bf G' s y j vs
 |.nil,_,_,_,h=>h
 |.int _ _,_,_,_,⟨us,e,h⟩=>⟨us,e,bf.sub x h⟩
 |.bool _,_,_,_,⟨us,e,h⟩=>⟨us,e,bf.sub x h⟩
 |.str _,_,_,_,⟨u,us,e,h1,h⟩=>⟨u,us,e,h1,bf.sub x h⟩
 |.ints _ _,_,_,_,⟨u,us,e,h1,h⟩=>⟨u,us,e,h1.sub x,bf.sub x h⟩
 |.ae s _,_,_,_,⟨u,us,e,h1,h⟩=>⟨u,us,e,dg.sub x (fun _ _ h=>bf.sub (s:=s) x h) h1,bf.sub x h⟩
theorem Ct.is.sub (x:Sub G G'):∀ {c:Ct} {v:Value},c.is G v→c.is G' v
 |.ints _ _,_,h=>iG.sub x h
 |.ae _ _,_,h=>dg.sub x (fun _ _ h=>bf.sub x h) h
theorem aX.sub (x:Sub G G'):∀ {c:Ct} {us:List Value},aX G c us→aX G' c us
 |.ints _ _,_,h=>h
 |.ae _ _,_,⟨h1,h2⟩=>⟨h1,fun i y hy=>(h2 i y hy).sub x⟩
theorem jW.ext {n:Nat} {c c' : Ct} {v:Value} (h1:G'.o n=G.o n) (h2:c'.sz=c.sz) (h3:c'.n=c.n) (hs:hY G.w G'.w) (h:jW G n c v):jW G' n c' v:=by
 rcases h with ⟨g0,g1,g2⟩ | ⟨g,off,cap,t,k,g1,g2,g3,g4,g5,g6⟩
 ·exact .inl ⟨h3.trans g0,h1.trans g1,g2⟩
 ·exact .inr ⟨g,off,cap,t,k,h1.trans g1,by rw [g2,h3],by rw [h3];exact g3,g4,hs _ _ g5,by rw [h2];exact g6.1,g6.2⟩
theorem km.ext (x:Ext G G') {d sz:Nat} {q:Int} {v:Value} (h:km G d sz q v):km G' d sz q v:=by
 obtain⟨A,l,cp,e,h0,h1,h2,h3,h4⟩:=h
 refine⟨A,l,cp,e,h0,h1,h2,h3,?_⟩
 cases hk:ak G.h d with
 |none=>simp [hk] at h4
 |some k =>
  obtain⟨k',hk',hx⟩:=x.ids d k hk
  rw [hk] at h4
  rw [hk']
  cases k' with
  |dead=>trivial
  |eK c'=>trivial
  |cg _ _ _=>trivial
  |row t c'=>cases k with
   |row t0 c =>
    obtain⟨g1,g2,g3⟩:=hx
    obtain⟨f1,f2,f3⟩:=h4
    exact⟨g3.trans f1,g2.trans f2,fun hne=>(f3 hne).ext g1 g2 g3 x.AS⟩
   |_=>exact hx.elim
  |_=>cases k <;> first|exact h4.elim|exact hx.elim
theorem br.ext (x:Ext G G') {n:Nat} {v:Value} (h:br G n v):br G' n v:=by
 unfold br at h
 cases hk:ak G.h n with
 |none=>simp [hk] at h
 |some k =>
  obtain⟨k',hk',hx⟩:=x.ids n k hk
  rw [hk] at h
  unfold br
  rw [hk']
  cases k' with
  |dead=>trivial
  |emp t'=>cases k with
   |emp t =>
    have hx:G'.o n=G.o n:=hx
    obtain⟨g,g1,g2⟩:=h
    exact⟨g,hx.trans g1,g2⟩
   |_=>exact hx.elim
  |eK c'=>cases k with
   |eK c=>have hx:c' = c:=hx;subst hx;exact Ct.is.sub x.toSub h
   |row t c=>exact hx v h
   |_=>exact hx.elim
  |cg d' sz' q'=>cases k with
   |cg d sz q=>obtain⟨rfl,rfl,rfl⟩:=hx;exact km.ext x h
   |row t c=>exact hx v h
   |_=>exact hx.elim
  |row t c'=>cases k with
   |row t0 c =>
    obtain⟨h1,h2,h3⟩:=hx
    rcases h with ⟨g0,g1,g2⟩ | ⟨g,off,cap,t,k,g1,g2,g3,g4,g5,g6⟩
    ·exact .inl ⟨h3.trans g0,h1.trans g1,g2⟩
    ·exact .inr ⟨g,off,cap,t,k,h1.trans g1,by rw [g2,h3],by rw [h3];exact g3,g4,x.AS _ _ g5,by rw [h2];exact g6.1,g6.2⟩
   |_=>exact hx.elim
  |_=>cases k <;> first|exact h.elim|exact hx.elim
theorem bu.ext (x:Ext G G') {n off:Nat} {v:Value} (h:bu G n off v):bu G' n off v:=by
 unfold bu at h
 cases hk:ak G.h n with
 |none=>simp [hk] at h
 |some k =>
  obtain⟨k',hk',hx⟩:=x.ids n k hk
  rw [hk] at h
  unfold bu
  rw [hk']
  cases k' with
  |dead=>trivial
  |eK c'=>trivial
  |cg _ _ _=>trivial
  |row t c'=>cases k with
   |row t0 c =>
    obtain⟨g,g1,g2⟩:=h
    exact⟨g,hx.1.trans g1,g2⟩
   |_=>exact hx.elim
  |cells t c'=>cases k with
   |cells t0 c =>
    obtain⟨g,g1,g2⟩:=h
    have hx:G'.o n=G.o n:=hx
    exact⟨g,hx.trans g1,g2⟩
   |_=>exact hx.elim
  |emp t=>cases k <;> first|exact h.elim|exact hx.elim
  |mp t=>cases k <;> first|exact h.elim|exact hx.elim
  |tok=>cases k <;> first|exact h.elim|exact hx.elim
theorem qZ.ext (x:Ext G G') {g n:Nat} {v:Value} (h:qZ G g n v):qZ G' g n v:=by
 unfold qZ at h
 cases hk:ak G.h n with
 |none=>simp [hk] at h
 |some k =>
  obtain⟨k',hk',hx⟩:=x.ids n k hk
  rw [hk] at h
  unfold qZ
  rw [hk']
  cases k' with
  |dead=>trivial
  |eK c'=>trivial
  |cg _ _ _=>trivial
  |row t c'=>cases k with
   |row t0 c =>
    obtain⟨b,g1,g2⟩:=h
    exact⟨b,hx.1.trans g1,g2⟩
   |_=>exact hx.elim
  |cells t c'=>cases k with
   |cells t0 c =>
    obtain⟨b,g1,g2⟩:=h
    have hx:G'.o n=G.o n:=hx
    exact⟨b,hx.trans g1,g2⟩
   |_=>exact hx.elim
  |emp t=>cases k <;> first|exact h.elim|exact hx.elim
  |mp t=>cases k <;> first|exact h.elim|exact hx.elim
  |tok=>cases k <;> first|exact h.elim|exact hx.elim
theorem jP.ext (x:Ext G G') {n:Nat} {v:Value} (h:jP G n v):jP G' n v:=by
 unfold jP at h
 cases hk:ak G.h n with
 |none=>simp [hk] at h
 |some k =>
  obtain⟨k',hk',hx⟩:=x.ids n k hk
  rw [hk] at h
  unfold jP
  rw [hk']
  cases k' with
  |dead=>trivial
  |eK c'=>trivial
  |cg _ _ _=>trivial
  |mp c'=>cases k with
   |mp c =>
    have hx:G'.o n=G.o n:=hx
    obtain⟨b,g1,g2⟩:=h
    exact⟨b,hx.trans g1,g2⟩
   |_=>exact hx.elim
  |_=>cases k <;> first|exact h.elim|exact hx.elim
theorem eH.ext (x:Ext G G') {n:Nat} {i:Int} {j:Nat} {v:Value} (h:eH G n i j v):eH G' n i j v:=by
 unfold eH at h
 cases hk:ak G.h n with
 |none=>simp [hk] at h
 |some k =>
  obtain⟨k',hk',hx⟩:=x.ids n k hk
  rw [hk] at h
  unfold eH
  rw [hk']
  cases k' with
  |dead=>trivial
  |eK c'=>trivial
  |cg _ _ _=>trivial
  |row t c'=>cases k with
   |row t0 c =>
    obtain⟨h1,h2,h3⟩:=hx
    obtain⟨g,off,g1,g2,g3⟩:=h
    exact⟨g,off,h1.trans g1,by rw [h3];exact g2,by rw [h2];exact g3⟩
   |_=>exact hx.elim
  |_=>cases k <;> first|exact h.elim|exact hx.elim
theorem gZ.ext (x:Ext G G') {n off b:Nat} (h:gZ G n off b):gZ G' n off b:=by
 obtain⟨A,h1,h2⟩:=h
 exact⟨A,h1.sub x.toSub,bu.ext x h2⟩
theorem tZ.ext (x:Ext G G') {n:Nat} {l:Int} {v:Value} (h:tZ G n l v):tZ G' n l v:=by
 unfold tZ at h
 cases hk:ak G.h n with
 |none=>simp [hk] at h
 |some k =>
  obtain⟨k',hk',hx⟩:=x.ids n k hk
  rw [hk] at h
  unfold tZ
  rw [hk']
  cases k' with
  |dead=>trivial
  |eK c'=>trivial
  |cg _ _ _=>trivial
  |row t c'=>cases k with
   |row t0 c =>
    obtain⟨h1,h2,h3⟩:=hx
    obtain⟨g0,A,cp,g1,g2⟩:=h
    refine⟨by rw [h3];exact g0,A,cp,by rw [h3];exact g1,fun hl=>?_⟩
    obtain⟨g,off,e1,e2⟩:=g2 (by rw [h3] at hl;exact hl)
    exact⟨g,off,h1.trans e1,by rw [h2];exact e2⟩
   |_=>exact hx.elim
  |_=>cases k <;> first|exact h.elim|exact hx.elim
theorem fo.ext (x:Ext G G') {sz:Nat} {v:Value}:∀ {tk:Option (Nat × TypeId)},fo G sz v tk→fo G' sz v tk
 |none,_=>trivial
 |some (id,e),h=>by
  unfold fo at h
  cases hk:ak G.h id with
  |none=>simp [hk] at h
  |some k =>
   obtain⟨k',hk',hx⟩:=x.ids id k hk
   simp only [hk] at h
   unfold fo
   simp only [hk']
   cases k' with
   |dead=>trivial
   |tok=>cases k with
    |tok =>
     obtain⟨h1,h2⟩:=hx
     rcases h with h | ⟨g,off,n,cap,cur,e1,e2,e3,r⟩
     ·exact .inl h
     ·exact .inr ⟨g,off,n,cap,cur,e1,h1.trans e2,(h2 _ _ e2).trans e3,r⟩
    |_=>exact hx.elim
   |_=>cases k <;> first|exact h.elim|exact hx.elim
theorem SC.is.ext (x:Ext G G'):∀ {c:SC} {v:Value},c.is G v→c.is G' v
 |.any,_,_=>trivial
 |.val _,_,e=>e
 |.num _ _,_,e=>e
 |.tf _,_,e=>e
 |.ptr _ _,_,h=>⟨h.1,bu.ext x h.2⟩
 |.fn _ _,_,h=>⟨h.1,qZ.ext x h.2⟩
 |.nw _ _,_,⟨b,e,h⟩=>⟨b,e,h.ext x⟩
 |.ux _ _ _,_,⟨b,e,h⟩=>⟨b,e,h.ext x⟩
 |.tr _ _ _,_,⟨p,q,e,h1,h2⟩=>⟨p,q,e,⟨h1.1,bu.ext x h1.2⟩,h2.1,bu.ext x h2.2⟩
 |.vw _ _,_,h=>⟨h.1,tZ.ext x h.2⟩
 |.str _,_,h=>h
 |.sl _ _,_,⟨h1,h2⟩=>⟨h1.sub x.toSub,h2.ext x⟩
 |.own _,_,h=>⟨h.1,br.ext x h.2⟩
 |.mp _,_,h=>⟨h.1,jP.ext x h.2⟩
 |.rp _ _ _,_,h=>⟨h.1,eH.ext x h.2⟩
 |.Mr _ _,_,⟨b,o,e,h⟩=>⟨b,o,e,h.sub x.toSub⟩
 |.CE _ _ _,_,⟨b,o,us,e,h,hc⟩=>⟨b,o,us,e,h.sub x.toSub,fun i u hu=>(hc i u hu).sub x.toSub⟩
theorem aO.ext (x:Ext G G'):∀ {cs:List SC} {vs:List Value},aO G cs vs→aO G' cs vs
 |[],[],_=>trivial
 |_ :: _,_ :: _,⟨⟨a,b⟩,c⟩=>⟨⟨a.ext x,b⟩,aO.ext x c⟩
theorem SA.is.ext (x:Ext G G'):∀ {c:SA} {v:Value},c.is G v→c.is G' v
 |.one _,_,e=>SC.is.ext x e
 |.agg _,_,⟨vs,e,hc⟩=>⟨vs,e,hc.ext x⟩
 |.fb _,_,⟨vs,e,hc,h1⟩=>⟨vs,e,hc.sub x.toSub,h1⟩
theorem bh.ext (x:Ext G G'):∀ {cs:List SA} {vs:List Value},bh G cs vs→bh G' cs vs
 |[],[],_=>trivial
 |_ :: _,_ :: _,⟨a,c⟩=>⟨a.ext x,bh.ext x c⟩
theorem hN.ext (x:Ext G G'):∀ {cs:List SA} {vs:List Value},hN G cs vs→hN G' cs vs
 |[],_,_=>trivial
 |_ :: _,_ :: _,⟨a,c⟩=>⟨a.ext x,hN.ext x c⟩
 |_ :: _,[],h=>h.elim
theorem SV.is.ext (x:Ext G G'):∀ {c:SV} {v:Value},c.is G v→c.is G' v
 |.sa _,_,e=>SA.is.ext x e
 |.bB _,_,⟨vs,e,hc⟩=>⟨vs,e,hc.ext x⟩
theorem bz.is.ext (x:Ext G G') {e:bz} {v:Value} (hv:e.is G v):e.is G' v:=by
 unfold bz.is at *
 split at hv <;> first|exact hv.ext x|exact hv
theorem fu {w w' : World} {b:Nat} (h:w'.heap[b]? = w.heap[b]?) (j:Nat):w'.cell? ⟨b,j,none⟩=w.cell? ⟨b,j,none⟩:=World.cell?_of_block (a:=⟨b,j,none⟩) h
theorem bU {w:World} {g:Nat} {o:Obj} (h:w.heap[g]? = some o):g < w.heap.size:=by
 rcases Nat.lt_or_ge g w.heap.size with k|k
 ·exact k
 ·rw [Array.getElem?_eq_none k] at h;cases h
theorem cY (hm:Mem G) (D:Nat→Prop) (hbs:G'.bs=G.bs)
  (hout:∀ n,¬D n→ak G'.h n=ak G.h n∧G'.o n=G.o n)
  (hos:G'.w.os=G.w.os) (htape:G'.w.tape=G.w.tape) (houtp:G'.w.output=G.w.output) (hsize:G.w.heap.size≤G'.w.heap.size)
  (hblock:∀ b,b < G.w.heap.size→(∀ n m,D n→alive G.h n→G.o n≠some (b,m))→G'.w.heap[b]? = G.w.heap[b]?)
  (hcell:∀ n b m j,D n→alive G.h n→G.o n=some (b,m)→j < m→G'.w.cell? ⟨b,j,none⟩=G.w.cell? ⟨b,j,none⟩)
  (hnew:∀ n,D n→alive G'.h n→∀ b m,G'.o n=some (b,m)→b < G'.w.heap.size∧(G.w.heap.size≤b∨∃ n0 m0,D n0∧alive G.h n0∧G.o n0=some (b,m0)∧m0≤m))
  (hinj:∀ n n',D n→D n'→alive G'.h n→alive G'.h n'→∀ b m m',G'.o n=some (b,m)→G'.o n' = some (b,m')→n=n')
  (hk:∀ n,D n→∀ k,ak G.h n=some k→∃ k',ak G'.h n=some k'∧(Sub G G'→LF G G' n k k'))
  (hb:∀ n,D n→∀ k,ak G'.h n=some k→Ext G G'→nA G' n k) (hsh:hY G.w G'.w):Ext G G'∧Mem G':=by
 have hal:∀ n,¬D n→(alive G'.h n↔alive G.h n):=by
  intro n hn
  unfold alive
  rw [(hout n hn).1]
 have hfree:∀ n,¬D n→alive G.h n→∀ g m,G.o n=some (g,m)→∀ n' m',D n'→alive G.h n'→G.o n'≠some (g,m'):=by
  intro n hn ha g m hg n' m' hd ha' hg'
  have:=hm.inj n n' ha ha' g m m' hg hg'
  exact hn (this ▸ hd)
 have hsub:Sub G G':=by
  refine⟨fun b j h=>⟨Nat.lt_of_lt_of_le h.lt hsize,fun hlt=>?_,fun n ha g m hg he=>?_⟩,fun b j h=>?_,hsh⟩
  ·rw [hbs] at hlt ⊢
   exact h.old hlt
  ·by_cases hd:D n
   ·obtain⟨_,h2⟩:=hnew n hd ha g m hg
    rcases h2 with h2 | ⟨n0,m0,_,a0,o0,hle⟩
    ·have:=h.lt
     omega
    ·have:=h.own n0 a0 g m0 o0 he
     omega
   ·exact h.own n ((hal n hd).1 ha) g m ((hout n hd).2 ▸ hg) he
  ·by_cases hx:∃ n m,D n∧alive G.h n∧G.o n=some (b,m)
   ·obtain⟨n,m,hd,ha,ho⟩:=hx
    exact hcell n b m j hd ha ho (h.own n ha b m ho rfl)
   ·refine fu (hblock b h.lt fun n m hd ha ho=>hx ⟨n,m,hd,ha,ho⟩) j
 have hext:Ext G G':=by
  refine⟨hsub,fun n k hnk=>?_⟩
  by_cases hd:D n
  ·obtain⟨k',h1,h2⟩:=hk n hd k hnk
   exact⟨k',h1,h2 hsub⟩
  ·obtain⟨h1,h2⟩:=hout n hd
   refine⟨k,h1.trans hnk,?_⟩
   cases k with
   |row t c=>exact⟨h2,rfl,rfl⟩
   |tok =>
    refine⟨h2,fun g m hg=>?_⟩
    have ha:alive G.h n:=⟨_,hnk,rfl⟩
    exact hblock g (hm.own n ha g m hg).1 (hfree n hd ha g m hg)
   |cells=>exact h2
   |emp=>exact h2
   |mp=>exact h2
   |eK=>rfl
   |cg=>exact⟨rfl,rfl,rfl⟩
   |dead=>trivial
 refine⟨hext,?_⟩
 have hbW:G'.bs=G.bs:=hbs
 refine⟨by rw [hbs];exact hos.trans hm.os,by rw [hbs];exact htape.trans hm.tape,by rw [hbs];exact houtp.trans hm.output,by rw [hbs];exact Nat.le_trans hm.size hsize,fun k hlt hx=>?_,fun b j hlt hx=>?_,fun n ha g m hg=>?_,fun n n' ha ha' g m m' hg hg'=>?_,fun n k hnk=>?_,by rw [hbs];exact hm.AS.trans hsh⟩
 ·rw [hbs] at hlt hx ⊢
  rw [← hm.block k hlt hx]
  refine hblock k (Nat.lt_of_lt_of_le hlt hm.size) fun n m hd ha ho=>?_
  rcases (hm.own n ha k m ho).2 with h | ⟨h,_⟩
  ·omega
  ·exact hx h
 ·rw [hbs] at hlt hx ⊢
  rw [← hm.mI b j hlt hx]
  by_cases hc:∃ n m,D n∧alive G.h n∧G.o n=some (b,m)
  ·obtain⟨n,m,hd,ha,ho⟩:=hc
   refine hcell n b m j hd ha ho ?_
   rcases (hm.own n ha b m ho).2 with h | ⟨_,h⟩
   ·omega
   ·exact h j hx
  ·exact fu (hblock b (Nat.lt_of_lt_of_le hlt hm.size) fun n m hd ha ho=>hc ⟨n,m,hd,ha,ho⟩) j
 ·rw [hbs]
  by_cases hd:D n
  ·obtain⟨h1,h2⟩:=hnew n hd ha g m hg
   refine⟨h1,?_⟩
   rcases h2 with h2 | ⟨n0,m0,_,a0,o0,hle⟩
   ·exact .inl (Nat.le_trans hm.size h2)
   ·rcases (hm.own n0 a0 g m0 o0).2 with h | ⟨h,h'⟩
    ·exact .inl h
    ·exact .inr ⟨h,fun j hj=>Nat.lt_of_lt_of_le (h' j hj) hle⟩
  ·have:=hm.own n ((hal n hd).1 ha) g m ((hout n hd).2 ▸ hg)
   exact⟨Nat.lt_of_lt_of_le this.1 hsize,this.2⟩
 ·have key:∀ n n',D n→¬D n'→alive G'.h n→alive G'.h n'→∀ m m',G'.o n=some (g,m)→G'.o n' = some (g,m')→False:=by
   intro n n' hd hd' ha ha' m m' hg hg'
   have ha1:=(hal n' hd').1 ha'
   have hg1:G.o n' = some (g,m'):=(hout n' hd').2 ▸ hg'
   obtain⟨_,h2⟩:=hnew n hd ha g m hg
   rcases h2 with h2 | ⟨n0,m0,d0,a0,o0,hle⟩
   ·have:=(hm.own n' ha1 g m' hg1).1
    omega
   ·exact hd' (hm.inj n0 n' a0 ha1 g m0 m' o0 hg1 ▸ d0)
  by_cases hd:D n <;> by_cases hd' : D n'
  ·exact hinj n n' hd hd' ha ha' g m m' hg hg'
  ·exact (key n n' hd hd' ha ha' m m' hg hg').elim
  ·exact (key n' n hd' hd ha' ha m' m hg' hg).elim
  ·exact hm.inj n n' ((hal n hd).1 ha) ((hal n' hd').1 ha') g m m' ((hout n hd).2 ▸ hg) ((hout n' hd').2 ▸ hg')
 ·by_cases hd:D n
  ·exact hb n hd k hnk hext
  ·obtain⟨h1,h2⟩:=hout n hd
   rw [h1] at hnk
   have h3:=hm.gm n k hnk
   cases k with
   |cells t cs =>
    obtain⟨g,vs,e1,e2,e3⟩:=h3
    have ha:alive G.h n:=⟨_,hnk,rfl⟩
    exact⟨g,vs,h2.trans e1,(hblock g (bU e2) (hfree n hd ha g 0 e1)).trans e2,e3.ext hext⟩
   |row t c =>
    rcases h3 with ⟨e0,e1⟩ | ⟨g,pre,vs,rest,e1,e2,e3,e4⟩
    ·exact .inl ⟨e0,h2.trans e1⟩
    have ha:alive G.h n:=⟨_,hnk,rfl⟩
    exact .inr ⟨g,pre,vs,rest,h2.trans e1,(hblock g (bU e2) (hfree n hd ha g _ e1)).trans e2,e3.sub hsub,e4⟩
   |emp t =>
    obtain⟨g,e1,e2⟩:=h3
    have ha:alive G.h n:=⟨_,hnk,rfl⟩
    exact⟨g,h2.trans e1,(hblock g (bU e2) (hfree n hd ha g 0 e1)).trans e2⟩
   |mp l =>
    obtain⟨g,es,clock,e1,e2,e3⟩:=h3
    have ha:alive G.h n:=⟨_,hnk,rfl⟩
    exact⟨g,es,clock,h2.trans e1,(hblock g (bU e2) (hfree n hd ha g 0 e1)).trans e2,e3⟩
   |_=>trivial
end
end Go.Proofs.YtakebkfhigadiaaGreat.Ry
