/-
  The least forest: one edge more,one less;another forest;an edge that is lost. No condition.
-/
import Derived.Test.YtelhldgdnlppfaaGreatVgW29
import Derived.Test.YtelhldgdnlppfaaGreatVgEgR
import Derived.Test.YtelhldgdnlppfaaGreatVgRy
namespace Go.Proofs.YtelhldgdnlppfaaGreat.SpQ
open Go Ry Go.Proofs.YtelhldgdnlppfaaGreat.So JoS EgR SpR
def rSt (M:List E) (y:E):List E:=if rb (M.getD (ri y 0).toNat []) 0=true∨rb (M.getD (ri y 1).toNat []) 0=true then (M.set (ri y 0).toNat [D.bool true]).set (ri y 1).toNat [D.bool true] else M
def rPs (l:List E) (M:List E):List E:=l.foldl rSt M
def rIt (l:List E):Nat→List E→List E
 |0,M=>M
 |k+1,M=>rPs l (rIt l k M)
def Bz:List E:=List.replicate 65 [D.bool false]
def bas (f:Int):List E:=Bz.set f.toNat [D.bool true]
def VI (l:List E) (f:Int):List E:=if cm f=true then rIt l 64 (bas f) else Bz
def OX (y:E):Bool:=decide (0≤ri y 0∧ri y 0 < 65∧0≤ri y 1∧ri y 1 < 65)
def WX (l:List E):Bool:=decide (l.length≤1000000) && l.all OX
structure XK where
 k:Int
 M:List E
def Wo (l:List E) (a b:Int):Bool:=cm a && (cm b && rb ((VI l a).getD b.toNat []) 0)
def atR (l:List E) (i:Nat):Bool:=Wo (l.take i) (ri (l.getD i []) 0) (ri (l.getD i []) 1)
def rfB (l:List E):Bool:=(List.range l.length).all fun i=>!atR l i
def WJ (a b w a' b' w' : Int):Bool:=if ¬w=w' then decide (w < w') else decide (a < a'∨(a=a'∧b < b'))
def lsY (x y:E):Bool:=WJ (ri x 0) (ri x 1) (ri x 2) (ri y 0) (ri y 1) (ri y 2)
def e3 (y:E):E:=[D.int (ri y 0),D.int (ri y 1),D.int (ri y 2)]
def swS (s:List E) (j:Nat):List E:=(s.set (j+1) (e3 (s.getD j []))).set j (e3 (s.getD (j+1) []))
def tY:Nat→List E→List E
 |0,s=>s
 |j+1,s=>if lsY (s.getD (j+1) []) (s.getD j [])=true then tY j (swS s j) else s
def Vj (l:List E):Nat→List E
 |0=>l
 |i+1=>tY i (Vj l i)
def rsB (l:List E):List E:=Vj l l.length
structure Sq where
 abE:Int→Int→Int→Int→Int→Int→Bool
 aaM:List E→List E
 abo:List E→Bool
 aby:List E→Int→Int→Bool
 aaQ:List E→Bool
 abh:List E→Bool
 abb:List E→Int→List E
def Sq.U:Sq:=⟨WJ,rsB,fun l=>decide (l.length≤1000000),Wo,rfB,WX,VI⟩
end Go.Proofs.YtelhldgdnlppfaaGreat.SpQ
namespace Go.Proofs.YtelhldgdnlppfaaGreat.EgL
open Go Ry Go.Proofs.YtelhldgdnlppfaaGreat.So EcX Cmp EgR
def Cm (l:List (Int × Int × Int)):Prop:=(∀ y∈l,pj y.1 y.2.1 y.2.2=true)∧(l.map fun y=>(y.1,y.2.1)).Nodup
theorem RO (l:List E):ji l=true↔Cm (l.map gi):=by
 rw [iA]
 unfold Cm
 rw [List.map_map]
 constructor
 ·rintro⟨a,b⟩
  refine⟨fun y hy=>?_,b⟩
  obtain⟨z,hz,rfl⟩:=List.mem_map.1 hy
  exact a z hz
 ·rintro⟨a,b⟩
  exact⟨fun y hy=>a (gi y) (List.mem_map.2 ⟨y,hy,rfl⟩),b⟩
structure XS where
 i:Int
 c:List E
structure XP where
 i:Int
structure Ls where
 l:Unit
end Go.Proofs.YtelhldgdnlppfaaGreat.EgL
namespace Go.Proofs.YtelhldgdnlppfaaGreat.SpK
abbrev T:=Int × Int × Int
inductive Cn (l:List T) (a:Int):Int→Prop
 |refl:Cn l a a
 |one {b c:Int} {y:T}:Cn l a b→y∈l→(y.1=b∧y.2.1=c∨y.2.1=b∧y.1=c)→Cn l a c
theorem cW {l:List T} {a b c:Int} (h:Cn l a b) (g:Cn l b c):Cn l a c:=by
 induction g with
 |refl=>exact h
 |one _ hy e ih=>exact .one ih hy e
theorem xw {l:List T} {y:T} (h:y∈l):Cn l y.1 y.2.1:=.one .refl h (.inl ⟨rfl,rfl⟩)
theorem DJ {l:List T} {y:T} (h:y∈l):Cn l y.2.1 y.1:=.one .refl h (.inr ⟨rfl,rfl⟩)
theorem rh {l:List T} {a b:Int} (h:Cn l a b):Cn l b a:=by
 induction h with
 |refl=>exact .refl
 |one _ hy e ih =>
  rcases e with ⟨rfl,rfl⟩ | ⟨rfl,rfl⟩
  ·exact cW (DJ hy) ih
  ·exact cW (xw hy) ih
theorem UE {l k:List T} (h:∀ y∈l,Cn k y.1 y.2.1) {a b:Int} (g:Cn l a b):Cn k a b:=by
 induction g with
 |refl=>exact .refl
 |one _ hy e ih =>
  rcases e with ⟨rfl,rfl⟩ | ⟨rfl,rfl⟩
  ·exact cW ih (h _ hy)
  ·exact cW ih (rh (h _ hy))
theorem NH {l k:List T} (h:∀ y∈l,y∈k) {a b:Int} (g:Cn l a b):Cn k a b:=UE (fun y hy=>xw (h y hy)) g
theorem Dv {l:List T} {y:T} {a b:Int}:Cn (y :: l) a b↔Cn l a b∨(Cn l a y.1∧Cn l y.2.1 b)∨(Cn l a y.2.1∧Cn l y.1 b):=by
 constructor
 ·intro h
  induction h with
  |refl=>exact .inl .refl
  |one _ hy e ih =>
   rcases List.mem_cons.1 hy with rfl|hy
   ·rcases e with ⟨rfl,rfl⟩ | ⟨rfl,rfl⟩
    ·rcases ih with ih | ⟨i,j⟩ | ⟨i,j⟩
     ·exact .inr (.inl ⟨ih,.refl⟩)
     ·exact .inr (.inl ⟨i,.refl⟩)
     ·exact .inl i
    ·rcases ih with ih | ⟨i,j⟩ | ⟨i,j⟩
     ·exact .inr (.inr ⟨ih,.refl⟩)
     ·exact .inl i
     ·exact .inr (.inr ⟨i,.refl⟩)
   ·have st:∀ {z:Int},Cn l z _→Cn l z _:=fun q=>.one q hy e
    rcases ih with ih | ⟨i,j⟩ | ⟨i,j⟩
    ·exact .inl (st ih)
    ·exact .inr (.inl ⟨i,st j⟩)
    ·exact .inr (.inr ⟨i,st j⟩)
 ·have up:∀ {c d:Int},Cn l c d→Cn (y :: l) c d:=fun q=>NH (fun z hz=>List.mem_cons_of_mem _ hz) q
  rintro (h | ⟨i,j⟩ | ⟨i,j⟩)
  ·exact up h
  ·exact cW (up i) (cW (xw (List.mem_cons_self ..)) (up j))
  ·exact cW (up i) (cW (DJ (List.mem_cons_self ..)) (up j))
def UW:List T→List T→Prop
 |_,[]=>True
 |c,y :: l=>¬Cn c y.1 y.2.1∧UW (y :: c) l
end Go.Proofs.YtelhldgdnlppfaaGreat.SpK
namespace Go.Proofs.YtelhldgdnlppfaaGreat.SpT
open Go Ry Go.Proofs.YtelhldgdnlppfaaGreat.So JoS JoR JoW EgR EgL SpR SpQ SpK
def gm (a:Int):Prop:=1≤a∧a≤64
def LN (y:T):Prop:=gm y.1∧gm y.2.1
structure Rel (W:List Int) (c:List T):Prop where
 len:W.length=65
 ok:PZ W
 cn:∀ a b,gm a→gm b→(ix W a=ix W b↔Cn c a b)
theorem SQ {a b:Int} (h:Cn [] a b):a=b:=by
 cases h with
 |refl=>rfl
 |one _ hy _=>cases hy
theorem YM:Rel (iota 64) []:=⟨by rw [yN];rfl,(Ay 64 (by omega)).ok,fun a b ha hb=>by
 unfold gm at ha hb
 rw [xE 64 a (by omega) (by omega),xE 64 b (by omega) (by omega)]
 exact⟨fun e=>e ▸ .refl,SQ⟩⟩
theorem oW {W:List Int} (h:W.length=65) {a:Int} (ha:gm a):lw W a=ix W a:=by
 unfold lw
 unfold gm at ha
 rw [if_pos (by omega)]
theorem EF {W:List Int} {c:List T} (h:Rel W c) {a:Int} (ha:gm a):1≤ix W a∧ix W a≤a∧ix W (ix W a)=ix W a:=by
 have l:=h.len
 unfold gm at ha
 exact⟨h.ok.lo a ha.1 (by omega),h.ok.hi a ha.1 (by omega),h.ok.fix a ha.1 (by omega)⟩
theorem MQ {W:List Int} (h:PZ W):Up W W:=⟨rfl,h.lo,h.hi,h.fix,fun _ _ _=>Iff.rfl⟩
theorem Py {W:List Int} {c:List T} (h:Rel W c) {y:T} (hy:LN y) (hc:ix W y.1=ix W y.2.1):pC W y.1 y.2.1=W:=by
 unfold pC
 rw [oW h.len hy.1,oW h.len hy.2,if_neg (by rw [hc];omega)]
theorem UD {W:List Int} {c:List T} (h:Rel W c) {y:T} (hy:LN y) (hc:ix W y.1≠ix W y.2.1):∃ lo hi,pC W y.1 y.2.1=join W lo hi∧1≤lo∧lo < hi∧hi < W.length∧ix W lo=lo∧ix W hi=hi∧(lo=ix W y.1∧hi=ix W y.2.1∨lo=ix W y.2.1∧hi=ix W y.1):=by
 obtain⟨a1,a2,a3⟩:=EF h hy.1
 obtain⟨b1,b2,b3⟩:=EF h hy.2
 have l:=h.len
 have n1:=hy.1
 have n2:=hy.2
 unfold gm at n1 n2
 unfold pC
 rw [oW h.len hy.1,oW h.len hy.2,if_pos ⟨by omega,by omega,hc⟩]
 by_cases q:ix W y.1 < ix W y.2.1
 ·rw [if_neg (by omega),if_pos q]
  exact⟨_,_,rfl,a1,q,by omega,a3,b3,.inl ⟨rfl,rfl⟩⟩
 ·rw [if_pos (by omega),if_neg q]
  exact⟨_,_,rfl,b1,by omega,by omega,b3,a3,.inr ⟨rfl,rfl⟩⟩
theorem NI {W:List Int} {c:List T} (h:Rel W c) {y:T} (hy:LN y):Rel (pC W y.1 y.2.1) (y :: c):=by
 have l:=h.len
 by_cases hc:ix W y.1=ix W y.2.1
 ·rw [Py h hy hc]
  refine⟨l,h.ok,fun a b ha hb=>?_⟩
  have k:=(h.cn _ _ hy.1 hy.2).1 hc
  rw [h.cn a b ha hb,Dv]
  constructor
  ·exact .inl
  ·rintro (q | ⟨q1,q2⟩ | ⟨q1,q2⟩)
   ·exact q
   ·exact cW q1 (cW k q2)
   ·exact cW q1 (cW (rh k) q2)
 ·obtain⟨lo,hi,e,h1,h2,h3,h4,h5,h6⟩:=UD h hy hc
  obtain⟨_,j2⟩:=DA (MQ h.ok) h.ok h1 h2 h3 h4 h5
  have hlen:(join W lo hi).length=W.length:=by unfold join;rw [List.length_map]
  rw [e]
  refine⟨by rw [hlen,l],j2,fun a b ha hb=>?_⟩
  have hix:∀ i:Int,gm i→ix (join W lo hi) i=if ix W i=hi then lo else ix W i:=fun i hn=>by
   unfold gm at hn
   exact oJ W _ i (by omega) (by omega)
  rw [hix a ha,hix b hb,Dv,← h.cn a b ha hb,← h.cn a y.1 ha hy.1,← h.cn y.2.1 b hy.2 hb,← h.cn a y.2.1 ha hy.2,← h.cn y.1 b hy.1 hb]
  split <;> split <;> omega
theorem UR {W:List Int} {J:JT} {c:List T} (hJ:GF W J) (h:Rel W c) {a b:Int} (ha:gm a) (hb:gm b):yt J.u a b=true↔¬Cn c a b:=by
 have l:=h.len
 have a1:=(EF h ha).1
 have b1:=(EF h hb).1
 rw [(sR hJ.2 (by omega) a b).2.1,decide_eq_true_eq,oW h.len ha,oW h.len hb,← h.cn a b ha hb]
 omega
theorem Ts {W:List Int} {J:JT} {c:List T} (hJ:GF W J) (h:Rel W c) {y:E} (hy:LN (gi y)):GF (pC W (ri y 0) (ri y 1)) (jF J y)∧Rel (pC W (ri y 0) (ri y 1)) (gi y :: c):=⟨Jl hJ y,NI h hy⟩
theorem EM:∀ (s:List E) {W:List Int} {J:JT} {c:List T},GF W J→Rel W c→(∀ y∈s,LN (gi y))→(uM J s=true↔UW c (s.map gi))
 |[],_,_,_,_,_,_=>⟨fun _=>trivial,fun _=>rfl⟩
 |y :: s,W,J,c,hJ,h,hs=>by
  have hy:=hs y (List.mem_cons_self ..)
  have ht:=fun z hz=>hs z (List.mem_cons_of_mem _ hz)
  obtain⟨k1,k2⟩:=Ts hJ h hy
  have hu:yt J.u (ri y 0) (ri y 1)=true↔¬Cn c (gi y).1 (gi y).2.1:=UR hJ h hy.1 hy.2
  have ih:=EM s k1 k2 ht
  rw [List.map_cons]
  unfold UW uM
  by_cases q:Cn c (gi y).1 (gi y).2.1
  ·rw [if_neg (by rw [hu];exact fun g=>g q)]
   exact⟨fun g=>(by cases g),fun g=>absurd q g.1⟩
  ·rw [if_pos (hu.2 q),ih]
   exact⟨fun g=>⟨q,g⟩,fun g=>g.2⟩
abbrev mk (M:List E) (i:Nat):Bool:=rb (M.getD i []) 0
def num (M:List E):Nat:=(List.range 65).countP (mk M)
end Go.Proofs.YtelhldgdnlppfaaGreat.SpT
namespace Go.Proofs.YtelhldgdnlppfaaGreat.SpO
open Go Ry Go.Proofs.YtelhldgdnlppfaaGreat.So JoS EgR SpR SpQ SpT
structure XL where
 i:Int
 o:List E
end Go.Proofs.YtelhldgdnlppfaaGreat.SpO
namespace Go.Proofs.YtelhldgdnlppfaaGreat.SpL
open Go Ry Go.Proofs.YtelhldgdnlppfaaGreat.So JoS JoR JoW EgR EgL SpR SpQ SpK SpT SpO
end Go.Proofs.YtelhldgdnlppfaaGreat.SpL
namespace Go.Proofs.YtelhldgdnlppfaaGreat.SpN
open Go Ry Go.Proofs.YtelhldgdnlppfaaGreat.So JoS JoR JoW EgR EgL SpR SpQ SpK SpT SpO SpL
theorem mK (l:List E):oQ l=0↔Cm (l.map gi)∧l.length≤512:=by
 have h:=RO l
 unfold oQ
 split
 ·rename_i g
  split
  ·constructor
   ·intro q
    cases q
   ·intro q
    omega
  ·exact⟨fun _=>⟨h.1 g,by omega⟩,fun _=>rfl⟩
 ·rename_i g
  exact⟨fun q=>(by cases q),fun q=>absurd (h.2 q.1) g⟩
structure Oth (l o:List E):Prop where
 f:UW [] (o.map gi)
 m:∀ y∈o,gi y∈l.map gi
def Zf (f:List E) (c:T):List E:=(f.filter fun z=>decide (¬gi z=c)).map e3
end Go.Proofs.YtelhldgdnlppfaaGreat.SpN
