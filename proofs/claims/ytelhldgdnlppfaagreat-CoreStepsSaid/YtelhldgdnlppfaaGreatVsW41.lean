
/-
  words El the reckoner: which there may be,and their bytes. No condition.
-/
import Derived.Test.YtelhldgdnlppfaaGreatVsDk
import Derived.Test.YtelhldgdnlppfaaGreatVsW14
import Derived.Test.YtelhldgdnlppfaaGreatVsW22
import Derived.Test.YtelhldgdnlppfaaGreatVsW27
set_option maxRecDepth 100000
set_option cbv.maxSteps 4000000
set_option maxHeartbeats 8000000
namespace Go.Proofs.YtelhldgdnlppfaaGreat.DlI
open Go Ry Dk Go.RowKit
theorem info:∃ i z,Tryz.prog.info? 3=some i∧i.zero=some z∧i.size=1∧i.bytes≤1000∧z.cells.size=1∧∀ u∈z.cells,u.oneCell' = true:=by
 have h:(match Tryz.prog.info? 3 with
  |some i=>(match i.zero with
   |some z=>(i.size == 1) && (decide (i.bytes≤1000) && ((z.cells.size == 1) && z.cells.toList.all Value.oneCell'))
   |none=>false)
  |none=>false)=true:=by kernel_rfl
 split at h
 ·rename_i i hi;split at h
  ·rename_i z hz;simp only [Bool.and_eq_true,beq_iff_eq,decide_eq_true_eq] at h;exact⟨i,z,hi,hz,h.1,h.2.1,h.2.2.1,fun u hu=>List.all_eq_true.1 h.2.2.2 u (by simpa using hu)⟩
  ·cases h
 ·cases h
theorem uV {α:Type} (pre vs rest:List α) (k:Nat) (hk:k≤vs.length):(pre ++ (vs ++ rest)).take (pre.length+k)=pre ++ vs.take k:=by
 rw [pS,List.take_append_of_le_length hk]
theorem Xi {α:Type} (pre X Y rest Z:List α):(pre ++ (X ++ (Y ++ rest))).take (pre.length+X.length) ++ Z ++ (pre ++ (X ++ (Y ++ rest))).drop (pre.length+X.length+Y.length)=pre ++ (X ++ (Z ++ rest)):=by
 have e1:(pre ++ (X ++ (Y ++ rest))).take (pre.length+X.length)=pre ++ X:=by
  rw [show pre ++ (X ++ (Y ++ rest))=(pre ++ X) ++ (Y ++ rest) by simp,show pre.length+X.length=(pre ++ X).length by simp,List.take_left]
 have e2:(pre ++ (X ++ (Y ++ rest))).drop (pre.length+X.length+Y.length)=rest:=by
  rw [show pre ++ (X ++ (Y ++ rest))=(pre ++ X ++ Y) ++ rest by simp,show pre.length+X.length+Y.length=(pre ++ X ++ Y).length by simp;omega,List.drop_left]
 rw [e1,e2];simp
theorem vg (w W1 W2:World) (g off cap i j n:Nat) (A:Addr) (hij:i < j) (hj:j≤n) (hn:n≤cap) (_:cap≤9223372036854775807) (hA:(if cap=j then some (⟨g,off,none⟩:Addr) else some ⟨g,off+j * 1,none⟩)=some A)
  (happ:∀ ty,(Builtin.append_ #[26,26] ty #[.slice (some ⟨g,off,none⟩) i cap,.slice (some A) (n - j) (cap - j)]).run Tryz.prog w.drew = .ok (.slice (some ⟨g,off,none⟩) (i+(n - j)) cap) W1)
  (hclr:∀ ty,(Builtin.clear_ #[26] ty #[.slice (some ⟨g,off+(i+(n - j)) * 1,none⟩) (n - (i+(n - j))) (cap - (i+(n - j)))]).run Tryz.prog W1 = .ok (.tuple #[]) W2) :
  Calls Tryz.prog 114 #[.slice (some ⟨g,off,none⟩) n cap,.int .i64 i,.int .i64 j] w fun e w'=>e = .returned (.slice (some ⟨g,off,none⟩) (i+(n - j)) cap)∧w' = W2:=by
 simp only [Nat.mul_one] at *;have mixed:Tryz.prog.follows .mixedOrders=true:=by kernel_rfl
 have hic:i≤cap:=by omega
 have hjc:j≤cap:=by omega
 have hbn:¬cap=i+(n - j):=by omega
 go_enter Tryz.func114,Tryz.ntmps114
 go_wp2_with fail
 go_region_law_o (refine kh rfl (.tmp 22) (.tmp 25) 26 26 rfl (.slice (some ⟨g,off,none⟩) i cap) (.slice (some A) (n - j) (cap - j)) (by simp [Act.eval,Act.put]) (by simp [Act.eval,Act.put]) (happ _) ?_)
 go_wp2_with fail
 go_ret
 exact⟨rfl,rfl⟩
theorem qt (w:World) (g cap i j n:Nat) (pre vs rest:List Value) (hg:w.heap[g]? = some (.cells (pre ++ (vs ++ rest)).toArray 3 (0,0))) (hv:vs.length=n * 1) (hr:(cap - n) * 1≤rest.length) (h1:∀ u∈vs,u.oneCell' = true) (hij:i < j) (hj:j≤n) (hn:n≤cap) (hc:cap≤maxLen) :
  Calls Tryz.prog 114 #[.slice (some ⟨g,pre.length,none⟩) n cap,.int .i64 i,.int .i64 j] w fun e w'=>e = .returned (.slice (some ⟨g,pre.length,none⟩) (i+(n - j)) cap)∧∃ (W:World) (rest' : List Value),w' = W.setRow g (pre ++ ((vs.take (i * 1) ++ vs.drop (j * 1)) ++ rest')).toArray∧rest'.length=(j - i) * 1+rest.length∧W.heap[g]? = some (.cells (pre ++ (vs ++ rest)).toArray 3 (0,0))∧W.os=w.os∧W.tape=w.tape∧W.output=w.output∧W.heap=w.heap:=by
 obtain⟨ie,ze,hi,hz,hs,hb,hzs,hz1⟩:=info;have u0:Tryz.prog.underlying 26=some (.slice 3):=Tryz.underlying26;unfold maxLen at hc;have hq:(vs.drop (j * 1)).length=(n - j) * 1:=by rw [List.length_drop,hv,← Nat.sub_mul]
 have e1:i * 1+(n - j) * 1+(j - i) * 1=n * 1:=by rw [← Nat.add_mul,← Nat.add_mul];congr 1;omega
 have e2:(i+(n - j)) * 1=i * 1+(n - j) * 1:=Nat.add_mul _ _ _;have e3:i * 1≤n * 1:=Nat.mul_le_mul_right _ (by omega);have e4:j * 1≤n * 1:=Nat.mul_le_mul_right _ (by omega);obtain⟨cs,hcs⟩:∃ cs,cs=pre ++ ((vs.take (i * 1) ++ vs.drop (j * 1)) ++ (vs.drop (i * 1+(n - j) * 1) ++ rest)):=⟨_,rfl⟩;obtain⟨W1,hW1⟩:∃ W1,W1=w.drew.setRow g cs.toArray:=⟨_,rfl⟩;have hgd:w.drew.heap[g]? = some (.cells (pre ++ (vs ++ rest)).toArray 3 (0,0)):=hg;have hg1:W1.heap[g]? = some (.cells cs.toArray 3 (0,0)):=by rw [hW1];exact bZ _ _ _ _ _ hgd
 obtain⟨A,hA,hsrc⟩:∃ A:Addr,(if cap=j then some (⟨g,pre.length,none⟩:Addr) else some ⟨g,pre.length+j * 1,none⟩)=some A∧∀ t u,(vs.drop (j * 1))[t]? = some u→w.drew.cell? (A.add t)=some u:=by
  by_cases h:cap=j
  ·refine⟨_,if_pos h,fun t u hu=>?_⟩;rw [List.drop_of_length_le (by omega)] at hu;simp at hu
  ·refine⟨_,if_neg h,fun t u hu=>?_⟩;rw [List.getElem?_drop] at hu;have hlt:=(List.getElem?_eq_some_iff.1 hu).1;have h5:(pre ++ (vs ++ rest))[pre.length+(j * 1+t)]? = some u:=by
    rw [lL,List.getElem?_append_left hlt];exact hu
   rw [cS,Nat.add_assoc];simp only [World.cell?,hgd];simpa using h5
 have hfirst:(Builtin.firstCells ie.size (n - j) (.slice (some A) (n - j) (cap - j))).run Tryz.prog w.drew = .ok (vs.drop (j * 1)).toArray w.drew:=by
  have:=run_loadCells_list (P:=Tryz.prog) w.drew A (vs.drop (j * 1)) hsrc;rw [hq] at this;rw [hs];exact this
 have happ:∀ ty,(Builtin.append_ #[26,26] ty #[.slice (some ⟨g,pre.length,none⟩) i cap,.slice (some A) (n - j) (cap - j)]).run Tryz.prog w.drew = .ok (.slice (some ⟨g,pre.length,none⟩) (i+(n - j)) cap) W1:=fun ty=>by
  have:=gN (P:=Tryz.prog) (w:=w.drew) u0 hi (g:=g) (off:=pre.length) (n:=i) (cap:=cap) (m:=n - j) (sz:=1) hgd (v:=.slice (some A) (n - j) (cap - j)) (ys:=vs.drop (j * 1)) rfl hfirst (fun u hu=>h1 u (List.mem_of_mem_drop hu)) hs (by omega) (by simp only [List.size_toArray,List.length_append];omega) ty;rw [this,hW1,hcs]
  congr 3
  rw [hq,uV pre vs rest (i * 1) (by omega),Nat.add_assoc,kF,List.drop_append_of_le_length (by omega)];simp
 have hclr:∀ ty,(Builtin.clear_ #[26] ty #[.slice (some ⟨g,pre.length+(i+(n - j)) * 1,none⟩) (n - (i+(n - j))) (cap - (i+(n - j)))]).run Tryz.prog W1 = .ok (.tuple #[]) (W1.setRow g (pre ++ ((vs.take (i * 1) ++ vs.drop (j * 1)) ++ ((Builtin.zeroCells ze.cells (n - (i+(n - j)))).toList ++ rest))).toArray):=fun ty=>by
  have hzl:(Builtin.zeroCells ze.cells (n - (i+(n - j)))).toList.length=(n - (i+(n - j))) * 1:=by simp [Builtin.zeroCells,hzs]
  have hk:n - (i+(n - j))=j - i:=by omega
  have hlen:(vs.take (i * 1) ++ vs.drop (j * 1)).length=(i+(n - j)) * 1:=by rw [List.length_append,List.length_take,hq,e2];omega
  have:=pb (P:=Tryz.prog) u0 hi hz hz1 (n:=n - (i+(n - j))) (cap:=cap - (i+(n - j))) (off:=pre.length+(i+(n - j)) * 1) hg1 (by
   rw [hzs,hcs,hk];simp only [List.size_toArray,List.length_append,List.length_take,List.length_drop];omega) (by omega) ty
  rw [this,hcs]
  congr 3
  have hd:(vs.drop (i * 1+(n - j) * 1)).length=(n - (i+(n - j))) * 1:=by rw [List.length_drop,hv,hk];omega
  rw [hzs];rw [← hlen,← hd];exact Xi pre _ _ rest _
 refine (vg w W1 _ g pre.length cap i j n A hij hj hn (by omega) hA happ hclr).mono fun e w' ⟨he,hw⟩=>⟨he,w.drew,(Builtin.zeroCells ze.cells (n - (i+(n - j)))).toList ++ rest,?_,?_,hgd,rfl,rfl,rfl,rfl⟩
 ·rw [hw,hW1];exact setRow_setRow _ _ _ _
 ·rw [List.length_append];simp [Builtin.zeroCells,hzs];omega
structure Df where
 ok:List Int→Int→Int→Bool
 del:List Int→Int→Int→List Int
def Df.aa:Df:=⟨fun l i j=>decide (l.length≤1000000∧0≤i∧i < j∧j≤l.length),fun l i j=>l.take i.toNat ++ l.drop j.toNat⟩
def wD (F:Df):aO:=fun xs h=>match xs,h with
 |[.one (.own 0),.one (.val (.int .i64 i)),.one (.val (.int .i64 j))],[(0,.row 3 (.ints .i64 l))]=>some ⟨F.ok l i j=true,.sa (.one (.own 1)),[(1,.row 3 (.ints .i64 (F.del l i j)))],[Any,Any,Any]⟩
 |_,_=>none
theorem yt:au Tryz.prog 114 (wD Df.aa):=by
 refine⟨⟨_,Tryz.func114,rfl,by kernel_rfl⟩,?_⟩;intro args h p hp hC G vs hh hbs hm hv;unfold wD at hp;split at hp
 ·rename_i i j l;cases hp;have hk:l.length≤1000000∧0≤i∧i < j∧j≤l.length:=of_decide_eq_true hC;obtain⟨k1,k2,k3,k4⟩:=hk
  match vs,hv with
  |[v0,v1,v2],⟨hv0,fu,hv2,_⟩ =>
   have fu:v1 = .int .i64 i:=fu;have hv2:v2 = .int .i64 j:=hv2;subst fu hv2;obtain⟨i,rfl⟩:=Int.eq_ofNat_of_zero_le k2;obtain⟨j,rfl⟩:=Int.eq_ofNat_of_zero_le (show 0≤j by omega);have hg0:ar G.h 0=some (.row 3 (.ints .i64 l)):=by rw [hh];rfl
   obtain⟨_,hown⟩:=hv0;unfold bp at hown;rw [hg0] at hown;rcases hown with ⟨z0,_,_,_⟩ | ⟨g,off,cap,tt,kk,ho,rfl,hc1,hc2,hsh,hfit,hpos⟩
   ·have z0:l.length=0:=z0;omega
   obtain⟨pre,us,rest,h0,hg,hf,h1⟩:=hm.rowAt hg0 ho;subst h0;have hc1:l.length≤cap:=hc1;have hfit:pre.length+cap * 1≤kk:=hfit;have hlu:us.length=l.length * 1:=hf.len;have hkk:pre.length+(us.length+rest.length)=kk:=by
    unfold World.shape? at hsh;rw [hg] at hsh;simp at hsh;exact hsh.2
   have hcl:(cap - l.length) * 1≤rest.length:=by
    rw [Nat.sub_mul];omega
   refine (qt G.w g cap i j l.length pre us rest hg hlu hcl h1 (by omega) (by omega) hc1 hc2).mono fun e w' ⟨he,W,rest',hw,hr',hgW,hos,htp,hout,hhp⟩=>?_;have hc3:((l.take i ++ l.drop j).length)=i+(l.length - j):=by
    rw [List.length_append,List.length_take,List.length_drop];omega
   have e1:i * 1+(l.length - j) * 1+(j - i) * 1=l.length * 1:=by rw [← Nat.add_mul,← Nat.add_mul];congr 1;omega
   have hflat:aV G (.ints .i64 (l.take i ++ l.drop j)) (us.take (i * 1) ++ us.drop (j * 1)):=by
    have f1:=hf.take (show i≤l.length by omega);have f2:=(hf.cut (lo:=(j:Int)) (hi:=(l.length:Int)) (by omega) (by omega) (Int.le_refl _)).1;have f3:=(aV.append (ct:=.ints .i64 (l.take i ++ l.drop j)) (by simp [dj,Ct.cut,Ar.aa,dr]) f1 f2).1;have e5:(us.take ((l.length:Int).toNat * 1)).drop ((j:Int).toNat * 1)=us.drop (j * 1):=by
     rw [Int.toNat_natCast,Int.toNat_natCast,← hlu,List.take_length]
    have f3:aV G (.ints .i64 (l.take i ++ l.drop j)) (us.take (i * 1) ++ (us.take ((l.length:Int).toNat * 1)).drop ((j:Int).toNat * 1)):=f3;rw [e5] at f3;exact f3
   obtain⟨G',q1,q2,q3,q4,q5⟩:=Mv hm 1 hg0 (by rw [hh];rfl) (cap:=cap) (vs':=us.take (i * 1) ++ us.drop (j * 1)) (rest':=rest') (c':=.ints .i64 (l.take i ++ l.drop j)) ho hg (W:=W) ⟨hhp,hos,htp,hout⟩ (by
     have:=Nat.mul_le_mul_right 1 (show j≤l.length by omega);have:=Nat.sub_mul l.length j 1;rw [List.length_append,List.length_take,List.length_drop,hr'];omega) hflat (fun u hu=>(List.mem_append.1 hu).elim (fun q=>h1 u (List.mem_of_mem_take q)) (fun q=>h1 u (List.mem_of_mem_drop q))) (by
     show (l.take i ++ l.drop j).length≤cap;omega) hc2 (by
     show pre.length+cap * 1≤_;omega) hpos
   have q5:(SC.own 1).is G' (.slice (some ⟨g,pre.length,none⟩) (l.take i ++ l.drop j).length cap):=q5;rw [hc3] at q5;exact⟨_,G',he,by rw [q1,hw],q2,q3,q4,q5,trivial,trivial,trivial,trivial⟩
 ·cases hp
end Go.Proofs.YtelhldgdnlppfaaGreat.DlI
namespace Go.Proofs.YtelhldgdnlppfaaGreat.Fz
open Go Ry
theorem Jj {P:Program} {f:FuncId} {bC con' : aO} (ok:au P f bC)
  (hcon:∀ xs h p',con' xs h=some p'→∃ C T ct qs,bC xs h=some ⟨C,.sa (.one (.own 1)),[(1,.row T ct)],qs⟩∧(p'.C→C)∧p' = ⟨p'.C,.sa (.one (.sl none ct)),[],xs.map fun _=>Any⟩):au P f con':=by
 refine⟨ok.1,?_⟩;intro args h p' hp hC G vs hh hbs hm hv;obtain⟨C,T,ct,qs,hc,hi,hp'⟩:=hcon _ _ _ hp;refine (ok.2 args h _ hc (hi hC) G vs hh hbs hm hv).mono ?_;rintro e w' ⟨v,G',he,hw,hb,hh',hm',hr,_⟩;obtain⟨hle,hmm⟩:=iX (G:=G') (m:=[]) (h':=[]) (fr:=true) (bs':=G'.bs) hm' rfl trivial rfl (.inl ⟨rfl,trivial⟩);rw [hp'];refine⟨v,⟨fq [] G'.o,[],G'.bs,G'.w⟩,he,hw,hb,rfl,hmm,?_,?_⟩
 ·have hr:(SC.own 1).is G' v:=hr;refine SC.gD hle (x:=.own 1) (y:=.sl none ct) ?_ hr;unfold SC.le;rw [hh'];simp only [ar,cO];exact⟨rfl,by cases ct <;> exact⟨rfl,rfl⟩⟩
 ·have hs:∀ (ow:List Nat) (xs:List SA),fD G ⟨fq [] G'.o,[],G'.bs,G'.w⟩ ow (xs.map fun _=>Any):=by
   intro ow
   induction ow with
   |nil=>intro xs;cases xs <;> trivial
   |cons j ow ih =>
    intro xs;cases xs with
    |nil=>trivial
    |cons x xs=>exact ih xs
  have:∀ (ow:List Nat) (xs:List SA) (us:List Value),oj G ⟨fq [] G'.o,[],G'.bs,G'.w⟩ ow (xs.map fun _=>Any) us:=by
   intro ow xs
   induction xs with
   |nil=>intro us;cases us <;> trivial
   |cons x xs ih =>
    intro us;cases us with
    |nil=>exact hs ow (x :: xs)
    |cons u us=>exact⟨trivial,ih us⟩
  exact this _ args vs
def EG (F:DlI.Df):aO:=fun xs h=>match xs,h with
 |[.one (.own 0),.one (.val (.int .i64 i)),.one (.val (.int .i64 j))],[(0,.row 3 (.ints .i64 l))]=>some ⟨F.ok l i j=true,.sa (.one (.sl none (.ints .i64 (F.del l i j)))),[],[Any,Any,Any]⟩
 |_,_=>none
theorem FP:au Tryz.prog 114 (EG DlI.Df.aa):=by
 refine Jj DlI.yt fun xs h p hp=>?_;unfold EG at hp;split at hp
 ·cases hp;exact⟨_,_,_,_,rfl,id,rfl⟩
 ·cases hp
end Go.Proofs.YtelhldgdnlppfaaGreat.Fz
namespace Go.Proofs.YtelhldgdnlppfaaGreat.OctR
open Go Ry
def isW (w:Int):Bool:=decide (1≤w∧w≤4)
def grI (w:Int):Int:=if w=4 then 2147483647 else if w=3 then 16777215 else if w=2 then 65535 else 255
def byI (n i:Int):Int:=IntKind.u8.wrap (aD .shr .i64 n (aD .mul .i64 8 i))
def aeW (n w:Int) (k:Nat):List Int:=(List.range k).map fun j:Nat=>byI n (w - 1 - (j:Int))
def afe (n w:Int):List Int:=aeW n w w.toNat
def adO (l:List Int) (n w:Int):List Int:=l ++ afe n w
def shB (l:List Int):Bool:=decide (l.length≤1000000)
def room (l:List Int) (n:Int):Bool:=decide (l.length≤1000000∧0≤n∧n≤1000000)
def Zw (l:List Int):Int:=l.foldl (fun n x=>aD .or .i64 (aD .shl .i64 n 8) (IntKind.i64.wrap x)) 0
def aeJ (r:List Int):Int:=r.length
def afD (r:List Int) (e:Int):Int:=if e=0 then (if 0 < r.length then 5 else 0) else e
def Mu (r:List Int) (w:Int):Bool:=decide ((r.length:Int) < w∨grI w < Zw (r.take w.toNat))
def tkN (r:List Int) (e w:Int):Int:=if e=0∧isW w=true∧Mu r w=false then Zw (r.take w.toNat) else 0
def tkE (r:List Int) (e w:Int):Int:=if e=0 then (if isW w=true then (if Mu r w=true then 5 else 0) else 1) else e
def tkR (r:List Int) (e w:Int):List Int:=if e=0∧isW w=true∧Mu r w=false then r.drop w.toNat else r
def adf (n w:Int):Int:=if isW w=false then 1 else if n < 0∨grI w < n then 3 else 0
def Tt (l:List Int) (n w:Int):List Int:=if adf n w=0 then adO l n w else []
structure Fs where
 agP:Int→Bool
 fm:Int→Int
 aha:List Int→Int→Int→List Int
 adR:List Int→Int→Bool
 afG:List Int→Int→Bool
 afr:List Int→Int→Int→List Int
 afh:Int→Int→Int
 agM:List Int→Int
 agI:List Int→Int
 agJ:List Int→Int→Int
 agU:List Int→Int→Int→Int
 agN:List Int→Int→Int→Int
 agR:List Int→Int→Int→List Int
 ahg:List Int→Bool
def Fs.aa:Fs:=⟨isW,grI,adO,fun l w=>shB l && isW w,room,Tt,adf,Zw,aeJ,afD,tkN,tkE,tkR,shB⟩
structure XA where
 i:Int
 c:List Int
structure XU where
 i:Int
 n:Int
end Go.Proofs.YtelhldgdnlppfaaGreat.OctR
namespace Go.Proofs.YtelhldgdnlppfaaGreat.OctP
open Go Ry OctR
structure XN where
 n:Int
 i:Int
 o:List Int
end Go.Proofs.YtelhldgdnlppfaaGreat.OctP
namespace Go.Proofs.YtelhldgdnlppfaaGreat.OctQ
open Go Ry OctR OctP
end Go.Proofs.YtelhldgdnlppfaaGreat.OctQ
namespace Go.Proofs.YtelhldgdnlppfaaGreat.WoR
open Go Ry ViR ViC OctR OctP OctQ
structure WD where
 k:Int
 e:Int
 r:Int
 n:List Int
 l:List E
 ck:Int
 ca:Int
 cb:Int
 cs:Int
def vq (k a b s:Int):Bool:=decide (k=1∧a=0∧b=0∧s=0∨(k=2∨k=3)∧bG a=true∧bG b=true∧a≠b∧1≤s∧s≤2147483647∧(k=3→a < b))
def ky (e r:Int):Bool:=decide (e=0∧r=0∨1≤e∧e≤2147483647∧bG r=true)
def er (b:Bool):Int:=if b=true then 0 else 1
def nmd (k:Int):Bool:=decide (k=1∨k=2∨k=3)
def okE (w:WD):Bool:=decide ((nmd w.k=true→¬(w.e=0∧w.r=0))∧(nmd w.k=false→w.e=0∧w.r=0)) && ky w.e w.r
def full (w:WD):Bool:=decide (w.k=2∨w.k=3∧w.ck=1)
def okV (w:WD):Bool:=if full w=true then decide (0 < w.n.length∧w.l.length≤1024) && aX w.n w.l else decide (w.n.length=0∧w.l.length=0)
def JW (w:WD):Bool:=if w.k=3 then vq w.ck w.ca w.cb w.cs else decide (w.ck=0∧w.ca=0∧w.cb=0∧w.cs=0)
def kx (w:WD):Bool:=decide (1≤w.k∧w.k < 8) && (okE w && (okV w && JW w))
def FL (w:WD):Bool:=decide (w.n.length≤1000000∧w.l.length≤1000000)
def pt (b:List Int) (n w:Int):List Int:=b ++ Tt [] n w
def lkP (b:List Int) (y:E):List Int:=pt (pt (pt (pt (pt b (ri y 0) 1) (ri y 1) 1) (ri y 2) 4) (ri y 3) 4) (if rb y 4=true then 1 else 0) 1
def lk5 (b:List Int) (n p w s:Int) (mk:Bool):List Int:=pt (pt (pt (pt (pt b n 1) p 1) w 4) s 4) (if mk=true then 1 else 0) 1
def hdP (w:WD):List Int:=pt (pt (pt (pt (pt (pt (pt (Tt [] w.k 1) w.e 4) w.r 1) w.ck 1) w.ca 1) w.cb 1) w.cs 4) w.n.length 1
def ndP (b:List Int) (n:List Int):List Int:=n.foldl (fun b x=>pt b x 1) b
def lkA (b:List Int) (l:List E):List Int:=l.foldl lkP b
def acN (w:WD):List Int:=lkA (pt (ndP (hdP w) w.n) w.l.length 2) w.l
def agE (w:WD):List Int:=if kx w=true then acN w else []
structure XO where
 i:Int
 b:List Int
structure Ws where
 w_c:Int→Int→Int→Int→Bool
 gY:Int→Int→Bool
 JS:Bool→Int
 OX:WD→Bool
 adJ:WD→Bool
 abH:WD→Bool
 WH:WD→Bool
 w_s:WD→Bool
 ahn:Int→Int→List Int
 ahy:List Int→Int→Int→List Int
 ahi:List Int→Int→Int→Int→Int→Bool→List Int
 agT:WD→List Int
 ahw:List Int→Bool
 ahc:List Int→Bool
def Ws.aa:Ws:=⟨vq,ky,er,okE,okV,JW,kx,FL,fun n w=>Tt [] n w,pt,lk5,agE,fun b=>decide (b.length≤200000),fun b=>decide (b.length≤100000)⟩
def CU (F:Ws):aO:=fun xs h=>match xs,h with
 |[.agg [.val (.int .i64 c_k),.val (.int .i64 c_a),.val (.int .i64 c_b),.val (.int .i64 c_s)]],[]=>some ⟨True,.sa (I (F.JS (F.w_c c_k c_a c_b c_s))),[],[Any]⟩
 |_,_=>none
theorem Kt:au Tryz.prog 130 (CU Ws.aa):=by
 have hfs:=(ak.cons ia ak.nil rfl);refine aw hfs Tryz.func130 rfl rfl fun xs h p hp=>?_;unfold CU at hp;split at hp
 ·rename_i c_k c_a c_b c_s;cases hp;refine⟨av rfl,fun _ _=>?_⟩;intro b gv;generalize hF:Ws.aa=F,hG0:ViR.Vs.aa=G0,hG1:ViC.Vc.aa=G1,hG2:OctR.Fs.aa=G2 at hfs ⊢;refine bu fun Z zq A hA L hL=>?_
  repeat' (first|(apply al zq;try dsimp only)|apply aS zq (af hL)|apply aq zq|refine aT rfl ?_|apply ai|refine ah rfl ?_|refine aR rfl ?_|exact aA|apply aB|refine aP fun _=>?_|refine aQ fun _=>?_|(constructor;cbv))
  all_goals
   clear hL zq Z
   try clear hfs
   subst hA hF hG0 hG1 hG2;simp only [Ws.aa,ViR.Vs.aa,Ar.aa] at *
   try (grind [aj,er,vq])
 ·cases hp
def Gz (F:Ws):aO:=fun xs h=>match xs,h with
 |[.agg [.val (.int .i64 c_k),.val (.int .i64 c_a),.val (.int .i64 c_b),.val (.int .i64 c_s)]],[]=>some ⟨True,.sa (B (F.w_c c_k c_a c_b c_s)),[],[Any]⟩
 |_,_=>none
theorem KZ:au Tryz.prog 79 (Gz Ws.aa):=by
 have hfs:=(ak.cons fY ak.nil rfl);refine aw hfs Tryz.func79 rfl rfl fun xs h p hp=>?_;unfold Gz at hp;split at hp
 ·rename_i c_k c_a c_b c_s;cases hp;refine⟨av rfl,fun _ _=>?_⟩;intro b gv;generalize hF:Ws.aa=F,hG0:ViR.Vs.aa=G0,hG1:ViC.Vc.aa=G1,hG2:OctR.Fs.aa=G2 at hfs ⊢;refine bu fun Z zq A hA L hL=>?_
  repeat' (first|(apply al zq;try dsimp only)|apply aS zq (af hL)|apply aq zq|refine aT rfl ?_|apply ai|refine ah rfl ?_|refine aR rfl ?_|exact aA|apply aB|refine aP fun _=>?_|refine aQ fun _=>?_|(constructor;cbv))
  all_goals
   clear hL zq Z
   try clear hfs
   subst hA hF hG0 hG1 hG2;simp only [Ws.aa,ViR.Vs.aa,Ar.aa] at *
   try (grind [aj,vq])
 ·cases hp
def wA (F:Ws):aO:=fun xs h=>match xs,h with
 |[.agg [.val (.int .i64 c_e),.val (.int .i64 c_r)]],[]=>some ⟨True,.sa (I (F.JS (F.gY c_e c_r))),[],[Any]⟩
 |_,_=>none
theorem Ew:au Tryz.prog 128 (wA Ws.aa):=by
 have hfs:=(ak.cons ia ak.nil rfl);refine aw hfs Tryz.func128 rfl rfl fun xs h p hp=>?_;unfold wA at hp;split at hp
 ·rename_i c_e c_r;cases hp;refine⟨av rfl,fun _ _=>?_⟩;intro b gv;generalize hF:Ws.aa=F,hG0:ViR.Vs.aa=G0,hG1:ViC.Vc.aa=G1,hG2:OctR.Fs.aa=G2 at hfs ⊢;refine bu fun Z zq A hA L hL=>?_
  repeat' (first|(apply al zq;try dsimp only)|apply aS zq (af hL)|apply aq zq|refine aT rfl ?_|apply ai|refine ah rfl ?_|refine aR rfl ?_|exact aA|apply aB|refine aP fun _=>?_|refine aQ fun _=>?_|(constructor;cbv))
  all_goals
   clear hL zq Z
   try clear hfs
   subst hA hF hG0 hG1 hG2;simp only [Ws.aa,ViR.Vs.aa,Ar.aa] at *
   try (grind [aj,er,ky])
 ·cases hp
def Gh (F:Ws):aO:=fun xs h=>match xs,h with
 |[.agg [.val (.int .i64 c_e),.val (.int .i64 c_r)]],[]=>some ⟨True,.sa (B (F.gY c_e c_r)),[],[Any]⟩
 |_,_=>none
theorem Mo:au Tryz.prog 77 (Gh Ws.aa):=by
 have hfs:=(ak.cons fY ak.nil rfl);refine aw hfs Tryz.func77 rfl rfl fun xs h p hp=>?_;unfold Gh at hp;split at hp
 ·rename_i c_e c_r;cases hp;refine⟨av rfl,fun _ _=>?_⟩;intro b gv;generalize hF:Ws.aa=F,hG0:ViR.Vs.aa=G0,hG1:ViC.Vc.aa=G1,hG2:OctR.Fs.aa=G2 at hfs ⊢;refine bu fun Z zq A hA L hL=>?_
  repeat' (first|(apply al zq;try dsimp only)|apply aS zq (af hL)|apply aq zq|refine aT rfl ?_|apply ai|refine ah rfl ?_|refine aR rfl ?_|exact aA|apply aB|refine aP fun _=>?_|refine aQ fun _=>?_|(constructor;cbv))
  all_goals
   clear hL zq Z
   try clear hfs
   subst hA hF hG0 hG1 hG2;simp only [Ws.aa,ViR.Vs.aa,Ar.aa] at *
   try (grind [aj,ky])
 ·cases hp
def Np (F:Ws):aO:=fun xs h=>match xs,h with
 |[.agg [.val (.int .i64 w_k),.val (.int .i64 gY),.val (.int .i64 w_r),.sl none (.ints .i64 w_n),.sl none (.ae (.int .i64 (.int .i64 (.int .i64 (.int .i64 (.bool .nil))))) w_l),.val (.int .i64 w_ck),.val (.int .i64 w_ca),.val (.int .i64 w_cb),.val (.int .i64 w_cs)]],[]=>some ⟨True,.sa (I (F.JS (F.OX ⟨w_k,gY,w_r,w_n,w_l,w_ck,w_ca,w_cb,w_cs⟩))),[],[Any]⟩
 |_,_=>none
theorem RF:au Tryz.prog 100 (Np Ws.aa):=by
 have hfs:=(ak.cons Ew ak.nil rfl);refine aw hfs Tryz.func100 rfl rfl fun xs h p hp=>?_;unfold Np at hp;split at hp
 ·rename_i w_k gY w_r w_n w_l w_ck w_ca w_cb w_cs;cases hp;refine⟨av rfl,fun _ _=>?_⟩;intro b gv;generalize hF:Ws.aa=F,hG0:ViR.Vs.aa=G0,hG1:ViC.Vc.aa=G1,hG2:OctR.Fs.aa=G2 at hfs ⊢;refine bu fun Z zq A hA L hL=>?_
  repeat' (first|(apply al zq;try dsimp only)|apply aS zq (af hL)|apply aq zq|refine aT rfl ?_|apply ai|refine ah rfl ?_|refine aR rfl ?_|exact aA|apply aB|refine aP fun _=>?_|refine aQ fun _=>?_|(constructor;cbv))
  all_goals
   clear hL zq Z
   try clear hfs
   subst hA hF hG0 hG1 hG2;simp only [Ws.aa,Ar.aa] at *
   try (grind [aj,er,okE,nmd,ky])
 ·cases hp
def GM (F:Ws):aO:=fun xs h=>match xs,h with
 |[.agg [.val (.int .i64 w_k),.val (.int .i64 gY),.val (.int .i64 w_r),.sl none (.ints .i64 w_n),.sl none (.ae (.int .i64 (.int .i64 (.int .i64 (.int .i64 (.bool .nil))))) w_l),.val (.int .i64 w_ck),.val (.int .i64 w_ca),.val (.int .i64 w_cb),.val (.int .i64 w_cs)]],[]=>some ⟨F.w_s ⟨w_k,gY,w_r,w_n,w_l,w_ck,w_ca,w_cb,w_cs⟩=true,.sa (I (F.JS (F.adJ ⟨w_k,gY,w_r,w_n,w_l,w_ck,w_ca,w_cb,w_cs⟩))),[],[Any]⟩
 |_,_=>none
theorem Ps:au Tryz.prog 101 (GM Ws.aa):=by
 have hfs:=(ak.cons dO ak.nil rfl);refine aw hfs Tryz.func101 rfl rfl fun xs h p hp=>?_;unfold GM at hp;split at hp
 ·rename_i w_k gY w_r w_n w_l w_ck w_ca w_cb w_cs;cases hp;refine⟨av rfl,fun hC _=>?_⟩;dsimp only at hC;intro b gv;generalize hF:Ws.aa=F,hG0:ViR.Vs.aa=G0,hG1:ViC.Vc.aa=G1,hG2:OctR.Fs.aa=G2 at hC hfs ⊢;refine bu fun Z zq A hA L hL=>?_
  repeat' (first|(apply al zq;try dsimp only)|apply aS zq (af hL)|apply aq zq|refine aT rfl ?_|apply ai|refine ah rfl ?_|refine aR rfl ?_|exact aA|apply aB|refine aP fun _=>?_|refine aQ fun _=>?_|(constructor;cbv))
  all_goals
   clear hL zq Z
   try clear hfs
   subst hA hF hG0 hG1 hG2;simp only [Ws.aa,ViC.Vc.aa,Ar.aa] at *
   try (grind [aj,er,okV,full,FL,oU])
 ·cases hp
def LS (F:Ws):aO:=fun xs h=>match xs,h with
 |[.agg [.val (.int .i64 w_k),.val (.int .i64 gY),.val (.int .i64 w_r),.sl none (.ints .i64 w_n),.sl none (.ae (.int .i64 (.int .i64 (.int .i64 (.int .i64 (.bool .nil))))) w_l),.val (.int .i64 w_ck),.val (.int .i64 w_ca),.val (.int .i64 w_cb),.val (.int .i64 w_cs)]],[]=>some ⟨True,.sa (I (F.JS (F.abH ⟨w_k,gY,w_r,w_n,w_l,w_ck,w_ca,w_cb,w_cs⟩))),[],[Any]⟩
 |_,_=>none
theorem Uj:au Tryz.prog 102 (LS Ws.aa):=by
 have hfs:=(ak.cons Kt ak.nil rfl);refine aw hfs Tryz.func102 rfl rfl fun xs h p hp=>?_;unfold LS at hp;split at hp
 ·rename_i w_k gY w_r w_n w_l w_ck w_ca w_cb w_cs;cases hp;refine⟨av rfl,fun _ _=>?_⟩;intro b gv;generalize hF:Ws.aa=F,hG0:ViR.Vs.aa=G0,hG1:ViC.Vc.aa=G1,hG2:OctR.Fs.aa=G2 at hfs ⊢;refine bu fun Z zq A hA L hL=>?_
  repeat' (first|(apply al zq;try dsimp only)|apply aS zq (af hL)|apply aq zq|refine aT rfl ?_|apply ai|refine ah rfl ?_|refine aR rfl ?_|exact aA|apply aB|refine aP fun _=>?_|refine aQ fun _=>?_|(constructor;cbv))
  all_goals
   clear hL zq Z
   try clear hfs
   subst hA hF hG0 hG1 hG2;simp only [Ws.aa,Ar.aa] at *
   try (grind [aj,er,JW])
 ·cases hp
def ug (F:Ws):aO:=fun xs h=>match xs,h with
 |[.agg [.val (.int .i64 w_k),.val (.int .i64 gY),.val (.int .i64 w_r),.sl none (.ints .i64 w_n),.sl none (.ae (.int .i64 (.int .i64 (.int .i64 (.int .i64 (.bool .nil))))) w_l),.val (.int .i64 w_ck),.val (.int .i64 w_ca),.val (.int .i64 w_cb),.val (.int .i64 w_cs)]],[]=>some ⟨F.w_s ⟨w_k,gY,w_r,w_n,w_l,w_ck,w_ca,w_cb,w_cs⟩=true,.sa (I (F.JS (F.WH ⟨w_k,gY,w_r,w_n,w_l,w_ck,w_ca,w_cb,w_cs⟩))),[],[Any]⟩
 |_,_=>none
theorem wC:au Tryz.prog 61 (ug Ws.aa):=by
 have hfs:=(ak.cons RF (ak.cons Ps (ak.cons Uj ak.nil rfl) rfl) rfl);refine aw hfs Tryz.func61 rfl rfl fun xs h p hp=>?_;unfold ug at hp;split at hp
 ·rename_i w_k gY w_r w_n w_l w_ck w_ca w_cb w_cs;cases hp;refine⟨av rfl,fun hC _=>?_⟩;dsimp only at hC;intro b gv;generalize hF:Ws.aa=F,hG0:ViR.Vs.aa=G0,hG1:ViC.Vc.aa=G1,hG2:OctR.Fs.aa=G2 at hC hfs ⊢;refine bu fun Z zq A hA L hL=>?_
  repeat' (first|(apply al zq;try dsimp only)|apply aS zq (af hL)|apply aq zq|refine aT rfl ?_|apply ai|refine ah rfl ?_|refine aR rfl ?_|exact aA|apply aB|refine aP fun _=>?_|refine aQ fun _=>?_|(constructor;cbv))
  all_goals
   clear hL zq Z
   try clear hfs
   subst hA hF hG0 hG1 hG2;simp only [Ws.aa,Ar.aa] at *
   try (grind [aj,er,kx])
 ·cases hp
def zd (F:Ws):aO:=fun xs h=>match xs,h with
 |[.agg [.val (.int .i64 w_k),.val (.int .i64 gY),.val (.int .i64 w_r),.sl none (.ints .i64 w_n),.sl none (.ae (.int .i64 (.int .i64 (.int .i64 (.int .i64 (.bool .nil))))) w_l),.val (.int .i64 w_ck),.val (.int .i64 w_ca),.val (.int .i64 w_cb),.val (.int .i64 w_cs)]],[]=>some ⟨F.w_s ⟨w_k,gY,w_r,w_n,w_l,w_ck,w_ca,w_cb,w_cs⟩=true,.sa (B (F.WH ⟨w_k,gY,w_r,w_n,w_l,w_ck,w_ca,w_cb,w_cs⟩)),[],[Any]⟩
 |_,_=>none
theorem Aw:au Tryz.prog 42 (zd Ws.aa):=by
 have hfs:=(ak.cons Mo (ak.cons KZ (ak.cons xI ak.nil rfl) rfl) rfl);refine aw hfs Tryz.func42 rfl rfl fun xs h p hp=>?_;unfold zd at hp;split at hp
 ·rename_i w_k gY w_r w_n w_l w_ck w_ca w_cb w_cs;cases hp;refine⟨av rfl,fun hC _=>?_⟩;dsimp only at hC;intro b gv;generalize hF:Ws.aa=F,hG0:ViR.Vs.aa=G0,hG1:ViC.Vc.aa=G1,hG2:OctR.Fs.aa=G2 at hC hfs ⊢;refine bu fun Z zq A hA L hL=>?_
  repeat' (first|(apply al zq;try dsimp only)|apply aS zq (af hL)|apply aq zq|refine aT rfl ?_|apply ai|refine ah rfl ?_|refine aR rfl ?_|exact aA|apply aB|refine aP fun _=>?_|refine aQ fun _=>?_|(constructor;cbv))
  all_goals
   clear hL zq Z
   try clear hfs
   subst hA hF hG0 hG1 hG2;simp only [Ws.aa,ViC.Vc.aa,Ar.aa] at *
   try (grind [aj,kx,okE,okV,JW,FL,nmd,full,ky,vq])
 ·cases hp
end Go.Proofs.YtelhldgdnlppfaaGreat.WoR
