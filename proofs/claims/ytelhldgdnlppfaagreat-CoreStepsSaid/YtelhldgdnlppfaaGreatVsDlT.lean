/-
  The library's Delete,at one type of elements: a contract of the reckoner's. No condition.
-/
import Derived.Test.YtelhldgdnlppfaaGreatVsDk
set_option maxRecDepth 100000
namespace Go.Proofs.YtelhldgdnlppfaaGreat.DlT
open Go Ry Dk Go.RowKit
theorem info:∃ i z,Tryz.prog.info? 58=some i∧i.zero=some z∧i.size=7∧i.bytes≤1000∧z.cells.size=7∧∀ u∈z.cells,u.oneCell' = true:=by
 have h:(match Tryz.prog.info? 58 with
  |some i=>(match i.zero with
   |some z=>(i.size == 7) && (decide (i.bytes≤1000) && ((z.cells.size == 7) && z.cells.toList.all Value.oneCell'))
   |none=>false)
  |none=>false)=true:=by kernel_rfl
 split at h
 ·rename_i i hi;split at h
  ·rename_i z hz;simp only [Bool.and_eq_true,beq_iff_eq,decide_eq_true_eq] at h;exact⟨i,z,hi,hz,h.1,h.2.1,h.2.2.1,fun u hu=>List.all_eq_true.1 h.2.2.2 u (by simpa using hu)⟩
  ·cases h
 ·cases h
theorem uV {α:Type} (pre vs rest:List α) (k:Nat) (hk:k≤vs.length):(pre ++ (vs ++ rest)).take (pre.length+k)=pre ++ vs.take k:=by
 rw [pS,List.take_append_of_le_length hk]
theorem Xi {α:Type} (pre X Y rest Z:List α):(pre ++ (X ++ (Y ++ rest))).take (pre.length+X.length) ++ Z ++ (pre ++ (X ++ (Y ++ rest))).drop (pre.length+X.length+Y.length)=pre ++ (X ++ (Z ++ rest)):=by
 have e1:(pre ++ (X ++ (Y ++ rest))).take (pre.length+X.length)=pre ++ X:=by
  rw [show pre ++ (X ++ (Y ++ rest))=(pre ++ X) ++ (Y ++ rest) by simp,show pre.length+X.length=(pre ++ X).length by simp,List.take_left]
 have e2:(pre ++ (X ++ (Y ++ rest))).drop (pre.length+X.length+Y.length)=rest:=by
  rw [show pre ++ (X ++ (Y ++ rest))=(pre ++ X ++ Y) ++ rest by simp,show pre.length+X.length+Y.length=(pre ++ X ++ Y).length by simp;omega,List.drop_left]
 rw [e1,e2];simp
theorem vg (w W1 W2:World) (g off cap i j n:Nat) (A:Addr) (hij:i < j) (hj:j≤n) (hn:n≤cap) (_:cap≤9223372036854775807) (hA:(if cap=j then some (⟨g,off,none⟩:Addr) else some ⟨g,off+j * 7,none⟩)=some A)
  (happ:∀ ty,(Builtin.append_ #[25,25] ty #[.slice (some ⟨g,off,none⟩) i cap,.slice (some A) (n - j) (cap - j)]).run Tryz.prog w.drew = .ok (.slice (some ⟨g,off,none⟩) (i+(n - j)) cap) W1)
  (hclr:∀ ty,(Builtin.clear_ #[25] ty #[.slice (some ⟨g,off+(i+(n - j)) * 7,none⟩) (n - (i+(n - j))) (cap - (i+(n - j)))]).run Tryz.prog W1 = .ok (.tuple #[]) W2) :
  Calls Tryz.prog 69 #[.slice (some ⟨g,off,none⟩) n cap,.int .i64 i,.int .i64 j] w fun e w'=>e = .returned (.slice (some ⟨g,off,none⟩) (i+(n - j)) cap)∧w' = W2:=by
 have mixed:Tryz.prog.follows .mixedOrders=true:=by kernel_rfl
 have hic:i≤cap:=by omega
 have hjc:j≤cap:=by omega
 have hbn:¬cap=i+(n - j):=by omega
 go_enter Tryz.func69,Tryz.ntmps69
 go_wp2_with fail
 go_region_law_o (refine kh rfl (.tmp 22) (.tmp 25) 25 25 rfl (.slice (some ⟨g,off,none⟩) i cap) (.slice (some A) (n - j) (cap - j)) (by simp [Act.eval,Act.put]) (by simp [Act.eval,Act.put]) (happ _) ?_)
 go_wp2_with fail
 go_ret
 exact⟨rfl,rfl⟩
theorem qt (w:World) (g cap i j n:Nat) (pre vs rest:List Value) (hg:w.heap[g]? = some (.cells (pre ++ (vs ++ rest)).toArray 58 (0,0))) (hv:vs.length=n * 7) (hr:(cap - n) * 7≤rest.length) (h1:∀ u∈vs,u.oneCell' = true) (hij:i < j) (hj:j≤n) (hn:n≤cap) (hc:cap≤maxLen) :
  Calls Tryz.prog 69 #[.slice (some ⟨g,pre.length,none⟩) n cap,.int .i64 i,.int .i64 j] w fun e w'=>e = .returned (.slice (some ⟨g,pre.length,none⟩) (i+(n - j)) cap)∧∃ (W:World) (rest' : List Value),w' = W.setRow g (pre ++ ((vs.take (i * 7) ++ vs.drop (j * 7)) ++ rest')).toArray∧rest'.length=(j - i) * 7+rest.length∧W.heap[g]? = some (.cells (pre ++ (vs ++ rest)).toArray 58 (0,0))∧W.os=w.os∧W.tape=w.tape∧W.output=w.output∧W.heap=w.heap:=by
 obtain⟨ie,ze,hi,hz,hs,hb,hzs,hz1⟩:=info;have u0:Tryz.prog.underlying 25=some (.slice 58):=Tryz.underlying25;unfold maxLen at hc;have hq:(vs.drop (j * 7)).length=(n - j) * 7:=by rw [List.length_drop,hv,← Nat.sub_mul]
 have e1:i * 7+(n - j) * 7+(j - i) * 7=n * 7:=by rw [← Nat.add_mul,← Nat.add_mul];congr 1;omega
 have e2:(i+(n - j)) * 7=i * 7+(n - j) * 7:=Nat.add_mul _ _ _;have e3:i * 7≤n * 7:=Nat.mul_le_mul_right _ (by omega);have e4:j * 7≤n * 7:=Nat.mul_le_mul_right _ (by omega);obtain⟨cs,hcs⟩:∃ cs,cs=pre ++ ((vs.take (i * 7) ++ vs.drop (j * 7)) ++ (vs.drop (i * 7+(n - j) * 7) ++ rest)):=⟨_,rfl⟩;obtain⟨W1,hW1⟩:∃ W1,W1=w.drew.setRow g cs.toArray:=⟨_,rfl⟩;have hgd:w.drew.heap[g]? = some (.cells (pre ++ (vs ++ rest)).toArray 58 (0,0)):=hg;have hg1:W1.heap[g]? = some (.cells cs.toArray 58 (0,0)):=by rw [hW1];exact bZ _ _ _ _ _ hgd
 obtain⟨A,hA,hsrc⟩:∃ A:Addr,(if cap=j then some (⟨g,pre.length,none⟩:Addr) else some ⟨g,pre.length+j * 7,none⟩)=some A∧∀ t u,(vs.drop (j * 7))[t]? = some u→w.drew.cell? (A.add t)=some u:=by
  by_cases h:cap=j
  ·refine⟨_,if_pos h,fun t u hu=>?_⟩;rw [List.drop_of_length_le (by omega)] at hu;simp at hu
  ·refine⟨_,if_neg h,fun t u hu=>?_⟩;rw [List.getElem?_drop] at hu;have hlt:=(List.getElem?_eq_some_iff.1 hu).1;have h5:(pre ++ (vs ++ rest))[pre.length+(j * 7+t)]? = some u:=by
    rw [lL,List.getElem?_append_left hlt];exact hu
   rw [cS,Nat.add_assoc];simp only [World.cell?,hgd];simpa using h5
 have hfirst:(Builtin.firstCells ie.size (n - j) (.slice (some A) (n - j) (cap - j))).run Tryz.prog w.drew = .ok (vs.drop (j * 7)).toArray w.drew:=by
  have:=run_loadCells_list (P:=Tryz.prog) w.drew A (vs.drop (j * 7)) hsrc;rw [hq] at this;rw [hs];exact this
 have happ:∀ ty,(Builtin.append_ #[25,25] ty #[.slice (some ⟨g,pre.length,none⟩) i cap,.slice (some A) (n - j) (cap - j)]).run Tryz.prog w.drew = .ok (.slice (some ⟨g,pre.length,none⟩) (i+(n - j)) cap) W1:=fun ty=>by
  have:=gN (P:=Tryz.prog) (w:=w.drew) u0 hi (g:=g) (off:=pre.length) (n:=i) (cap:=cap) (m:=n - j) (sz:=7) hgd (v:=.slice (some A) (n - j) (cap - j)) (ys:=vs.drop (j * 7)) rfl hfirst (fun u hu=>h1 u (List.mem_of_mem_drop hu)) hs (by omega) (by simp only [List.size_toArray,List.length_append];omega) ty;rw [this,hW1,hcs]
  congr 3
  rw [hq,uV pre vs rest (i * 7) (by omega),Nat.add_assoc,kF,List.drop_append_of_le_length (by omega)];simp
 have hclr:∀ ty,(Builtin.clear_ #[25] ty #[.slice (some ⟨g,pre.length+(i+(n - j)) * 7,none⟩) (n - (i+(n - j))) (cap - (i+(n - j)))]).run Tryz.prog W1 = .ok (.tuple #[]) (W1.setRow g (pre ++ ((vs.take (i * 7) ++ vs.drop (j * 7)) ++ ((Builtin.zeroCells ze.cells (n - (i+(n - j)))).toList ++ rest))).toArray):=fun ty=>by
  have hzl:(Builtin.zeroCells ze.cells (n - (i+(n - j)))).toList.length=(n - (i+(n - j))) * 7:=by simp [Builtin.zeroCells,hzs]
  have hk:n - (i+(n - j))=j - i:=by omega
  have hlen:(vs.take (i * 7) ++ vs.drop (j * 7)).length=(i+(n - j)) * 7:=by rw [List.length_append,List.length_take,hq,e2];omega
  have:=pb (P:=Tryz.prog) u0 hi hz hz1 (n:=n - (i+(n - j))) (cap:=cap - (i+(n - j))) (off:=pre.length+(i+(n - j)) * 7) hg1 (by
   rw [hzs,hcs,hk];simp only [List.size_toArray,List.length_append,List.length_take,List.length_drop];omega) (by omega) ty
  rw [this,hcs]
  congr 3
  have hd:(vs.drop (i * 7+(n - j) * 7)).length=(n - (i+(n - j))) * 7:=by rw [List.length_drop,hv,hk];omega
  rw [hzs];rw [← hlen,← hd];exact Xi pre _ _ rest _
 refine (vg w W1 _ g pre.length cap i j n A hij hj hn (by omega) hA happ hclr).mono fun e w' ⟨he,hw⟩=>⟨he,w.drew,(Builtin.zeroCells ze.cells (n - (i+(n - j)))).toList ++ rest,?_,?_,hgd,rfl,rfl,rfl,rfl⟩
 ·rw [hw,hW1];exact setRow_setRow _ _ _ _
 ·rw [List.length_append];simp [Builtin.zeroCells,hzs];omega
structure Df where
 ok:List E→Int→Int→Bool
 del:List E→Int→Int→List E
def Df.aa:Df:=⟨fun l i j=>decide (l.length≤1000000∧0≤i∧i < j∧j≤l.length),fun l i j=>l.take i.toNat ++ l.drop j.toNat⟩
abbrev rL:Sh:=.int .i64 (.int .i64 (.int .i64 (.int .i64 (.bool (.bool (.int .i64 .nil))))))
def wD (F:Df):aO:=fun xs h=>match xs,h with
 |[.one (.own 0),.one (.val (.int .i64 i)),.one (.val (.int .i64 j))],[(0,.row 58 (.ae (.int .i64 (.int .i64 (.int .i64 (.int .i64 (.bool (.bool (.int .i64 .nil))))))) l))]=>some ⟨F.ok l i j=true,.sa (.one (.own 1)),[(1,.row 58 (.ae .eC (F.del l i j)))],[Any,Any,Any]⟩
 |_,_=>none
theorem yt:au Tryz.prog 69 (wD Df.aa):=by
 refine⟨⟨_,Tryz.func69,rfl,by kernel_rfl⟩,?_⟩;intro args h p hp hC G vs hh hbs hm hv;unfold wD at hp;split at hp
 ·rename_i i j l;cases hp;have hk:l.length≤1000000∧0≤i∧i < j∧j≤l.length:=of_decide_eq_true hC;obtain⟨k1,k2,k3,k4⟩:=hk
  match vs,hv with
  |[v0,v1,v2],⟨hv0,fu,hv2,_⟩ =>
   have fu:v1 = .int .i64 i:=fu;have hv2:v2 = .int .i64 j:=hv2;subst fu hv2;obtain⟨i,rfl⟩:=Int.eq_ofNat_of_zero_le k2;obtain⟨j,rfl⟩:=Int.eq_ofNat_of_zero_le (show 0≤j by omega);have hg0:ar G.h 0=some (.row 58 (.ae rL l)):=by rw [hh];rfl
   obtain⟨_,hown⟩:=hv0;unfold bp at hown;rw [hg0] at hown;rcases hown with ⟨z0,_,_,_⟩ | ⟨g,off,cap,tt,kk,ho,rfl,hc1,hc2,hsh,hfit,hpos⟩
   ·have z0:l.length=0:=z0;omega
   obtain⟨pre,us,rest,h0,hg,hf,h1⟩:=hm.rowAt hg0 ho;subst h0;have hc1:l.length≤cap:=hc1;have hfit:pre.length+cap * 7≤kk:=hfit;have hlu:us.length=l.length * 7:=hf.len;have hkk:pre.length+(us.length+rest.length)=kk:=by
    unfold World.shape? at hsh;rw [hg] at hsh;simp at hsh;exact hsh.2
   have hcl:(cap - l.length) * 7≤rest.length:=by
    rw [Nat.sub_mul];omega
   refine (qt G.w g cap i j l.length pre us rest hg hlu hcl h1 (by omega) (by omega) hc1 hc2).mono fun e w' ⟨he,W,rest',hw,hr',hgW,hos,htp,hout,hhp⟩=>?_;have hc3:((l.take i ++ l.drop j).length)=i+(l.length - j):=by
    rw [List.length_append,List.length_take,List.length_drop];omega
   have e1:i * 7+(l.length - j) * 7+(j - i) * 7=l.length * 7:=by rw [← Nat.add_mul,← Nat.add_mul];congr 1;omega
   have hflat:aV G (.ae rL (l.take i ++ l.drop j)) (us.take (i * 7) ++ us.drop (j * 7)):=by
    have f1:=hf.take (show i≤l.length by omega);have f2:=(hf.cut (lo:=(j:Int)) (hi:=(l.length:Int)) (by omega) (by omega) (Int.le_refl _)).1;have f3:=(aV.append (ct:=.ae rL (l.take i ++ l.drop j)) (by simp [dj,Ct.cut,Ar.aa,cV]) f1 f2).1;have e5:(us.take ((l.length:Int).toNat * 7)).drop ((j:Int).toNat * 7)=us.drop (j * 7):=by
     rw [Int.toNat_natCast,Int.toNat_natCast,← hlu,List.take_length]
    have f3:aV G (.ae rL (l.take i ++ l.drop j)) (us.take (i * 7) ++ (us.take ((l.length:Int).toNat * 7)).drop ((j:Int).toNat * 7)):=f3;rw [e5] at f3;exact f3
   obtain⟨G',q1,q2,q3,q4,q5⟩:=Mv hm 1 hg0 (by rw [hh];rfl) (cap:=cap) (vs':=us.take (i * 7) ++ us.drop (j * 7)) (rest':=rest') (c':=.ae rL (l.take i ++ l.drop j)) ho hg (W:=W) ⟨hhp,hos,htp,hout⟩ (by
     have:=Nat.mul_le_mul_right 7 (show j≤l.length by omega);have:=Nat.sub_mul l.length j 7;rw [List.length_append,List.length_take,List.length_drop,hr'];omega) hflat (fun u hu=>(List.mem_append.1 hu).elim (fun q=>h1 u (List.mem_of_mem_take q)) (fun q=>h1 u (List.mem_of_mem_drop q))) (by
     show (l.take i ++ l.drop j).length≤cap;omega) hc2 (by
     show pre.length+cap * 7≤_;omega) hpos
   have q5:(SC.own 1).is G' (.slice (some ⟨g,pre.length,none⟩) (l.take i ++ l.drop j).length cap):=q5;rw [hc3] at q5;exact⟨_,G',he,by rw [q1,hw],q2,q3,q4,q5,trivial,trivial,trivial,trivial⟩
 ·cases hp
end Go.Proofs.YtelhldgdnlppfaaGreat.DlT
