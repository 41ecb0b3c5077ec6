/-
  The library's Insert of one element,at one type of elements: a contract of the reckoner's. No condition.
-/
import Derived.Test.YtakebkfhigadiaaGreatVnDk
import Derived.Lib.Overlaps
import Derived.Lib.AppendZerosOnto
import Derived.Laws.CopyOwn
set_option maxRecDepth 100000
namespace Go.Proofs.YtakebkfhigadiaaGreat.InK
open Go Ry Dk Go.RowKit
theorem info:∃ i z,Tryz.prog.info? 59=some i∧i.zero=some z∧i.size=14∧i.bytes≤1000∧z.cells.size=14∧∀ u∈z.cells,u.oneCell' = true:=by
 have h:(match Tryz.prog.info? 59 with
  |some i=>(match i.zero with
   |some z=>(i.size == 14) && (decide (i.bytes≤1000) && ((z.cells.size == 14) && z.cells.toList.all Value.oneCell'))
   |none=>false)
  |none=>false)=true:=by kernel_rfl
 split at h
 ·rename_i i hi
  split at h
  ·rename_i z hz
   simp only [Bool.and_eq_true,beq_iff_eq,decide_eq_true_eq] at h
   exact⟨i,z,hi,hz,h.1,h.2.1,h.2.2.1,fun u hu=>List.all_eq_true.1 h.2.2.2 u (by simpa using hu)⟩
  ·cases h
 ·cases h
theorem CN {i:TypeInfo} (h:Tryz.prog.info? 59=some i):1≤i.bytes:=by
 have hb:(match Tryz.prog.info? 59 with
  |some i=>decide (1≤i.bytes)
  |none=>true)=true:=by kernel_rfl
 rw [h] at hb
 exact of_decide_eq_true hb
theorem Lr (w W:World) (base:Option Addr) (n c vb voff m vc:Nat) (v:Value) (hm:0 < m) (_:n≤c) (_:c≤9223372036854775807)
  (happ:∀ ty,(Builtin.append_ #[39,39] ty #[.slice base n c,.slice (some ⟨vb,voff,none⟩) m vc]).run Tryz.prog w = .ok v W) :
  Calls Tryz.prog 23 #[.slice base n c,.int .i64 n,.slice (some ⟨vb,voff,none⟩) m vc] w fun e w'=>e = .returned v∧w' = W:=by
 have mixed:Tryz.prog.follows .mixedOrders=true:=by kernel_rfl
 have hz1:¬((m:Int)=0):=by omega
 go_enter Tryz.func23,Tryz.ntmps23
 cases base with
 |none =>
  go_wp2_with (at_builtin;refine wpList_append_run _ rfl _ _ 39 39 rfl _ _ rfl rfl (happ _) ?_)
  all_goals (go_ret;exact⟨rfl,rfl⟩)
 |some a =>
  obtain⟨ab,ao,asp⟩:=a
  go_wp2_with (at_builtin;refine wpList_append_run _ rfl _ _ 39 39 rfl _ _ rfl rfl (happ _) ?_)
  all_goals (go_ret;exact⟨rfl,rfl⟩)
theorem DM (w W1 W2:World) (g off n c i vb voff m vc:Nat) (r1 r2:Value) (hi:i < n) (hm:0 < m) (hroom:n+m≤c) (hc63:c≤9223372036854775807)
  (hov:∀ lb cb,(callFunc 50 #[.slice (some ⟨vb,voff,none⟩) m vc,.slice (some ⟨g,off+(i+m) * 14,none⟩) lb cb]).run Tryz.prog w = .ok (.value (.bool false)) w)
  (hcp1:∀ ty dc sc,(Builtin.copy_ #[39,39] ty #[.slice (some ⟨g,off+(i+m) * 14,none⟩) (n+m - (i+m)) dc,.slice (some ⟨g,off+i * 14,none⟩) (n+m - i) sc]).run Tryz.prog w.drew = .ok r1 W1)
  (hcp2:∀ ty dc,(Builtin.copy_ #[39,39] ty #[.slice (some ⟨g,off+i * 14,none⟩) (n+m - i) dc,.slice (some ⟨vb,voff,none⟩) m vc]).run Tryz.prog W1 = .ok r2 W2) :
  Calls Tryz.prog 23 #[.slice (some ⟨g,off,none⟩) n c,.int .i64 i,.slice (some ⟨vb,voff,none⟩) m vc] w fun e w'=>e = .returned (.slice (some ⟨g,off,none⟩) (n+m) c)∧w' = W2:=by
 have mixed:Tryz.prog.follows .mixedOrders=true:=by kernel_rfl
 have hz1:¬((m:Int)=0):=by omega
 have hz2:¬((i:Int)=(n:Int)):=by omega
 have hw1:IntKind.i64.wrap ((i:Int)+(m:Int))=(i:Int)+(m:Int):=by rw [IntKind.wrap_i64];omega
 have hb1:(0:Int)≤(i:Int)+(m:Int):=by omega
 have hin:i≤n:=by omega
 have htn:((i:Int)+(m:Int)).toNat=i+m:=by omega
 have hb2:¬(c=i+m):=by omega
 have hb3:(i:Int)≤(n:Int)+(m:Int):=by omega
 have hb4:¬(c=i):=by omega
 go_enter Tryz.func23,Tryz.ntmps23
 go_wp2_with (simp only [hov])
 go_region_law_o (refine jQ rfl _ _ 39 39 rfl _ _ (by simp [Act.eval,Act.put]) (by simp [Act.eval,Act.put]) (hcp1 _ _ _) ?_)
 go_wp2_with (at_builtin;refine gY _ rfl _ _ 39 39 rfl _ _ rfl rfl (hcp2 _ _) ?_)
 go_ret
 exact⟨rfl,rfl⟩
theorem Fj (w W1 W2 W3:World) (g off n c i vb voff m vc h G:Nat) (r1 r2:Value) (hi:i < n) (hm:0 < m) (hnc:n≤c) (hroom:c < n+m) (hGn:n+m≤G) (hG63:G≤9223372036854775807) (hc63:c≤9223372036854775807)
  (hrz:∀ ty,(Builtin.append_ #[39,3] ty #[.slice (some ⟨g,off,none⟩) i c,.int .i64 ((n:Int)+(m:Int) - (i:Int))]).run Tryz.prog w = .ok (.slice (some ⟨h,0,none⟩) (n+m) G) W1)
  (hcpA:∀ ty dc,(Builtin.copy_ #[39,39] ty #[.slice (some ⟨h,i * 14,none⟩) (n+m - i) dc,.slice (some ⟨vb,voff,none⟩) m vc]).run Tryz.prog W1 = .ok r1 W2)
  (hcpB:∀ ty dc sc,(Builtin.copy_ #[39,39] ty #[.slice (some ⟨h,(i+m) * 14,none⟩) (n+m - (i+m)) dc,.slice (some ⟨g,off+i * 14,none⟩) (n - i) sc]).run Tryz.prog W2.drew = .ok r2 W3) :
  Calls Tryz.prog 23 #[.slice (some ⟨g,off,none⟩) n c,.int .i64 i,.slice (some ⟨vb,voff,none⟩) m vc] w fun e w'=>e = .returned (.slice (some ⟨h,0,none⟩) (n+m) G)∧w' = W3:=by
 have mixed:Tryz.prog.follows .mixedOrders=true:=by kernel_rfl
 have hz1:¬((m:Int)=0):=by omega
 have hz2:¬((i:Int)=(n:Int)):=by omega
 have hz3:(c:Int) < (n:Int)+(m:Int):=by omega
 have hGi:¬(G=i):=by omega
 have hGim:¬(G=i+m):=by omega
 have hci:¬(c=i):=by omega
 have hw1:IntKind.i64.wrap ((i:Int)+(m:Int))=(i:Int)+(m:Int):=by rw [IntKind.wrap_i64];omega
 have hb1:(0:Int)≤(i:Int)+(m:Int):=by omega
 have hin:i≤n:=by omega
 have htn:((i:Int)+(m:Int)).toNat=i+m:=by omega
 have hb3:(i:Int)≤(n:Int):=by omega
 go_enter Tryz.func23,Tryz.ntmps23
 go_wp2_with (first|(at_builtin;refine wpList_append_run _ rfl _ _ 39 3 rfl _ _ rfl rfl (hrz _) ?_)|(at_builtin;refine gY _ rfl _ _ 39 39 rfl _ _ rfl rfl (hcpA _ _) ?_))
 go_region_law_o (refine jQ rfl _ _ 39 39 rfl (.slice (some ⟨h,(i+m) * 14,none⟩) (n+m - (i+m)) (G - (i+m))) (.slice (some ⟨g,off+i * 14,none⟩) (n - i) (c - i)) (by simp [Act.eval,Act.put]) (by simp [Act.eval,Act.put]) (hcpB 3 (G - (i+m)) (c - i)) ?_)
 go_wp2
 go_ret
 exact⟨rfl,rfl⟩
theorem splice {α:Type} (A B C ys:List α) (h:ys.length=B.length):(A ++ (B ++ C)).take A.length ++ ys ++ (A ++ (B ++ C)).drop (A.length+ys.length)=A ++ (ys ++ C):=by
 have e1:(A ++ (B ++ C)).drop (A.length+ys.length)=C:=by
  rw [h,show A ++ (B ++ C)=(A ++ B) ++ C by simp,show A.length+B.length=(A ++ B).length by simp,List.drop_left]
 rw [List.take_left,e1]
 simp
theorem je (w:World) (vb voff m vc g o lb cb:Nat) (tA tB:TypeId) (kA kB:Nat) (hne:vb≠g) (hsa:w.shape? vb=some (tA,kA)) (hsb:w.shape? g=some (tB,kB)) (hkB:kB≠0) (hfr:∀ j,w.frozen? ⟨vb,j,none⟩=false):(callFunc 50 #[.slice (some ⟨vb,voff,none⟩) m vc,.slice (some ⟨g,o,none⟩) lb cb]).run Tryz.prog w = .ok (.value (.bool false)) w:=by
 obtain⟨ie,ze,hi,hz,hs,hb,hzs,hz1⟩:=info
 rw [run_callFunc_extern Tryz.func50 (by kernel_rfl) (by kernel_rfl) (by kernel_rfl) (e:=Extern.SlicesOverlaps.overlaps #[39,39] #[4]) (by kernel_rfl),
  Lib.run_overlaps_apart w 39 4 59 Tryz.underlying39 14 (fun w=>by simp [sizeOf,typeInfo,hi,hs]) ⟨vb,voff,none⟩ ⟨g,o,none⟩ m vc lb cb hne tA tB kA kB hsa hsb hkB (hfr _) (hfr _)]
 rfl
theorem yW (w:World) (g cap i n vb voff vc:Nat) (pre vs rest xs:List Value) (hg:w.heap[g]? = some (.cells (pre ++ (vs ++ rest)).toArray 59 (0,0))) (hv:vs.length=n * 14) (hr:14≤rest.length) (h1:∀ u∈vs,u.oneCell' = true) (hi:i < n) (hroom:n+1≤cap) (hc:cap≤maxLen)
  (hne:vb≠g) (tA:TypeId) (kA:Nat) (hsa:w.shape? vb=some (tA,kA)) (hfr:∀ j,w.frozen? ⟨vb,j,none⟩=false) (hx:xs.length=14) (hxs:∀ j u,xs[j]? = some u→w.cell? ⟨vb,voff+j,none⟩=some u) (h1x:∀ u∈xs,u.oneCell' = true) :
  Calls Tryz.prog 23 #[.slice (some ⟨g,pre.length,none⟩) n cap,.int .i64 i,.slice (some ⟨vb,voff,none⟩) 1 vc] w fun e w'=>e = .returned (.slice (some ⟨g,pre.length,none⟩) (n+1) cap)∧w' = w.drew.setRow g (pre ++ ((vs.take (i * 14) ++ (xs ++ vs.drop (i * 14))) ++ rest.drop 14)).toArray:=by
 obtain⟨ie,ze,hinf,hz,hs,hb,hzs,hz1⟩:=info
 unfold maxLen at hc
 have u0:Tryz.prog.underlying 39=some (.slice 59):=Tryz.underlying39
 have e3:(i+1) * 14≤n * 14:=Nat.mul_le_mul_right _ (by omega)
 have e4:(i+1) * 14=i * 14+14:=by omega
 have hgd:w.drew.heap[g]? = some (.cells (pre ++ (vs ++ rest)).toArray 59 (0,0)):=hg
 have hq:(vs.drop (i * 14)).length=(n - i) * 14:=by rw [List.length_drop,hv,← Nat.sub_mul]
 have e5:(n - i) * 14=n * 14 - i * 14:=Nat.sub_mul _ _ _
 have s1:pre ++ (vs ++ rest)=(pre ++ vs.take ((i+1) * 14)) ++ ((vs.drop ((i+1) * 14) ++ rest.take 14) ++ rest.drop 14):=by
  simp only [List.append_assoc,List.take_append_drop]
  rw [← List.append_assoc (vs.take _),List.take_append_drop]
 have l1:(pre ++ vs.take ((i+1) * 14)).length=pre.length+(i+1) * 14:=by rw [List.length_append,List.length_take];omega
 have s2:(pre ++ vs.take ((i+1) * 14)) ++ (vs.drop (i * 14) ++ rest.drop 14)=(pre ++ vs.take (i * 14)) ++ ((vs.take ((i+1) * 14)).drop (i * 14) ++ (vs.drop (i * 14) ++ rest.drop 14)):=by
  have:vs.take (i * 14) ++ (vs.take ((i+1) * 14)).drop (i * 14)=vs.take ((i+1) * 14):=by
   have h9:=List.take_append_drop (i * 14) (vs.take ((i+1) * 14))
   rwa [List.take_take,Nat.min_eq_left (by omega)] at h9
  conv=>lhs;rw [← this]
  simp
 have l2:(pre ++ vs.take (i * 14)).length=pre.length+i * 14:=by rw [List.length_append,List.length_take];omega
 obtain⟨W1,hW1⟩:∃ W1,W1=w.drew.setRow g ((pre ++ vs.take ((i+1) * 14)) ++ (vs.drop (i * 14) ++ rest.drop 14)).toArray:=⟨_,rfl⟩
 have hg1:W1.heap[g]? = some (.cells ((pre ++ vs.take (i * 14)) ++ ((vs.take ((i+1) * 14)).drop (i * 14) ++ (vs.drop (i * 14) ++ rest.drop 14))).toArray 59 (0,0)):=by
  rw [hW1,← s2]
  exact ck _ _ _ _ _ hgd
 have hcp1:∀ ty dc sc,(Builtin.copy_ #[39,39] ty #[.slice (some ⟨g,pre.length+(i+1) * 14,none⟩) (n+1 - (i+1)) dc,.slice (some ⟨g,pre.length+i * 14,none⟩) (n+1 - i) sc]).run Tryz.prog w.drew = .ok (goInt (n - i:Nat)) W1:=fun ty dc sc=>by
  have hgd2:w.drew.heap[g]? = some (.cells ((pre ++ vs.take ((i+1) * 14)) ++ ((vs.drop ((i+1) * 14) ++ rest.take 14) ++ rest.drop 14)).toArray 59 (0,0)):=by rw [← s1];exact hgd
  have hsrc:∀ t u,(vs.drop (i * 14))[t]? = some u→w.drew.cell? ((⟨g,pre.length+i * 14,none⟩:Addr).add t)=some u:=fun t u hu=>pz (w:=w.drew) hgd hu
  have:=fG (P:=Tryz.prog) (t':=39) u0 hinf (g:=g) (o:=pre.length+(i+1) * 14) (n1:=n+1 - (i+1)) (c1:=dc) (k:=n - i) (m:=n+1 - i) (v:=.slice (some ⟨g,pre.length+i * 14,none⟩) (n+1 - i) sc) (ys:=vs.drop (i * 14)) hgd2 rfl (by omega) (by rw [hs];exact iA hq hsrc) (fun u hu=>h1 u (List.mem_of_mem_drop hu)) (by
   simp only [List.size_toArray,List.length_append,List.length_take,List.length_drop]
   omega) ty
  rw [this,hW1,← l1]
  congr 3
  exact splice _ _ _ _ (by rw [hq];simp only [List.length_append,List.length_take,List.length_drop];omega)
 have hcp2:∀ ty dc,(Builtin.copy_ #[39,39] ty #[.slice (some ⟨g,pre.length+i * 14,none⟩) (n+1 - i) dc,.slice (some ⟨vb,voff,none⟩) 1 vc]).run Tryz.prog W1 = .ok (goInt (1:Nat)) (W1.setRow g ((pre ++ vs.take (i * 14)) ++ (xs ++ (vs.drop (i * 14) ++ rest.drop 14))).toArray):=fun ty dc=>by
  have hsrc:∀ t u,xs[t]? = some u→W1.cell? ((⟨vb,voff,none⟩:Addr).add t)=some u:=fun t u hu=>by
   rw [cM,hW1]
   exact (fu (setRow_other _ _ _ _ hne) _).trans (hxs t u hu)
  have:=fG (P:=Tryz.prog) (t':=39) u0 hinf (g:=g) (o:=pre.length+i * 14) (n1:=n+1 - i) (c1:=dc) (k:=1) (m:=1) (v:=.slice (some ⟨vb,voff,none⟩) 1 vc) (ys:=xs) hg1 rfl (by omega) (by rw [hs];exact iA (by omega) hsrc) h1x (by
   simp only [List.size_toArray,List.length_append,List.length_take,List.length_drop]
   omega) ty
  rw [this,← l2]
  congr 3
  exact splice _ _ _ _ (by simp only [List.length_take,List.length_drop];omega)
 refine (DM w W1 _ g pre.length n cap i vb voff 1 vc _ _ hi (by omega) hroom (by omega) (fun lb cb=>je w vb voff 1 vc g _ lb cb tA 59 kA (pre ++ (vs ++ rest)).length hne hsa (by unfold World.shape?;rw [hg];simp) (by simp only [List.length_append];omega) hfr) hcp1 hcp2).mono fun e w' ⟨he,hw⟩=>⟨he,?_⟩
 rw [hw,hW1,setRow_setRow]
 congr 2
 simp
theorem DG (w:World) (g cap i n vb voff vc:Nat) (pre vs rest xs:List Value) (hg:w.heap[g]? = some (.cells (pre ++ (vs ++ rest)).toArray 59 (0,0))) (hv:vs.length=n * 14) (h1:∀ u∈vs,u.oneCell' = true) (hi:i < n) (hnc:n≤cap) (hroom:cap < n+1) (hn6:n≤1000000) (hc:cap≤maxLen)
  (hvb:vb < w.heap.size) (hx:xs.length=14) (hxs:∀ j u,xs[j]? = some u→w.cell? ⟨vb,voff+j,none⟩=some u) (h1x:∀ u∈xs,u.oneCell' = true) :
  Calls Tryz.prog 23 #[.slice (some ⟨g,pre.length,none⟩) n cap,.int .i64 i,.slice (some ⟨vb,voff,none⟩) 1 vc] w fun e w'=>∃ (q:Nat) (rest' : List Value),e = .returned (.slice (some ⟨w.heap.size,0,none⟩) (n+1) q)∧n+1≤q∧q≤maxLen∧rest'.length=(q - (n+1)) * 14∧Below w.heap.size w w'∧w'.heap[w.heap.size]? = some (.cells ((vs.take (i * 14) ++ (xs ++ vs.drop (i * 14))) ++ rest').toArray 59 (0,0)):=by
 obtain⟨ie,ze,hinf,hz,hs,hb,hzs,hz1⟩:=info
 have u0:Tryz.prog.underlying 39=some (.slice 59):=Tryz.underlying39
 have ui:Tryz.prog.underlying 3=some (.int .i64):=Tryz.underlying3
 have e3:(i+1) * 14≤n * 14:=Nat.mul_le_mul_right _ (by omega)
 have hq:(vs.drop (i * 14)).length=(n - i) * 14:=by rw [List.length_drop,hv,← Nat.sub_mul]
 have e5:(n - i) * 14=n * 14 - i * 14:=Nat.sub_mul _ _ _
 have hgd:w.drew.heap[g]? = some (.cells (pre ++ (vs ++ rest)).toArray 59 (0,0)):=hg
 have hglt:=bU hg
 have hold:(Builtin.firstCells ie.size i (.slice (some ⟨g,pre.length,none⟩) i cap)).run Tryz.prog w.drew = .ok (vs.take (i * 14)).toArray w.drew:=by
  rw [hs]
  refine iA (by rw [List.length_take];omega) fun t u hu=>?_
  rw [List.getElem?_take] at hu
  split at hu
  ·have:=pz (w:=w.drew) (k:=0) (t:=t) (u:=u) hgd (by rw [List.drop_zero];exact hu)
   simpa using this
  ·cases hu
 have hnb:(n+1) * ie.bytes≤1000001 * 1000:=Nat.mul_le_mul (by omega) hb
 have hfit:Builtin.nextslicecap (n+1) cap * ie.bytes≤281474976710656:=growslice_fits hroom (by omega)
 have hrz0:∀ ty,(Builtin.append_ #[39,3] ty #[.slice (some ⟨g,pre.length,none⟩) i cap,.int .i64 ((n+1 - i:Nat):Int)]).run Tryz.prog w=_:=fun ty =>
  Lib.run_append_grow_zeros w 39 3 ty 59 ie ze .i64 .i64 u0 ui hinf hz (some ⟨g,pre.length,none⟩) i cap (vs.take (i * 14)) hold (n+1 - i) (by omega) (by omega) (by omega) (by omega) (by
   have:(n+1 - i) * ie.bytes≤(n+1) * ie.bytes:=Nat.mul_le_mul_right _ (by omega)
   omega) (by rw [show i+(n+1 - i)=n+1 by omega];exact hfit)
 have hik:i+(n+1 - i)=n+1:=by omega
 have hkk:((n+1 - i:Nat):Int)=(n:Int)+((1:Nat):Int) - (i:Int):=by omega
 rw [hik,hkk] at hrz0
 have hqge:=grownCap_ge w (n+1) cap 59
 have hqle:=grownCap_le_maxLen w (n+1) cap 59 (by unfold maxLen;omega)
 generalize grownCap w (n+1) cap 59=q at hrz0 hqge hqle
 obtain⟨Z1,hZ1⟩:∃ Z1,Z1=(Builtin.zeroCells ze.cells (n+1 - i)).toList:=⟨_,rfl⟩
 obtain⟨Z2,hZ2⟩:∃ Z2,Z2=(Builtin.zeroCells ze.cells (q - (n+1))).toList:=⟨_,rfl⟩
 have hl1:Z1.length=(n+1 - i) * 14:=by rw [hZ1];simp [Builtin.zeroCells,hzs]
 have hl2:Z2.length=(q - (n+1)) * 14:=by rw [hZ2];simp [Builtin.zeroCells,hzs]
 have e6:(n+1 - i) * 14=(n - i) * 14+14:=by rw [show n+1 - i=(n - i)+1 by omega,Nat.add_mul]
 have hrow:(vs.take (i * 14)).toArray ++ Builtin.zeroCells ze.cells (n+1 - i) ++ Builtin.zeroCells ze.cells (q - (n+1))=(vs.take (i * 14) ++ (Z1.take 14 ++ (Z1.drop 14 ++ Z2))).toArray:=by
  rw [hZ2,← List.append_assoc (Z1.take 14),List.take_append_drop,hZ1]
  simp
 obtain⟨W1,hW1⟩:∃ W1,W1=w.drew.alloc (.cells (vs.take (i * 14) ++ (Z1.take 14 ++ (Z1.drop 14 ++ Z2))).toArray 59):=⟨_,rfl⟩
 have hrz:∀ ty,(Builtin.append_ #[39,3] ty #[.slice (some ⟨g,pre.length,none⟩) i cap,.int .i64 ((n:Int)+((1:Nat):Int) - (i:Int))]).run Tryz.prog w = .ok (.slice (some ⟨w.heap.size,0,none⟩) (n+1) q) W1:=fun ty=>by rw [hrz0 ty,hrow,hW1]
 have hg1:W1.heap[w.heap.size]? = some (.cells (vs.take (i * 14) ++ (Z1.take 14 ++ (Z1.drop 14 ++ Z2))).toArray 59 (0,0)):=by rw [hW1];exact heap_alloc_new w.drew _
 have hold1:∀ b,b < w.heap.size→W1.heap[b]? = w.heap[b]?:=fun b hlt=>by rw [hW1];exact (((Below.refl w.heap.size w).drew).alloc (Nat.le_refl _) _).block b hlt
 have lT:(vs.take (i * 14)).length=i * 14:=by rw [List.length_take];omega
 obtain⟨W2,hW2⟩:∃ W2,W2=W1.setRow w.heap.size (vs.take (i * 14) ++ (xs ++ (Z1.drop 14 ++ Z2))).toArray:=⟨_,rfl⟩
 have hcpA:∀ ty dc,(Builtin.copy_ #[39,39] ty #[.slice (some ⟨w.heap.size,i * 14,none⟩) (n+1 - i) dc,.slice (some ⟨vb,voff,none⟩) 1 vc]).run Tryz.prog W1 = .ok (goInt (1:Nat)) W2:=fun ty dc=>by
  have hsrc:∀ t u,xs[t]? = some u→W1.cell? ((⟨vb,voff,none⟩:Addr).add t)=some u:=fun t u hu=>by
   rw [cM]
   exact (fu (hold1 vb hvb) _).trans (hxs t u hu)
  have:=fG (P:=Tryz.prog) (t':=39) u0 hinf (g:=w.heap.size) (o:=i * 14) (n1:=n+1 - i) (c1:=dc) (k:=1) (m:=1) (v:=.slice (some ⟨vb,voff,none⟩) 1 vc) (ys:=xs) hg1 rfl (by omega) (by rw [hs];exact iA (by omega) hsrc) h1x (by
   simp only [List.size_toArray,List.length_append,List.length_take,List.length_drop]
   omega) ty
  rw [this,hW2]
  congr 3
  have:=splice (vs.take (i * 14)) (Z1.take 14) (Z1.drop 14 ++ Z2) xs (by rw [List.length_take];omega)
  rw [lT] at this
  exact this
 have hg2:W2.drew.heap[w.heap.size]? = some (.cells ((vs.take (i * 14) ++ xs) ++ (Z1.drop 14 ++ Z2)).toArray 59 (0,0)):=by
  rw [hW2,List.append_assoc]
  exact ck _ _ _ _ _ hg1
 have lT2:(vs.take (i * 14) ++ xs).length=(i+1) * 14:=by rw [List.length_append,lT];omega
 have hcpB:∀ ty dc sc,(Builtin.copy_ #[39,39] ty #[.slice (some ⟨w.heap.size,(i+1) * 14,none⟩) (n+1 - (i+1)) dc,.slice (some ⟨g,pre.length+i * 14,none⟩) (n - i) sc]).run Tryz.prog W2.drew = .ok (goInt (n - i:Nat)) (W2.drew.setRow w.heap.size ((vs.take (i * 14) ++ xs) ++ (vs.drop (i * 14) ++ Z2)).toArray):=fun ty dc sc=>by
  have hgo:W2.drew.heap[g]? = some (.cells (pre ++ (vs ++ rest)).toArray 59 (0,0)):=by
   show W2.heap[g]? = _
   rw [hW2,setRow_other _ _ _ _ (by omega),hold1 g hglt]
   exact hg
  have hsrc:∀ t u,(vs.drop (i * 14))[t]? = some u→W2.drew.cell? ((⟨g,pre.length+i * 14,none⟩:Addr).add t)=some u:=fun t u hu=>pz (w:=W2.drew) hgo hu
  have:=fG (P:=Tryz.prog) (t':=39) u0 hinf (g:=w.heap.size) (o:=(i+1) * 14) (n1:=n+1 - (i+1)) (c1:=dc) (k:=n - i) (m:=n - i) (v:=.slice (some ⟨g,pre.length+i * 14,none⟩) (n - i) sc) (ys:=vs.drop (i * 14)) hg2 rfl (by omega) (by rw [hs];exact iA hq hsrc) (fun u hu=>h1 u (List.mem_of_mem_drop hu)) (by
   simp only [List.size_toArray,List.length_append,List.length_take,List.length_drop]
   omega) ty
  rw [this]
  congr 3
  have:=splice (vs.take (i * 14) ++ xs) (Z1.drop 14) Z2 (vs.drop (i * 14)) (by rw [hq,List.length_drop];omega)
  rw [lT2] at this
  exact this
 unfold maxLen at hc hqle
 refine (Fj w W1 W2 _ g pre.length n cap i vb voff 1 vc w.heap.size q _ _ hi (by omega) hnc hroom hqge (by omega) (by omega) hrz hcpA hcpB).mono fun e w' ⟨he,hw⟩=>⟨q,Z2,he,hqge,by unfold maxLen;omega,hl2,?_,?_⟩
 ·rw [hw,hW2,hW1]
  exact below_setRow (Below.drew (below_setRow (((Below.refl w.heap.size w).drew).alloc (Nat.le_refl _) _) (Nat.le_refl _) _)) (Nat.le_refl _) _
 ·rw [hw,ck _ _ _ _ _ hg2]
  simp
structure Nf where
 ok:List E→Int→Bool
 ins:List E→Int→E→List E
def Nf.U:Nf:=⟨fun l i=>decide (l.length≤1000000∧0≤i∧i≤l.length),fun l i x=>l.take i.toNat ++ (x :: l.drop i.toNat)⟩
abbrev uz:Sh:=.int .i64 (.int .i64 (.int .i64 (.int .i64 (.int .i64 (.bool (.int .i64 (.int .i64 (.ae (.ints .u8 .nil) (.int .i64 (.int .i64 (.bool (.int .i64 (.int .i64 .nil)))))))))))))
def xe (F:Nf):aW:=fun xs h=>match xs,h with
 |[.one (.own 0),.one (.val (.int .i64 i)),.one (.sl (some (1,_)) (.ae (.int .i64 (.int .i64 (.int .i64 (.int .i64 (.int .i64 (.bool (.int .i64 (.int .i64 (.ae (.ints .u8 .nil) (.int .i64 (.int .i64 (.bool (.int .i64 (.int .i64 .nil)))))))))))))) [x]))],[(0,.row 59 (.ae (.int .i64 (.int .i64 (.int .i64 (.int .i64 (.int .i64 (.bool (.int .i64 (.int .i64 (.ae (.ints .u8 .nil) (.int .i64 (.int .i64 (.bool (.int .i64 (.int .i64 .nil)))))))))))))) l)),(1,.tok)]=>some ⟨F.ok l i=true,.sa (.one (.own 2)),[(2,.row 59 (.ae (.int .i64 (.int .i64 (.int .i64 (.int .i64 (.int .i64 (.bool (.int .i64 (.int .i64 (.ae (.ints .u8 .nil) (.int .i64 (.int .i64 (.bool (.int .i64 (.int .i64 .nil)))))))))))))) (F.ins l i x)))],[Any,Any,Any]⟩
 |_,_=>none
theorem sZ:aC Tryz.prog 23 (xe Nf.U):=by
 refine⟨⟨_,Tryz.func23,rfl,by kernel_rfl⟩,?_⟩
 intro args h p hp hC G vs hh hbs hm hv
 unfold xe at hp
 split at hp
 ·rename_i i e1 x l
  cases hp
  have hk:l.length≤1000000∧0≤i∧i≤l.length:=of_decide_eq_true hC
  obtain⟨k1,k2,k3⟩:=hk
  match vs,hv with
  |[v0,v1,v2],⟨hv0,hv1,hv2,_⟩ =>
   have hv1:v1 = .int .i64 i:=hv1
   subst hv1
   obtain⟨i,rfl⟩:=Int.eq_ofNat_of_zero_le k2
   have k3:i≤l.length:=by omega
   have hg0:ak G.h 0=some (.row 59 (.ae uz l)):=by rw [hh];rfl
   have hg1:ak G.h 1=some .tok:=by rw [hh];rfl
   have hg2:ak G.h 2=none:=by rw [hh];rfl
   have hv0':=hv0
   obtain⟨_,hown⟩:=hv0
   unfold br at hown
   rw [hg0] at hown
   obtain⟨hct,htk⟩:=hv2
   have hct0:=hct
   obtain⟨A2,vc,ev2,hvc1,hvc2,hcells⟩:=hct
   obtain⟨vb,vo,eA,hxs⟩:=hcells (by simp)
   obtain⟨xs,hxl,hxv,hxc⟩:=hxs 0 x rfl
   have hxl:xs.length=14:=hxl
   subst eA
   have hxcell:∀ j u,xs[j]? = some u→G.w.cell? ⟨vb,vo+j,none⟩=some u:=fun j u hu=>by
    have:=(hxc j u hu).cell
    simpa using this
   have hx1:∀ u∈xs,u.oneCell' = true:=fun u hu=>by
    obtain⟨j,hj⟩:=List.mem_iff_getElem?.1 hu
    exact (hxc j u hj).one
   have hxok:vb < G.w.heap.size:=by
    have h0:0 < xs.length:=by omega
    exact (hxc 0 _ (List.getElem?_eq_getElem h0)).ok.lt
   have hxf:aX G (.ae uz [x]) xs:=by
    refine⟨by rw [hxl];rfl,fun k y hy=>?_⟩
    match k,hy with
    |0,hy =>
     cases hy
     have e9:(xs.drop (0 * uz.size)).take uz.size=xs:=by
      rw [Nat.zero_mul,List.drop_zero]
      exact List.take_of_length_le (by rw [hxl];exact Nat.le_refl _)
     rw [e9]
     exact hxv
   unfold fo at htk
   simp only [hg1] at htk
   subst ev2
   obtain⟨cur,hcur,hne⟩:∃ cur,G.w.heap[vb]? = some (.cells cur e1 (0,0))∧∀ g off,G.o 0=some (g,off)→vb≠g:=by
    rcases htk with ⟨a,ha⟩ | ⟨g2,off2,n2,cap2,cur,q1,q2,q3,_⟩
    ·cases ha
    ·simp only [Value.slice.injEq,Option.some.injEq,Addr.mk.injEq] at q1
     obtain⟨⟨rfl,_⟩,_⟩:=q1
     refine⟨cur,q3,fun g off ho e=>?_⟩
     subst e
     have:=hm.inj 0 1 ⟨_,hg0,rfl⟩ ⟨_,hg1,rfl⟩ vb _ _ ho q2
     cases this
   have fin:∀ {e:Ending} {w' : World} (G' : Gm) (v:Value),e = .returned v→G'.w=w'→G'.bs=G.bs→G'.h=[(2,.row 59 (.ae uz (l.take i ++ (x :: l.drop i))))]→Mem G'→(SC.own 2).is G' v→∃ v G',e = .returned v∧G'.w=w'∧G'.bs=G.bs∧G'.h=[(2,.row 59 (.ae uz (l.take i ++ (x :: l.drop i))))]∧Mem G'∧(SV.sa (.one (.own 2))).is G' v∧bh G' [Any,Any,Any] [v0,.int .i64 i,.slice (some ⟨vb,vo,none⟩) 1 vc]:=fun G' v z1 z2 z3 z4 z5 z6=>⟨v,G',z1,z2,z3,z4,z5,z6,trivial,trivial,trivial,trivial⟩
   by_cases hend:i=l.length
   ·
    subst hend
    obtain⟨ie,ze,hi,hz,hs,hb,hzs,hz1⟩:=info
    have hj:db Ar.U (.ae uz l) (.ae uz [x])=some (.ae uz (l ++ [x])):=by simp [db,cR,Ar.U]
    have hpos:1≤ie.bytes:=CN hi
    obtain⟨v',w',ν',hrun,_,hm',hi'⟩:=AK (P:=Tryz.prog) (G:=G) hm (id:=0) (d:=2) hg0 hg2 (t:=39) Tryz.underlying39 hi hz hs hzs hpos hj hv0' (eD hct0) rfl (by
     show (l ++ [x]).length * ie.bytes≤_
     have:(l ++ [x]).length * ie.bytes≤1000001 * 1000:=Nat.mul_le_mul (by rw [List.length_append,List.length_singleton];omega) hb
     omega) 0
    have hrun' : ∀ ty,(Builtin.append_ #[39,39] ty #[v0,.slice (some ⟨vb,vo,none⟩) [x].length vc]).run Tryz.prog G.w = .ok v' w':=fun ty=>hrun
    obtain⟨hle,m3⟩:=gA (m:=[(2,2)]) (h':=[(2,.row 59 (.ae uz (l ++ [x])))]) (fr:=true) (bs':=G.bs) hm' rfl ⟨by
     show (match ak (aS (aS G.h 0 .dead) 2 (.row 59 (.ae uz (l ++ [x])))) 2 with
      |some b0=>eU _ b0 (.row 59 (.ae uz (l ++ [x])))
      |none=>False)
     rw [aJ]
     exact⟨rfl,rfl,rfl⟩,trivial⟩ rfl (.inl ⟨rfl,trivial⟩)
    have hres:=SC.fe hle (x:=.own 2) (y:=.own 2) ⟨rfl,rfl⟩ hi'
    have hlen:∃ A c,v0 = .slice A l.length c∧l.length≤c∧c≤maxLen:=by
     rcases hown with ⟨z0,_,A0,z2⟩ | ⟨g,off,cap,tt,kk,ho,z2,hc1,hc2,_⟩
     ·have z0:l.length=0:=z0
      exact⟨A0,0,by rw [z2,z0],by omega,by unfold maxLen;omega⟩
     ·exact⟨_,cap,z2,hc1,hc2⟩
    obtain⟨A,c,e0,hlc,hcm⟩:=hlen
    subst e0
    have hl:l.take l.length ++ (x :: l.drop l.length)=l ++ [x]:=by rw [List.take_length,List.drop_length]
    unfold maxLen at hcm
    refine (Lr G.w w' A l.length c vb vo 1 vc v' (by omega) hlc (by omega) hrun').mono fun e w2 ⟨he,hw⟩=>fin ⟨eL [(2,2)] ν',[(2,.row 59 (.ae uz (l ++ [x])))],G.bs,w'⟩ v' he hw.symm rfl (by rw [hl]) m3 hres
   ·have hlt:i < l.length:=by omega
    rcases hown with ⟨z0,_,_,_⟩ | ⟨g,off,cap,tt,kk,ho,rfl,hc1,hc2,hsh,hfit,hpos⟩
    ·have z0:l.length=0:=z0
     omega
    obtain⟨pre,us,rest,h0,hg,hf,h1⟩:=hm.rowAt hg0 ho
    subst h0
    have hc1:l.length≤cap:=hc1
    have hfit:pre.length+cap * 14≤kk:=hfit
    have hlu:us.length=l.length * 14:=hf.len
    have hkk:pre.length+(us.length+rest.length)=kk:=by
     unfold World.shape? at hsh
     rw [hg] at hsh
     simp at hsh
     exact hsh.2
    have hflat:aX G (.ae uz (l.take i ++ (x :: l.drop i))) (us.take (i * 14) ++ (xs ++ us.drop (i * 14))):=by
     have f1:=hf.take (show i≤l.length by omega)
     have f2:=(hf.cut (lo:=(i:Int)) (hi:=(l.length:Int)) (by omega) (by omega) (Int.le_refl _)).1
     have f3:=(aX.append (ct:=.ae uz ([x] ++ l.drop i)) (by simp [db,Ct.cut,Ar.U,cR]) hxf f2).1
     have f4:=(aX.append (ct:=.ae uz (l.take i ++ (x :: l.drop i))) (by simp [db,Ct.cut,Ar.U,cR]) f1 f3).1
     have e5:(us.take ((l.length:Int).toNat * 14)).drop ((i:Int).toNat * 14)=us.drop (i * 14):=by
      rw [Int.toNat_natCast,Int.toNat_natCast,← hlu,List.take_length]
     have f4:aX G (.ae uz (l.take i ++ (x :: l.drop i))) (us.take (i * 14) ++ (xs ++ (us.take ((l.length:Int).toNat * 14)).drop ((i:Int).toNat * 14))):=f4
     rw [e5] at f4
     exact f4
    have hone:∀ u∈us.take (i * 14) ++ (xs ++ us.drop (i * 14)),u.oneCell' = true:=fun u hu=>by
     rcases List.mem_append.1 hu with q|q
     ·exact h1 u (List.mem_of_mem_take q)
     ·rcases List.mem_append.1 q with q|q
      ·exact hx1 u q
      ·exact h1 u (List.mem_of_mem_drop q)
    have hlen2:(l.take i ++ (x :: l.drop i)).length=l.length+1:=by
     rw [List.length_append,List.length_take,List.length_cons,List.length_drop]
     omega
    have e3:i * 14≤l.length * 14:=Nat.mul_le_mul_right _ k3
    by_cases hroom:l.length+1≤cap
    ·
     have e4:(l.length+1) * 14≤cap * 14:=Nat.mul_le_mul_right _ hroom
     have e5:(l.length+1) * 14=l.length * 14+14:=Nat.succ_mul _ _
     refine (yW G.w g cap i l.length vb vo vc pre us rest xs hg hlu (by omega) h1 hlt hroom hc2 (hne _ _ ho) e1 cur.size (by unfold World.shape?;rw [hcur]) (fun j=>by unfold World.frozen?;simp [hcur]) hxl hxcell hx1).mono fun e w' ⟨he,hw⟩=>?_
     obtain⟨G',q1,q2,q3,q4,q5⟩:=SH hm 2 hg0 hg2 (cap:=cap) (vs':=us.take (i * 14) ++ (xs ++ us.drop (i * 14))) (rest':=rest.drop 14) (c':=.ae uz (l.take i ++ (x :: l.drop i))) ho hg (W:=G.w.drew) ⟨rfl,rfl,rfl,rfl⟩ (by
      simp only [List.length_append,List.length_take,List.length_drop]
      omega) hflat hone (by
      show (l.take i ++ (x :: l.drop i)).length≤cap
      omega) hc2 (by
      show pre.length+cap * 14≤_
      omega) hpos
     have q5:(SC.own 2).is G' (.slice (some ⟨g,pre.length,none⟩) (l.take i ++ (x :: l.drop i)).length cap):=q5
     rw [hlen2] at q5
     exact fin G' _ he (by rw [q1,hw]) q2 q3 q4 q5
    ·
     refine (DG G.w g cap i l.length vb vo vc pre us rest xs hg hlu h1 hlt hc1 (by omega) k1 hc2 hxok hxl hxcell hx1).mono fun e w' ⟨q,rest',he,hq1,hq2,hr',hbel,hgn⟩=>?_
     have e6:(q - (l.length+1)) * 14=q * 14 - (l.length+1) * 14:=Nat.sub_mul _ _ _
     have e7:(l.length+1) * 14≤q * 14:=Nat.mul_le_mul_right _ hq1
     have e5:(l.length+1) * 14=l.length * 14+14:=Nat.succ_mul _ _
     obtain⟨G',q1,q2,q3,q4,q5⟩:=grown hm 2 hg0 hg2 (cap:=q) (vs':=us.take (i * 14) ++ (xs ++ us.drop (i * 14))) (rest':=rest') (c':=.ae uz (l.take i ++ (x :: l.drop i))) hbel (Nat.le_refl _) hgn hflat hone (by
      show (l.take i ++ (x :: l.drop i)).length≤q
      omega) hq2 (by
      show q * 14≤_
      simp only [List.length_append,List.length_take,List.length_drop]
      omega) (by omega)
     have q5:(SC.own 2).is G' (.slice (some ⟨G.w.heap.size,0,none⟩) (l.take i ++ (x :: l.drop i)).length q):=q5
     rw [hlen2] at q5
     exact fin G' _ he q1 q2 q3 q4 q5
 ·cases hp
end Go.Proofs.YtakebkfhigadiaaGreat.InK
