/-
  all fragments of a graph choose, as the law does it. No condition.
-/
import Derived.Test.YtfioaidmgcibaaaCeT
namespace Go.Proofs.Ytfioaidmgcibaaa.CeR
open Go Go.Proofs.Ytfioaidmgcibaaa.Ry Go.Proofs.Ytfioaidmgcibaaa.EgR Go.Proofs.Ytfioaidmgcibaaa.EgL Go.Proofs.Ytfioaidmgcibaaa.SpK Go.Proofs.Ytfioaidmgcibaaa.SpN Go.Proofs.Ytfioaidmgcibaaa.RoV Go.Proofs.Ytfioaidmgcibaaa.CgR Go.Proofs.Ytfioaidmgcibaaa.CgL Go.Proofs.Ytfioaidmgcibaaa.CgV Go.Proofs.Ytfioaidmgcibaaa.CeT

open Go.Proofs.Ytfioaidmgcibaaa.RoV (c_rview ok_rview)
open Go.Proofs.Ytfioaidmgcibaaa.ChQ (c_choose ok_choose CH chF)
open Go.Proofs.Ytfioaidmgcibaaa.SpQ (e3 inR)

open Go.Proofs.Ytfioaidmgcibaaa.CgR (c_rnodes ok_rnodes c_rparts ok_rparts c_lhas ok_lhas)
structure X0 where
  i : Int
  g : List E
  v : List E
  t : Bool
def r0Q (l d : List E) (y : X0) : Prop := 0 ≤ y.i ∧ y.i ≤ (ptL l d).length ∧ y.g = ((ptL l d).take y.i.toNat).flatMap (gr1 l d) ∧ y.v = ((ptL l d).take y.i.toNat).flatMap (ev1 l d) ∧ y.t = ((ptL l d).take y.i.toNat).all fun p => decide ((chP l d p).k = 1)
def r0M (ps : List E) (y : X0) : Nat := ps.length - y.i.toNat
noncomputable def r0I (n : List Int) (l d ps : List E) (y : X0) : St := stOf Try.f30.ntmps [(0, .sl none (.ints .i64 n)), (1, .sl none (.recs (.int .i64 (.int .i64 (.int .i64 .nil))) l)), (2, .sl none (.recs (.int .i64 (.int .i64 (.int .i64 .nil))) d)), (9, .sl none (.recs (.ints .i64 .nil) ps)), (10, .sl (some (1, 55)) (.recs (.int .i64 (.int .i64 (.int .i64 .nil))) [])), (11, .sl (some (2, 41)) (.recs (.int .i64 (.int .i64 (.int .i64 (.int .i64 .nil)))) y.g)), (12, .sl (some (3, 55)) (.recs (.int .i64 (.int .i64 (.int .i64 .nil))) y.v)), (13, .val (.bool y.t)), (14, .val (.int .i64 y.i))] [(1, .tok), (2, .tok), (3, .tok)] [Any, Any, Any]
def slR (st : St) (n : Nat) : List E := ctR (match slotC st n with | .sl _ c => c | _ => .recs .nil [])
def slB (st : St) (n : Nat) : Bool := match slotC st n with | .val (.bool b) => b | .tf b => b | _ => false
def r0R (st : St) : X0 := ⟨slotI st 14, slR st 11, slR st 12, slB st 13⟩
structure X1 where
  k : Int
  v : List E
def r1Q (l d : List E) (p : List Int) (v0 : List E) (y : X1) : Prop := 0 ≤ y.k ∧ y.k ≤ l.length ∧ y.v = v0 ++ ((l.take y.k.toNat).filter fun e => decide ((chP l d p).k = 3 ∧ ri e 0 = (chP l d p).a ∧ ri e 1 = (chP l d p).b)).map e3
def r1M (l : List E) (y : X1) : Nat := l.length - y.k.toNat
noncomputable def r1I (n : List Int) (l d ps g : List E) (t : Bool) (i ck ca cb cs : Int) (y : X1) : St := stOf Try.f30.ntmps [(0, .sl none (.ints .i64 n)), (1, .sl none (.recs (.int .i64 (.int .i64 (.int .i64 .nil))) l)), (2, .sl none (.recs (.int .i64 (.int .i64 (.int .i64 .nil))) d)), (9, .sl none (.recs (.ints .i64 .nil) ps)), (10, .sl (some (1, 55)) (.recs (.int .i64 (.int .i64 (.int .i64 .nil))) [])), (11, .sl (some (2, 41)) (.recs (.int .i64 (.int .i64 (.int .i64 (.int .i64 .nil)))) g)), (12, .sl (some (3, 55)) (.recs (.int .i64 (.int .i64 (.int .i64 .nil))) y.v)), (13, .val (.bool t)), (14, .val (.int .i64 i)), (15, .ptr 4 0), (17, .val (.int .i64 y.k))] [(1, .tok), (2, .tok), (3, .tok), (4, .cells 41 [.val (.int .i64 ck), .val (.int .i64 ca), .val (.int .i64 cb), .val (.int .i64 cs)])] [Any, Any, Any]
def r1R (st : St) : X1 := ⟨slotI st 17, slR st 12⟩
theorem tk_any {α : Type} {z : α} (n : List α) (i : Int) (h0 : 0 ≤ i) (h : i < n.length) : n.take (i + 1).toNat = n.take i.toNat ++ [n.getD i.toNat z] := by
  have e : (i + 1).toNat = i.toNat + 1 := by omega
  have hi : i.toNat < n.length := by omega
  rw [e, List.take_add_one, List.getD_eq_getElem?_getD, List.getElem?_eq_getElem hi]
  rfl
theorem gr1_len (l d : List E) (p : List Int) : (gr1 l d p).length ≤ 1 := by unfold gr1; split <;> simp
theorem fm_le {α : Type} {f : α → List E} {k : Nat} (hf : ∀ y, (f y).length ≤ k) : ∀ l : List α, (l.flatMap f).length ≤ l.length * k
  | [] => by simp
  | x :: l => by
    have h1 := hf x
    have h2 := fm_le hf l
    rw [List.flatMap_cons, List.length_append, List.length_cons, Nat.add_mul, Nat.one_mul]
    omega
theorem ev1_len (l d : List E) (p : List Int) : (ev1 l d p).length ≤ l.length := by
  unfold ev1
  rw [List.length_map]
  exact List.length_filter_le ..
theorem pt_len (l d : List E) : (ptL l d).length = (paO (ndS l) d).length ∧ (ptL l d).length ≤ 64 := by
  unfold ptL
  rw [List.length_map]
  exact ⟨rfl, pao_len _ _⟩
theorem pt_at {l d : List E} {i : Int} (h0 : 0 ≤ i) (h : i < (paO (ndS l) d).length) : (ptL l d).getD i.toNat [] = rl ((paO (ndS l) d).getD i.toNat []) 0 := by
  have hi : i.toNat < (paO (ndS l) d).length := by omega
  unfold ptL
  rw [List.getD_eq_getElem?_getD, List.getElem?_map, List.getD_eq_getElem?_getD, List.getElem?_eq_getElem hi]
  rfl
theorem r0_all {l d : List E} (hl : l.length ≤ 24) {i : Int} {g v : List E} {t : Bool} (hq : r0Q l d ⟨i, g, v, t⟩) : 0 ≤ i ∧ i ≤ (paO (ndS l) d).length ∧ (paO (ndS l) d).length ≤ 64 ∧ g.length ≤ 64 ∧ v.length ≤ 1536 ∧ (¬ i < (paO (ndS l) d).length → g = grL l d ∧ v = evL l d ∧ t = idB l d) := by
  obtain ⟨h0, h1, h2, h3, h4⟩ := hq
  simp only at h0 h1 h2 h3 h4
  obtain ⟨e1, e2⟩ := pt_len l d
  have lt : ((ptL l d).take i.toNat).length ≤ 64 := by rw [List.length_take]; omega
  have lg := fm_le (gr1_len l d) ((ptL l d).take i.toNat)
  have lv := fm_le (fun p => Nat.le_trans (ev1_len l d p) hl) ((ptL l d).take i.toNat)
  refine ⟨h0, by omega, by omega, by rw [h2]; omega, by rw [h3]; omega, fun h => ?_⟩
  rw [List.take_of_length_le (by omega)] at h2 h3 h4
  exact ⟨h2, h3, h4⟩
theorem r1_all {l d : List E} (hl : l.length ≤ 24) {i : Int} {g v0 : List E} {t : Bool} (ho : r0Q l d ⟨i, g, v0, t⟩) (hi : i < (paO (ndS l) d).length) {k : Int} {v : List E} (hq : r1Q l d (rl ((paO (ndS l) d).getD i.toNat []) 0) v0 ⟨k, v⟩) :
    0 ≤ k ∧ k ≤ l.length ∧ v.length ≤ 2000 ∧ stdBin .add .i64 i 1 = i + 1 ∧ (∀ g v t, r0M (paO (ndS l) d) ⟨i + 1, g, v, t⟩ < r0M (paO (ndS l) d) ⟨i, g, v0, t⟩) ∧ (k < l.length → stdBin .add .i64 k 1 = k + 1 ∧ (∀ w, r1M l ⟨k + 1, w⟩ < r1M l ⟨k, v⟩) ∧
      (¬ ((chP l d (rl ((paO (ndS l) d).getD i.toNat []) 0)).k = 3 ∧ ri (l.getD k.toNat []) 0 = (chP l d (rl ((paO (ndS l) d).getD i.toNat []) 0)).a ∧ ri (l.getD k.toNat []) 1 = (chP l d (rl ((paO (ndS l) d).getD i.toNat []) 0)).b) → r1Q l d (rl ((paO (ndS l) d).getD i.toNat []) 0) v0 ⟨k + 1, v⟩) ∧
      (((chP l d (rl ((paO (ndS l) d).getD i.toNat []) 0)).k = 3 ∧ ri (l.getD k.toNat []) 0 = (chP l d (rl ((paO (ndS l) d).getD i.toNat []) 0)).a ∧ ri (l.getD k.toNat []) 1 = (chP l d (rl ((paO (ndS l) d).getD i.toNat []) 0)).b) → r1Q l d (rl ((paO (ndS l) d).getD i.toNat []) 0) v0 ⟨k + 1, v ++ [[D.int (ri (l.getD k.toNat []) 0), D.int (ri (l.getD k.toNat []) 1), D.int (ri (l.getD k.toNat []) 2)]]⟩)) ∧
    (¬ k < l.length → ((chP l d (rl ((paO (ndS l) d).getD i.toNat []) 0)).k = 2 → ∀ c : Bool, (c = true ↔ t = true ∧ (chP l d (rl ((paO (ndS l) d).getD i.toNat []) 0)).k = 1) → r0Q l d ⟨i + 1, g ++ [[D.int (chP l d (rl ((paO (ndS l) d).getD i.toNat []) 0)).k, D.int (chP l d (rl ((paO (ndS l) d).getD i.toNat []) 0)).a, D.int (chP l d (rl ((paO (ndS l) d).getD i.toNat []) 0)).b, D.int (chP l d (rl ((paO (ndS l) d).getD i.toNat []) 0)).s]], v, c⟩) ∧
      (¬ (chP l d (rl ((paO (ndS l) d).getD i.toNat []) 0)).k = 2 → ∀ c : Bool, (c = true ↔ t = true ∧ (chP l d (rl ((paO (ndS l) d).getD i.toNat []) 0)).k = 1) → r0Q l d ⟨i + 1, g, v, c⟩)) := by
  obtain ⟨p0, p1, p2, p3, p4⟩ := ho
  obtain ⟨h0, h1, h2⟩ := hq
  simp only at h0 h1 h2 p0 p1 p2 p3 p4
  obtain ⟨e1, e2⟩ := pt_len l d
  have pa := pt_at p0 hi
  have tk := tk_any (z := []) (ptL l d) i p0 (by omega)
  rw [pa] at tk
  generalize rl ((paO (ndS l) d).getD i.toNat []) 0 = p at *
  have lt : ((ptL l d).take i.toNat).length ≤ 64 := by rw [List.length_take]; omega
  have lv := fm_le (fun p => Nat.le_trans (ev1_len l d p) hl) ((ptL l d).take i.toNat)
  have lf : (((l.take k.toNat).filter fun e => decide ((chP l d p).k = 3 ∧ ri e 0 = (chP l d p).a ∧ ri e 1 = (chP l d p).b)).map e3).length ≤ 24 := by
    rw [List.length_map]
    have h1 := List.length_filter_le (fun e => decide ((chP l d p).k = 3 ∧ ri e 0 = (chP l d p).a ∧ ri e 1 = (chP l d p).b)) (l.take k.toNat)
    have h2 := List.length_take_le k.toNat l
    rw [List.length_take] at h1
    omega
  refine ⟨h0, h1, by rw [h2, List.length_append, p3]; omega, by rw [b_add, wr _ (by omega) (by omega)], fun g v t => by simp only [r0M]; omega, fun h => ⟨by rw [b_add, wr _ (by omega) (by omega)], fun w => by simp only [r1M]; omega, fun c => ?_, fun c => ?_⟩, fun h => ⟨fun hk c hc => ?_, fun hk c hc => ?_⟩⟩
  · refine ⟨by simp only; omega, by simp only; omega, ?_⟩
    simp only
    rw [tk_any (z := []) l k h0 h, List.filter_append, List.filter_cons_of_neg (by rw [decide_eq_true_eq]; exact c), h2]
    simp
  · refine ⟨by simp only; omega, by simp only; omega, ?_⟩
    simp only
    rw [tk_any (z := []) l k h0 h, List.filter_append, List.filter_cons_of_pos (by rw [decide_eq_true_eq]; exact c), h2, List.map_append, List.append_assoc]
    rfl
  all_goals
    have hv : v = v0 ++ ev1 l d p := by
      rw [h2, List.take_of_length_le (by omega)]
      rfl
    refine ⟨by simp only; omega, by simp only; omega, ?_, ?_, ?_⟩
  · simp only
    rw [tk, List.flatMap_append, ← p2]
    simp only [List.flatMap_cons, List.flatMap_nil, List.append_nil]
    unfold gr1
    rw [if_pos hk]
    rfl
  · simp only
    rw [tk, List.flatMap_append, ← p3, hv]
    simp
  · simp only
    rw [tk, List.all_append, ← p4, Bool.eq_iff_iff, hc]
    simp
  · simp only
    rw [tk, List.flatMap_append, ← p2]
    simp only [List.flatMap_cons, List.flatMap_nil, List.append_nil]
    unfold gr1
    rw [if_neg hk, List.append_nil]
  · simp only
    rw [tk, List.flatMap_append, ← p3, hv]
    simp
  · simp only
    rw [tk, List.all_append, ← p4, Bool.eq_iff_iff, hc]
    simp
structure X2 where
  i : Int
  o : List E
def r2Q (v d : List E) (y : X2) : Prop := 0 ≤ y.i ∧ y.i ≤ d.length ∧ y.o = ((d.take y.i.toNat).filter fun e => !hsB v (ri e 0) (ri e 1) (ri e 2)).map e3
def r2M (d : List E) (y : X2) : Nat := d.length - y.i.toNat
noncomputable def r2I (l d g v : List E) (t : Bool) (y : X2) : St := stOf Try.f30.ntmps [(1, .sl none (.recs (.int .i64 (.int .i64 (.int .i64 .nil))) l)), (2, .sl none (.recs (.int .i64 (.int .i64 (.int .i64 .nil))) d)), (10, .sl (some (1, 55)) (.recs (.int .i64 (.int .i64 (.int .i64 .nil))) y.o)), (11, .sl (some (2, 41)) (.recs (.int .i64 (.int .i64 (.int .i64 (.int .i64 .nil)))) g)), (12, .sl (some (3, 55)) (.recs (.int .i64 (.int .i64 (.int .i64 .nil))) v)), (13, .val (.bool t)), (18, .val (.int .i64 y.i))] [(1, .tok), (2, .tok), (3, .tok)] [Any, Any, Any]
def r2R (st : St) : X2 := ⟨slotI st 18, slR st 10⟩
theorem r2_all {v d : List E} (hd : d.length ≤ 24) {i : Int} {o : List E} (hq : r2Q v d ⟨i, o⟩) : 0 ≤ i ∧ i ≤ d.length ∧ o.length ≤ 24 ∧ (i < d.length → stdBin .add .i64 i 1 = i + 1 ∧ (∀ w, r2M d ⟨i + 1, w⟩ < r2M d ⟨i, o⟩) ∧ (hsB v (ri (d.getD i.toNat []) 0) (ri (d.getD i.toNat []) 1) (ri (d.getD i.toNat []) 2) = true → r2Q v d ⟨i + 1, o⟩) ∧ (hsB v (ri (d.getD i.toNat []) 0) (ri (d.getD i.toNat []) 1) (ri (d.getD i.toNat []) 2) = false → r2Q v d ⟨i + 1, o ++ [[D.int (ri (d.getD i.toNat []) 0), D.int (ri (d.getD i.toNat []) 1), D.int (ri (d.getD i.toNat []) 2)]]⟩)) ∧ (¬ i < d.length → o = (d.filter fun e => !hsB v (ri e 0) (ri e 1) (ri e 2)).map e3) := by
  obtain ⟨h0, h1, h2⟩ := hq
  simp only at h0 h1 h2
  have lo : o.length ≤ 24 := by
    rw [h2, List.length_map]
    have h1 := List.length_filter_le (fun e => !hsB v (ri e 0) (ri e 1) (ri e 2)) (d.take i.toNat)
    rw [List.length_take] at h1
    omega
  refine ⟨h0, h1, lo, fun h => ⟨by rw [b_add, wr _ (by omega) (by omega)], fun w => by simp only [r2M]; omega, fun c => ⟨by simp only; omega, by simp only; omega, ?_⟩, fun c => ⟨by simp only; omega, by simp only; omega, ?_⟩⟩, fun h => ?_⟩
  · simp only
    rw [tk_any (z := []) d i h0 h, List.filter_append, List.filter_cons_of_neg (by rw [c]; decide), h2]
    simp
  · simp only
    rw [tk_any (z := []) d i h0 h, List.filter_append, List.filter_cons_of_pos (by rw [c]; rfl), h2, List.map_append]
    rfl
  · rw [h2, List.take_of_length_le (by omega)]
structure X3 where
  i : Int
  c : Int
  o : List E
def r3Q (l G n1 : List E) (y : X3) : Prop := 0 ≤ y.i ∧ y.i ≤ G.length ∧ y.o = n1 ++ meP l G (prI G y.i.toNat) ∧ y.c = (prI G y.i.toNat).length
def r3M (G : List E) (y : X3) : Nat := G.length - y.i.toNat
noncomputable def r3I (l G v : List E) (t : Bool) (y : X3) : St := stOf Try.f30.ntmps [(1, .sl none (.recs (.int .i64 (.int .i64 (.int .i64 .nil))) l)), (10, .sl (some (1, 55)) (.recs (.int .i64 (.int .i64 (.int .i64 .nil))) y.o)), (11, .sl (some (2, 41)) (.recs (.int .i64 (.int .i64 (.int .i64 (.int .i64 .nil)))) G)), (12, .sl (some (3, 55)) (.recs (.int .i64 (.int .i64 (.int .i64 .nil))) v)), (13, .val (.bool t)), (19, .val (.int .i64 y.c)), (20, .val (.int .i64 y.i))] [(1, .tok), (2, .tok), (3, .tok)] [Any, Any, Any]
def r3R (st : St) : X3 := ⟨slotI st 20, slotI st 19, slR st 10⟩
def r4Q (l G n1 : List E) (i : Int) (y : X3) : Prop := 0 ≤ y.i ∧ y.i ≤ i ∧ y.o = n1 ++ meP l G (prI G i.toNat ++ pr1 G i.toNat y.i.toNat) ∧ y.c = (prI G i.toNat ++ pr1 G i.toNat y.i.toNat).length
def r4M (i : Int) (y : X3) : Nat := i.toNat - y.i.toNat
noncomputable def r4I (l G v : List E) (t : Bool) (i : Int) (y : X3) : St := stOf Try.f30.ntmps [(1, .sl none (.recs (.int .i64 (.int .i64 (.int .i64 .nil))) l)), (10, .sl (some (1, 55)) (.recs (.int .i64 (.int .i64 (.int .i64 .nil))) y.o)), (11, .sl (some (2, 41)) (.recs (.int .i64 (.int .i64 (.int .i64 (.int .i64 .nil)))) G)), (12, .sl (some (3, 55)) (.recs (.int .i64 (.int .i64 (.int .i64 .nil))) v)), (13, .val (.bool t)), (19, .val (.int .i64 y.c)), (20, .val (.int .i64 i)), (21, .val (.int .i64 y.i))] [(1, .tok), (2, .tok), (3, .tok)] [Any, Any, Any]
def r4R (st : St) : X3 := ⟨slotI st 21, slotI st 19, slR st 10⟩
def r5Q (l G : List E) (i : Int) (o0 : List E) (y : X2) : Prop := 0 ≤ y.i ∧ y.i ≤ l.length ∧ y.o = o0 ++ ((l.take y.i.toNat).filter (me1 G i.toNat)).map e3
def r5M (l : List E) (y : X2) : Nat := l.length - y.i.toNat
noncomputable def r5I (l G v : List E) (t : Bool) (i k c : Int) (y : X2) : St := stOf Try.f30.ntmps [(1, .sl none (.recs (.int .i64 (.int .i64 (.int .i64 .nil))) l)), (10, .sl (some (1, 55)) (.recs (.int .i64 (.int .i64 (.int .i64 .nil))) y.o)), (11, .sl (some (2, 41)) (.recs (.int .i64 (.int .i64 (.int .i64 (.int .i64 .nil)))) G)), (12, .sl (some (3, 55)) (.recs (.int .i64 (.int .i64 (.int .i64 .nil))) v)), (13, .val (.bool t)), (19, .val (.int .i64 c)), (20, .val (.int .i64 i)), (21, .val (.int .i64 k)), (22, .val (.int .i64 y.i))] [(1, .tok), (2, .tok), (3, .tok)] [Any, Any, Any]
def r5R (st : St) : X2 := ⟨slotI st 22, slR st 10⟩
theorem pr1_len (G : List E) (i k : Nat) : (pr1 G i k).length ≤ k := by
  unfold pr1
  rw [List.length_map]
  have := List.length_filter_le (mtl G i) (List.range k)
  rw [List.length_range] at this
  exact this
theorem prI_len (G : List E) : ∀ n : Nat, n ≤ 64 → (prI G n).length ≤ n * 64
  | 0, _ => by simp [prI]
  | n + 1, h => by
    have h1 := prI_len G n (by omega)
    have h2 := pr1_len G n n
    have e : prI G (n + 1) = prI G n ++ pr1 G n n := by
      unfold prI
      rw [List.range_succ, List.flatMap_append]
      simp
    rw [e, List.length_append]
    omega
theorem prI_next (G : List E) (n : Nat) : prI G (n + 1) = prI G n ++ pr1 G n n := by
  unfold prI
  rw [List.range_succ, List.flatMap_append]
  simp
theorem pr1_next (G : List E) (i k : Nat) : pr1 G i (k + 1) = pr1 G i k ++ if mtl G i k = true then [(i, k)] else [] := by
  unfold pr1
  rw [List.range_succ, List.filter_append, List.map_append]
  congr 1
  by_cases h : mtl G i k = true
  · rw [List.filter_cons_of_pos h, if_pos h]
    rfl
  · rw [List.filter_cons_of_neg h, if_neg h]
    rfl
theorem meL_len (l G : List E) (i : Nat) : (meL l G i).length ≤ l.length := by
  unfold meL
  rw [List.length_map]
  exact List.length_filter_le ..
theorem meP_len {l : List E} (G : List E) (hl : l.length ≤ 24) (q : List (Nat × Nat)) : (meP l G q).length ≤ q.length * 24 := fm_le (f := fun x : Nat × Nat => meL l G x.1) (fun x => Nat.le_trans (meL_len l G x.1) hl) q
theorem r3_all {l G n1 : List E} (hl : l.length ≤ 24) (hG : G.length ≤ 64) (hn : n1.length ≤ 24) {i c : Int} {o : List E} (hq : r3Q l G n1 ⟨i, c, o⟩) : 0 ≤ i ∧ i ≤ G.length ∧ o.length ≤ 200000 ∧ 0 ≤ c ∧ c ≤ 5000 ∧ (∀ c' o', r3M G ⟨i + 1, c', o'⟩ < r3M G ⟨i, c, o⟩ ∨ ¬ i < G.length) ∧ (i < G.length → stdBin .add .i64 i 1 = i + 1 ∧ r4Q l G n1 i ⟨0, c, o⟩) ∧ (¬ i < G.length → o = n1 ++ meP l G (prI G G.length) ∧ c = (prI G G.length).length) := by
  obtain ⟨h0, h1, h2, h3⟩ := hq
  simp only at h0 h1 h2 h3
  have lp := prI_len G i.toNat (by omega)
  have lm := meP_len G hl (prI G i.toNat)
  refine ⟨h0, h1, by rw [h2, List.length_append]; omega, by omega, by omega, fun c' o' => ?_, fun h => ⟨by rw [b_add, wr _ (by omega) (by omega)], Int.le_refl 0, h0, ?_, ?_⟩, fun h => ?_⟩
  · simp only [r3M]
    omega
  · simp only
    rw [h2, show pr1 G i.toNat (0 : Int).toNat = [] from rfl, List.append_nil]
  · simp only
    rw [h3, show pr1 G i.toNat (0 : Int).toNat = [] from rfl, List.append_nil]
  · rw [h2, h3, show i.toNat = G.length by omega]
    exact ⟨rfl, rfl⟩
theorem r4_all {l G n1 : List E} (hl : l.length ≤ 24) (hG : G.length ≤ 64) (hn : n1.length ≤ 24) {i : Int} (hi : 0 ≤ i) (hi2 : i < G.length) {k c : Int} {o : List E} (hq : r4Q l G n1 i ⟨k, c, o⟩) : 0 ≤ k ∧ k ≤ i ∧ o.length ≤ 200000 ∧ 0 ≤ c ∧ c ≤ 5000 ∧ stdBin .add .i64 c 1 = c + 1 ∧ (k < i → stdBin .add .i64 k 1 = k + 1 ∧ (∀ c' o', r4M i ⟨k + 1, c', o'⟩ < r4M i ⟨k, c, o⟩) ∧ (¬ (ri (G.getD i.toNat []) 1 = ri (G.getD k.toNat []) 2 ∧ ri (G.getD i.toNat []) 2 = ri (G.getD k.toNat []) 1) → r4Q l G n1 i ⟨k + 1, c, o⟩) ∧ ((ri (G.getD i.toNat []) 1 = ri (G.getD k.toNat []) 2 ∧ ri (G.getD i.toNat []) 2 = ri (G.getD k.toNat []) 1) → r4Q l G n1 i ⟨k + 1, c + 1, o ++ meL l G i.toNat⟩)) ∧ (¬ k < i → r3Q l G n1 ⟨i + 1, c, o⟩) := by
  obtain ⟨h0, h1, h2, h3⟩ := hq
  simp only at h0 h1 h2 h3
  have lp := prI_len G i.toNat (by omega)
  have lq := pr1_len G i.toNat k.toNat
  have lm := meP_len G hl (prI G i.toNat ++ pr1 G i.toNat k.toNat)
  have la : (prI G i.toNat ++ pr1 G i.toNat k.toNat).length ≤ 4200 := by rw [List.length_append]; omega
  have mu : mtl G i.toNat k.toNat = true ↔ (ri (G.getD i.toNat []) 1 = ri (G.getD k.toNat []) 2 ∧ ri (G.getD i.toNat []) 2 = ri (G.getD k.toNat []) 1) := by
    unfold mtl
    rw [decide_eq_true_eq]
  refine ⟨h0, h1, by rw [h2, List.length_append]; omega, by omega, by omega, by rw [b_add, wr _ (by omega) (by omega)], fun h => ⟨by rw [b_add, wr _ (by omega) (by omega)], fun c' o' => by simp only [r4M]; omega, fun g => ?_, fun g => ?_⟩, fun h => ?_⟩
  · have e : pr1 G i.toNat (k + 1).toNat = pr1 G i.toNat k.toNat := by
      rw [show (k + 1).toNat = k.toNat + 1 by omega, pr1_next, if_neg (fun q => g (mu.1 q)), List.append_nil]
    exact ⟨by simp only; omega, by simp only; omega, by simp only; rw [e]; exact h2, by simp only; rw [e]; exact h3⟩
  · have e : pr1 G i.toNat (k + 1).toNat = pr1 G i.toNat k.toNat ++ [(i.toNat, k.toNat)] := by
      rw [show (k + 1).toNat = k.toNat + 1 by omega, pr1_next, if_pos (mu.2 g)]
    refine ⟨by simp only; omega, by simp only; omega, ?_, ?_⟩
    · simp only
      rw [e, ← List.append_assoc, me_app, h2, List.append_assoc]
      congr 2
      simp [meP]
    · simp only
      rw [e, ← List.append_assoc, List.length_append, h3]
      simp
  · have e : prI G (i + 1).toNat = prI G i.toNat ++ pr1 G i.toNat k.toNat := by
      rw [show (i + 1).toNat = i.toNat + 1 by omega, prI_next, show k.toNat = i.toNat by omega]
    exact ⟨by simp only; omega, by simp only; omega, by simp only; rw [e]; exact h2, by simp only; rw [e]; exact h3⟩
theorem r5_all {l G : List E} {i : Int} {o0 : List E} (hl : l.length ≤ 24) (ho : o0.length ≤ 200000) {j : Int} {o : List E} (hq : r5Q l G i o0 ⟨j, o⟩) : 0 ≤ j ∧ j ≤ l.length ∧ o.length ≤ 200100 ∧ (j < l.length → stdBin .add .i64 j 1 = j + 1 ∧ (∀ w, r5M l ⟨j + 1, w⟩ < r5M l ⟨j, o⟩) ∧ (¬ (ri (l.getD j.toNat []) 0 = ri (G.getD i.toNat []) 1 ∧ ri (l.getD j.toNat []) 1 = ri (G.getD i.toNat []) 2 ∨ ri (l.getD j.toNat []) 0 = ri (G.getD i.toNat []) 2 ∧ ri (l.getD j.toNat []) 1 = ri (G.getD i.toNat []) 1) → r5Q l G i o0 ⟨j + 1, o⟩) ∧ ((ri (l.getD j.toNat []) 0 = ri (G.getD i.toNat []) 1 ∧ ri (l.getD j.toNat []) 1 = ri (G.getD i.toNat []) 2 ∨ ri (l.getD j.toNat []) 0 = ri (G.getD i.toNat []) 2 ∧ ri (l.getD j.toNat []) 1 = ri (G.getD i.toNat []) 1) → r5Q l G i o0 ⟨j + 1, o ++ [[D.int (ri (l.getD j.toNat []) 0), D.int (ri (l.getD j.toNat []) 1), D.int (ri (l.getD j.toNat []) 2)]]⟩)) ∧ (¬ j < l.length → o = o0 ++ meL l G i.toNat) := by
  obtain ⟨h0, h1, h2⟩ := hq
  simp only at h0 h1 h2
  have lo : (((l.take j.toNat).filter (me1 G i.toNat)).map e3).length ≤ 24 := by
    rw [List.length_map]
    have h1 := List.length_filter_le (me1 G i.toNat) (l.take j.toNat)
    rw [List.length_take] at h1
    omega
  refine ⟨h0, h1, by rw [h2, List.length_append]; omega, fun h => ⟨by rw [b_add, wr _ (by omega) (by omega)], fun w => by simp only [r5M]; omega, fun c => ⟨by simp only; omega, by simp only; omega, ?_⟩, fun c => ⟨by simp only; omega, by simp only; omega, ?_⟩⟩, fun h => ?_⟩
  · simp only
    rw [tk_any (z := []) l j h0 h, List.filter_append, List.filter_cons_of_neg (by unfold me1; rw [decide_eq_true_eq]; exact c), h2]
    simp
  · simp only
    rw [tk_any (z := []) l j h0 h, List.filter_append, List.filter_cons_of_pos (by unfold me1; rw [decide_eq_true_eq]; exact c), h2, List.map_append, List.append_assoc]
    rfl
  · rw [h2, List.take_of_length_le (by omega)]
    rfl
theorem fin_ok {l d g v o x : List E} {t : Bool} {c : Int} (e1 : g = grL l d) (e2 : v = evL l d) (e3 : t = idB l d) (ho : o = n1L l d) (h : x = o ++ meP l g (prI g g.length) ∧ c = (prI g g.length).length) : x = n2L l d ∧ t = idB l d ∧ (okB l d = true ↔ t = true ∨ 0 < c ∨ 0 < v.length) := by
  obtain ⟨h1, h2⟩ := h
  refine ⟨by rw [h1, ho, e1]; rfl, e3, ?_⟩
  unfold okB
  rw [← e1, ← e2, ← e3, Bool.or_eq_true, Bool.or_eq_true, decide_eq_true_eq, decide_eq_true_eq, h2]
  exact or_congr Iff.rfl (or_congr (by omega) Iff.rfl)
def okR (n : List Int) (l d : List E) : Prop := n = ndS l ∧ allE l = 0 ∧ l.length ≤ 24 ∧ Oth l d ∧ d.length ≤ 24

structure Ce where
  e_nx : List E → List E → List E
  e_id : List E → List E → Bool
  e_ok : List E → List E → Bool
  e_c : List Int → List E → List E → Prop
def Ce.std : Ce := ⟨n2L, idB, okB, okR⟩

def c_round (F : Ce) : Con := fun xs h => match xs, h with
  | [.one (.sl none (.ints .i64 n)), .one (.sl none (.recs (.int .i64 (.int .i64 (.int .i64 .nil))) l)), .one (.sl none (.recs (.int .i64 (.int .i64 (.int .i64 .nil))) d))], [] => some ⟨F.e_c n l d, .tup [.one (.sl none (.recs (.int .i64 (.int .i64 (.int .i64 .nil))) (F.e_nx l d))), B (F.e_id l d), B (F.e_ok l d)], [], [Any, Any, Any]⟩
  | _, _ => none
set_option cbv.maxSteps 4000000 in
set_option maxHeartbeats 4000000 in
set_option maxRecDepth 100000 in
theorem x_round (n : List Int) (l : List E) (d : List E) (hC : Ce.std.e_c n l d) : Does [(34, c_rparts CgR.Cg.std), (35, c_rview RoV.Rv.std), (23, c_choose ChQ.Cq.std), (36, c_lhas CgR.Cg.std)] Try.f30 [.one (.sl none (.ints .i64 n)), .one (.sl none (.recs (.int .i64 (.int .i64 (.int .i64 .nil))) l)), .one (.sl none (.recs (.int .i64 (.int .i64 (.int .i64 .nil))) d))] [] ⟨Ce.std.e_c n l d, .tup [.one (.sl none (.recs (.int .i64 (.int .i64 (.int .i64 .nil))) (Ce.std.e_nx l d))), B (Ce.std.e_id l d), B (Ce.std.e_ok l d)], [], [Any, Any, Any]⟩ := by
  intro b gv
  have hCC : okR n l d := hC
  obtain ⟨hn, ha, hl, ho, hd⟩ := hCC
  have hin := nd_in l
  have hR := CgT.oth_fo ha ho
  have hR := oth_in ha ho (by omega)
  rw [← hn] at hin
  have hfs := (FsOk.cons ok_rparts (FsOk.cons ok_rview (FsOk.cons ok_choose (FsOk.cons ok_lhas FsOk.nil rfl) rfl) rfl) rfl)
  generalize hF : Ce.std = F at hC hfs ⊢
  generalize hG0 : CgR.Cg.std = G0 at hC hfs ⊢
  generalize hG1 : RoV.Rv.std = G1 at hC hfs ⊢
  generalize hG2 : ChQ.Cq.std = G2 at hC hfs ⊢
  generalize hA : Ar.std = A
  generalize hL : Lp _ _ _ = L
  obtain ⟨Z, zq⟩ := z_all
  refine cd_open (lp_mono hL) zq rfl ?_
  repeat' (first
    | (refine z_open zq ?_; try dsimp only)
    | refine cd_seq zq ?_ (lp_mono hL)
    | refine cd_blk zq ?_
    | refine cd_ret ?_
    | refine cd_skip ?_
    | refine cd_exit ?_
    | refine cd_loop ?_
    | refine cd_cond rfl ?_
    | refine cd_condT rfl ?_
    | refine cd_condF rfl ?_
    | (refine Cd.mk ?_; cbv)
    | (refine Ends1.mk ?_; cbv)
    | (refine Fin1.mk ?_; cbv)
    | exact trivial
    | refine And.intro ?_ ?_
    | refine orf fun _ => ?_
    | refine ort fun _ => ?_)
  all_goals first | (show L _ _ _; skip) | (clear hL hfs zq Z; subst hA hF hG0 hG1 hG2; simp only [Ce.std, CgR.Cg.std] at * <;> grind [stdCmp]; done)
  subst hL
  refine loop_z (cx_ok hfs) (r0Q l d) (r0I n l d (G0.g_pa n d)) (r0M (paO n d)) r0R ⟨0, [], [], true⟩ ?_ ?_ ?_
  · exact ⟨Int.le_refl 0, Int.natCast_nonneg _, rfl, rfl, rfl⟩
  · cbv
    repeat' (first | exact trivial | exact rfl | refine And.intro ?_ ?_)
  rintro ⟨i, g, v, t⟩ hq U hU
  have hst := r0_all hl hq
  have hcr := fun h => cr_part ha hl ho hq.1 h
  rw [← hn] at hst hcr
  dsimp only at hcr
  subst hA
  generalize hA : Ar.std = A
  generalize hL : Lp _ _ _ = L
  refine cd_close zq ?_
  repeat' (first
    | (refine z_open zq ?_; try dsimp only)
    | refine cd_seq zq ?_ (lp_mono hL)
    | refine cd_blk zq ?_
    | refine cd_ret ?_
    | refine cd_skip ?_
    | refine cd_exit ?_
    | refine cd_loop ?_
    | refine cd_cond rfl ?_
    | refine cd_condT rfl ?_
    | refine cd_condF rfl ?_
    | (refine Cd.mk ?_; cbv)
    | (refine Ends1.mk ?_; cbv)
    | (refine Fin1.mk ?_; cbv)
    | exact trivial
    | refine And.intro ?_ ?_
    | refine orf fun _ => ?_
    | refine ort fun _ => ?_)
  all_goals first | (show L _ _ _; skip) | (clear hL hfs zq Z hq; subst hA hF hG0 hG1 hG2 hU; simp only [Ce.std, CgR.Cg.std, RoV.Rv.std, ChQ.Cq.std, Ar.std] at * <;> grind [stdCmp]; done)
  · rename_i hx1 hx2 hx3
    have hi : i < (paO n d).length ∧ (chF (rl ((paO n d).getD i.toNat []) 0) (vw4 l d (rl ((paO n d).getD i.toNat []) 0))).k = 2 := by
      clear hL hfs zq Z hq
      subst hA hF hG0 hG1 hG2 hU
      simp only [Ce.std, CgR.Cg.std, RoV.Rv.std, ChQ.Cq.std, Ar.std] at *
      grind [stdCmp]
    clear hx1 hx2 hx3
    obtain ⟨hi, hk2⟩ := hi
    subst hL
    refine loop_z (cx_ok hfs) (r1Q l d (rl ((paO n d).getD i.toNat []) 0) v) (r1I n l d (G0.g_pa n d) (A.appE g [[D.int (G2.v_ck (A.rl (A.atE (G0.g_pa n d) i) 0) (G1.v_vw l d (A.rl (A.atE (G0.g_pa n d) i) 0))), D.int (G2.v_ca (A.rl (A.atE (G0.g_pa n d) i) 0) (G1.v_vw l d (A.rl (A.atE (G0.g_pa n d) i) 0))), D.int (G2.v_cb (A.rl (A.atE (G0.g_pa n d) i) 0) (G1.v_vw l d (A.rl (A.atE (G0.g_pa n d) i) 0))), D.int (G2.v_cs (A.rl (A.atE (G0.g_pa n d) i) 0) (G1.v_vw l d (A.rl (A.atE (G0.g_pa n d) i) 0)))]]) (A.iteB t (A.cmp .eql (G2.v_ck (A.rl (A.atE (G0.g_pa n d) i) 0) (G1.v_vw l d (A.rl (A.atE (G0.g_pa n d) i) 0))) 1) false) i (G2.v_ck (A.rl (A.atE (G0.g_pa n d) i) 0) (G1.v_vw l d (A.rl (A.atE (G0.g_pa n d) i) 0))) (G2.v_ca (A.rl (A.atE (G0.g_pa n d) i) 0) (G1.v_vw l d (A.rl (A.atE (G0.g_pa n d) i) 0))) (G2.v_cb (A.rl (A.atE (G0.g_pa n d) i) 0) (G1.v_vw l d (A.rl (A.atE (G0.g_pa n d) i) 0))) (G2.v_cs (A.rl (A.atE (G0.g_pa n d) i) 0) (G1.v_vw l d (A.rl (A.atE (G0.g_pa n d) i) 0)))) (r1M l) r1R ⟨0, v⟩ ?_ ?_ ?_
    · exact ⟨Int.le_refl 0, Int.natCast_nonneg _, (List.append_nil v).symm⟩
    · cbv
      repeat' (first | exact trivial | exact rfl | refine And.intro ?_ ?_)
    rintro ⟨k, w⟩ hq1 V hV
    have hs1 := r1_all hl hq (by rw [← hn]; exact hi) (by rw [← hn]; exact hq1)
    rw [← hn] at hs1
    unfold chP at hs1
    subst hA
    generalize hA : Ar.std = A
    generalize hL : Lp _ _ _ = L
    refine cd_close zq ?_
    repeat' (first
      | (refine z_open zq ?_; try dsimp only)
      | refine cd_seq zq ?_ (lp_mono hL)
      | refine cd_blk zq ?_
      | refine cd_ret ?_
      | refine cd_skip ?_
      | refine cd_exit ?_
      | refine cd_loop ?_
      | refine cd_cond rfl ?_
      | refine cd_condT rfl ?_
      | refine cd_condF rfl ?_
      | (refine Cd.mk ?_; cbv)
      | (refine Ends1.mk ?_; cbv)
      | (refine Fin1.mk ?_; cbv)
      | exact trivial
      | refine And.intro ?_ ?_
      | refine orf fun _ => ?_
      | refine ort fun _ => ?_)
    all_goals (clear hL hfs zq Z hq hq1 hst; subst hA hF hG0 hG1 hG2 hU hV; simp only [Ce.std, CgR.Cg.std, RoV.Rv.std, ChQ.Cq.std, Ar.std] at * <;> grind [stdCmp, r0M])
  · rename_i hx1 hx2 hx3
    have hi : i < (paO n d).length ∧ ¬ (chF (rl ((paO n d).getD i.toNat []) 0) (vw4 l d (rl ((paO n d).getD i.toNat []) 0))).k = 2 := by
      clear hL hfs zq Z hq
      subst hA hF hG0 hG1 hG2 hU
      simp only [Ce.std, CgR.Cg.std, RoV.Rv.std, ChQ.Cq.std, Ar.std] at *
      grind [stdCmp]
    clear hx1 hx2 hx3
    obtain ⟨hi, hk2⟩ := hi
    subst hL
    refine loop_z (cx_ok hfs) (r1Q l d (rl ((paO n d).getD i.toNat []) 0) v) (r1I n l d (G0.g_pa n d) g (A.iteB t (A.cmp .eql (G2.v_ck (A.rl (A.atE (G0.g_pa n d) i) 0) (G1.v_vw l d (A.rl (A.atE (G0.g_pa n d) i) 0))) 1) false) i (G2.v_ck (A.rl (A.atE (G0.g_pa n d) i) 0) (G1.v_vw l d (A.rl (A.atE (G0.g_pa n d) i) 0))) (G2.v_ca (A.rl (A.atE (G0.g_pa n d) i) 0) (G1.v_vw l d (A.rl (A.atE (G0.g_pa n d) i) 0))) (G2.v_cb (A.rl (A.atE (G0.g_pa n d) i) 0) (G1.v_vw l d (A.rl (A.atE (G0.g_pa n d) i) 0))) (G2.v_cs (A.rl (A.atE (G0.g_pa n d) i) 0) (G1.v_vw l d (A.rl (A.atE (G0.g_pa n d) i) 0)))) (r1M l) r1R ⟨0, v⟩ ?_ ?_ ?_
    · exact ⟨Int.le_refl 0, Int.natCast_nonneg _, (List.append_nil v).symm⟩
    · cbv
      repeat' (first | exact trivial | exact rfl | refine And.intro ?_ ?_)
    rintro ⟨k, w⟩ hq1 V hV
    have hs1 := r1_all hl hq (by rw [← hn]; exact hi) (by rw [← hn]; exact hq1)
    rw [← hn] at hs1
    unfold chP at hs1
    subst hA
    generalize hA : Ar.std = A
    generalize hL : Lp _ _ _ = L
    refine cd_close zq ?_
    repeat' (first
      | (refine z_open zq ?_; try dsimp only)
      | refine cd_seq zq ?_ (lp_mono hL)
      | refine cd_blk zq ?_
      | refine cd_ret ?_
      | refine cd_skip ?_
      | refine cd_exit ?_
      | refine cd_loop ?_
      | refine cd_cond rfl ?_
      | refine cd_condT rfl ?_
      | refine cd_condF rfl ?_
      | (refine Cd.mk ?_; cbv)
      | (refine Ends1.mk ?_; cbv)
      | (refine Fin1.mk ?_; cbv)
      | exact trivial
      | refine And.intro ?_ ?_
      | refine orf fun _ => ?_
      | refine ort fun _ => ?_)
    all_goals (clear hL hfs zq Z hq hq1 hst; subst hA hF hG0 hG1 hG2 hU hV; simp only [Ce.std, CgR.Cg.std, RoV.Rv.std, ChQ.Cq.std, Ar.std] at * <;> grind [stdCmp, r0M])
  · rename_i hx
    have hg : ¬ i < (paO n d).length := by
      clear hL hfs zq Z hq hcr
      subst hA hF hG0 hG1 hG2 hU
      simp only [Ce.std, CgR.Cg.std, Ar.std] at *
      grind [stdCmp]
    obtain ⟨e1, e2, e3⟩ := hst.2.2.2.2.2 hg
    have lg : g.length ≤ 64 := hst.2.2.2.1
    have lv : v.length ≤ 1536 := hst.2.2.2.2.1
    clear hx hst hcr hq hU hg
    subst hL
    refine loop_z (cx_ok hfs) (r2Q v d) (r2I l d g v t) (r2M d) r2R ⟨0, []⟩ ?_ ?_ ?_
    · exact ⟨Int.le_refl 0, Int.natCast_nonneg _, rfl⟩
    · cbv
      repeat' (first | exact trivial | exact rfl | refine And.intro ?_ ?_)
    rintro ⟨j, o⟩ hq2 V hV
    have hs2 := r2_all hd hq2
    subst hA
    generalize hA : Ar.std = A
    generalize hL : Lp _ _ _ = L
    refine cd_close zq ?_
    repeat' (first
      | (refine z_open zq ?_; try dsimp only)
      | refine cd_seq zq ?_ (lp_mono hL)
      | refine cd_blk zq ?_
      | refine cd_ret ?_
      | refine cd_skip ?_
      | refine cd_exit ?_
      | refine cd_loop ?_
      | refine cd_cond rfl ?_
      | refine cd_condT rfl ?_
      | refine cd_condF rfl ?_
      | (refine Cd.mk ?_; cbv)
      | (refine Ends1.mk ?_; cbv)
      | (refine Fin1.mk ?_; cbv)
      | exact trivial
      | refine And.intro ?_ ?_
      | refine orf fun _ => ?_
      | refine ort fun _ => ?_)
    all_goals first | (show L _ _ _; skip) | (clear hL hfs zq Z hq2; subst hA hF hG0 hG1 hG2 hV; simp only [Ce.std, CgR.Cg.std, Ar.std] at * <;> grind [stdCmp]; done)
    rename_i hx
    have hj : ¬ j < d.length := by
      clear hL hfs zq Z hq2
      subst hA hF hG0 hG1 hG2 hV
      simp only [Ce.std, Ar.std] at *
      grind [stdCmp]
    have ho1 : o = n1L l d := by
      have h := hs2.2.2.2.2 hj
      rw [e2] at h
      exact h
    have lo : o.length ≤ 24 := hs2.2.2.1
    clear hx hs2 hq2 hV hj
    subst hL
    refine loop_z (cx_ok hfs) (r3Q l g o) (r3I l g v t) (r3M g) r3R ⟨0, 0, o⟩ ?_ ?_ ?_
    · exact ⟨Int.le_refl 0, Int.natCast_nonneg _, (List.append_nil o).symm, rfl⟩
    · cbv
      repeat' (first | exact trivial | exact rfl | refine And.intro ?_ ?_)
    rintro ⟨a, c, x⟩ hq3 V3 hV3
    have hs3 := r3_all hl lg lo hq3
    have hf : ¬ a < g.length → x = n2L l d ∧ t = idB l d ∧ (okB l d = true ↔ t = true ∨ 0 < c ∨ 0 < v.length) := fun h => fin_ok e1 e2 e3 ho1 (hs3.2.2.2.2.2.2.2 h)
    subst hA
    generalize hA : Ar.std = A
    generalize hL : Lp _ _ _ = L
    refine cd_close zq ?_
    repeat' (first
      | (refine z_open zq ?_; try dsimp only)
      | refine cd_seq zq ?_ (lp_mono hL)
      | refine cd_blk zq ?_
      | refine cd_ret ?_
      | refine cd_skip ?_
      | refine cd_exit ?_
      | refine cd_loop ?_
      | refine cd_cond rfl ?_
      | refine cd_condT rfl ?_
      | refine cd_condF rfl ?_
      | (refine Cd.mk ?_; cbv)
      | (refine Ends1.mk ?_; cbv)
      | (refine Fin1.mk ?_; cbv)
      | exact trivial
      | refine And.intro ?_ ?_
      | refine orf fun _ => ?_
      | refine ort fun _ => ?_)
    all_goals first | (show L _ _ _; skip) | (clear hL hfs zq Z hq3; subst hA hF hG0 hG1 hG2 hV3; simp only [Ce.std, Ar.std] at * <;> grind [stdCmp]; done)
    rename_i hx
    have ha4 : a < g.length := by
      clear hL hfs zq Z hq3 hf
      subst hA hF hG0 hG1 hG2 hV3
      simp only [Ce.std, Ar.std] at *
      grind [stdCmp]
    have hs3b := hs3.2.2.2.2.2.2.1 ha4
    have h0a := hs3.1
    clear hx hf hs3 hq3
    subst hL
    refine loop_z (cx_ok hfs) (r4Q l g o a) (r4I l g v t a) (r4M a) r4R ⟨0, c, x⟩ ?_ ?_ ?_
    · exact hs3b.2
    · cbv
      repeat' (first | exact trivial | exact rfl | refine And.intro ?_ ?_)
    rintro ⟨kk, c2, x2⟩ hq4 V4 hV4
    have hs4 := r4_all hl lg lo h0a ha4 hq4
    subst hA
    generalize hA : Ar.std = A
    generalize hL : Lp _ _ _ = L
    refine cd_close zq ?_
    repeat' (first
      | (refine z_open zq ?_; try dsimp only)
      | refine cd_seq zq ?_ (lp_mono hL)
      | refine cd_blk zq ?_
      | refine cd_ret ?_
      | refine cd_skip ?_
      | refine cd_exit ?_
      | refine cd_loop ?_
      | refine cd_cond rfl ?_
      | refine cd_condT rfl ?_
      | refine cd_condF rfl ?_
      | (refine Cd.mk ?_; cbv)
      | (refine Ends1.mk ?_; cbv)
      | (refine Fin1.mk ?_; cbv)
      | exact trivial
      | refine And.intro ?_ ?_
      | refine orf fun _ => ?_
      | refine ort fun _ => ?_)
    all_goals first | (show L _ _ _; skip) | (clear hL hfs zq Z hq4; subst hA hF hG0 hG1 hG2 hV3 hV4; simp only [Ce.std, Ar.std] at * <;> grind [stdCmp, r3M, r4M]; done)
    rename_i hx1 hx2
    have h5 : kk < a ∧ (ri (g.getD a.toNat []) 1 = ri (g.getD kk.toNat []) 2 ∧ ri (g.getD a.toNat []) 2 = ri (g.getD kk.toNat []) 1) := by
      clear hL hfs zq Z hq4
      subst hA hF hG0 hG1 hG2 hV3 hV4
      simp only [Ce.std, Ar.std] at *
      grind [stdCmp]
    obtain ⟨hk5, hm5⟩ := h5
    have hs4b := (hs4.2.2.2.2.2.2.1 hk5).2.2.2 hm5
    have hs4c := (hs4.2.2.2.2.2.2.1 hk5).1
    have lx : x2.length ≤ 200000 := hs4.2.2.1
    have hs4d := hs4.2.2.2.2.2.1
    have h0k := hs4.1
    clear hx1 hx2 hq4 hs4
    subst hL
    refine loop_z (cx_ok hfs) (r5Q l g a x2) (r5I l g v t a kk (A.bin .add .i64 c2 1)) (r5M l) r5R ⟨0, x2⟩ ?_ ?_ ?_
    · exact ⟨Int.le_refl 0, Int.natCast_nonneg _, (List.append_nil x2).symm⟩
    · cbv
      repeat' (first | exact trivial | exact rfl | refine And.intro ?_ ?_)
    rintro ⟨jj, x5⟩ hq5 V5 hV5
    have hs5 := r5_all hl lx hq5
    subst hA
    generalize hA : Ar.std = A
    generalize hL : Lp _ _ _ = L
    refine cd_close zq ?_
    repeat' (first
      | (refine z_open zq ?_; try dsimp only)
      | refine cd_seq zq ?_ (lp_mono hL)
      | refine cd_blk zq ?_
      | refine cd_ret ?_
      | refine cd_skip ?_
      | refine cd_exit ?_
      | refine cd_loop ?_
      | refine cd_cond rfl ?_
      | refine cd_condT rfl ?_
      | refine cd_condF rfl ?_
      | (refine Cd.mk ?_; cbv)
      | (refine Ends1.mk ?_; cbv)
      | (refine Fin1.mk ?_; cbv)
      | exact trivial
      | refine And.intro ?_ ?_
      | refine orf fun _ => ?_
      | refine ort fun _ => ?_)
    all_goals (clear hL hfs zq Z hq5; subst hA hF hG0 hG1 hG2 hV3 hV4 hV5; simp only [Ce.std, Ar.std] at * <;> grind [stdCmp, r3M, r4M]; done)
theorem ok_round : ConOk Try.prog 30 (c_round Ce.std) := by
  refine con_of (FsOk.cons ok_rparts (FsOk.cons ok_rview (FsOk.cons ok_choose (FsOk.cons ok_lhas FsOk.nil rfl) rfl) rfl) rfl) Try.func30 rfl rfl fun xs h p hp => ?_
  unfold c_round at hp
  split at hp
  · cases hp
    exact ⟨lee_le rfl, fun hC _ => x_round _ _ _ hC⟩
  · cases hp
end Go.Proofs.Ytfioaidmgcibaaa.CeR
