/-
  lists, one behind the other. No condition.
-/
import Derived.Test.YtnifnfegnfaabaaOctQ
import Derived.Test.YtnifnfegnfaabaaRyOp
namespace Go.Proofs.Ytnifnfegnfaabaa.OctL
open Go Go.Proofs.Ytnifnfegnfaabaa.Ry Go.Proofs.Ytnifnfegnfaabaa.OctR Go.Proofs.Ytnifnfegnfaabaa.OctP Go.Proofs.Ytnifnfegnfaabaa.OctQ

def g (l : List E) (i : Int) : List Int := rl (l.getD i.toNat []) 0
def en1 (x : List Int) : List Int := numL x.length 2 ++ x
def enc (l : List E) : List Int := l.flatMap fun x => en1 (rl x 0)
def tot (l : List E) : Nat := (l.map fun x => (rl x 0).length).sum
theorem en1_len (x : List Int) : (en1 x).length = x.length + 2 := by
  unfold en1
  rw [List.length_append, num_len]
  have : (2 : Int).toNat = 2 := rfl
  omega
theorem enc_len : ∀ l : List E, (enc l).length = tot l + 2 * l.length
  | [] => rfl
  | x :: l => by
    have ih := enc_len l
    unfold enc tot at *
    rw [List.flatMap_cons, List.length_append, en1_len, ih, List.map_cons, List.sum_cons, List.length_cons]
    omega
theorem tot_app (l k : List E) : tot (l ++ k) = tot l + tot k := by simp [tot]
theorem take_next (l : List E) (i : Int) (h0 : 0 ≤ i) (h : i < l.length) : l.take (i + 1).toNat = l.take i.toNat ++ [l.getD i.toNat []] := by
  have e : (i + 1).toNat = i.toNat + 1 := by omega
  have hi : i.toNat < l.length := by omega
  rw [e, List.take_add_one, List.getD_eq_getElem?_getD, List.getElem?_eq_getElem hi]
  rfl
theorem drop_next (l : List E) (i : Int) (h0 : 0 ≤ i) (h : i < l.length) : l.drop i.toNat = l.getD i.toNat [] :: l.drop (i + 1).toNat := by
  have e : (i + 1).toNat = i.toNat + 1 := by omega
  have hi : i.toNat < l.length := by omega
  rw [e, List.drop_eq_getElem_cons hi, List.getD_eq_getElem?_getD, List.getElem?_eq_getElem hi]
  rfl
theorem tot_next (l : List E) (i : Int) (h0 : 0 ≤ i) (h : i < l.length) : tot (l.take (i + 1).toNat) = tot (l.take i.toNat) + (g l i).length := by
  rw [take_next l i h0 h, tot_app]
  simp [tot, g]
theorem tot_take (l : List E) (k : Nat) : tot (l.take k) ≤ tot l := by
  have := tot_app (l.take k) (l.drop k)
  rw [List.take_append_drop] at this
  omega
theorem g_le (l : List E) (i : Int) (h0 : 0 ≤ i) (h : i < l.length) : (g l i).length ≤ tot l := by
  have h1 := tot_next l i h0 h
  have h2 := tot_take l (i + 1).toNat
  omega
theorem enc_next (l : List E) (i : Int) (h0 : 0 ≤ i) (h : i < l.length) : enc (l.take (i + 1).toNat) = enc (l.take i.toNat) ++ en1 (g l i) := by
  rw [take_next l i h0 h]
  simp [enc, g]
theorem enc_drop (l : List E) (i : Int) (h0 : 0 ≤ i) (h : i < l.length) : enc (l.drop i.toNat) = en1 (g l i) ++ enc (l.drop (i + 1).toNat) := by
  rw [drop_next l i h0 h]
  rfl
theorem pl_is (b x : List Int) (h : x.length ≤ 65535) : plL b x = b ++ en1 x ∧ plE x = 0 := by
  unfold plL plE behI en1
  rw [if_pos h, if_pos h, List.append_assoc]
  exact ⟨rfl, rfl⟩
theorem fit2 (x : List Int) (h : x.length ≤ 65535) : fits (x.length : Int) 2 = true := by
  unfold fits
  have e : grI 2 = 65535 := rfl
  have e2 : isW 2 = true := rfl
  rw [e, e2, decide_eq_true (by omega)]
  rfl
theorem li_one (x r : List Int) (h : x.length ≤ 65535) : liL (en1 x ++ r) 0 = x ∧ liE (en1 x ++ r) 0 = 0 ∧ liR (en1 x ++ r) 0 = r := by
  have hn := num_len (x.length : Int) 2
  have h2 : (2 : Int).toNat = 2 := rfl
  rw [h2] at hn
  have ht : (en1 x ++ r).take 2 = numL x.length 2 := by
    unfold en1
    rw [List.append_assoc, List.take_left' hn]
  have hv := num_num (fit2 x h)
  have hl : (en1 x ++ r).length = x.length + 2 + r.length := by rw [List.length_append, en1_len]
  have hb : liBad (en1 x ++ r) = false := by
    unfold liBad
    rw [ht, hv, hl, decide_eq_false_iff_not]
    omega
  have hN : liN (en1 x ++ r) = x.length + 2 := by
    unfold liN
    rw [ht, hv]
    omega
  have e1 := en1_len x
  unfold liL liE liR
  rw [hb, hN]
  simp only [and_self, if_true]
  refine ⟨?_, ?_, ?_⟩
  · rw [List.take_left' e1]
    unfold en1
    rw [List.drop_left' hn]
  · simp
  · rw [List.drop_left' e1]
theorem enc_by : ∀ (l : List E), (∀ y ∈ l, ∀ n ∈ rl y 0, 0 ≤ n ∧ n ≤ 255) → (∀ y ∈ l, (rl y 0).length ≤ 65535) → ∀ n ∈ enc l, 0 ≤ n ∧ n ≤ 255
  | [], _, _ => fun n hn => by cases hn
  | x :: l, h1, h2 => by
    intro n hn
    have hn : n ∈ en1 (rl x 0) ++ enc l := hn
    rcases List.mem_append.1 hn with hn | hn
    · rcases List.mem_append.1 hn with hn | hn
      · exact num_by (fit2 (rl x 0) (h2 x (List.mem_cons_self ..))) n hn
      · exact h1 x (List.mem_cons_self ..) n hn
    · exact enc_by l (fun y hy => h1 y (List.mem_cons_of_mem _ hy)) (fun y hy => h2 y (List.mem_cons_of_mem _ hy)) n hn
theorem tot_mem : ∀ (l : List E), ∀ y ∈ l, (rl y 0).length ≤ tot l
  | [], y, hy => by cases hy
  | x :: l, y, hy => by
    have e : tot (x :: l) = (rl x 0).length + tot l := by simp [tot]
    rw [e]
    rcases List.mem_cons.1 hy with rfl | hy
    · omega
    · have := tot_mem l y hy
      omega
theorem enc_ok (l : List E) (k : Nat) (h1 : ∀ y ∈ l, ∀ n ∈ rl y 0, 0 ≤ n ∧ n ≤ 255) (h2 : tot l ≤ 3000) (h3 : l.length ≤ 100) : okR (enc (l.drop k)) = true := by
  have ht : tot (l.drop k) ≤ tot l := by
    have := tot_app (l.take k) (l.drop k)
    rw [List.take_append_drop] at this
    omega
  have hl := enc_len (l.drop k)
  have hd : (l.drop k).length ≤ l.length := by rw [List.length_drop]; omega
  unfold okR byB shB
  rw [decide_eq_true (enc_by (l.drop k) (fun y hy => h1 y (List.mem_of_mem_drop hy)) (fun y hy => by have := tot_mem _ y hy; omega)), decide_eq_true (by omega)]
  rfl
structure X1 where
  i : Int
  n : Int
def l1Q (l : List E) (a : List Int) (y : X1) : Prop := 0 ≤ y.i ∧ y.i ≤ l.length ∧ y.i ≤ 100 ∧ y.n = a.length + tot (l.take y.i.toNat) ∧ (y.i = 0 ∨ y.n ≤ 3000)
noncomputable def l1I (l : List E) (a : List Int) (y : X1) : St := stOf Try.f12.ntmps [(0, .sl none (.recs (.ints .u8 .nil) l)), (1, .sl none (.ints .u8 a)), (5, .val (.int .i64 y.n)), (6, .val (.int .i64 y.i))] [] [Any, Any]
def l1M (l : List E) (y : X1) : Nat := l.length - y.i.toNat
def l1R (st : St) : X1 := ⟨slotI st 6, slotI st 5⟩
theorem l1_step {l : List E} {a : List Int} {i n : Int} (ha : a.length ≤ 140737488355328) (h : l1Q l a ⟨i, n⟩) : stdBin .sub .i64 3000 n = 3000 - n ∧ (i < l.length → ¬ ((g l i).length : Int) > 3000 - n → i < 100 → stdBin .add .i64 n (g l i).length = n + (g l i).length ∧ l1Q l a ⟨i + 1, n + (g l i).length⟩) := by
  obtain ⟨h1, h2, h3, h4, h5⟩ := h
  simp only at h1 h2 h3 h4 h5
  have hn : 0 ≤ n ∧ n ≤ 140737488358328 := by
    rcases h5 with h5 | h5
    · subst h5
      simp [tot] at h4
      omega
    · omega
  refine ⟨by rw [b_sub, wr _ (by omega) (by omega)], fun hi hg h100 => ⟨by rw [b_add, wr _ (by omega) (by omega)], by simp only; omega, by simp only; omega, by simp only; omega, ?_, .inr (by simp only; omega)⟩⟩
  simp only
  rw [tot_next l i h1 hi, h4]
  push_cast
  omega
theorem l1_end {l : List E} {a : List Int} {i n : Int} (h : l1Q l a ⟨i, n⟩) (hx : ¬ (i < l.length ∧ i < 100)) (hl : l.length ≤ 100) (ha : a.length ≤ 3000) : a.length + tot l ≤ 3000 := by
  obtain ⟨h1, h2, h3, h4, h5⟩ := h
  simp only at h1 h2 h3 h4 h5
  have e : i.toNat = l.length := by omega
  rw [e, List.take_length] at h4
  rcases h5 with h5 | h5
  · have : l = [] := List.eq_nil_of_length_eq_zero (by omega)
    subst this
    simp [tot]
    omega
  · omega
structure X2 where
  i : Int
  b : List Int
def l2Q (l : List E) (a : List Int) (y : X2) : Prop := 0 ≤ y.i ∧ y.i ≤ l.length ∧ y.b = a ++ enc (l.take y.i.toNat)
noncomputable def l2I (l : List E) (a : List Int) (y : X2) : St := stOf Try.f12.ntmps [(0, .sl none (.recs (.ints .u8 .nil) l)), (1, .sl none (.ints .u8 a)), (7, .sl none (.ints .u8 y.b)), (8, .val (.int .i64 y.i))] [] [Any, Any]
def l2M (l : List E) (y : X2) : Nat := l.length - y.i.toNat
def l2R (st : St) : X2 := ⟨slotI st 8, slotL st 7⟩
theorem l2_step {l : List E} {a : List Int} {i : Int} {b : List Int} (ht : a.length + tot l ≤ 3000) (hl : l.length ≤ 100) (h : l2Q l a ⟨i, b⟩) : b.length ≤ 5000 ∧ (i < l.length → (g l i).length ≤ 3000 ∧ plE (g l i) = 0 ∧ l2Q l a ⟨i + 1, plL b (g l i)⟩) := by
  obtain ⟨h1, h2, h3⟩ := h
  simp only at h1 h2 h3
  have e1 := enc_len (l.take i.toNat)
  have e2 := tot_take l i.toNat
  have e3 : (l.take i.toNat).length ≤ l.length := by rw [List.length_take]; omega
  refine ⟨by rw [h3, List.length_append]; omega, fun hi => ?_⟩
  have hg := g_le l i h1 hi
  obtain ⟨p1, p2⟩ := pl_is b (g l i) (by omega)
  refine ⟨by omega, p2, by simp only; omega, by simp only; omega, ?_⟩
  simp only
  rw [p1, enc_next l i h1 hi, h3, List.append_assoc]
theorem l2_end {l : List E} {a : List Int} {i : Int} {b : List Int} (h : l2Q l a ⟨i, b⟩) (hi : i = l.length) : b = a ++ enc l := by
  obtain ⟨h1, h2, h3⟩ := h
  simp only at h1 h2 h3
  rw [h3, hi]
  simp
structure X3 where
  i : Int
  r : List Int
  e : Int
def l3Q (l : List E) (y : X3) : Prop := 0 ≤ y.i ∧ y.i ≤ l.length ∧ y.r = enc (l.drop y.i.toNat) ∧ y.e = 0
noncomputable def l3I (l : List E) (y : X3) : St := stOf Try.f12.ntmps [(0, .sl none (.recs (.ints .u8 .nil) l)), (11, .ptr 1 0), (12, .val (.int .i64 y.i))] [(1, .cells 66 [.sl none (.ints .u8 y.r), .val (.int .i64 y.e)])] [Any, Any]
def l3M (l : List E) (y : X3) : Nat := l.length - y.i.toNat
def l3R (st : St) : X3 := ⟨slotI st 12, valL st.heap (cellC st 11 0), valI (cellC st 11 1)⟩
theorem l3_step {l : List E} {i : Int} {r : List Int} {e : Int} (ht : tot l ≤ 3000) (h : l3Q l ⟨i, r, e⟩) : i < l.length → liL r e = g l i ∧ l3Q l ⟨i + 1, liR r e, liE r e⟩ := by
  obtain ⟨h1, h2, h3, h4⟩ := h
  simp only at h1 h2 h3 h4
  intro hi
  have hg := g_le l i h1 hi
  obtain ⟨p1, p2, p3⟩ := li_one (g l i) (enc (l.drop (i + 1).toNat)) (by omega)
  rw [← enc_drop l i h1 hi, ← h3] at p1 p2 p3
  subst h4
  exact ⟨p1, by simp only; omega, by simp only; omega, p3, p2⟩
theorem l3_end {l : List E} {i : Int} {r : List Int} {e : Int} (h : l3Q l ⟨i, r, e⟩) (hi : i = l.length) : endI r e = 0 := by
  obtain ⟨h1, h2, h3, h4⟩ := h
  simp only at h1 h2 h3 h4
  rw [h3, h4, hi]
  simp [enc, endI]
end Go.Proofs.Ytnifnfegnfaabaa.OctL
