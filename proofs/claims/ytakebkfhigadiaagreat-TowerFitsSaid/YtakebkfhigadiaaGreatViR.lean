
/-
  views over the reckoner: what they may be, what is searched in them. No condition.
-/
import Derived.Test.YtakebkfhigadiaaGreatRyZ
import Derived.Test.YtakebkfhigadiaaGreatRyM
import Derived.Test.YtakebkfhigadiaaGreatCmp
namespace Go.Proofs.YtakebkfhigadiaaGreat.ViR
open Go Go.Proofs.YtakebkfhigadiaaGreat.Ry Go.Proofs.YtakebkfhigadiaaGreat.Cmp

def nodB (n : Int) : Bool := decide (1 ≤ n ∧ n ≤ 64)
theorem at_list (l : List Int) (j : Nat) (h : j < l.length) : l.getD j 0 = l[j] := by rw [List.getD_eq_getElem?_getD, List.getElem?_eq_getElem h]; rfl
theorem at_rec (l : List E) (j : Nat) (h : j < l.length) : l.getD j [] = l[j] := by rw [List.getD_eq_getElem?_getD, List.getElem?_eq_getElem h]; rfl
theorem take_next (l : List E) (i : Int) (h0 : 0 ≤ i) (h : i < l.length) : l.take (i + 1).toNat = l.take i.toNat ++ [l.getD i.toNat []] := by
  have e : (i + 1).toNat = i.toNat + 1 := by omega
  have hi : i.toNat < l.length := by omega
  rw [e, List.take_add_one, List.getD_eq_getElem?_getD, List.getElem?_eq_getElem hi]
  rfl
theorem pl_mem {q : List E} {i : Int} (h0 : 0 ≤ i) (h : i < q.length) : q.getD i.toNat [] ∈ q := by
  have hi : i.toNat < q.length := by omega
  rw [at_rec q _ hi]
  exact List.getElem_mem hi
structure XI where
  i : Int
/-- A loop that asks the same of all. -/
def allQ (n : Nat) (p : Nat → Bool) (y : XI) : Prop := 0 ≤ y.i ∧ y.i ≤ n ∧ ∀ j : Nat, j < y.i → p j = true
def allM (n : Nat) (y : XI) : Nat := n - y.i.toNat
def allL (n : Nat) (p : Nat → Bool) : Bool := (List.range n).all p
theorem all_zero (n : Nat) (p : Nat → Bool) : allQ n p ⟨0⟩ := ⟨Int.le_refl 0, Int.natCast_nonneg _, fun j hj => by simp only at hj; omega⟩
theorem all_step {n : Nat} {p : Nat → Bool} (hn : n ≤ 1000000) {i : Int} (hq : allQ n p ⟨i⟩) (h : i < n) : allM n ⟨i + 1⟩ < allM n ⟨i⟩ ∧ (p i.toNat = true → allQ n p ⟨i + 1⟩) ∧ (p i.toNat = false → allL n p = false) := by
  obtain ⟨h0, h1, h2⟩ := hq
  simp only at h0 h1 h2
  refine ⟨by simp only [allM]; omega, fun g => ⟨by simp only; omega, by simp only; omega, fun j hj => ?_⟩, fun g => ?_⟩
  · simp only at hj
    by_cases e : j = i.toNat
    · rw [e]
      exact g
    · exact h2 j (by omega)
  · unfold allL
    rw [← Bool.not_eq_true, List.all_eq_true]
    intro w
    rw [w i.toNat (List.mem_range.2 (by omega))] at g
    cases g
theorem all_num {n : Nat} {p : Nat → Bool} (hn : n ≤ 1000000) {i : Int} (hq : allQ n p ⟨i⟩) : stdBin .add .i64 i 1 = i + 1 ∧ stdBin .sub .i64 i 1 = i - 1 := by
  obtain ⟨h0, h1, _⟩ := hq
  simp only at h0 h1
  exact ⟨by rw [b_add, wr _ (by omega) (by omega)], by rw [b_sub, wr _ (by omega) (by omega)]⟩
theorem all_end {n : Nat} {p : Nat → Bool} {i : Int} (hq : allQ n p ⟨i⟩) (h : ¬ i < n) : allL n p = true := by
  obtain ⟨h0, h1, h2⟩ := hq
  simp only at h0 h1 h2
  unfold allL
  rw [List.all_eq_true]
  intro j hj
  exact h2 j (by have := List.mem_range.1 hj; omega)
theorem all_iff {n : Nat} {p : Nat → Bool} : allL n p = true ↔ ∀ j, j < n → p j = true := by
  unfold allL
  rw [List.all_eq_true]
  exact ⟨fun h j hj => h j (List.mem_range.2 hj), fun h j hj => h j (List.mem_range.1 hj)⟩
/-- cmp.Or. -/
def orR (st : St) : XI := ⟨slotI st 8⟩
def orQ (l : List Int) (y : XI) : Prop := 0 ≤ y.i ∧ y.i ≤ l.length ∧ orF (l.drop y.i.toNat) = orF l
def orM (l : List Int) (y : XI) : Nat := l.length - y.i.toNat
noncomputable def orI (A : Ar) (l : List Int) (y : XI) : St := stOf Tryz.f198.ntmps [(3, .num .i64 0), (6, .sl none (.ints .i64 l)), (7, .val (.int .i64 (A.lenI l))), (8, .val (.int .i64 y.i))] [] [Any]
theorem or_step (l : List Int) (i : Int) (hq : orQ l ⟨i⟩) (h : i < l.length) (hl : l.length ≤ 1000000) : stdBin .add .i64 i 1 = i + 1 ∧ (l.getD i.toNat 0 = 0 → orQ l ⟨i + 1⟩) ∧ (¬ l.getD i.toNat 0 = 0 → orF l = l.getD i.toNat 0) := by
  obtain ⟨h0, h1, h2⟩ := hq
  simp only at h0 h1 h2
  have hi : i.toNat < l.length := by omega
  have e2 : (i + 1).toNat = i.toNat + 1 := by omega
  rw [List.drop_eq_getElem_cons hi] at h2
  rw [at_list l _ hi]
  refine ⟨by rw [b_add, wr _ (by omega) (by omega)], fun g => ⟨by simp only; omega, by simp only; omega, ?_⟩, fun g => ?_⟩
  · simp only
    rw [e2, ← h2]
    rw [g]
    simp [orF]
  · rw [← h2]
    simp [orF, g]
theorem or_end (l : List Int) (i : Int) (hq : orQ l ⟨i⟩) (h : ¬ i < l.length) : orF l = 0 := by
  obtain ⟨h0, h1, h2⟩ := hq
  simp only at h0 h1 h2
  rw [← h2, List.drop_eq_nil_of_le (by omega)]
  rfl
/-- The search by halves: f tells what is ahead of what is looked for. -/
def hf (i j : Int) : Int := (i + j) / 2
def bsN (f : Int → Bool) : Nat → Int → Int → Int
  | 0, i, _ => i
  | k + 1, i, j => if i < j then (if f (hf i j) = true then bsN f k (hf i j + 1) j else bsN f k i (hf i j)) else i
theorem bs_more (f : Int → Bool) : ∀ (k m : Nat) (i j : Int), j - i ≤ k → j - i ≤ m → bsN f k i j = bsN f m i j
  | 0, 0, _, _, _, _ => rfl
  | 0, m + 1, i, j, h, _ => by
    unfold bsN
    rw [if_neg (by omega)]
  | k + 1, 0, i, j, _, h => by
    conv => rhs; unfold bsN
    unfold bsN
    rw [if_neg (by omega)]
  | k + 1, m + 1, i, j, h, g => by
    unfold bsN
    by_cases c : i < j
    · rw [if_pos c, if_pos c]
      unfold hf
      split
      · exact bs_more f k m _ _ (by omega) (by omega)
      · exact bs_more f k m _ _ (by omega) (by omega)
    · rw [if_neg c, if_neg c]
def bsI (f : Int → Bool) (n : Nat) : Int := bsN f n 0 n
structure XJ where
  i : Int
  j : Int
def bsQ (f : Int → Bool) (n : Nat) (y : XJ) : Prop := 0 ≤ y.i ∧ y.i ≤ y.j ∧ y.j ≤ n ∧ bsN f n y.i y.j = bsI f n
def bsM (y : XJ) : Nat := (y.j - y.i).toNat
theorem bs_zero (f : Int → Bool) (n : Nat) : bsQ f n ⟨0, n⟩ := ⟨Int.le_refl 0, Int.natCast_nonneg _, Int.le_refl _, rfl⟩
theorem hf_eq (i j : Int) (h0 : 0 ≤ i) (h1 : i ≤ j) (h2 : j ≤ 1000000) : IntKind.i64.wrap (stdBin .shr .u64 (IntKind.u64.wrap (stdBin .add .i64 i j)) 1) = hf i j := by
  rw [b_add, wr (i + j) (by omega) (by omega)]
  have e : IntKind.u64.wrap (i + j) = i + j := IntWalk.u64_in _ (by omega)
  rw [e]
  have e2 : stdBin .shr .u64 (i + j) 1 = (i + j) / 2 := by
    show (i + j).fdiv (2 ^ (min (1 : Int).toNat IntKind.u64.bits)) = _
    rw [show min (1 : Int).toNat IntKind.u64.bits = 1 by decide]
    exact Int.fdiv_eq_ediv_of_nonneg _ (by omega)
  rw [e2, wr _ (by omega) (by omega)]
  rfl
theorem bs_step {f : Int → Bool} {n : Nat} (hn : n ≤ 1000000) {i j : Int} (hq : bsQ f n ⟨i, j⟩) (h : i < j) : IntKind.i64.wrap (stdBin .shr .u64 (IntKind.u64.wrap (stdBin .add .i64 i j)) 1) = hf i j ∧ 0 ≤ hf i j ∧ hf i j < n ∧ stdBin .add .i64 (hf i j) 1 = hf i j + 1 ∧
    (f (hf i j) = true → bsQ f n ⟨hf i j + 1, j⟩ ∧ bsM ⟨hf i j + 1, j⟩ < bsM ⟨i, j⟩) ∧ (f (hf i j) = false → bsQ f n ⟨i, hf i j⟩ ∧ bsM ⟨i, hf i j⟩ < bsM ⟨i, j⟩) := by
  obtain ⟨h0, h1, h2, h3⟩ := hq
  simp only at h0 h1 h2 h3
  have e := hf_eq i j h0 h1 (by omega)
  have hb : i ≤ hf i j ∧ hf i j < j := by unfold hf; omega
  have hs : bsN f n i j = if f (hf i j) = true then bsN f n (hf i j + 1) j else bsN f n i (hf i j) := by
    cases n with
    | zero => omega
    | succ n =>
      rw [bs_more f (n + 1) (n + 1 + 1) i j (by omega) (by omega)]
      conv => lhs; unfold bsN
      rw [if_pos h]
  rw [h3] at hs
  refine ⟨e, by omega, by omega, by rw [b_add, wr _ (by omega) (by omega)], fun g => ⟨⟨by simp only; omega, by simp only; omega, h2, ?_⟩, by simp only [bsM]; omega⟩, fun g => ⟨⟨h0, by simp only; omega, by simp only; omega, ?_⟩, by simp only [bsM]; omega⟩⟩
  · rw [if_pos g] at hs
    exact hs.symm
  · rw [if_neg (by rw [g]; decide)] at hs
    exact hs.symm
theorem bs_end {f : Int → Bool} {n : Nat} {i j : Int} (hq : bsQ f n ⟨i, j⟩) (h : ¬ i < j) : i = bsI f n ∧ 0 ≤ i ∧ i ≤ n := by
  obtain ⟨h0, h1, h2, h3⟩ := hq
  simp only at h0 h1 h2 h3
  refine ⟨?_, h0, by omega⟩
  rw [← h3]
  cases n with
  | zero => rfl
  | succ n =>
    unfold bsN
    rw [if_neg h]
theorem bs_spec (f : Int → Bool) (n : Nat) : ∀ (k : Nat) (i j : Int), 0 ≤ i → i ≤ j → j ≤ n → j - i ≤ k → (∀ x : Int, 0 ≤ x → x < i → f x = true) → (∀ x : Int, j ≤ x → x < n → f x = false) → (∀ x y : Int, 0 ≤ x → x ≤ y → y < n → f y = true → f x = true) →
    0 ≤ bsN f k i j ∧ bsN f k i j ≤ n ∧ (∀ x : Int, 0 ≤ x → x < bsN f k i j → f x = true) ∧ (∀ x : Int, bsN f k i j ≤ x → x < n → f x = false)
  | 0, i, j, h0, h1, h2, h3, h4, h5, _ => by
    have e : i = j := by omega
    unfold bsN
    exact ⟨h0, by omega, h4, by rw [e]; exact h5⟩
  | k + 1, i, j, h0, h1, h2, h3, h4, h5, hm => by
    unfold bsN
    by_cases c : i < j
    · rw [if_pos c]
      have hb : i ≤ hf i j ∧ hf i j < j := by unfold hf; omega
      split
      · rename_i g
        refine bs_spec f n k _ _ (by omega) (by omega) h2 (by omega) (fun x x0 x1 => hm x (hf i j) x0 (by omega) (by omega) g) h5 hm
      · rename_i g
        refine bs_spec f n k _ _ h0 (by omega) (by omega) (by omega) h4 (fun x x0 x1 => ?_) hm
        rw [← Bool.not_eq_true]
        exact fun w => g (hm (hf i j) x (by omega) x0 x1 w)
    · rw [if_neg c]
      have e : i = j := by omega
      exact ⟨h0, by omega, h4, by rw [e]; exact h5⟩
/-- The search in numbers. -/
def ltL (l : List Int) (t : Int) (x : Int) : Bool := decide (l.getD x.toNat 0 < t)
def bsL (l : List Int) (t : Int) : Int := bsI (ltL l t) l.length
def bsB (l : List Int) (t : Int) : Bool := decide (bsL l t < l.length ∧ l.getD (bsL l t).toNat 0 = t)
noncomputable def bsS (A : Ar) (l : List Int) (t : Int) (y : XJ) : St := stOf Tryz.f223.ntmps [(0, .sl none (.ints .i64 l)), (1, .val (.int .i64 t)), (6, .val (.int .i64 (A.lenI l))), (7, .val (.int .i64 y.i)), (8, .val (.int .i64 y.j))] [] [Any, Any]
def bsR (st : St) : XJ := ⟨slotI st 7, slotI st 8⟩
theorem bsL_bd (l : List Int) (t : Int) : bsQ (ltL l t) l.length ⟨0, l.length⟩ := bs_zero _ _
/-- The order of links. -/
def kcm (n p n' p' : Int) : Int := if n = n' then sgn p p' else sgn n n'
theorem kcm_or (n p n' p' : Int) : orF [sgn n n', sgn p p'] = kcm n p n' p' := by
  unfold kcm
  by_cases h : n = n'
  · rw [if_pos h, sgn_eq h]
    simp only [orF, if_true]
    split <;> simp_all
  · rw [if_neg h]
    have : ¬ sgn n n' = 0 := by
      unfold sgn
      split <;> (try split) <;> omega
    simp only [orF, if_neg this]
theorem kcm_lt (n p n' p' : Int) : kcm n p n' p' < 0 ↔ n < n' ∨ n = n' ∧ p < p' := by
  unfold kcm sgn
  split <;> split <;> (try split) <;> omega
theorem kcm_0 (n p n' p' : Int) : kcm n p n' p' = 0 ↔ n = n' ∧ p = p' := by
  unfold kcm sgn
  split <;> split <;> (try split) <;> omega
def ltK (l : List E) (n p : Int) (x : Int) : Bool := decide (kcm (ri (l.getD x.toNat []) 0) (ri (l.getD x.toNat []) 1) n p < 0)
def bkL (l : List E) (n p : Int) : Int := bsI (ltK l n p) l.length
def bkB (l : List E) (n p : Int) : Bool := decide (bkL l n p < l.length ∧ kcm (ri (l.getD (bkL l n p).toNat []) 0) (ri (l.getD (bkL l n p).toNat []) 1) n p = 0)
def mbB (n p w s : Int) : Bool := decide (nodB n = true ∧ nodB p = true ∧ n ≠ p ∧ 0 ≤ w ∧ w ≤ 2147483647 ∧ 1 ≤ s ∧ s ≤ 2147483647)
def okN (n : List Int) (i : Nat) : Bool := decide (nodB (n.getD i 0) = true ∧ (0 < i → n.getD (i - 1) 0 < n.getD i 0))
def riseN (n : List Int) : Bool := allL n.length (okN n)
def mb1 (y : E) : Bool := mbB (ri y 0) (ri y 1) (ri y 2) (ri y 3)
def okL (n : List Int) (l : List E) (i : Nat) : Bool := decide (mb1 (l.getD i []) = true ∧ n.contains (ri (l.getD i []) 0) = true ∧ (0 < i → kcm (ri (l.getD (i - 1) []) 0) (ri (l.getD (i - 1) []) 1) (ri (l.getD i []) 0) (ri (l.getD i []) 1) < 0))
def mayV (n : List Int) (l : List E) : Bool := riseN n && allL l.length (okL n l)
def chV (n : List Int) (l : List E) : Int := if mayV n l = true then 0 else 1
theorem rise_iff {n : List Int} : riseN n = true ↔ ∀ i, i < n.length → nodB (n.getD i 0) = true ∧ (0 < i → n.getD (i - 1) 0 < n.getD i 0) := by
  unfold riseN
  rw [all_iff]
  unfold okN
  simp only [decide_eq_true_eq]
theorem rise_lt {n : List Int} (h : riseN n = true) : ∀ (j i : Nat), i < j → j < n.length → n.getD i 0 < n.getD j 0
  | 0, _, h1, _ => absurd h1 (Nat.not_lt_zero _)
  | j + 1, i, h1, h2 => by
    have g := (rise_iff.1 h (j + 1) h2).2 (Nat.zero_lt_succ _)
    rw [Nat.add_sub_cancel] at g
    by_cases e : i = j
    · rw [e]
      exact g
    · have := rise_lt h j i (by omega) (by omega)
      omega
/-- In numbers that rise the search finds what is there. -/
theorem bs_mem {n : List Int} (h : riseN n = true) (t : Int) : bsB n t = n.contains t := by
  have hs := bs_spec (ltL n t) n.length n.length 0 n.length (Int.le_refl 0) (Int.natCast_nonneg _) (Int.le_refl _) (by omega) (fun x x0 x1 => by omega) (fun x x0 x1 => by omega) (fun x y x0 hxy hy hf => by
    unfold ltL at *
    rw [decide_eq_true_eq] at *
    by_cases e : x = y
    · rw [e]; exact hf
    · have := rise_lt h y.toNat x.toNat (by omega) (by omega)
      omega)
  obtain ⟨s0, s1, s2, s3⟩ := hs
  have e : bsN (ltL n t) n.length 0 n.length = bsL n t := rfl
  rw [e] at s0 s1 s2 s3
  rw [Bool.eq_iff_iff, List.contains_iff_mem]
  unfold bsB
  rw [decide_eq_true_eq]
  constructor
  · rintro ⟨h1, h2⟩
    have hi : (bsL n t).toNat < n.length := by omega
    rw [at_list n _ hi] at h2
    rw [← h2]
    exact List.getElem_mem hi
  · intro hm
    obtain ⟨k, hk, hkt⟩ := List.getElem_of_mem hm
    have hk2 : n.getD k 0 = t := by rw [at_list n k hk]; exact hkt
    have k1 : bsL n t ≤ k := by
      by_cases c : bsL n t ≤ k
      · exact c
      · have := s2 k (by omega) (by omega)
        unfold ltL at this
        rw [decide_eq_true_eq, Int.toNat_natCast] at this
        omega
    have k2 : ¬ bsL n t < k := fun c => by
      have a := rise_lt h k (bsL n t).toNat (by omega) hk
      have b := s3 (bsL n t) (Int.le_refl _) (by omega)
      unfold ltL at b
      rw [decide_eq_false_iff_not] at b
      omega
    have ee : bsL n t = k := by omega
    rw [ee, Int.toNat_natCast]
    exact ⟨by omega, hk2⟩
theorem rise_node {n : List Int} (h : riseN n = true) (t : Int) (ht : n.contains t = true) : nodB t = true := by
  rw [List.contains_iff_mem] at ht
  obtain ⟨k, hk, hkt⟩ := List.getElem_of_mem ht
  have := (rise_iff.1 h k hk).1
  rw [at_list n k hk, hkt] at this
  exact this
theorem okN_i {n : List Int} {i : Int} (h0 : 0 ≤ i) (_ : i < n.length) : (okN n i.toNat = true ↔ nodB (n.getD i.toNat 0) = true ∧ (i > 0 → n.getD (i - 1).toNat 0 < n.getD i.toNat 0)) := by
  unfold okN
  rw [decide_eq_true_eq]
  have e : (i - 1).toNat = i.toNat - 1 := by omega
  rw [e]
  constructor
  · rintro ⟨a, b⟩
    exact ⟨a, fun g => b (by omega)⟩
  · rintro ⟨a, b⟩
    exact ⟨a, fun g => b (by omega)⟩
theorem okL_i {n : List Int} {l : List E} {i : Int} (h0 : 0 ≤ i) (_ : i < l.length) : (okL n l i.toNat = true ↔ mb1 (l.getD i.toNat []) = true ∧ n.contains (ri (l.getD i.toNat []) 0) = true ∧ (i > 0 → kcm (ri (l.getD (i - 1).toNat []) 0) (ri (l.getD (i - 1).toNat []) 1) (ri (l.getD i.toNat []) 0) (ri (l.getD i.toNat []) 1) < 0)) := by
  unfold okL
  rw [decide_eq_true_eq]
  have e : (i - 1).toNat = i.toNat - 1 := by omega
  rw [e]
  constructor
  · rintro ⟨a, c, b⟩
    exact ⟨a, c, fun g => b (by omega)⟩
  · rintro ⟨a, c, b⟩
    exact ⟨a, c, fun g => b (by omega)⟩
noncomputable def vc1I (A : Ar) (n : List Int) (l : List E) (y : XI) : St := stOf Tryz.f182.ntmps [(1, .ptr 1 0), (8, .sl none (.ints .i64 n)), (9, .val (.int .i64 (A.lenI n))), (10, .val (.int .i64 y.i))] [(1, .cells 36 [.sl none (.ints .i64 n), .sl none (.recs (.int .i64 (.int .i64 (.int .i64 (.int .i64 (.bool .nil))))) l)])] [Any]
def iR (k : Nat) (st : St) : XI := ⟨slotI st k⟩
noncomputable def vc2I (A : Ar) (n : List Int) (l : List E) (y : XI) : St := stOf Tryz.f182.ntmps [(1, .ptr 1 0), (34, .sl none (.recs (.int .i64 (.int .i64 (.int .i64 (.int .i64 (.bool .nil))))) l)), (35, .val (.int .i64 (A.lenE l))), (36, .val (.int .i64 y.i))] [(1, .cells 36 [.sl none (.ints .i64 n), .sl none (.recs (.int .i64 (.int .i64 (.int .i64 (.int .i64 (.bool .nil))))) l)])] [Any]
theorem in_no {l : List Int} {t : Int} {i : Int} (h0 : 0 ≤ i) (hi : i < l.length) (e : l.getD i.toNat 0 = t) : l.contains t = true := by
  rw [List.contains_iff_mem, ← e]
  have h : i.toNat < l.length := by omega
  rw [at_list l _ h]
  exact List.getElem_mem h
theorem in_end {l : List Int} {t : Int} (h : allL l.length (fun j => !decide (l.getD j 0 = t)) = true) : l.contains t = false := by
  rw [← Bool.not_eq_true, List.contains_iff_mem]
  intro hm
  obtain ⟨k, hk, hkt⟩ := List.getElem_of_mem hm
  have := all_iff.1 h k hk
  rw [at_list l k hk, hkt] at this
  simp at this

structure Vs where
  v_node : Int → Bool
  v_sgn : Int → Int → Int
  v_or : List Int → Int
  v_kcm : Int → Int → Int → Int → Int
  v_bsL : List Int → Int → Int
  v_bsB : List Int → Int → Bool
  v_mb : Int → Int → Int → Int → Bool
  v_ch : List Int → List E → Int
  v_may : List Int → List E → Bool
  v_in : List Int → Int → Bool
  v_lt : Int → Int → Bool
  v_ah : Int → Int → Int → Int → Bool
  v_okI : List Int → Bool
  v_ok : List Int → List E → Bool
def Vs.std : Vs := ⟨nodB, sgn, orF, kcm, bsL, bsB, mbB, chV, mayV, fun l t => l.contains t, fun a b => decide (a < b), fun n p n2 p2 => decide (kcm n p n2 p2 < 0), fun l => decide (l.length ≤ 1000000), fun n l => decide (n.length ≤ 1000000 ∧ l.length ≤ 1000000)⟩

def c_nan (_ : Vs) : Con := fun xs h => match xs, h with
  | [.one (.val (.int .i64 _))], [] => some ⟨True, .sa (B false), [], [Any]⟩
  | _, _ => none
set_option maxHeartbeats 4000000 in
set_option maxRecDepth 100000 in
theorem x_nan (a : Int) : Does [] Tryz.f80 [.one (.val (.int .i64 a))] [] ⟨True, .sa (B false), [], [Any]⟩ := by
  intro b gv
  have hfs := FsOk.nil
  generalize hF : Vs.std = F at hfs ⊢
  generalize hA : Ar.std = A
  generalize hL : Lp _ _ _ = L
  obtain ⟨Z, zq⟩ := z_all
  refine cd_open (lp_mono hL) zq rfl ?_
  repeat' (first
    | (refine z_open zq ?_; try dsimp only)
    | refine cd_seq zq ?_ (lp_mono hL)
    | refine cd_blk zq ?_
    | refine cd_ret ?_
    | refine cd_skip ?_
    | refine cd_exit ?_
    | refine cd_loop ?_
    | refine cd_cond rfl ?_
    | refine cd_condT rfl ?_
    | refine cd_condF rfl ?_
    | (refine Cd.mk ?_; cbv)
    | (refine Ends1.mk ?_; cbv)
    | (refine Fin1.mk ?_; cbv)
    | exact trivial
    | refine And.intro ?_ ?_
    | refine orf fun _ => ?_
    | refine ort fun _ => ?_)
  all_goals
    clear hL zq Z
    try clear hfs
    subst hA hF
    simp only [Ar.std] at *
    try (first | (simp [stdCmp]; done) | grind [stdCmp])
theorem ok_nan : ConOk Tryz.prog 80 (c_nan Vs.std) := by
  refine con_of FsOk.nil Tryz.func80 rfl rfl fun xs h p hp => ?_
  unfold c_nan at hp
  split at hp
  · cases hp
    exact ⟨lee_le rfl, fun _ _ => x_nan _⟩
  · cases hp

def c_snan (_ : Vs) : Con := fun xs h => match xs, h with
  | [.one (.val (.int .i64 _))], [] => some ⟨True, .sa (B false), [], [Any]⟩
  | _, _ => none
set_option maxHeartbeats 4000000 in
set_option maxRecDepth 100000 in
theorem x_snan (a : Int) : Does [] Tryz.f240 [.one (.val (.int .i64 a))] [] ⟨True, .sa (B false), [], [Any]⟩ := by
  intro b gv
  have hfs := FsOk.nil
  generalize hF : Vs.std = F at hfs ⊢
  generalize hA : Ar.std = A
  generalize hL : Lp _ _ _ = L
  obtain ⟨Z, zq⟩ := z_all
  refine cd_open (lp_mono hL) zq rfl ?_
  repeat' (first
    | (refine z_open zq ?_; try dsimp only)
    | refine cd_seq zq ?_ (lp_mono hL)
    | refine cd_blk zq ?_
    | refine cd_ret ?_
    | refine cd_skip ?_
    | refine cd_exit ?_
    | refine cd_loop ?_
    | refine cd_cond rfl ?_
    | refine cd_condT rfl ?_
    | refine cd_condF rfl ?_
    | (refine Cd.mk ?_; cbv)
    | (refine Ends1.mk ?_; cbv)
    | (refine Fin1.mk ?_; cbv)
    | exact trivial
    | refine And.intro ?_ ?_
    | refine orf fun _ => ?_
    | refine ort fun _ => ?_)
  all_goals
    clear hL zq Z
    try clear hfs
    subst hA hF
    simp only [Ar.std] at *
    try (first | (simp [stdCmp]; done) | grind [stdCmp])
theorem ok_snan : ConOk Tryz.prog 240 (c_snan Vs.std) := by
  refine con_of FsOk.nil Tryz.func240 rfl rfl fun xs h p hp => ?_
  unfold c_snan at hp
  split at hp
  · cases hp
    exact ⟨lee_le rfl, fun _ _ => x_snan _⟩
  · cases hp

def c_cmpi (F : Vs) : Con := fun xs h => match xs, h with
  | [.one (.val (.int .i64 a)), .one (.val (.int .i64 d))], [] => some ⟨True, .sa (I (F.v_sgn a d)), [], [Any, Any]⟩
  | _, _ => none
set_option maxHeartbeats 4000000 in
set_option maxRecDepth 100000 in
theorem x_cmpi (a : Int) (d : Int) : Does [(80, c_nan Vs.std)] Tryz.f43 [.one (.val (.int .i64 a)), .one (.val (.int .i64 d))] [] ⟨True, .sa (I (Vs.std.v_sgn a d)), [], [Any, Any]⟩ := by
  intro b gv
  have hfs := (FsOk.cons ok_nan FsOk.nil rfl)
  generalize hF : Vs.std = F at hfs ⊢
  generalize hA : Ar.std = A
  generalize hL : Lp _ _ _ = L
  obtain ⟨Z, zq⟩ := z_all
  refine cd_open (lp_mono hL) zq rfl ?_
  repeat' (first
    | (refine z_open zq ?_; try dsimp only)
    | refine cd_seq zq ?_ (lp_mono hL)
    | refine cd_blk zq ?_
    | refine cd_ret ?_
    | refine cd_skip ?_
    | refine cd_exit ?_
    | refine cd_loop ?_
    | refine cd_cond rfl ?_
    | refine cd_condT rfl ?_
    | refine cd_condF rfl ?_
    | (refine Cd.mk ?_; cbv)
    | (refine Ends1.mk ?_; cbv)
    | (refine Fin1.mk ?_; cbv)
    | exact trivial
    | refine And.intro ?_ ?_
    | refine orf fun _ => ?_
    | refine ort fun _ => ?_)
  all_goals
    clear hL zq Z
    try clear hfs
    subst hA hF
    simp only [Vs.std, Ar.std] at *
    try (grind [stdCmp, sgn])
theorem ok_cmpi : ConOk Tryz.prog 43 (c_cmpi Vs.std) := by
  refine con_of (FsOk.cons ok_nan FsOk.nil rfl) Tryz.func43 rfl rfl fun xs h p hp => ?_
  unfold c_cmpi at hp
  split at hp
  · cases hp
    exact ⟨lee_le rfl, fun _ _ => x_cmpi _ _⟩
  · cases hp

def c_less (F : Vs) : Con := fun xs h => match xs, h with
  | [.one (.val (.int .i64 a)), .one (.val (.int .i64 d))], [] => some ⟨True, .sa (B (F.v_lt a d)), [], [Any, Any]⟩
  | _, _ => none
set_option maxHeartbeats 4000000 in
set_option maxRecDepth 100000 in
theorem x_less (a : Int) (d : Int) : Does [(80, c_nan Vs.std)] Tryz.f239 [.one (.val (.int .i64 a)), .one (.val (.int .i64 d))] [] ⟨True, .sa (B (Vs.std.v_lt a d)), [], [Any, Any]⟩ := by
  intro b gv
  have hfs := (FsOk.cons ok_nan FsOk.nil rfl)
  generalize hF : Vs.std = F at hfs ⊢
  generalize hA : Ar.std = A
  generalize hL : Lp _ _ _ = L
  obtain ⟨Z, zq⟩ := z_all
  refine cd_open (lp_mono hL) zq rfl ?_
  repeat' (first
    | (refine z_open zq ?_; try dsimp only)
    | refine cd_seq zq ?_ (lp_mono hL)
    | refine cd_blk zq ?_
    | refine cd_ret ?_
    | refine cd_skip ?_
    | refine cd_exit ?_
    | refine cd_loop ?_
    | refine cd_cond rfl ?_
    | refine cd_condT rfl ?_
    | refine cd_condF rfl ?_
    | (refine Cd.mk ?_; cbv)
    | (refine Ends1.mk ?_; cbv)
    | (refine Fin1.mk ?_; cbv)
    | exact trivial
    | refine And.intro ?_ ?_
    | refine orf fun _ => ?_
    | refine ort fun _ => ?_)
  all_goals
    clear hL zq Z
    try clear hfs
    subst hA hF
    simp only [Vs.std, Ar.std] at *
    try (grind [stdCmp])
theorem ok_less : ConOk Tryz.prog 239 (c_less Vs.std) := by
  refine con_of (FsOk.cons ok_nan FsOk.nil rfl) Tryz.func239 rfl rfl fun xs h p hp => ?_
  unfold c_less at hp
  split at hp
  · cases hp
    exact ⟨lee_le rfl, fun _ _ => x_less _ _⟩
  · cases hp

def c_ori (F : Vs) : Con := fun xs h => match xs, h with
  | [.one (.sl none (.ints .i64 l))], [] => some ⟨F.v_okI l = true, .sa (I (F.v_or l)), [], [Any]⟩
  | _, _ => none
set_option maxHeartbeats 4000000 in
set_option maxRecDepth 100000 in
theorem x_ori (l : List Int) (hC : Vs.std.v_okI l = true) : Does [] Tryz.f198 [.one (.sl none (.ints .i64 l))] [] ⟨Vs.std.v_okI l = true, .sa (I (Vs.std.v_or l)), [], [Any]⟩ := by
  intro b gv
  have hk : l.length ≤ 1000000 := of_decide_eq_true (show decide (l.length ≤ 1000000) = true from hC)
  generalize hF : Vs.std = F at hC ⊢
  generalize hA : Ar.std = A
  generalize hL : Lp _ _ _ = L
  obtain ⟨Z, zq⟩ := z_all
  refine cd_open (lp_mono hL) zq rfl ?_
  repeat' (first
    | (refine z_open zq ?_; try dsimp only)
    | refine cd_seq zq ?_ (lp_mono hL)
    | refine cd_blk zq ?_
    | refine cd_ret ?_
    | refine cd_skip ?_
    | refine cd_exit ?_
    | refine cd_loop ?_
    | refine cd_cond rfl ?_
    | refine cd_condT rfl ?_
    | refine cd_condF rfl ?_
    | (refine Cd.mk ?_; cbv)
    | (refine Ends1.mk ?_; cbv)
    | (refine Fin1.mk ?_; cbv)
    | exact trivial
    | refine And.intro ?_ ?_
    | refine orf fun _ => ?_
    | refine ort fun _ => ?_)
  subst hL
  refine loop_z (cx_ok FsOk.nil) (orQ l) (orI A l) (orM l) orR ⟨0⟩ ?_ ?_ ?_
  · exact ⟨Int.le_refl 0, Int.natCast_nonneg _, rfl⟩
  · cbv
    repeat' (first | exact trivial | exact rfl | refine And.intro ?_ ?_)
  rintro ⟨i⟩ hq O hO
  have hst := fun h => or_step l i hq h hk
  have hen := or_end l i hq
  have q0 := hq.1
  have q1 := hq.2.1
  dsimp only at q0 q1
  subst hA
  generalize hA : Ar.std = A
  generalize hL : Lp _ _ _ = L
  refine cd_close zq ?_
  repeat' (first
    | (refine z_open zq ?_; try dsimp only)
    | refine cd_seq zq ?_ (lp_mono hL)
    | refine cd_blk zq ?_
    | refine cd_ret ?_
    | refine cd_skip ?_
    | refine cd_exit ?_
    | refine cd_loop ?_
    | refine cd_cond rfl ?_
    | refine cd_condT rfl ?_
    | refine cd_condF rfl ?_
    | (refine Cd.mk ?_; cbv)
    | (refine Ends1.mk ?_; cbv)
    | (refine Fin1.mk ?_; cbv)
    | exact trivial
    | refine And.intro ?_ ?_
    | refine orf fun _ => ?_
    | refine ort fun _ => ?_)
  all_goals (clear hL zq Z hq; subst hA hF hO; simp only [Vs.std, Ar.std] at * <;> grind [stdCmp, orM])
theorem ok_ori : ConOk Tryz.prog 198 (c_ori Vs.std) := by
  refine con_of FsOk.nil Tryz.func198 rfl rfl fun xs h p hp => ?_
  unfold c_ori at hp
  split at hp
  · cases hp
    exact ⟨lee_le rfl, fun hC _ => x_ori _ hC⟩
  · cases hp

def c_enode (F : Vs) : Con := fun xs h => match xs, h with
  | [.one (.val (.int .i64 n))], [] => some ⟨True, .sa (B (F.v_node n)), [], [Any]⟩
  | _, _ => none
set_option maxHeartbeats 4000000 in
set_option maxRecDepth 100000 in
theorem x_enode (n : Int) : Does [] Tryz.f108 [.one (.val (.int .i64 n))] [] ⟨True, .sa (B (Vs.std.v_node n)), [], [Any]⟩ := by
  intro b gv
  have hfs := FsOk.nil
  generalize hF : Vs.std = F at hfs ⊢
  generalize hA : Ar.std = A
  generalize hL : Lp _ _ _ = L
  obtain ⟨Z, zq⟩ := z_all
  refine cd_open (lp_mono hL) zq rfl ?_
  repeat' (first
    | (refine z_open zq ?_; try dsimp only)
    | refine cd_seq zq ?_ (lp_mono hL)
    | refine cd_blk zq ?_
    | refine cd_ret ?_
    | refine cd_skip ?_
    | refine cd_exit ?_
    | refine cd_loop ?_
    | refine cd_cond rfl ?_
    | refine cd_condT rfl ?_
    | refine cd_condF rfl ?_
    | (refine Cd.mk ?_; cbv)
    | (refine Ends1.mk ?_; cbv)
    | (refine Fin1.mk ?_; cbv)
    | exact trivial
    | refine And.intro ?_ ?_
    | refine orf fun _ => ?_
    | refine ort fun _ => ?_)
  all_goals
    clear hL zq Z
    try clear hfs
    subst hA hF
    simp only [Vs.std, Ar.std] at *
    try (grind [stdCmp, nodB])
theorem ok_enode : ConOk Tryz.prog 108 (c_enode Vs.std) := by
  refine con_of FsOk.nil Tryz.func108 rfl rfl fun xs h p hp => ?_
  unfold c_enode at hp
  split at hp
  · cases hp
    exact ⟨lee_le rfl, fun _ _ => x_enode _⟩
  · cases hp

def c_rnode (F : Vs) : Con := fun xs h => match xs, h with
  | [.one (.val (.int .i64 n))], [] => some ⟨True, .sa (B (F.v_node n)), [], [Any]⟩
  | _, _ => none
def c_bs (F : Vs) : Con := fun xs h => match xs, h with
  | [.one (.sl none (.ints .i64 l)), .one (.val (.int .i64 t))], [] => some ⟨F.v_okI l = true, .tup [I (F.v_bsL l t), B (F.v_bsB l t)], [], [Any, Any]⟩
  | _, _ => none
set_option maxHeartbeats 4000000 in
set_option maxRecDepth 100000 in
theorem x_bs (l : List Int) (t : Int) (hC : Vs.std.v_okI l = true) : Does [(239, c_less Vs.std), (240, c_snan Vs.std)] Tryz.f223 [.one (.sl none (.ints .i64 l)), .one (.val (.int .i64 t))] [] ⟨Vs.std.v_okI l = true, .tup [I (Vs.std.v_bsL l t), B (Vs.std.v_bsB l t)], [], [Any, Any]⟩ := by
  intro b gv
  have hk : l.length ≤ 1000000 := of_decide_eq_true (show decide (l.length ≤ 1000000) = true from hC)
  have hfs := (FsOk.cons ok_less (FsOk.cons ok_snan FsOk.nil rfl) rfl)
  generalize hF : Vs.std = F at hC hfs ⊢
  generalize hA : Ar.std = A
  generalize hL : Lp _ _ _ = L
  obtain ⟨Z, zq⟩ := z_all
  refine cd_open (lp_mono hL) zq rfl ?_
  repeat' (first
    | (refine z_open zq ?_; try dsimp only)
    | refine cd_seq zq ?_ (lp_mono hL)
    | refine cd_blk zq ?_
    | refine cd_ret ?_
    | refine cd_skip ?_
    | refine cd_exit ?_
    | refine cd_loop ?_
    | refine cd_cond rfl ?_
    | refine cd_condT rfl ?_
    | refine cd_condF rfl ?_
    | (refine Cd.mk ?_; cbv)
    | (refine Ends1.mk ?_; cbv)
    | (refine Fin1.mk ?_; cbv)
    | exact trivial
    | refine And.intro ?_ ?_
    | refine orf fun _ => ?_
    | refine ort fun _ => ?_)
  subst hL
  refine loop_z (cx_ok hfs) (bsQ (ltL l t) l.length) (bsS A l t) (bsM) bsR ⟨0, A.lenI l⟩ ?_ ?_ ?_
  · exact (by subst hA; exact bs_zero _ _)
  · cbv
    repeat' (first | exact trivial | exact rfl | refine And.intro ?_ ?_)
  rintro ⟨i, j⟩ hq O hO
  have hst := fun h => bs_step hk hq h
  have hen := fun h => bs_end hq h
  have q0 := hq.1
  have q1 := hq.2.1
  have q2 := hq.2.2.1
  dsimp only at q0 q1 q2
  subst hA
  generalize hA : Ar.std = A
  generalize hL : Lp _ _ _ = L
  refine cd_close zq ?_
  repeat' (first
    | (refine z_open zq ?_; try dsimp only)
    | refine cd_seq zq ?_ (lp_mono hL)
    | refine cd_blk zq ?_
    | refine cd_ret ?_
    | refine cd_skip ?_
    | refine cd_exit ?_
    | refine cd_loop ?_
    | refine cd_cond rfl ?_
    | refine cd_condT rfl ?_
    | refine cd_condF rfl ?_
    | (refine Cd.mk ?_; cbv)
    | (refine Ends1.mk ?_; cbv)
    | (refine Fin1.mk ?_; cbv)
    | exact trivial
    | refine And.intro ?_ ?_
    | refine orf fun _ => ?_
    | refine ort fun _ => ?_)
  all_goals (clear hL hfs zq Z hq; subst hA hF hO; simp only [Vs.std, Ar.std] at * <;> grind [stdCmp, bsM, ltL, bsL, bsB])
theorem ok_bs : ConOk Tryz.prog 223 (c_bs Vs.std) := by
  refine con_of (FsOk.cons ok_less (FsOk.cons ok_snan FsOk.nil rfl) rfl) Tryz.func223 rfl rfl fun xs h p hp => ?_
  unfold c_bs at hp
  split at hp
  · cases hp
    exact ⟨lee_le rfl, fun hC _ => x_bs _ _ hC⟩
  · cases hp

def c_has (F : Vs) : Con := fun xs h => match xs, h with
  | [.agg [.sl none (.ints .i64 v_n), .sl none (.recs (.int .i64 (.int .i64 (.int .i64 (.int .i64 (.bool .nil))))) _)], .one (.val (.int .i64 t))], [] => some ⟨F.v_okI v_n = true, .sa (B (F.v_bsB v_n t)), [], [Any, Any]⟩
  | _, _ => none
set_option maxHeartbeats 4000000 in
set_option maxRecDepth 100000 in
theorem x_has (v_n : List Int) (v_l : List E) (t : Int) (hC : Vs.std.v_okI v_n = true) : Does [(223, c_bs Vs.std)] Tryz.f208 [.agg [.sl none (.ints .i64 v_n), .sl none (.recs (.int .i64 (.int .i64 (.int .i64 (.int .i64 (.bool .nil))))) v_l)], .one (.val (.int .i64 t))] [] ⟨Vs.std.v_okI v_n = true, .sa (B (Vs.std.v_bsB v_n t)), [], [Any, Any]⟩ := by
  intro b gv
  have hfs := (FsOk.cons ok_bs FsOk.nil rfl)
  generalize hF : Vs.std = F at hC hfs ⊢
  generalize hA : Ar.std = A
  generalize hL : Lp _ _ _ = L
  obtain ⟨Z, zq⟩ := z_all
  refine cd_open (lp_mono hL) zq rfl ?_
  repeat' (first
    | (refine z_open zq ?_; try dsimp only)
    | refine cd_seq zq ?_ (lp_mono hL)
    | refine cd_blk zq ?_
    | refine cd_ret ?_
    | refine cd_skip ?_
    | refine cd_exit ?_
    | refine cd_loop ?_
    | refine cd_cond rfl ?_
    | refine cd_condT rfl ?_
    | refine cd_condF rfl ?_
    | (refine Cd.mk ?_; cbv)
    | (refine Ends1.mk ?_; cbv)
    | (refine Fin1.mk ?_; cbv)
    | exact trivial
    | refine And.intro ?_ ?_
    | refine orf fun _ => ?_
    | refine ort fun _ => ?_)
  all_goals
    clear hL zq Z
    try clear hfs
    subst hA hF
    simp only [Vs.std] at *
    try (grind [stdCmp])
theorem ok_has : ConOk Tryz.prog 208 (c_has Vs.std) := by
  refine con_of (FsOk.cons ok_bs FsOk.nil rfl) Tryz.func208 rfl rfl fun xs h p hp => ?_
  unfold c_has at hp
  split at hp
  · cases hp
    exact ⟨lee_le rfl, fun hC _ => x_has _ _ _ hC⟩
  · cases hp

def c_maybe (F : Vs) : Con := fun xs h => match xs, h with
  | [.agg [.val (.int .i64 k_n), .val (.int .i64 k_p), .val (.int .i64 k_w), .val (.int .i64 k_s), .val (.bool _)]], [] => some ⟨True, .sa (B (F.v_mb k_n k_p k_w k_s)), [], [Any]⟩
  | _, _ => none
set_option cbv.maxSteps 4000000 in
set_option maxHeartbeats 4000000 in
set_option maxRecDepth 100000 in
theorem x_maybe (k_n : Int) (k_p : Int) (k_w : Int) (k_s : Int) (k_m : Bool) : Does [(108, c_enode Vs.std)] Tryz.f207 [.agg [.val (.int .i64 k_n), .val (.int .i64 k_p), .val (.int .i64 k_w), .val (.int .i64 k_s), .val (.bool k_m)]] [] ⟨True, .sa (B (Vs.std.v_mb k_n k_p k_w k_s)), [], [Any]⟩ := by
  intro b gv
  have hfs := (FsOk.cons ok_enode FsOk.nil rfl)
  generalize hF : Vs.std = F at hfs ⊢
  generalize hA : Ar.std = A
  generalize hL : Lp _ _ _ = L
  obtain ⟨Z, zq⟩ := z_all
  refine cd_open (lp_mono hL) zq rfl ?_
  repeat' (first
    | (refine z_open zq ?_; try dsimp only)
    | refine cd_seq zq ?_ (lp_mono hL)
    | refine cd_blk zq ?_
    | refine cd_ret ?_
    | refine cd_skip ?_
    | refine cd_exit ?_
    | refine cd_loop ?_
    | refine cd_cond rfl ?_
    | refine cd_condT rfl ?_
    | refine cd_condF rfl ?_
    | (refine Cd.mk ?_; cbv)
    | (refine Ends1.mk ?_; cbv)
    | (refine Fin1.mk ?_; cbv)
    | exact trivial
    | refine And.intro ?_ ?_
    | refine orf fun _ => ?_
    | refine ort fun _ => ?_)
  all_goals
    clear hL zq Z
    try clear hfs
    subst hA hF
    simp only [Vs.std, Ar.std] at *
    try (grind [stdCmp, mbB])
theorem ok_maybe : ConOk Tryz.prog 207 (c_maybe Vs.std) := by
  refine con_of (FsOk.cons ok_enode FsOk.nil rfl) Tryz.func207 rfl rfl fun xs h p hp => ?_
  unfold c_maybe at hp
  split at hp
  · cases hp
    exact ⟨lee_le rfl, fun _ _ => x_maybe _ _ _ _ _⟩
  · cases hp

def c_kcmp (F : Vs) : Con := fun xs h => match xs, h with
  | [.agg [.val (.int .i64 a_n), .val (.int .i64 a_p), .val (.int .i64 _), .val (.int .i64 _), .val (.bool _)], .agg [.val (.int .i64 d_n), .val (.int .i64 d_p), .val (.int .i64 _), .val (.int .i64 _), .val (.bool _)]], [] => some ⟨True, .sa (I (F.v_kcm a_n a_p d_n d_p)), [], [Any, Any]⟩
  | _, _ => none
set_option maxHeartbeats 4000000 in
set_option maxRecDepth 100000 in
theorem x_kcmp (a_n : Int) (a_p : Int) (a_w : Int) (a_s : Int) (a_m : Bool) (d_n : Int) (d_p : Int) (d_w : Int) (d_s : Int) (d_m : Bool) : Does [(43, c_cmpi Vs.std), (198, c_ori Vs.std)] Tryz.f209 [.agg [.val (.int .i64 a_n), .val (.int .i64 a_p), .val (.int .i64 a_w), .val (.int .i64 a_s), .val (.bool a_m)], .agg [.val (.int .i64 d_n), .val (.int .i64 d_p), .val (.int .i64 d_w), .val (.int .i64 d_s), .val (.bool d_m)]] [] ⟨True, .sa (I (Vs.std.v_kcm a_n a_p d_n d_p)), [], [Any, Any]⟩ := by
  intro b gv
  have h1 := kcm_or a_n a_p d_n d_p
  have hfs := (FsOk.cons ok_cmpi (FsOk.cons ok_ori FsOk.nil rfl) rfl)
  generalize hF : Vs.std = F at hfs ⊢
  generalize hA : Ar.std = A
  generalize hL : Lp _ _ _ = L
  obtain ⟨Z, zq⟩ := z_all
  refine cd_open (lp_mono hL) zq rfl ?_
  repeat' (first
    | (refine z_open zq ?_; try dsimp only)
    | refine cd_seq zq ?_ (lp_mono hL)
    | refine cd_blk zq ?_
    | refine cd_ret ?_
    | refine cd_skip ?_
    | refine cd_exit ?_
    | refine cd_loop ?_
    | refine cd_cond rfl ?_
    | refine cd_condT rfl ?_
    | refine cd_condF rfl ?_
    | (refine Cd.mk ?_; cbv)
    | (refine Ends1.mk ?_; cbv)
    | (refine Fin1.mk ?_; cbv)
    | exact trivial
    | refine And.intro ?_ ?_
    | refine orf fun _ => ?_
    | refine ort fun _ => ?_)
  all_goals
    clear hL zq Z
    try clear hfs
    subst hA hF
    simp only [Vs.std] at *
    try (grind [stdCmp])
theorem ok_kcmp : ConOk Tryz.prog 209 (c_kcmp Vs.std) := by
  refine con_of (FsOk.cons ok_cmpi (FsOk.cons ok_ori FsOk.nil rfl) rfl) Tryz.func209 rfl rfl fun xs h p hp => ?_
  unfold c_kcmp at hp
  split at hp
  · cases hp
    exact ⟨lee_le rfl, fun _ _ => x_kcmp _ _ _ _ _ _ _ _ _ _⟩
  · cases hp

def c_ahead (F : Vs) : Con := fun xs h => match xs, h with
  | [.agg [.val (.int .i64 a_n), .val (.int .i64 a_p), .val (.int .i64 _), .val (.int .i64 _), .val (.bool _)], .agg [.val (.int .i64 d_n), .val (.int .i64 d_p), .val (.int .i64 _), .val (.int .i64 _), .val (.bool _)]], [] => some ⟨True, .sa (B (F.v_ah a_n a_p d_n d_p)), [], [Any, Any]⟩
  | _, _ => none
def c_rin (F : Vs) : Con := fun xs h => match xs, h with
  | [.one (.sl none (.ints .i64 l)), .one (.val (.int .i64 t))], [] => some ⟨F.v_okI l = true, .sa (B (F.v_in l t)), [], [Any, Any]⟩
  | _, _ => none
end Go.Proofs.YtakebkfhigadiaaGreat.ViR
