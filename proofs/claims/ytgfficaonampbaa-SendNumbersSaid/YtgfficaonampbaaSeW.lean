/-
  senders: numbers in the window. No condition.
-/
import Derived.Test.YtgfficaonampbaaSeV
namespace Go.Proofs.Ytgfficaonampbaa.SeW
open Go Go.Proofs.Ytgfficaonampbaa.Ry Go.Proofs.Ytgfficaonampbaa.SeR Go.Proofs.Ytgfficaonampbaa.SeS Go.Proofs.Ytgfficaonampbaa.SeT Go.Proofs.Ytgfficaonampbaa.SeU Go.Proofs.Ytgfficaonampbaa.SeL Go.Proofs.Ytgfficaonampbaa.SeV

def seqs (l : List E) (b : Int) : Prop := ∃ w : Int, b ≤ w ∧ w + l.length ≤ b + 16 ∧ ∀ k : Nat, k < l.length → ri (l.getD k []) 0 = w + k
theorem seq_nil (b : Int) : seqs [] b := ⟨b, Int.le_refl _, by simp only [List.length_nil]; omega, fun k h => absurd h (by simp)⟩
theorem seq_nu {b f t : Int} {q : List E} (h0 : 0 ≤ f) (h : t ≤ 16) (hft : f ≤ t) : seqs (nuS b q f t) b := by
  refine ⟨b + f, by omega, by rw [nus_len]; omega, fun k hk => ?_⟩
  rw [nus_len] at hk
  unfold nuS nuN
  rw [List.getD_eq_getElem?_getD, List.getElem?_map, List.getElem?_range hk]
  rfl
theorem sh_nq {q : List E} (h : shQ q = true) : shQ (nq q) = true := by
  have h := of_decide_eq_true h
  refine decide_eq_true fun y hy => ?_
  obtain ⟨x, hx, rfl⟩ := List.mem_map.1 hy
  exact h x hx
theorem sh_drop {q : List E} (h : shQ q = true) (k : Nat) : shQ (q.drop k) = true := by
  have h := of_decide_eq_true h
  exact decide_eq_true fun y hy => h y (List.mem_of_mem_drop hy)
theorem sh_app {q : List E} {p : List Int} (h : shQ q = true) (hp : p.length ≤ 16384) : shQ (q ++ [[D.ints p]]) = true := by
  have h := of_decide_eq_true h
  refine decide_eq_true fun y hy => ?_
  rcases List.mem_append.1 hy with hy | hy
  · exact h y hy
  · rw [List.mem_singleton] at hy
    subst hy
    exact hp
/-- What a step leaves. -/
structure Nx (b : Int) (k : Int) (d : Int) (x : SD) (l : List E) : Prop where
  e : x.e = 0
  may : maySn x.b x.s x.q x.c = true
  y : byS x.q = true
  lo : b ≤ x.b
  hi : x.b ≤ b + 19
  len : (x.q.length : Int) = k + d - (x.b - b)
  l16 : l.length ≤ 16
  sq : seqs l x.b
theorem sn_ready {b s : Int} {q : List E} {c : Int} (hm : maySn b s q c = true) (hy : byS q = true) : Nx b q.length 0 (rdyS b s q c) (rdyN b s q c) := by
  have h2 := may_ok hm
  have hb := mb_le q
  have ht := two_ready hm hy
  have hnf : ¬ maySn b s q c = false := by rw [hm]; decide
  have e1 : (rdyS b s q c).b = b ∧ (rdyS b s q c).q.length = q.length := by
    unfold rdyS
    rw [if_neg hnf]
    split <;> exact ⟨rfl, nq_len q⟩
  have e2 : rdyN b s q c = nuS b q s (mbS q) := by
    unfold rdyN
    rw [if_neg hnf]
  have hs : s ≤ mbS q := by
    unfold mbS
    split <;> omega
  refine ⟨ht.1, ht.2.2.2.2.2.2.may, ht.2.2.2.2.2.2.y, by omega, by omega, by rw [e1.2, e1.1]; omega, by rw [e2, nus_len]; omega, ?_⟩
  rw [e2, e1.1]
  exact seq_nu (by omega) (by omega) hs
theorem sn_tick {b s : Int} {q : List E} {c : Int} (hm : maySn b s q c = true) (hy : byS q = true) : Nx b q.length 0 (tkS b s q c) (tkN b s q c) := by
  have h2 := may_ok hm
  have ht := two_tick (b := b) (s := s) (q := q) (c := c) (b' := b) (s' := s) (q' := q) (c' := c) ⟨hm, hm, rfl, rfl, rfl, rfl, hy, hy⟩
  have hnf : ¬ maySn b s q c = false := by rw [hm]; decide
  have e1 : (tkS b s q c).b = b ∧ (tkS b s q c).q.length = q.length := by
    unfold tkS
    rw [if_neg hnf]
    repeat' split
    all_goals exact ⟨rfl, nq_len q⟩
  have e2 : (tkN b s q c).length ≤ 16 ∧ seqs (tkN b s q c) b := by
    unfold tkN
    rw [if_neg hnf]
    repeat' split
    · exact ⟨by simp, seq_nil b⟩
    · exact ⟨by simp, seq_nil b⟩
    · exact ⟨by rw [nus_len]; omega, seq_nu (Int.le_refl 0) (by omega) (by omega)⟩
  exact ⟨ht.1, ht.2.2.2.2.2.may, ht.2.2.2.2.2.y, by omega, by omega, by rw [e1.2, e1.1]; omega, e2.1, by rw [e1.1]; exact e2.2⟩
theorem sn_push {b s : Int} {q : List E} {c : Int} (hm : maySn b s q c = true) (hy : byS q = true) (hb : b ≤ 2000000) : (q.length < 256 → Nx b q.length 1 (pushS b s q c [1] 2147483647) []) ∧ (¬ q.length < 256 → (pushS b s q c [1] 2147483647).e = 2) := by
  have h2 := may_ok hm
  have hs : shQ q = true := by
    simp only [maySn, Bool.and_eq_true] at hm
    exact hm.1
  refine ⟨fun h => ?_, fun h => ?_⟩
  · have e : pushS b s q c [1] 2147483647 = ⟨b, s, nq q ++ [[D.ints [1]]], c, 0⟩ := by
      unfold pushS
      rw [if_neg (by rw [hm]; simp), if_neg (by simp), if_neg (by omega), if_neg (by omega)]
    rw [e]
    have hl : (nq q ++ [[D.ints [1]]]).length = q.length + 1 := by rw [List.length_append, nq_len]; rfl
    refine ⟨rfl, ?_, by_app (by rw [nq_len]; omega) (by_nq hy) (by decide), Int.le_refl _, by simp only; omega, by simp only; rw [hl]; omega, by simp, seq_nil _⟩
    simp only [maySn, Bool.and_eq_true, decide_eq_true_eq]
    refine ⟨sh_app (sh_nq hs) (by decide), ?_⟩
    rw [hl]
    omega
  · unfold pushS
    rw [if_neg (by rw [hm]; simp), if_neg (by simp), if_pos (by omega)]
    rfl
theorem sn_ack {b s : Int} {q : List E} {c k : Int} (hm : maySn b s q c = true) (hy : byS q = true) (hb : b ≤ 2000000) (hk : b ≤ k ∧ k ≤ b + 19) : Nx b q.length 0 (ackS b s q c k) [] := by
  have h2 := may_ok hm
  have hs : shQ q = true := by
    simp only [maySn, Bool.and_eq_true] at hm
    exact hm.1
  have ha := (ack_same (k := k) hy).1 hm
  have e : (b < k ∧ k ≤ b + s → ackS b s q c k = ⟨k, s - (k - b), nq (q.drop (k - b).toNat), if s - (k - b) = 0 then 0 else 4, 0⟩) ∧ (¬ (b < k ∧ k ≤ b + s) → ackS b s q c k = ⟨b, s, nq q, c, 0⟩) := by
    unfold ackS
    rw [if_neg (by rw [hm]; decide)]
    exact ⟨fun h => if_pos h, fun h => if_neg h⟩
  by_cases g : b < k ∧ k ≤ b + s
  · have hy' := ha.2.2.1
    rw [e.1 g] at hy' ⊢
    have hl : (nq (q.drop (k - b).toNat)).length = q.length - (k - b).toNat := by rw [nq_len, List.length_drop]
    refine ⟨rfl, ?_, hy', by simp only; omega, by simp only; omega, by simp only; rw [hl]; omega, by simp, seq_nil _⟩
    simp only [maySn, Bool.and_eq_true, decide_eq_true_eq]
    refine ⟨sh_nq (sh_drop hs _), ?_⟩
    rw [hl]
    split <;> omega
  · have hy' := ha.2.2.1
    rw [e.2 g] at hy' ⊢
    refine ⟨rfl, ?_, hy', Int.le_refl _, by simp only; omega, by simp only; rw [nq_len]; omega, by simp, seq_nil _⟩
    rw [← hm]
    exact may_pq (pq_nq q)
theorem sn_full {b s : Int} {q : List E} {c : Int} (hm : maySn b s q c = true) (hy : byS q = true) : Nx b q.length 0 ⟨b, s, q, c, 0⟩ [] := ⟨rfl, hm, hy, Int.le_refl _, by simp only; omega, by simp only; omega, by simp, seq_nil _⟩
theorem nx_out {b k d : Int} {x : SD} {l : List E} (h : Nx b k d x l) : x.e = 0 ∧ b ≤ x.b ∧ x.b ≤ b + 19 ∧ (x.q.length : Int) = k + d - (x.b - b) ∧ l.length ≤ 16 ∧ x.q.length ≤ 256 := ⟨h.e, h.lo, h.hi, h.len, h.l16, (may_ok h.may).2.1⟩
theorem ack_in (b a : Int) (h0 : 0 ≤ b) (hb : b ≤ 2000000) (ha : ¬ a < 0) : b ≤ stdBin .add .i64 b (stdBin .rem .i64 a 20) ∧ stdBin .add .i64 b (stdBin .rem .i64 a 20) ≤ b + 19 := by
  rw [b_rem, Int.tmod_eq_emod_of_nonneg (by omega), b_add, wr _ (by omega) (by omega)]
  omega
structure XO where
  i : Int
  f : Int
  b : Int
  s : Int
  q : List E
  c : Int
def soQ (a : List Int) (y : XO) : Prop := 0 ≤ y.i ∧ y.i ≤ a.length ∧ y.i ≤ 60 ∧ maySn y.b y.s y.q y.c = true ∧ byS y.q = true ∧ y.f = y.q.length ∧ y.b ≤ 1000000 + 20 * y.i
def soM (y : XO) : Nat := (60 - y.i).toNat
structure XJ where
  k : Int
def skQ (l : List E) (y : XJ) : Prop := 0 ≤ y.k ∧ y.k ≤ l.length
def skM (l : List E) (y : XJ) : Nat := l.length - y.k.toNat
theorem sk_zero (l : List E) : skQ l ⟨0⟩ := ⟨Int.le_refl 0, Int.natCast_nonneg _⟩
theorem sk_step {b m d : Int} {x : SD} {l : List E} (hn : Nx b m d x l) (h0 : 0 ≤ b) (hb : b ≤ 2000000) {k : Int} (hq : skQ l ⟨k⟩) (h : k < l.length) :
    (k > 0 → stdBin .sub .i64 k 1 = k - 1 ∧ stdBin .add .i64 (ri (l.getD (k - 1).toNat []) 0) 1 = ri (l.getD k.toNat []) 0) ∧ x.b ≤ ri (l.getD k.toNat []) 0 ∧ ri (l.getD k.toNat []) 0 < x.b + 16 ∧ stdBin .add .i64 x.b 16 = x.b + 16 ∧ stdBin .add .i64 k 1 = k + 1 := by
  obtain ⟨k0, k1⟩ := hq
  simp only at k0 k1
  obtain ⟨w, w1, w2, w3⟩ := hn.sq
  have hl := hn.l16
  have h1 := hn.lo
  have h2 := hn.hi
  have e := w3 k.toNat (by omega)
  refine ⟨fun g => ?_, by rw [e]; omega, by rw [e]; omega, by rw [b_add, wr _ (by omega) (by omega)], by rw [b_add, wr _ (by omega) (by omega)]⟩
  have e2 := w3 (k - 1).toNat (by omega)
  refine ⟨by rw [b_sub, wr _ (by omega) (by omega)], ?_⟩
  rw [e, e2, b_add, wr _ (by omega) (by omega)]
  omega
theorem sk_go {b m d : Int} {x : SD} {l : List E} (hn : Nx b m d x l) (h0 : 0 ≤ b) (hb : b ≤ 2000000) {k : Int} (hq : skQ l ⟨k⟩) (h : stdCmp .lss k (l.length : Int) = true) :
    (stdCmp .gtr k 0 = true → stdCmp .geq (stdBin .sub .i64 k 1) 0 = true ∧ stdCmp .lss (stdBin .sub .i64 k 1) (l.length : Int) = true) ∧ stdCmp .geq k 0 = true ∧
    (if stdCmp .gtr k 0 = true then stdCmp .neq (ri (l.getD k.toNat []) 0) (stdBin .add .i64 (ri (l.getD (stdBin .sub .i64 k 1).toNat []) 0) 1) else false) = false ∧ stdCmp .lss (ri (l.getD k.toNat []) 0) x.b = false ∧ stdCmp .geq (ri (l.getD k.toNat []) 0) (stdBin .add .i64 x.b 16) = false ∧
    skQ l ⟨stdBin .add .i64 k 1⟩ ∧ skM l ⟨stdBin .add .i64 k 1⟩ < skM l ⟨k⟩ := by
  simp only [stdCmp, decide_eq_true_eq] at h
  obtain ⟨s1, s2, s3, s4, s5⟩ := sk_step hn h0 hb hq h
  obtain ⟨k0, k1⟩ := hq
  simp only at k0 k1
  rw [s4, s5]
  refine ⟨fun g => ?_, decide_eq_true k0, ?_, decide_eq_false (by omega), decide_eq_false (by omega), ⟨by simp only; omega, by simp only; omega⟩, by simp only [skM]; omega⟩
  · simp only [stdCmp, decide_eq_true_eq] at g ⊢
    rw [(s1 g).1]
    omega
  · by_cases g : k > 0
    · rw [if_pos (show stdCmp .gtr k 0 = true from decide_eq_true g), (s1 g).1, (s1 g).2]
      simp [stdCmp]
    · rw [if_neg (by simp only [stdCmp, decide_eq_true_eq]; exact g)]
theorem so_next {a : List Int} {i f b s : Int} {q : List E} {c : Int} (hq : soQ a ⟨i, f, b, s, q, c⟩) {d : Int} {x : SD} {l : List E} (hn : Nx b q.length d x l) (h : i < a.length) (h60 : i < 60) : soQ a ⟨i + 1, x.q.length, x.b, x.s, x.q, x.c⟩ := by
  obtain ⟨h0, h1, h2, h3, h4, h5, h6⟩ := hq
  simp only at h0 h1 h2 h6
  have := hn.hi
  exact ⟨by simp only; omega, by simp only; omega, by simp only; omega, hn.may, hn.y, rfl, by simp only; omega⟩

structure Ws where
  w : Vs
def Ws.std : Ws := ⟨Vs.std⟩
end Go.Proofs.Ytgfficaonampbaa.SeW
