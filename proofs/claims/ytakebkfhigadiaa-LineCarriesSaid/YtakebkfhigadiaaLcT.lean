/-
  Two lines in any weather, in theory: what comes in a session is a beginning of what was pushed in it. No condition.
-/
import Derived.Test.YtakebkfhigadiaaLiR
import Derived.Test.YtakebkfhigadiaaSeL
namespace Go.Proofs.Ytakebkfhigadiaa.LcT
open Go Go.Proofs.Ytakebkfhigadiaa.Ry Go.Proofs.Ytakebkfhigadiaa.HaR Go.Proofs.Ytakebkfhigadiaa.FrR Go.Proofs.Ytakebkfhigadiaa.LiR
open Go.Proofs.Ytakebkfhigadiaa.SeR (nq nq_len maySn shQ mbS zS)
open Go.Proofs.Ytakebkfhigadiaa.SeS (pushS nuN nuS rdyS rdyN ackS mb_le)
open Go.Proofs.Ytakebkfhigadiaa.SeT (byS smS)
open Go.Proofs.Ytakebkfhigadiaa.SeV (tkS tkN)
open Go.Proofs.Ytakebkfhigadiaa.SeL (by_nq by_drop by_app)

/-! ## one line -/
theorem may_of {x : LN} (h1 : mayH x.l x.c x.p x.o = true) (h2 : maySn x.b x.s x.q x.t = true) (h3 : cntB x.n = true) (h4 : opL x = true) : mayL x = true := by
  simp [mayL, h1, h2, h3, h4]
theorem may_bg {l c p : Int} {o : Bool} (h : mayH l c p o = true) : mayL ⟨l, c, p, o, 0, 0, [], 0, 0, false⟩ = true := by
  have h2 : maySn 0 0 [] 0 = true := by decide
  have h3 : cntB 0 = true := by decide
  have h4 : smL ⟨l, c, p, o, 0, 0, [], 0, 0, false⟩ (bgL ⟨l, c, p, o, 0, 0, [], 0, 0, false⟩) = true := by
    unfold smL bgL smS
    simp
  simp only [mayL, h, h2, h3, h4, Bool.and_true, Bool.or_true]
theorem may_bg' {l c p : Int} {o : Bool} (h : mayH l c p o = true) : mayL ⟨l, c, p, o, 0, 0, [], 0, 0, false⟩ = true := may_bg h
theorem may_h {l c p : Int} {o : Bool} (h : mayH l c p o = true) : 0 ≤ l ∧ l ≤ 2147483647 ∧ ((c = l ∧ c ≠ 0 ∧ p = 0 ∧ o = false) ∨ (c = 0 ∧ l < p ∧ p ≤ 2147483647 ∧ o = false) ∨ (c = 0 ∧ p = 0 ∧ o = true)) := by
  simp only [mayH, openB, openingB, overB, Bool.and_eq_true, Bool.or_eq_true, decide_eq_true_eq, beq_iff_eq, bne_iff_ne, Bool.not_eq_true'] at h
  obtain ⟨⟨h1, h2⟩, h3⟩ := h
  refine ⟨h1, h2, ?_⟩
  rcases h3 with (h3 | h3) | h3
  · exact .inl ⟨h3.1.1.1, h3.1.1.2, h3.1.2, h3.2⟩
  · exact .inr (.inl ⟨h3.1.1.1, h3.1.1.2, h3.1.2, h3.2⟩)
  · exact .inr (.inr ⟨h3.1.1, h3.1.2, h3.2⟩)
theorem h_may {l c p : Int} {o : Bool} (h1 : 0 ≤ l) (h2 : l ≤ 2147483647) (h : (c = l ∧ c ≠ 0 ∧ p = 0 ∧ o = false) ∨ (c = 0 ∧ l < p ∧ p ≤ 2147483647 ∧ o = false) ∨ (c = 0 ∧ p = 0 ∧ o = true)) : mayH l c p o = true := by
  simp only [mayH, openB, openingB, overB, Bool.and_eq_true, Bool.or_eq_true, decide_eq_true_eq, beq_iff_eq, bne_iff_ne, Bool.not_eq_true']
  refine ⟨⟨h1, h2⟩, ?_⟩
  rcases h with ⟨a, b, c, d⟩ | ⟨a, b, c, d⟩ | ⟨a, b, c⟩
  · exact .inl (.inl ⟨⟨⟨a, b⟩, c⟩, d⟩)
  · exact .inl (.inr ⟨⟨⟨a, b⟩, c⟩, d⟩)
  · exact .inr ⟨⟨a, b⟩, c⟩
theorem sn_is {b s : Int} {q : List E} {c : Int} : maySn b s q c = true ↔ shQ q = true ∧ 0 ≤ b ∧ b ≤ 2147483647 ∧ q.length ≤ 256 ∧ 0 ≤ s ∧ s ≤ 16 ∧ s ≤ q.length ∧ 0 ≤ c ∧ c ≤ 4 ∧ (c = 0 ↔ s = 0) := by
  simp only [maySn, Bool.and_eq_true, decide_eq_true_eq]
theorem sh_nq {q : List E} (h : shQ q = true) : shQ (nq q) = true := by
  unfold shQ nq at *
  rw [decide_eq_true_eq] at *
  intro y hy
  obtain ⟨z, hz, rfl⟩ := List.mem_map.1 hy
  exact h z hz
theorem sh_drop {q : List E} (h : shQ q = true) (k : Nat) : shQ (q.drop k) = true := by
  unfold shQ at *
  rw [decide_eq_true_eq] at *
  exact fun y hy => h y (List.mem_of_mem_drop hy)
theorem shut {x : LN} (h : mayL x = true) (ho : x.c = 0) : x.b = 0 ∧ x.s = 0 ∧ x.q = [] ∧ x.t = 0 ∧ x.n = 0 ∧ x.w = false := by
  have h4 := (may_L h).2.2.2
  rcases h4 with h4 | h4
  · unfold opL at h4
    rw [ho] at h4
    cases h4
  · unfold smL at h4
    rw [Bool.and_eq_true, Bool.and_eq_true] at h4
    obtain ⟨h5, h6⟩ := of_decide_eq_true h4.1.2
    obtain ⟨h7, h8, h9, h10⟩ := of_decide_eq_true h4.2
    have h11 : x.q.map (fun y => rl y 0) = [] := h10
    exact ⟨h7, h8, List.map_eq_nil_iff.1 h11, h9, h5, h6⟩
theorem shut_bg {x : LN} (h : mayL x = true) (ho : x.c = 0) : bgL x = x := by
  obtain ⟨h1, h2, h3, h4, h5, h6⟩ := shut h ho
  obtain ⟨l, c, p, o, b, s, q, t, n, w⟩ := x
  simp only at h1 h2 h3 h4 h5 h6
  subst h1 h2 h3 h4 h5 h6
  rfl
theorem op_iff (x : LN) : (opL x = true ↔ x.c ≠ 0) ∧ (opL x = false ↔ x.c = 0) := by
  unfold opL
  simp

/-! ## what a sender keeps -/
def SnP (all : List E) (n b : Int) (q : List E) : Prop := 0 ≤ b ∧ b + q.length = n ∧ ∀ j : Nat, j < q.length → rl (q.getD j []) 0 = rl (all.getD (b.toNat + j) []) 0
theorem nq_at (q : List E) (j : Nat) : rl ((nq q).getD j []) 0 = rl (q.getD j []) 0 := by
  unfold nq
  rw [List.getD_eq_getElem?_getD, List.getD_eq_getElem?_getD, List.getElem?_map]
  cases q[j]? with
  | none => rfl
  | some y => rfl
theorem drop_at (q : List E) (k j : Nat) : (q.drop k).getD j [] = q.getD (k + j) [] := by
  rw [List.getD_eq_getElem?_getD, List.getD_eq_getElem?_getD, List.getElem?_drop]
theorem gd_1 {l k : List E} {j : Nat} (h : j < l.length) : (l ++ k).getD j [] = l.getD j [] := by
  rw [List.getD_eq_getElem?_getD, List.getD_eq_getElem?_getD, List.getElem?_append_left h]
theorem gd_2 {l : List E} {x : E} {j : Nat} (h : j = l.length) : (l ++ [x]).getD j [] = x := by
  subst h
  rw [List.getD_eq_getElem?_getD, List.getElem?_append_right (Nat.le_refl _), Nat.sub_self]
  rfl
theorem sn_drop {all : List E} {n b : Int} {q : List E} (h : SnP all n b q) {k : Int} (h0 : 0 ≤ k) (hk : k ≤ q.length) : SnP all n (b + k) (nq (q.drop k.toNat)) := by
  obtain ⟨h1, h2, h3⟩ := h
  refine ⟨by omega, by rw [nq_len, List.length_drop]; omega, fun j hj => ?_⟩
  rw [nq_len, List.length_drop] at hj
  rw [nq_at, drop_at, h3 _ (by omega)]
  congr 2
  omega
theorem sn_nq {all : List E} {n b : Int} {q : List E} (h : SnP all n b q) : SnP all n b (nq q) := by
  have := sn_drop h (k := 0) (Int.le_refl 0) (Int.natCast_nonneg _)
  simpa using this
theorem sn_push {all : List E} {n b : Int} {q : List E} (h : SnP all n b q) {p : List Int} (hp : p = rl (all.getD n.toNat []) 0) : SnP all (n + 1) b (nq q ++ [[D.ints p]]) := by
  obtain ⟨h1, h2, h3⟩ := h
  refine ⟨h1, by rw [List.length_append, nq_len, List.length_singleton]; omega, fun j hj => ?_⟩
  rw [List.length_append, nq_len, List.length_singleton] at hj
  by_cases e : j < q.length
  · rw [gd_1 (by rw [nq_len]; exact e), nq_at, h3 j e]
  · have e2 : j = q.length := by omega
    subst e2
    rw [gd_2 (nq_len q).symm]
    have : n.toNat = b.toNat + q.length := by omega
    rw [← this]
    exact hp
theorem sn_zero {all : List E} : SnP all 0 0 [] := ⟨Int.le_refl 0, rfl, fun j hj => absurd hj (Nat.not_lt_zero j)⟩
/-- What an ack leaves. -/
theorem ack_is {b s : Int} {q : List E} {c : Int} (k : Int) (hk : k ≤ 2147483647) (h : maySn b s q c = true) : ∃ (s' c' : Int) (d : Int), 0 ≤ d ∧ d ≤ q.length ∧ ackS b s q c k = ⟨b + d, s', nq (q.drop d.toNat), c', 0⟩ ∧ maySn (b + d) s' (nq (q.drop d.toNat)) c' = true := by
  have h9 := sn_is.1 h
  unfold ackS
  rw [if_neg (by rw [h]; decide)]
  split
  · rename_i g
    refine ⟨s - (k - b), if s - (k - b) = 0 then 0 else 4, k - b, by omega, by omega, by rw [show b + (k - b) = k by omega], ?_⟩
    rw [sn_is]
    refine ⟨sh_nq (sh_drop h9.1 _), by omega, by omega, by rw [nq_len, List.length_drop]; omega, by omega, by omega, by rw [nq_len, List.length_drop]; omega, by split <;> omega, by split <;> omega, by split <;> omega⟩
  · refine ⟨s, c, 0, by omega, by omega, by simp, ?_⟩
    rw [sn_is]
    refine ⟨sh_nq (sh_drop h9.1 _), by omega, by omega, by rw [nq_len, List.length_drop]; omega, by omega, by omega, by rw [nq_len, List.length_drop]; simp; omega, by omega, by omega, h9.2.2.2.2.2.2.2.2.2⟩
theorem by_ack {q : List E} (h : byS q = true) (d : Int) : byS (nq (q.drop d.toNat)) = true := by_nq (by_drop h _)
/-! ## frames -/
def FrG (all : List E) (m : List (Int × Int)) (L : Int) (f : E) : Prop :=
  mayF (ri f 0) (ri f 1) (ri f 2) (ri f 3) (rl f 4) = true ∧ (∀ x ∈ rl f 4, 0 ≤ x ∧ x ≤ 255) ∧ (ri f 0 = 3 → 1 ≤ ri f 1 ∧ ri f 1 ≤ L ∧ 0 ≤ ri f 2 ∧ ri f 2 < mget m (ri f 1) ∧ rl f 4 = rl (all.getD (ri f 2).toNat []) 0)
theorem fr_mono {all : List E} {m m' : List (Int × Int)} {L L' : Int} {f : E} (h : FrG all m L f) (hL : L ≤ L') (hm : ∀ s, mget m s ≤ mget m' s) : FrG all m' L' f :=
  ⟨h.1, h.2.1, fun e => by
    obtain ⟨a, b, c, d, e'⟩ := h.2.2 e
    have := hm (ri f 1)
    exact ⟨a, by omega, c, by omega, e'⟩⟩
theorem f_plain {all : List E} {m : List (Int × Int)} {L k s a : Int} (hk : 1 ≤ k ∧ k ≤ 5 ∧ k ≠ 3) (hs : 0 ≤ s ∧ s ≤ 2147483647) (ha : 0 ≤ a ∧ a ≤ 2147483647) : FrG all m L [.int k, .int s, .int 0, .int a, .ints []] := by
  refine ⟨?_, fun x hx => absurd hx (List.not_mem_nil), fun e => absurd e hk.2.2⟩
  simp only [ri, rl, mayF, isC, Bool.and_eq_true, Bool.or_eq_true]
  simp
  omega
theorem fr_data {all : List E} {m : List (Int × Int)} {L c n b : Int} {q : List E} (hc : 1 ≤ c ∧ c ≤ L ∧ L ≤ 2147483647) (hn : 0 ≤ n ∧ n ≤ 2147483647) (hm : mget m c ≤ 100) (h : SnP all (mget m c) b q) (hs : shQ q = true) (hb : byS q = true) {f : Int} {k : Nat} (h0 : 0 ≤ f) (hk : f + k ≤ q.length) :
    ∀ y ∈ dfL c n (nuN b q f k), FrG all m L y := by
  intro y hy
  unfold dfL nuN at hy
  rw [List.map_map] at hy
  obtain ⟨j, hj, rfl⟩ := List.mem_map.1 hy
  have hj := List.mem_range.1 hj
  obtain ⟨h1, h2, h3⟩ := h
  have hlt : (f + (j : Int)).toNat < q.length := by omega
  have e : q.getD (f + (j : Int)).toNat [] = q[(f + (j : Int)).toNat] := by rw [List.getD_eq_getElem?_getD, List.getElem?_eq_getElem hlt]; rfl
  have hmem : q.getD (f + (j : Int)).toNat [] ∈ q := by rw [e]; exact List.getElem_mem hlt
  have hsz : (rl (q.getD (f + (j : Int)).toNat []) 0).length ≤ 16384 := (of_decide_eq_true hs) _ hmem
  have hby := (of_decide_eq_true hb).2 _ hmem
  refine ⟨?_, hby, fun _ => ⟨hc.1, hc.2.1, ?_, ?_, ?_⟩⟩
  · show mayF 3 c (b + f + (j : Int)) n (rl (q.getD (f + (j : Int)).toNat []) 0) = true
    simp only [mayF, isC, Bool.and_eq_true, decide_eq_true_eq, Bool.or_eq_true]
    refine ⟨⟨⟨⟨⟨by omega, by omega⟩, by omega⟩, by omega⟩, hsz⟩, .inl trivial⟩
  · show 0 ≤ b + f + (j : Int)
    omega
  · show b + f + (j : Int) < mget m c
    omega
  · show rl (q.getD (f + (j : Int)).toNat []) 0 = rl (all.getD (b + f + (j : Int)).toNat []) 0
    rw [h3 _ hlt]
    congr 2
    omega
/-! ## what a line does: who pushes (0) and who takes (1) -/
/-- A line that pushes, by what was pushed in each session. -/
def A0 (all : List E) (m : List (Int × Int)) (x : LN) : Prop := mayL x = true ∧ byS x.q = true ∧ (x.c ≠ 0 → SnP all (mget m x.c) x.b x.q) ∧ ∀ s, x.l < s → mget m s = 0
/-- A line that takes, by what came in each session. -/
def A1 (k : List (Int × Int)) (x : LN) : Prop := mayL x = true ∧ x.q = [] ∧ (x.c ≠ 0 → x.n = mget k x.c) ∧ ∀ s, x.l < s → mget k s = 0
def MOk (all : List E) (m : List (Int × Int)) : Prop := all.length ≤ 60 ∧ ∀ s, 0 ≤ mget m s ∧ mget m s ≤ all.length
theorem h99 : limitB 99 = true := by decide
theorem hMx : limitB 2147483647 = true := by decide
/-- News that bring nothing. -/
def Nws (all : List E) (m : List (Int × Int)) (L : Int) (r : LD) : Prop := r.e = 0 ∧ r.y.g = [] ∧ r.y.f.length ≤ 20 ∧ ∀ f ∈ r.y.f, FrG all m L f
theorem nws_nil {all : List E} {m : List (Int × Int)} {L : Int} (x : LN) : Nws all m L ⟨x, zN, 0⟩ := ⟨rfl, rfl, Nat.zero_le _, fun _ hf => absurd hf List.not_mem_nil⟩
theorem op_c {x : LN} (h : mayL x = true) (hc : x.c ≠ 0) : x.c = x.l ∧ 1 ≤ x.c ∧ x.c ≤ 2147483647 ∧ x.p = 0 ∧ x.o = false := by
  obtain ⟨h1, h2, h3⟩ := may_h (may_L h).1
  rcases h3 with ⟨a, b, c, d⟩ | ⟨a, _⟩ | ⟨a, _⟩
  · exact ⟨a, by omega, by omega, c, d⟩
  · exact absurd a hc
  · exact absurd a hc
theorem n_c {x : LN} (h : mayL x = true) : 0 ≤ x.n ∧ x.n ≤ 2147483647 := by
  have := (may_L h).2.2.1
  simp only [cntB, Bool.and_eq_true, decide_eq_true_eq] at this
  exact this
/-- Time passes. -/
theorem tik_0 {all : List E} {m : List (Int × Int)} {x : LN} (hm : MOk all m) (h : A0 all m x) : A0 all m (tikL x 99).x ∧ (tikL x 99).x.l = x.l ∧ (tikL x 99).x.c = x.c ∧ Nws all m x.l (tikL x 99) := by
  obtain ⟨h1, h2, h3, h4⟩ := h
  obtain ⟨hh, hs, hn, _⟩ := may_L h1
  have hs9 := sn_is.1 hs
  unfold tikL
  rw [if_pos ⟨h1, h99⟩]
  by_cases hc : x.c = 0
  · rw [if_neg (by rw [(op_iff x).2.2 hc]; decide), shut_bg h1 hc]
    refine ⟨⟨h1, h2, h3, h4⟩, rfl, rfl, rfl, rfl, ?_, ?_⟩
    · show (if x.o = true then [] else _ : List E).length ≤ 20
      split <;> simp
    · show ∀ f ∈ (if x.o = true then [] else _ : List E), FrG all m x.l f
      split
      · exact fun f hf => absurd hf List.not_mem_nil
      · rename_i ho
        intro f hf
        rw [List.mem_singleton] at hf
        subst hf
        obtain ⟨g1, g2, g3⟩ := may_h hh
        rcases g3 with ⟨_, a, _⟩ | ⟨_, a, b, _⟩ | ⟨_, _, a⟩
        · exact absurd hc a
        · exact f_plain ⟨by decide, by decide, by decide⟩ ⟨by omega, by omega⟩ ⟨by decide, by decide⟩
        · exact absurd a ho
  · obtain ⟨c1, c2, c3, c4, c5⟩ := op_c h1 hc
    have ho := (op_iff x).1.2 hc
    have hn9 := n_c h1
    rw [if_pos ho]
    have hq := h3 hc
    have tk : ∃ s' c', tkS x.b x.s x.q x.t = ⟨x.b, s', nq x.q, c', 0⟩ ∧ maySn x.b s' (nq x.q) c' = true := by
      unfold tkS
      rw [if_neg (by rw [hs]; decide)]
      split
      · exact ⟨_, _, rfl, sn_is.2 ⟨sh_nq hs9.1, by rw [nq_len]; exact hs9.2⟩⟩
      · split
        · refine ⟨_, _, rfl, sn_is.2 ⟨sh_nq hs9.1, ?_⟩⟩
          rw [nq_len]
          omega
        · refine ⟨_, _, rfl, sn_is.2 ⟨sh_nq hs9.1, ?_⟩⟩
          rw [nq_len]
          omega
    obtain ⟨s', c', e, hv⟩ := tk
    refine ⟨⟨may_of hh ?_ hn ho, ?_, fun _ => ?_, h4⟩, rfl, rfl, rfl, rfl, ?_, ?_⟩
    · simp only [sndL, e]
      exact hv
    · simp only [sndL, e]
      exact by_nq h2
    · simp only [sndL, e]
      exact sn_nq hq
    · simp only [df_len]
      unfold tkN
      split
      · simp
      · split
        · simp
        · split
          · simp
          · unfold nuS nuN
            simp
            omega
    · show ∀ f ∈ dfL x.c x.n (tkN x.b x.s x.q x.t), FrG all m x.l f
      unfold tkN
      split
      · exact fun f hf => absurd hf List.not_mem_nil
      · split
        · exact fun f hf => absurd hf List.not_mem_nil
        · split
          · exact fun f hf => absurd hf List.not_mem_nil
          · have := (hm.2 x.c).2
            have := hm.1
            exact fr_data ⟨c2, by omega, by omega⟩ hn9 (by omega) hq hs9.1 h2 (Int.le_refl 0) (by omega)
/-- What may be sent is. -/
theorem flu_0 {all : List E} {m : List (Int × Int)} {x : LN} (hm : MOk all m) (h : A0 all m x) : A0 all m (fluL x).x ∧ (fluL x).x.l = x.l ∧ (fluL x).x.c = x.c ∧ Nws all m x.l (fluL x) := by
  obtain ⟨h1, h2, h3, h4⟩ := h
  obtain ⟨hh, hs, hn, _⟩ := may_L h1
  have hs9 := sn_is.1 hs
  unfold fluL
  rw [if_pos h1]
  by_cases hc : x.c = 0
  · rw [if_neg (by rw [(op_iff x).2.2 hc]; decide), shut_bg h1 hc]
    exact ⟨⟨h1, h2, h3, h4⟩, rfl, rfl, nws_nil x⟩
  · obtain ⟨c1, c2, c3, c4, c5⟩ := op_c h1 hc
    have ho := (op_iff x).1.2 hc
    have hn9 := n_c h1
    rw [if_pos ho]
    have hq := h3 hc
    obtain ⟨mb1, mb2, mb3⟩ := mb_le x.q
    have rd : ∃ s' c', rdyS x.b x.s x.q x.t = ⟨x.b, s', nq x.q, c', 0⟩ ∧ maySn x.b s' (nq x.q) c' = true := by
      unfold rdyS
      rw [if_neg (by rw [hs]; decide)]
      split
      · refine ⟨_, _, rfl, sn_is.2 ⟨sh_nq hs9.1, ?_⟩⟩
        rw [nq_len]
        omega
      · exact ⟨_, _, rfl, sn_is.2 ⟨sh_nq hs9.1, by rw [nq_len]; exact hs9.2⟩⟩
    obtain ⟨s', c', e, hv⟩ := rd
    have hdf : (dfL x.c x.n (rdyN x.b x.s x.q x.t)).length ≤ 16 ∧ ∀ f ∈ dfL x.c x.n (rdyN x.b x.s x.q x.t), FrG all m x.l f := by
      unfold rdyN
      rw [if_neg (by rw [hs]; decide)]
      unfold nuS
      refine ⟨?_, ?_⟩
      · rw [df_len]
        unfold nuN
        rw [List.length_map, List.length_range]
        omega
      · have := (hm.2 x.c).2
        have := hm.1
        by_cases g : x.s ≤ mbS x.q
        · exact fr_data ⟨c2, by omega, by omega⟩ hn9 (by omega) hq hs9.1 h2 hs9.2.2.2.2.1 (by omega)
        · rw [show (mbS x.q - x.s).toNat = 0 by omega]
          exact fun f hf => absurd hf List.not_mem_nil
    refine ⟨⟨may_of hh ?_ hn ho, ?_, fun _ => ?_, h4⟩, rfl, rfl, rfl, rfl, ?_, ?_⟩
    · simp only [e]
      exact hv
    · simp only [e]
      exact by_nq h2
    · simp only [e]
      exact sn_nq hq
    · show (if x.w = true then _ else _ : List E).length ≤ 20
      split
      · rw [List.length_append, List.length_singleton]
        omega
      · omega
    · show ∀ f ∈ (if x.w = true then _ else _ : List E), FrG all m x.l f
      split
      · intro f hf
        rcases List.mem_append.1 hf with hf | hf
        · exact hdf.2 f hf
        · rw [List.mem_singleton] at hf
          subst hf
          exact f_plain ⟨by decide, by decide, by decide⟩ ⟨by omega, by omega⟩ hn9
      · exact hdf.2
/-- A session ends. -/
theorem clo_0 {all : List E} {m : List (Int × Int)} {x : LN} (h : A0 all m x) : A0 all m (cloL x 99).x ∧ (cloL x 99).x.l = x.l ∧ Nws all m x.l (cloL x 99) := by
  obtain ⟨h1, h2, h3, h4⟩ := h
  obtain ⟨hh, hs, hn, _⟩ := may_L h1
  unfold cloL
  rw [if_pos ⟨h1, h99⟩]
  by_cases hc : x.c = 0
  · rw [if_neg (by rw [(op_iff x).2.2 hc]; decide), shut_bg h1 hc]
    exact ⟨⟨h1, h2, h3, h4⟩, rfl, nws_nil x⟩
  · obtain ⟨c1, c2, c3, c4, c5⟩ := op_c h1 hc
    obtain ⟨g1, g2, _⟩ := may_h hh
    rw [if_pos ((op_iff x).1.2 hc)]
    have e : ∃ p o, closeF x.l x.c x.p x.o 99 = ⟨x.l, 0, p, o, 0⟩ ∧ mayH x.l 0 p o = true := by
      unfold closeF
      rw [if_pos ⟨hh, h99⟩]
      unfold closeH
      rw [if_pos (by omega)]
      unfold newH
      split
      · exact ⟨_, _, rfl, h_may g1 g2 (.inr (.inr ⟨rfl, rfl, rfl⟩))⟩
      · exact ⟨_, _, rfl, h_may g1 g2 (.inr (.inl ⟨rfl, by omega, by omega, rfl⟩))⟩
    obtain ⟨p, o, e, hv⟩ := e
    dsimp only
    rw [e]
    exact ⟨⟨may_bg hv, rfl, fun g => absurd rfl g, h4⟩, rfl, rfl, rfl, Nat.zero_le _, fun f hf => absurd hf List.not_mem_nil⟩
/-- A payload more. -/
theorem push_0 {all : List E} {m : List (Int × Int)} {x : LN} (hm : MOk all m) (h : A0 all m x) (hc : x.c ≠ 0) (hlt : mget m x.c < all.length) (hsz : ∀ i : Nat, i < all.length → (rl (all.getD i []) 0).length ≤ 16384) (hby : ∀ i : Nat, i < all.length → ∀ y ∈ rl (all.getD i []) 0, 0 ≤ y ∧ y ≤ 255) (m' : List (Int × Int)) (hm' : ∀ s, mget m' s = if s = x.c then mget m x.c + 1 else mget m s) :
    A0 all m' (pushL x (rl (all.getD (mget m x.c).toNat []) 0) 2147483647).x ∧ (pushL x (rl (all.getD (mget m x.c).toNat []) 0) 2147483647).x.l = x.l ∧ Nws all m' x.l (pushL x (rl (all.getD (mget m x.c).toNat []) 0) 2147483647) := by
  obtain ⟨h1, h2, h3, h4⟩ := h
  obtain ⟨hh, hs, hn, _⟩ := may_L h1
  have hs9 := sn_is.1 hs
  obtain ⟨c1, c2, c3, c4, c5⟩ := op_c h1 hc
  have ho := (op_iff x).1.2 hc
  have hq := h3 hc
  have hb0 := (hm.2 x.c).1
  have ha := hm.1
  have hi : (mget m x.c).toNat < all.length := by omega
  have hp := hsz _ hi
  have hpb := hby _ hi
  have hql : x.q.length ≤ 60 := by
    have := hq.1
    have := hq.2.1
    omega
  generalize hP : rl (all.getD (mget m x.c).toNat []) 0 = p at *
  have e : pushS x.b x.s x.q x.t p 2147483647 = ⟨x.b, x.s, nq x.q ++ [[D.ints p]], x.t, 0⟩ := by
    have hn1 : ¬(maySn x.b x.s x.q x.t = false ∨ (2147483647 : Int) < 1 ∨ (2147483647 : Int) < 2147483647) := by
      rw [hs]
      decide
    have hn2 : ¬ (2147483647 : Int) ≤ x.b + x.q.length := by
      have := hq.2.1
      omega
    unfold pushS
    rw [if_neg hn1, if_neg (by omega), if_neg (by omega), if_neg hn2]
  have hv : maySn x.b x.s (nq x.q ++ [[D.ints p]]) x.t = true := by
    rw [sn_is]
    refine ⟨?_, hs9.2.1, hs9.2.2.1, ?_, hs9.2.2.2.2.1, hs9.2.2.2.2.2.1, ?_, hs9.2.2.2.2.2.2.2⟩
    · have := sh_nq hs9.1
      unfold shQ at *
      rw [decide_eq_true_eq] at *
      intro y hy
      rcases List.mem_append.1 hy with hy | hy
      · exact this y hy
      · rw [List.mem_singleton] at hy
        subst hy
        exact hp
    · rw [List.length_append, nq_len, List.length_singleton]
      omega
    · rw [List.length_append, nq_len, List.length_singleton]
      have := hs9.2.2.2.2.2.2.1
      omega
  unfold pushL
  rw [if_pos ⟨h1, hMx⟩, if_pos ho, e, if_pos rfl]
  refine ⟨⟨may_of hh hv hn ho, ?_, fun _ => ?_, fun s hs => ?_⟩, rfl, rfl, rfl, Nat.zero_le _, fun f hf => absurd hf List.not_mem_nil⟩
  · exact by_app (by rw [nq_len]; omega) (by_nq h2) hpb
  · show SnP all (mget m' x.c) x.b (nq x.q ++ [[D.ints p]])
    rw [hm', if_pos rfl]
    exact sn_push hq hP.symm
  · have hs : x.l < s := hs
    rw [hm', if_neg (by omega)]
    exact h4 s hs
theorem cp_0 {all : List E} {m : List (Int × Int)} {x : LN} (h : A0 all m x) : A0 all m (cpL x) := by
  obtain ⟨h1, h2, h3, h4⟩ := h
  obtain ⟨hh, hs, hn, _⟩ := may_L h1
  have hs9 := sn_is.1 hs
  by_cases hc : x.c = 0
  · obtain ⟨g1, g2, g3, g4, g5, g6⟩ := shut h1 hc
    have e : cpL x = x := by
      obtain ⟨l, c, p, o, b, s, q, t, n, w⟩ := x
      simp only at g3
      subst g3
      rfl
    rw [e]
    exact ⟨h1, h2, h3, h4⟩
  · exact ⟨may_of hh (sn_is.2 ⟨sh_nq hs9.1, by simp only [cpL, nq_len]; exact hs9.2⟩) hn ((op_iff x).1.2 hc), by_nq h2, fun g => sn_nq (h3 g), h4⟩
theorem ackd_0 {all : List E} {m : List (Int × Int)} {x : LN} (h : A0 all m x) (hc : x.c ≠ 0) {k : Int} (hk : k ≤ 2147483647) : A0 all m (ackdL x k) := by
  obtain ⟨h1, h2, h3, h4⟩ := h
  obtain ⟨hh, hs, hn, _⟩ := may_L h1
  obtain ⟨s', c', d, d0, d1, e, hv⟩ := ack_is k hk hs
  unfold ackdL
  rw [e]
  exact ⟨may_of hh hv hn ((op_iff x).1.2 hc), by_ack h2 d, fun g => sn_drop (h3 g) d0 d1, h4⟩
theorem hlo_0 {all : List E} {m : List (Int × Int)} {x : LN} (h : A0 all m x) {p : Int} (hp : 0 ≤ p ∧ p ≤ 2147483647) : A0 all m (hloL x p 99).x ∧ (hloL x p 99).x.l = x.l ∧ Nws all m x.l (hloL x p 99) := by
  obtain ⟨h1, h2, h3, h4⟩ := h
  obtain ⟨hh, hs, hn, _⟩ := may_L h1
  obtain ⟨g1, g2, g3⟩ := may_h hh
  have hf : helF x.l x.c x.p x.o p 99 = helH x.l x.c x.p x.o p 99 := by
    unfold helF
    rw [if_pos ⟨hh, h99⟩]
  have hw : ∀ a : Bool, ∀ f ∈ (if a = true then [[D.int 2, D.int p, D.int 0, D.int 0, D.ints []]] else [] : List E), FrG all m x.l f := by
    intro a f hf
    split at hf
    · rw [List.mem_singleton] at hf
      subst hf
      exact f_plain ⟨by decide, by decide, by decide⟩ hp ⟨by decide, by decide⟩
    · exact absurd hf List.not_mem_nil
  have hwl : ∀ a : Bool, (if a = true then [[D.int 2, D.int p, D.int 0, D.int 0, D.ints []]] else [] : List E).length ≤ 20 := by
    intro a
    split <;> simp
  have R : ((helH x.l x.c x.p x.o p 99).b = true ∧ mayH (helH x.l x.c x.p x.o p 99).l (helH x.l x.c x.p x.o p 99).c (helH x.l x.c x.p x.o p 99).p (helH x.l x.c x.p x.o p 99).o = true ∧ (helH x.l x.c x.p x.o p 99).l = x.l ∧ (helH x.l x.c x.p x.o p 99).c = 0) ∨ ((helH x.l x.c x.p x.o p 99).b = false ∧ (helH x.l x.c x.p x.o p 99).l = x.l ∧ A0 all m (hndL x (helH x.l x.c x.p x.o p 99))) := by
    unfold helH
    split
    · exact .inr ⟨rfl, rfl, h1, h2, h3, h4⟩
    · rename_i n1
      have n2 : x.o = false ∧ 1 ≤ p ∧ p ≤ 99 := by
        refine ⟨?_, by omega, by omega⟩
        cases g : x.o with
        | false => rfl
        | true => exact absurd (.inl g) n1
      split
      · rename_i hc
        split
        · refine .inl ⟨rfl, h_may g1 g2 (.inr (.inl ⟨rfl, ?_, ?_, rfl⟩)), rfl, rfl⟩
          · show x.l < p
            rcases g3 with ⟨a, _⟩ | ⟨a, _⟩ | ⟨a, _⟩ <;> omega
          · show p ≤ 2147483647
            omega
        · exact .inr ⟨rfl, rfl, h1, h2, h3, h4⟩
      · rename_i hc
        have hc0 : x.c = 0 := by
          rcases g3 with ⟨a, b, _⟩ | ⟨a, _⟩ | ⟨a, _⟩ <;> omega
        split
        · rename_i hlt
          have e : hndL x ⟨x.l, x.c, p, x.o, true, false, 0⟩ = ⟨x.l, 0, p, x.o, 0, 0, [], 0, 0, false⟩ := by
            obtain ⟨k1, k2, k3, k4, k5, k6⟩ := shut h1 hc0
            unfold hndL
            rw [k1, k2, k3, k4, k5, k6, hc0]
          have hl : x.l < p := by
            rcases g3 with ⟨_, b, _⟩ | ⟨_, a, _⟩ | ⟨_, _, a⟩
            · exact absurd hc0 b
            · omega
            · rw [n2.1] at a
              cases a
          refine .inr ⟨rfl, rfl, ?_⟩
          rw [e, n2.1]
          exact ⟨may_bg (h_may g1 g2 (.inr (.inl ⟨rfl, hl, by omega, rfl⟩))), rfl, fun g => absurd rfl g, h4⟩
        · exact .inr ⟨rfl, rfl, h1, h2, h3, h4⟩
  unfold hloL
  rw [hf]
  dsimp only
  generalize helH x.l x.c x.p x.o p 99 = r at R ⊢
  rcases R with ⟨r1, r2, r3, r4⟩ | ⟨r1, r2, r3⟩
  · rw [if_pos r1]
    refine ⟨⟨may_bg r2, rfl, fun g => absurd r4 g, fun s hs => h4 s ?_⟩, r3, rfl, rfl, hwl _, hw _⟩
    have hs : r.l < s := hs
    omega
  · rw [if_neg (by rw [r1]; decide)]
    exact ⟨r3, r2, rfl, rfl, hwl _, hw _⟩
theorem wlc_0 {all : List E} {m : List (Int × Int)} {x : LN} (h : A0 all m x) (p : Int) : A0 all m (wlcL x p).x ∧ x.l ≤ (wlcL x p).x.l ∧ Nws all m (wlcL x p).x.l (wlcL x p) := by
  obtain ⟨h1, h2, h3, h4⟩ := h
  obtain ⟨hh, hs, hn, _⟩ := may_L h1
  obtain ⟨g1, g2, g3⟩ := may_h hh
  by_cases hp : 0 < x.p ∧ x.p = p
  · have e : wlcL x p = ⟨⟨p, p, 0, false, 0, 0, [], 0, 0, false⟩, ⟨[], [], false, p⟩, 0⟩ := by
      unfold wlcL welF welH
      rw [if_pos hh, if_pos hp]
      rfl
    have hl : x.l < p ∧ p ≤ 2147483647 := by
      rcases g3 with ⟨_, _, a, _⟩ | ⟨_, a, b, _⟩ | ⟨_, a, _⟩ <;> omega
    rw [e]
    refine ⟨⟨may_bg (h_may (by omega) hl.2 (.inl ⟨rfl, by omega, rfl, rfl⟩)), rfl, fun _ => ?_, fun s hs => h4 s ?_⟩, ?_, rfl, rfl, Nat.zero_le _, fun f hf => absurd hf List.not_mem_nil⟩
    · show SnP all (mget m p) 0 []
      rw [h4 p hl.1]
      exact sn_zero
    · have hs : p < s := hs
      omega
    · show x.l ≤ p
      omega
  · have e : wlcL x p = ⟨x, zN, 0⟩ := by
      unfold wlcL welF welH
      rw [if_pos hh, if_neg hp]
      rfl
    rw [e]
    exact ⟨⟨h1, h2, h3, h4⟩, Int.le_refl _, nws_nil x⟩
theorem find_put (k v n : Int) : ∀ l : List (Int × Int), ((l.map fun p => if p.1 == k then (k, v) else p).find? fun p => p.1 == n) = (l.find? fun p => p.1 == n).map fun p => if p.1 == k then (k, v) else p
  | [] => rfl
  | p :: l => by
    have ih := find_put k v n l
    simp only [List.map_cons, List.find?_cons]
    by_cases e : p.1 = k
    · have e1 : (p.1 == k) = true := by simpa using e
      simp only [e1, if_true]
      by_cases g : k = n
      · have g1 : (k == n) = true := by simpa using g
        have g2 : (p.1 == n) = true := by simpa using e.trans g
        simp only [g1, g2, Option.map_some, e1, if_true]
      · have g1 : (k == n) = false := by simpa using g
        have g2 : (p.1 == n) = false := by simpa using (fun h => g (e.symm.trans h))
        simp only [g1, g2]
        exact ih
    · have e1 : (p.1 == k) = false := by simpa using e
      simp only [e1, Bool.false_eq_true, if_false]
      cases h : (p.1 == n) with
      | true => simp only [Option.map_some, e1, Bool.false_eq_true, if_false]
      | false => exact ih
theorem mget_put (l : List (Int × Int)) (k v n : Int) : mget (mput l k v) n = if n = k then v else mget l n := by
  unfold mput mhas mget
  by_cases h : (l.any fun p => p.1 == k) = true
  · rw [if_pos h, find_put]
    cases hf : l.find? (fun p => p.1 == n) with
    | none =>
      simp only [Option.map_none]
      split
      · rename_i e
        subst e
        obtain ⟨p, hp, e⟩ := List.any_eq_true.1 h
        exact absurd e (by simpa using List.find?_eq_none.1 hf p hp)
      · rfl
    | some p =>
      have hp : p.1 = n := by simpa using List.find?_some hf
      simp only [Option.map_some]
      by_cases e : n = k
      · have : (p.1 == k) = true := by simpa using hp.trans e
        simp only [this, if_true, e]
      · have : (p.1 == k) = false := by simpa using (fun g => e (hp.symm.trans g))
        simp only [this, Bool.false_eq_true, if_false, e]
  · rw [if_neg h]
    have hno : ∀ p ∈ l, ¬ p.1 = k := fun p hp e => h (List.any_eq_true.2 ⟨p, hp, by simpa using e⟩)
    rw [List.find?_append]
    cases hf : l.find? (fun p => p.1 == n) with
    | none =>
      simp only [Option.none_or, List.find?_cons]
      by_cases e : n = k
      · subst e
        simp
      · have : (k == n) = false := by simpa using (fun g => e g.symm)
        simp only [this, List.find?_nil, e, if_false]
    | some p =>
      have hp : p.1 = n := by simpa using List.find?_some hf
      have hm := hno p (List.mem_of_find?_eq_some hf)
      rw [Option.some_or, if_neg (fun e => hm (hp.trans e))]
/-- A frame that brings no payload is heard. -/
theorem hear_0 {all : List E} {m : List (Int × Int)} {x : LN} (h : A0 all m x) {k s q a : Int} {p : List Int} (hf : mayF k s q a p = true) (h3 : k ≠ 3) : A0 all m (hearL x k s q a p 99).x ∧ x.l ≤ (hearL x k s q a p 99).x.l ∧ Nws all m (hearL x k s q a p 99).x.l (hearL x k s q a p 99) := by
  have hf9 := hf
  simp only [mayF, isC, Bool.and_eq_true, decide_eq_true_eq] at hf9
  obtain ⟨⟨⟨⟨⟨_, f1⟩, _⟩, f2⟩, _⟩, _⟩ := hf9
  unfold hearL
  rw [if_pos ⟨h.1, hf, h99⟩]
  split
  · obtain ⟨r1, r2, r3⟩ := hlo_0 (cp_0 h) f1
    exact ⟨r1, Int.le_of_eq r2.symm, by rw [r2]; exact r3⟩
  · split
    · exact wlc_0 (cp_0 h) s
    · split
      · exact ⟨cp_0 h, Int.le_refl _, nws_nil _⟩
      · rename_i hn
        have hc : x.c ≠ 0 := fun e => hn (.inl ((op_iff x).2.2 e))
        have := ackd_0 h hc f2.2
        exact ⟨this, Int.le_refl _, nws_nil _⟩
def T1 (k : List (Int × Int)) (x : LN) : Prop := (x.c ≠ 0 → x.n = mget k x.c) ∧ (∀ s, x.l < s → mget k s = 0) ∧ ∀ s, 0 ≤ mget k s
theorem t1_same {k : List (Int × Int)} {x y : LN} (h : T1 k x) (hl : y.l = x.l) (hc : y.c ≠ 0 → y.c = x.c ∧ y.n = x.n) : T1 k y := by
  refine ⟨fun g => ?_, fun s hs => h.2.1 s (by omega), h.2.2⟩
  obtain ⟨a, b⟩ := hc g
  rw [a, b]
  exact h.1 (by rw [← a]; exact g)
theorem tik_n {x : LN} (h : mayL x = true) : (tikL x 99).x.l = x.l ∧ ((tikL x 99).x.c ≠ 0 → (tikL x 99).x.c = x.c ∧ (tikL x 99).x.n = x.n) := by
  unfold tikL
  rw [if_pos ⟨h, h99⟩]
  split
  · exact ⟨rfl, fun _ => ⟨rfl, rfl⟩⟩
  · rename_i ho
    have hc : x.c = 0 := (op_iff x).2.1 (by simpa using ho)
    exact ⟨rfl, fun g => absurd hc g⟩
theorem flu_n {x : LN} (h : mayL x = true) : (fluL x).x.l = x.l ∧ ((fluL x).x.c ≠ 0 → (fluL x).x.c = x.c ∧ (fluL x).x.n = x.n) := by
  unfold fluL
  rw [if_pos h]
  split
  · exact ⟨rfl, fun _ => ⟨rfl, rfl⟩⟩
  · rename_i ho
    have hc : x.c = 0 := (op_iff x).2.1 (by simpa using ho)
    exact ⟨rfl, fun g => absurd hc g⟩
theorem clo_c {all : List E} {m : List (Int × Int)} {x : LN} (h : A0 all m x) : (cloL x 99).x.c = 0 := by
  unfold cloL
  rw [if_pos ⟨h.1, h99⟩]
  split
  · rename_i ho
    obtain ⟨g1, g2, _⟩ := may_h (may_L h.1).1
    have hc := (op_iff x).1.1 ho
    obtain ⟨c1, c2, _⟩ := op_c h.1 hc
    dsimp only
    unfold closeF
    rw [if_pos ⟨(may_L h.1).1, h99⟩]
    unfold closeH
    rw [if_pos (by omega)]
    unfold newH
    split <;> rfl
  · rename_i ho
    exact (op_iff x).2.1 (by simpa using ho)
theorem hlo_n {x : LN} (h : mayL x = true) (p : Int) : (hloL x p 99).x.l = x.l ∧ ((hloL x p 99).x.c ≠ 0 → (hloL x p 99).x.c = x.c ∧ (hloL x p 99).x.n = x.n) := by
  unfold hloL helF
  rw [if_pos ⟨(may_L h).1, h99⟩]
  dsimp only
  unfold helH
  split
  · exact ⟨rfl, fun _ => ⟨rfl, rfl⟩⟩
  · split
    · split
      · exact ⟨rfl, fun g => absurd rfl g⟩
      · exact ⟨rfl, fun _ => ⟨rfl, rfl⟩⟩
    · split
      · exact ⟨rfl, fun _ => ⟨rfl, rfl⟩⟩
      · exact ⟨rfl, fun _ => ⟨rfl, rfl⟩⟩
theorem wlc_1 {k : List (Int × Int)} {x : LN} (h : mayL x = true) (ht : T1 k x) (p : Int) : T1 k (wlcL x p).x := by
  obtain ⟨g1, g2, g3⟩ := may_h (may_L h).1
  by_cases hp : 0 < x.p ∧ x.p = p
  · have e : wlcL x p = ⟨⟨p, p, 0, false, 0, 0, [], 0, 0, false⟩, ⟨[], [], false, p⟩, 0⟩ := by
      unfold wlcL welF welH
      rw [if_pos (may_L h).1, if_pos hp]
      rfl
    have hl : x.l < p := by
      rcases g3 with ⟨_, _, a, _⟩ | ⟨_, a, b, _⟩ | ⟨_, a, _⟩ <;> omega
    rw [e]
    refine ⟨fun _ => ?_, fun s hs => ht.2.1 s ?_, ht.2.2⟩
    · show 0 = mget k p
      exact (ht.2.1 p hl).symm
    · have hs : p < s := hs
      omega
  · have e : wlcL x p = ⟨x, zN, 0⟩ := by
      unfold wlcL welF welH
      rw [if_pos (may_L h).1, if_neg hp]
      rfl
    rw [e]
    exact ht
/-- A frame of the pusher's comes to the taker. -/
theorem hear_1 {all : List E} {m kk : List (Int × Int)} {x : LN} {L : Int} (h : A0 [] [] x) (ht : T1 kk x) {k s q a : Int} {p : List Int} (hf : mayF k s q a p = true) (h3 : k = 3 → 1 ≤ s ∧ 0 ≤ q ∧ q < mget m s ∧ p = rl (all.getD q.toNat []) 0) (_ : 0 ≤ L) :
    A0 [] [] (hearL x k s q a p 99).x ∧ x.l ≤ (hearL x k s q a p 99).x.l ∧ (hearL x k s q a p 99).e = 0 ∧ (hearL x k s q a p 99).y.f.length ≤ 20 ∧ (∀ g ∈ (hearL x k s q a p 99).y.f, FrG [] [] (hearL x k s q a p 99).x.l g) ∧
    (((hearL x k s q a p 99).y.g = [] ∧ T1 kk (hearL x k s q a p 99).x) ∨
     ((hearL x k s q a p 99).y.g = [[.ints p]] ∧ mget kk (hearL x k s q a p 99).x.c < mget m (hearL x k s q a p 99).x.c ∧ p = rl (all.getD (mget kk (hearL x k s q a p 99).x.c).toNat []) 0 ∧
      ∀ kk', (∀ z, mget kk' z = if z = (hearL x k s q a p 99).x.c then mget kk (hearL x k s q a p 99).x.c + 1 else mget kk z) → T1 kk' (hearL x k s q a p 99).x)) := by
  by_cases hk3 : k = 3
  · subst hk3
    obtain ⟨s1, q1, q2, q3⟩ := h3 rfl
    have hf9 := hf
    simp only [mayF, isC, Bool.and_eq_true, decide_eq_true_eq] at hf9
    obtain ⟨⟨⟨⟨⟨_, f1⟩, fq⟩, f2⟩, _⟩, _⟩ := hf9
    unfold hearL
    rw [if_pos ⟨h.1, hf, h99⟩, if_neg (by decide), if_neg (by decide)]
    split
    · have e : T1 kk (cpL x) := t1_same ht rfl fun _ => ⟨rfl, rfl⟩
      exact ⟨cp_0 h, Int.le_refl _, rfl, Nat.zero_le _, fun f hf => absurd hf List.not_mem_nil, .inl ⟨rfl, e⟩⟩
    · rename_i hn
      have hc : x.c ≠ 0 := fun e => hn (.inl ((op_iff x).2.2 e))
      have hs : s = x.c := by
        by_cases g : s = x.c
        · exact g
        · exact absurd (.inr g) hn
      rw [if_pos rfl]
      have hn9 := n_c h.1
      have hnk := ht.1 hc
      obtain ⟨c1, c2, c3, _⟩ := op_c h.1 hc
      have hcn : cntB x.n = true := (may_L h.1).2.2.1
      have key : ∀ (n' : Int) (w' : Bool), 0 ≤ n' ∧ n' ≤ 2147483647 → A0 [] [] (ackdL ⟨x.l, x.c, x.p, x.o, x.b, x.s, x.q, x.t, n', w'⟩ a) := by
        intro n' w' hn'
        refine ackd_0 (x := ⟨x.l, x.c, x.p, x.o, x.b, x.s, x.q, x.t, n', w'⟩) ⟨may_of (x := ⟨x.l, x.c, x.p, x.o, x.b, x.s, x.q, x.t, n', w'⟩) (may_L h.1).1 (may_L h.1).2.1 ?_ ((op_iff x).1.2 hc), h.2.1, h.2.2.1, h.2.2.2⟩ hc f2.2
        simp only [cntB, Bool.and_eq_true, decide_eq_true_eq]
        exact hn'
      unfold datL getF
      rw [if_pos hcn]
      unfold getH
      dsimp only
      split
      · rename_i hq
        refine ⟨key (x.n + 1) true ⟨by omega, by omega⟩, Int.le_refl _, rfl, Nat.zero_le _, fun f hf => absurd hf List.not_mem_nil, .inr ⟨rfl, ?_, ?_, fun kk' hkk => ⟨fun _ => ?_, fun z hz => ?_, fun z => ?_⟩⟩⟩
        · show mget kk x.c < mget m x.c
          rw [← hnk, ← hs]
          omega
        · show p = rl (all.getD (mget kk x.c).toNat []) 0
          rw [← hnk, ← hq.1]
          exact q3
        · show x.n + 1 = mget kk' x.c
          have e : mget kk' x.c = if x.c = x.c then mget kk x.c + 1 else mget kk x.c := hkk x.c
          rw [e, if_pos rfl, hnk]
        · have hz : x.l < z := hz
          have e : mget kk' z = if z = x.c then mget kk x.c + 1 else mget kk z := hkk z
          rw [e, if_neg (by omega)]
          exact ht.2.1 z hz
        · have e : mget kk' z = if z = x.c then mget kk x.c + 1 else mget kk z := hkk z
          rw [e]
          split
          · omega
          · exact ht.2.2 z
      · exact ⟨key _ _ hn9, Int.le_refl _, rfl, Nat.zero_le _, fun f hf => absurd hf List.not_mem_nil, .inl ⟨rfl, t1_same ht rfl fun _ => ⟨rfl, rfl⟩⟩⟩
  · obtain ⟨r1, r2, r3, r4, r5, r6⟩ := hear_0 h hf hk3
    refine ⟨r1, r2, r3, r5, r6, .inl ⟨r4, ?_⟩⟩
    have hcp : mayL (cpL x) = true := (cp_0 h).1
    have e : T1 kk (cpL x) := t1_same ht rfl fun _ => ⟨rfl, rfl⟩
    unfold hearL
    rw [if_pos ⟨h.1, hf, h99⟩]
    split
    · obtain ⟨a1, a2⟩ := hlo_n hcp s
      exact t1_same e a1 a2
    · split
      · exact wlc_1 hcp e s
      · split
        · exact e
        · exact t1_same ht rfl fun _ => ⟨rfl, rfl⟩
end Go.Proofs.Ytakebkfhigadiaa.LcT
