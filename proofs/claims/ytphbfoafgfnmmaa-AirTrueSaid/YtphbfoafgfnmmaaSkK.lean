/-
  Airs in which every flight is one that was put, in theory. No condition.
-/
import Derived.Test.YtphbfoafgfnmmaaSkI
namespace Go.Proofs.Ytphbfoafgfnmmaa.SkK
open Go Go.Proofs.Ytphbfoafgfnmmaa.Ry Go.Proofs.Ytphbfoafgfnmmaa.SkR Go.Proofs.Ytphbfoafgfnmmaa.SkT Go.Proofs.Ytphbfoafgfnmmaa.SkO Go.Proofs.Ytphbfoafgfnmmaa.SkC Go.Proofs.Ytphbfoafgfnmmaa.SkD Go.Proofs.Ytphbfoafgfnmmaa.SkP Go.Proofs.Ytphbfoafgfnmmaa.SkS Go.Proofs.Ytphbfoafgfnmmaa.SkQ Go.Proofs.Ytphbfoafgfnmmaa.SkN Go.Proofs.Ytphbfoafgfnmmaa.SkY Go.Proofs.Ytphbfoafgfnmmaa.SkA Go.Proofs.Ytphbfoafgfnmmaa.SkU Go.Proofs.Ytphbfoafgfnmmaa.SkV Go.Proofs.Ytphbfoafgfnmmaa.SkW Go.Proofs.Ytphbfoafgfnmmaa.SkH Go.Proofs.Ytphbfoafgfnmmaa.SkM Go.Proofs.Ytphbfoafgfnmmaa.SkJ Go.Proofs.Ytphbfoafgfnmmaa.SkI
open Go.Proofs.Ytphbfoafgfnmmaa.SkX (offF lkF)
open Go.Proofs.Ytphbfoafgfnmmaa.BeK (modI)

/-- Of one kind with one of these. -/
def Kin (f : List E) (y : E) : Prop := ∃ z ∈ f, fT y = fT z ∧ (rl y 2).length = (rl z 2).length
theorem kin_self {f : List E} {y : E} (h : y ∈ f) : Kin f y := ⟨y, h, rfl, rfl⟩
theorem kin_nrm {f : List E} {y : E} (h : y ∈ f) : Kin f (nrm y) := ⟨y, h, rfl, rfl⟩
theorem rd_kin {f : List E} {k : Int} (h6 : ¬ k = 6) (h7 : ¬ k = 7) (u : List E) (a b n w : Int) : (∀ y ∈ rdF f u k a b n w, Kin f y) ∧ (rdF f u k a b n w).length ≤ f.length + 1 := by
  unfold rdF
  have hrl : ∀ i, (rmF f i).length ≤ f.length := fun i => by
    unfold rmF
    rw [List.length_append, List.length_take, List.length_drop]
    by_cases h0 : 0 ≤ i
    · omega
    · have e1 : i.toNat = 0 := by omega
      have e2 : (i + 1).toNat = 0 := by omega
      rw [e1, e2]
      omega
  split
  · unfold lkF
    split
    · constructor
      · intro y hy
        obtain ⟨z, hz, rfl⟩ := List.mem_map.1 hy
        exact kin_nrm (List.mem_filter.1 hz).1
      · unfold offF
        rw [List.length_map]
        have := List.length_filter_le (SkX.offB (SkX.sxI a b) (SkX.syI a b)) f
        omega
    · exact ⟨fun y hy => kin_self hy, by omega⟩
  split
  · exact ⟨fun y hy => kin_self hy, by omega⟩
  rename_i h89 h0
  have hpos : 0 < f.length := by omega
  have hm := at_mem n hpos
  split
  · exact ⟨fun y hy => kin_self (rm_sub _ y hy), by have := hrl (modI n f.length); omega⟩
  split
  · split
    · refine ⟨fun y hy => ?_, by rw [List.length_append, List.length_singleton]; omega⟩
      rcases List.mem_append.1 hy with hy | hy
      · exact kin_self hy
      · rw [List.mem_singleton] at hy
        rw [hy]
        exact kin_nrm hm
    · exact ⟨fun y hy => kin_self hy, by omega⟩
  split
  · refine ⟨fun y hy => ?_, by rw [List.length_append, List.length_singleton]; have := hrl (modI n f.length); omega⟩
    rcases List.mem_append.1 hy with hy | hy
    · exact kin_self (rm_sub _ y hy)
    · rw [List.mem_singleton] at hy
      rw [hy]
      exact kin_nrm hm
  · omega
structure T1 where
  i : Int
  e : Int
  f : List E
  u : List E
def t1Q (l : List E) (y : T1) : Prop := 0 ≤ y.i ∧ y.i ≤ l.length ∧ y.e = 0 ∧ y.f = [] ∧ V [] y.u
def t1M (l : List E) (y : T1) : Nat := l.length - y.i.toNat
theorem V_nil : V [] [] := (ch_V [] []).1 z_ch
theorem t1_zero (l : List E) : t1Q l ⟨0, 0, [], []⟩ := ⟨Int.le_refl 0, Int.natCast_nonneg _, rfl, rfl, V_nil⟩
theorem ad_of {f u : List E} (hV : V f u) (h : totF f ≤ 100000) : adOk f u = true := decide_eq_true ⟨by have := hV.m; omega, by have := hV.n; omega, h⟩
theorem t1_step {l : List E} (hl : l.length ≤ 1000000) {i e : Int} {f u : List E} (hq : t1Q l ⟨i, e, f, u⟩) (h : i < l.length) (a b w : Int) : stdBin .add .i64 i 1 = i + 1 ∧ adOk f u = true ∧ t1Q l ⟨i + 1, chA f u, adF f u 8 a b 0 w, adU f u 8 a b w⟩ ∧ t1M l ⟨i + 1, chA f u, adF f u 8 a b 0 w, adU f u 8 a b w⟩ < t1M l ⟨i, e, f, u⟩ := by
  obtain ⟨h0, h1, h2, h3, h4⟩ := hq
  simp only at h0 h1 h2 h3 h4
  subst h3
  obtain ⟨a1, a2, a3, a4⟩ := act_ok h4 8 a b 0 w
  have e0 : adF [] u 8 a b 0 w = [] := a1
  rw [e0] at a4
  refine ⟨by rw [b_add, wr _ (by omega) (by omega)], ad_of h4 (by decide), ⟨by simp only; omega, by simp only; omega, (ch_V [] u).2 h4, e0, a4⟩, by simp only [t1M]; omega⟩
structure T2 where
  i : Int
  e : Int
  f : List E
  u : List E
  p : List E
/-- Every flight is one that was put. -/
def Put (f u p : List E) (n : Int) : Prop := V f u ∧ (∀ y ∈ f, fT y ∈ p.map fT ∧ (rl y 2).length ≤ 100) ∧ f.length ≤ n ∧ n ≤ 1000
theorem put_tot {f u p : List E} {n : Int} (h : Put f u p n) : totF f ≤ 100000 := by
  obtain ⟨_, h2, h3, h4⟩ := h
  have : ∀ g : List E, (∀ y ∈ g, (rl y 2).length ≤ 100) → totF g ≤ 100 * g.length := by
    intro g
    induction g with
    | nil => exact fun _ => Nat.le_refl _
    | cons y g ih =>
      intro hg
      have i1 := ih fun z hz => hg z (List.mem_cons_of_mem _ hz)
      have i2 := hg y (List.mem_cons_self)
      unfold totF at i1 ⊢
      rw [List.map_cons, List.sum_cons, List.length_cons]
      omega
  have := this f fun y hy => (h2 y hy).2
  omega
def t2Q (os : Nat) (y : T2) : Prop := 0 ≤ y.i ∧ y.i ≤ os ∧ y.e = 0 ∧ Put y.f y.u y.p (2 * y.i) ∧ y.p.length ≤ y.i
def t2M (os : Nat) (y : T2) : Nat := os - y.i.toNat
theorem t2_zero {l : List E} {os : Nat} {i e : Int} {f u : List E} (hq : t1Q l ⟨i, e, f, u⟩) : e = 0 ∧ t2Q os ⟨0, e, f, u, []⟩ := by
  obtain ⟨h0, h1, h2, h3, h4⟩ := hq
  simp only at h0 h1 h2 h3 h4
  subst h3
  exact ⟨h2, Int.le_refl 0, Int.natCast_nonneg _, h2, ⟨h4, fun y hy => (by cases hy), Int.le_refl 0, (show (2 : Int) * 0 ≤ 1000 by decide)⟩, Int.le_refl 0⟩
/-- Behind what may be put. -/
def t2P (os : Nat) (y : T2) : Prop := 0 ≤ y.i ∧ y.i < os ∧ Put y.f y.u y.p (2 * y.i + 1) ∧ y.p.length ≤ y.i + 1
theorem t2_in {os : Nat} (ho : os ≤ 200) {i e : Int} {f u p : List E} (hq : t2Q os ⟨i, e, f, u, p⟩) (h : i < os) : stdBin .add .i64 i 1 = i + 1 ∧ e = 0 ∧ 0 ≤ i ∧ t2P os ⟨i, e, f, u, p⟩ := by
  obtain ⟨h0, h1, h2, ⟨h3, h4, h5, h6⟩, h7⟩ := hq
  simp only at h0 h1 h2 h3 h4 h5 h6 h7
  exact ⟨by rw [b_add, wr _ (by omega) (by omega)], h2, h0, h0, h, ⟨h3, h4, by simp only; omega, by simp only; omega⟩, by simp only; omega⟩
theorem t2_put {os : Nat} (ho : os ≤ 200) {i e : Int} {f u p : List E} (hq : t2Q os ⟨i, e, f, u, p⟩) (h : i < os) {a b : Int} {l : List Int} {x : Bool} (hl : l.length ≤ 100) :
    puOk f u l = true ∧ chA f u = 0 ∧ t2P os ⟨i, chA f u, puF f u a b l x, puU f u, p ++ [[.int a, .int b, .ints l, .bool x]]⟩ := by
  obtain ⟨h0, h1, h2, hp, h7⟩ := hq
  simp only at h0 h1 h2 hp h7
  have ht := put_tot hp
  obtain ⟨h3, h4, h5, h6⟩ := hp
  have hch := (ch_V f u).2 h3
  have hpl := pu_len f u a b l x
  have eF : puF f u a b l x = putF (cpF f) (tabF u) a b l x := by
    unfold puF
    rw [if_pos hch]
  have eU : puU f u = u := by
    unfold puU
    rw [if_pos hch]
  have hm := h3.m
  have hn := h3.n
  refine ⟨decide_eq_true (by omega), hch, h0, h, ⟨?_, fun y hy => ?_, by simp only; omega, by simp only; omega⟩, by simp only [List.length_append, List.length_singleton]; omega⟩
  · simp only
    rw [eU]
    refine ⟨h3.p, h3.n, by omega, fun y hy => ?_⟩
    rw [eF] at hy
    unfold putF at hy
    split at hy
    · rename_i hc
      rcases List.mem_append.1 hy with hy | hy
      · obtain ⟨z, hz, rfl⟩ := List.mem_map.1 hy
        exact h3.c z hz
      · rw [List.mem_singleton] at hy
        subst hy
        rw [Bool.and_eq_true] at hc
        exact (car_iff h3.p.1 a b).1 hc.2
    · obtain ⟨z, hz, rfl⟩ := List.mem_map.1 hy
      exact h3.c z hz
  · simp only at hy ⊢
    rw [List.map_append, List.mem_append]
    rw [eF] at hy
    unfold putF at hy
    have old : ∀ y ∈ cpF f, (fT y ∈ p.map fT ∨ fT y ∈ [[D.int a, .int b, .ints l, .bool x]].map fT) ∧ (rl y 2).length ≤ 100 := fun y hy => by
      obtain ⟨z, hz, rfl⟩ := List.mem_map.1 hy
      exact ⟨.inl (h4 z hz).1, (h4 z hz).2⟩
    split at hy
    · rcases List.mem_append.1 hy with hy | hy
      · exact old y hy
      · rw [List.mem_singleton] at hy
        subst hy
        exact ⟨.inr (List.mem_singleton.2 rfl), hl⟩
    · exact old y hy
theorem t2_skip {os : Nat} (ho : os ≤ 200) {i e : Int} {f u p : List E} (hq : t2P os ⟨i, e, f, u, p⟩) : t2Q os ⟨i + 1, 0, f, u, p⟩ ∧ t2M os ⟨i + 1, 0, f, u, p⟩ < t2M os ⟨i, e, f, u, p⟩ := by
  obtain ⟨h0, h1, ⟨h3, h4, h5, h6⟩, h7⟩ := hq
  simp only at h0 h1 h3 h4 h5 h6 h7
  exact ⟨⟨by simp only; omega, by simp only; omega, rfl, ⟨h3, h4, by simp only; omega, by simp only; omega⟩, by simp only; omega⟩, by simp only [t2M]; omega⟩
theorem t2_do {os : Nat} (_ : os ≤ 200) {i e : Int} {f u p : List E} (hq : t2P os ⟨i, e, f, u, p⟩) {k : Int} (h6 : ¬ k = 6) (h7 : ¬ k = 7) (a b n w : Int) :
    adOk f u = true ∧ chA f u = 0 ∧ t2Q os ⟨i + 1, 0, adF f u k a b n w, adU f u k a b w, p⟩ ∧ ((adG f u k a b n).c = true → ∃ z ∈ p, fT z = ((adG f u k a b n).a, (adG f u k a b n).b, (adG f u k a b n).x, bytI (adG f u k a b n).l)) := by
  have ht := put_tot hq.2.2.1
  obtain ⟨h0, h1, ⟨h3, h4, h5, h6'⟩, h7'⟩ := hq
  simp only at h0 h1 h3 h4 h5 h6' h7'
  obtain ⟨a1, a2, a3, a4⟩ := act_ok h3 k a b n w
  obtain ⟨k1, k2⟩ := rd_kin (f := f) h6 h7 u a b n w
  have e1 : (adF f u k a b n w).length = (rdF f u k a b n w).length := by rw [a1, cp_len]
  refine ⟨ad_of h3 ht, (ch_V f u).2 h3, ⟨by simp only; omega, by simp only; omega, rfl, ⟨a4, fun y hy => ?_, by simp only; omega, by simp only; omega⟩, by simp only; omega⟩, fun hc => ?_⟩
  · simp only at hy ⊢
    rw [a1] at hy
    obtain ⟨z, hz, rfl⟩ := List.mem_map.1 hy
    obtain ⟨z', hz', g1, g2⟩ := k1 z hz
    have := h4 z' hz'
    rw [fT_nrm, g1]
    refine ⟨this.1, ?_⟩
    show (rl z 2).length ≤ 100
    rw [g2]
    exact this.2
  · rw [a3] at hc ⊢
    unfold rdG at hc ⊢
    split
    · rename_i g
      rw [if_pos g] at hc
      cases hc
    · rename_i g
      obtain ⟨z, hz, e⟩ := List.mem_map.1 (h4 _ (at_mem n (by omega))).1
      exact ⟨z, hz, e⟩
structure T3 where
  j : Int
  s : Bool
def anF (p : List E) (g : FF) : Bool := p.any fun z => flB (ri z 0) (ri z 1) (rl z 2) (rb z 3) g.a g.b g.l g.x
def t3Q (p : List E) (g : FF) (y : T3) : Prop := 0 ≤ y.j ∧ y.j ≤ p.length ∧ y.s = (!g.c || anF (p.take y.j.toNat) g)
def t3M (p : List E) (y : T3) : Nat := p.length - y.j.toNat
theorem t3_zero (p : List E) (g : FF) : t3Q p g ⟨0, !g.c⟩ := ⟨Int.le_refl 0, Int.natCast_nonneg _, (Bool.or_false _).symm⟩
theorem t3_step {p : List E} {g : FF} (hp : p.length ≤ 1000) {j : Int} {s : Bool} (hq : t3Q p g ⟨j, s⟩) (h : j < p.length) : stdBin .add .i64 j 1 = j + 1 ∧ (∀ t, t3M p ⟨j + 1, t⟩ < t3M p ⟨j, s⟩) ∧ (s = true → t3Q p g ⟨j + 1, true⟩) ∧ (s = false → t3Q p g ⟨j + 1, flB (ri (p.getD j.toNat []) 0) (ri (p.getD j.toNat []) 1) (rl (p.getD j.toNat []) 2) (rb (p.getD j.toNat []) 3) g.a g.b g.l g.x⟩) := by
  obtain ⟨h0, h1, h2⟩ := hq
  simp only at h0 h1 h2
  have ht := tk_next p j h0 h
  refine ⟨by rw [b_add, wr _ (by omega) (by omega)], fun t => by simp only [t3M]; omega, fun g1 => ⟨by simp only; omega, by simp only; omega, ?_⟩, fun g1 => ⟨by simp only; omega, by simp only; omega, ?_⟩⟩
  · simp only
    rw [ht]
    unfold anF at h2 ⊢
    rw [List.any_append, ← Bool.or_assoc, ← h2, g1, Bool.true_or]
  · simp only
    rw [ht]
    unfold anF at h2 ⊢
    rw [List.any_append, ← Bool.or_assoc, ← h2, g1, Bool.false_or, List.any_cons, List.any_nil, Bool.or_false]
theorem t3_end {p : List E} {g : FF} {j : Int} {s : Bool} (hq : t3Q p g ⟨j, s⟩) (h : ¬ j < p.length) (hg : g.c = true → ∃ z ∈ p, fT z = (g.a, g.b, g.x, bytI g.l)) : s = true := by
  obtain ⟨h0, h1, h2⟩ := hq
  simp only at h0 h1 h2
  have e : j = p.length := by omega
  rw [e, Int.toNat_natCast, List.take_length] at h2
  rw [h2]
  cases hc : g.c with
  | false => rfl
  | true =>
    obtain ⟨z, hz, e2⟩ := hg hc
    rw [Bool.not_true, Bool.false_or]
    refine List.any_eq_true.2 ⟨z, hz, ?_⟩
    unfold fT at e2
    simp only [Prod.mk.injEq] at e2
    exact decide_eq_true ⟨e2.1, e2.2.1, e2.2.2.1, e2.2.2.2⟩
end Go.Proofs.Ytphbfoafgfnmmaa.SkK
