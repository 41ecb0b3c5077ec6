
/-
  edges over the reckoner. No condition.
-/
import Derived.Test.YtakebkfhigadiaaRyOp
import Derived.Test.YtakebkfhigadiaaRyZ
import Derived.Test.YtakebkfhigadiaaSo
namespace Go.Proofs.Ytakebkfhigadiaa.EgR
open Go Go.Proofs.Ytakebkfhigadiaa.Ry Go.Proofs.Ytakebkfhigadiaa.So Go.Proofs.Ytakebkfhigadiaa.EcX Go.Proofs.Ytakebkfhigadiaa.Cmp

theorem ri_of (x : E) (j : Nat) (n : Int) (h : x[j]? = some (D.int n)) : ri x j = n := by
  unfold ri
  rw [h]
theorem o65 : Int.ofNat 65 = 65 := rfl
theorem cpy_id (l : List E) (z : E) : List.take (List.replicate (l.length : Int).toNat z).length l ++ List.drop l.length (List.replicate (l.length : Int).toNat z) = l := by
  rw [List.length_replicate, Int.toNat_natCast, List.take_length, List.drop_eq_nil_of_le (by simp), List.append_nil]
theorem len_c (p : List E) : (match p with | [] => 0 | _ :: l => l.length + 1) = p.length := by cases p <;> rfl
theorem len_m (p q : List E) : p.length = q.length → Int.ofNat (match p with | [] => 0 | _ :: l => l.length + 1) = Int.ofNat (match q with | [] => 0 | _ :: l => l.length + 1) := fun h => by rw [len_c, len_c, h]
theorem pl_mem {q : List E} {i : Int} (h0 : 0 ≤ i) (h : i < q.length) : q.getD i.toNat [] ∈ q := by
  have hi : i.toNat < q.length := by omega
  rw [List.getD_eq_getElem?_getD, List.getElem?_eq_getElem hi]
  exact List.getElem_mem hi
theorem take_next (l : List E) (i : Int) (h0 : 0 ≤ i) (h : i < l.length) : l.take (i + 1).toNat = l.take i.toNat ++ [l.getD i.toNat []] := by
  have e : (i + 1).toNat = i.toNat + 1 := by omega
  have hi : i.toNat < l.length := by omega
  rw [e, List.take_add_one, List.getD_eq_getElem?_getD, List.getElem?_eq_getElem hi]
  rfl
def nodB (n : Int) : Bool := decide (1 ≤ n ∧ n ≤ 64)
def mayE (a b w : Int) : Bool := decide (1 ≤ a ∧ a ≤ 64 ∧ 1 ≤ b ∧ b ≤ 64 ∧ a < b ∧ 0 ≤ w ∧ w ≤ 2147483647)
def chE (a b w : Int) : Int := if mayE a b w = true then 0 else 1
structure EE where
  a : Int
  b : Int
  w : Int
  e : Int
def ofE (a b w : Int) : EE := let lo := if a < b then a else b; let hi := if a < b then b else a; if mayE lo hi w = true then ⟨lo, hi, w, 0⟩ else ⟨0, 0, 0, 1⟩
def othE (a b n : Int) : Int := if n = a then b else if n = b then a else 0
def trE (y : E) : Int × Int × Int := (ri y 0, ri y 1, ri y 2)
def prE (y : E) : Int × Int := (ri y 0, ri y 1)
def may1 (y : E) : Bool := mayE (ri y 0) (ri y 1) (ri y 2)
def goodL (l : List E) : Bool := decide (∀ y ∈ l, may1 y = true) && decide ((l.map prE).Nodup)
def allE (l : List E) : Int := if goodL l = true then (if 512 < l.length then 3 else 0) else 1
def srtX (l : List E) : List E := if allE l = 0 then srtE l else []
def keyE (y : E) : Nat := (ri y 0 * 65 + ri y 1).toNat
def metF (M : List E) (y : E) : List E := M.set (keyE y) [D.bool true]
def metL (l : List E) : List E := l.foldl metF (List.replicate 4225 [D.bool false])
theorem may_1 {y : E} (h : may1 y = true) : 1 ≤ ri y 0 ∧ ri y 0 ≤ 64 ∧ 1 ≤ ri y 1 ∧ ri y 1 ≤ 64 ∧ ri y 0 < ri y 1 ∧ 0 ≤ ri y 2 ∧ ri y 2 ≤ 2147483647 := of_decide_eq_true h
theorem met_len (l : List E) : (metL l).length = 4225 := by
  have : ∀ (l M : List E), (l.foldl metF M).length = M.length := by
    intro l
    induction l with
    | nil => intro M; rfl
    | cons y l ih =>
      intro M
      rw [List.foldl_cons, ih]
      unfold metF
      rw [List.length_set]
  unfold metL
  rw [this, List.length_replicate]
theorem rb_set (M : List E) (k j : Nat) (hk : k < M.length) : rb ((M.set k [D.bool true]).getD j []) 0 = true ↔ j = k ∨ rb (M.getD j []) 0 = true := by
  rw [List.getD_eq_getElem?_getD, List.getD_eq_getElem?_getD, List.getElem?_set]
  by_cases h : k = j
  · subst h
    rw [if_pos rfl, if_pos hk]
    simp [rb]
  · rw [if_neg h]
    simp only [Option.getD]
    constructor
    · exact fun g => .inr g
    · rintro (g | g)
      · exact absurd g.symm h
      · exact g
theorem met_iff (j : Nat) : ∀ (l M : List E), (∀ y ∈ l, keyE y < M.length) → (rb ((l.foldl metF M).getD j []) 0 = true ↔ rb (M.getD j []) 0 = true ∨ ∃ y ∈ l, keyE y = j)
  | [], M, _ => by simp
  | y :: l, M, h => by
    have hk := h y (List.mem_cons_self ..)
    rw [List.foldl_cons, met_iff j l (metF M y) (fun z hz => by unfold metF; rw [List.length_set]; exact h z (List.mem_cons_of_mem _ hz))]
    unfold metF
    rw [rb_set M _ _ hk]
    simp only [List.mem_cons]
    constructor
    · rintro ((g | g) | ⟨z, hz, g⟩)
      · exact .inr ⟨y, .inl rfl, g.symm⟩
      · exact .inl g
      · exact .inr ⟨z, .inr hz, g⟩
    · rintro (g | ⟨z, hz | hz, g⟩)
      · exact .inl (.inr g)
      · subst hz
        exact .inl (.inl g.symm)
      · exact .inr ⟨z, hz, g⟩
theorem key_lt {y : E} (h : may1 y = true) : keyE y < 4225 := by
  have := may_1 h
  unfold keyE
  omega
theorem key_inj {y z : E} (h : may1 y = true) (g : may1 z = true) : keyE y = keyE z ↔ prE y = prE z := by
  have h := may_1 h
  have g := may_1 g
  unfold keyE prE
  rw [Prod.mk.injEq]
  omega
theorem met_has {l : List E} {y : E} (hl : ∀ z ∈ l, may1 z = true) (hy : may1 y = true) : rb ((metL l).getD (keyE y) []) 0 = true ↔ prE y ∈ l.map prE := by
  unfold metL
  rw [met_iff _ _ _ (fun z hz => by rw [List.length_replicate]; exact key_lt (hl z hz))]
  have e : ¬ rb ((List.replicate 4225 [D.bool false]).getD (keyE y) []) 0 = true := by
    rw [List.getD_eq_getElem?_getD, List.getElem?_replicate]
    split <;> simp [rb]
  rw [List.mem_map]
  constructor
  · rintro (g | ⟨z, hz, g⟩)
    · exact absurd g e
    · exact ⟨z, hz, (key_inj (hl z hz) hy).1 g⟩
  · rintro ⟨z, hz, g⟩
    exact .inr ⟨z, hz, (key_inj (hl z hz) hy).2 g⟩
theorem good_iff (l : List E) : goodL l = true ↔ (∀ y ∈ l, may1 y = true) ∧ (l.map prE).Nodup := by
  unfold goodL
  rw [Bool.and_eq_true, decide_eq_true_eq, decide_eq_true_eq]
theorem good_next {l : List E} {i : Int} (h0 : 0 ≤ i) (h : i < l.length) (hg : goodL (l.take i.toNat) = true) :
    (goodL (l.take (i + 1).toNat) = true ↔ may1 (l.getD i.toNat []) = true ∧ prE (l.getD i.toNat []) ∉ (l.take i.toNat).map prE) := by
  rw [take_next l i h0 h, good_iff]
  obtain ⟨g1, g2⟩ := (good_iff _).1 hg
  simp only [List.map_append, List.map_cons, List.map_nil, List.mem_append, List.mem_singleton]
  rw [List.nodup_append]
  constructor
  · rintro ⟨a, b, c, d⟩
    exact ⟨a _ (.inr rfl), fun w => d _ w _ (by simp) rfl⟩
  · rintro ⟨a, b⟩
    refine ⟨fun y hy => ?_, g2, by simp, fun p hp q hq w => ?_⟩
    · rcases hy with hy | rfl
      · exact g1 y hy
      · exact a
    · rw [List.mem_singleton] at hq
      subst hq
      exact b (w ▸ hp)
theorem good_take {l : List E} (k : Nat) (h : goodL l = true) : goodL (l.take k) = true := by
  obtain ⟨g1, g2⟩ := (good_iff _).1 h
  refine (good_iff _).2 ⟨fun y hy => g1 y (List.mem_of_mem_take hy), ?_⟩
  rw [List.map_take]
  exact g2.sublist (List.take_sublist _ _)
structure XC where
  i : Int
  M : List E
def caQ (l : List E) (y : XC) : Prop := 0 ≤ y.i ∧ y.i ≤ l.length ∧ y.M = metL (l.take y.i.toNat) ∧ goodL (l.take y.i.toNat) = true
def caM (l : List E) (y : XC) : Nat := l.length - y.i.toNat
theorem ca_zero (l : List E) : caQ l ⟨0, List.replicate 4225 [D.bool false]⟩ := ⟨Int.le_refl 0, Int.natCast_nonneg _, rfl, rfl⟩
theorem ca_step (l : List E) (i : Int) (M : List E) (hq : caQ l ⟨i, M⟩) (h : i < l.length) (hl : l.length ≤ 1000000) :
    stdBin .add .i64 i 1 = i + 1 ∧ M.length = 4225 ∧ (may1 (l.getD i.toNat []) = false → goodL l = false) ∧
    (may1 (l.getD i.toNat []) = true → 1 ≤ ri (l.getD i.toNat []) 0 ∧ ri (l.getD i.toNat []) 0 ≤ 64 ∧ 1 ≤ ri (l.getD i.toNat []) 1 ∧ ri (l.getD i.toNat []) 1 ≤ 64 ∧ 0 ≤ (stdBin .add .i64 (stdBin .mul .i64 (ri (l.getD i.toNat []) 0) 65) (ri (l.getD i.toNat []) 1)) ∧ (stdBin .add .i64 (stdBin .mul .i64 (ri (l.getD i.toNat []) 0) 65) (ri (l.getD i.toNat []) 1)) < 4225 ∧ 0 ≤ stdBin .mul .i64 (ri (l.getD i.toNat []) 0) 65 ∧ stdBin .add .i64 (stdBin .mul .i64 (ri (l.getD i.toNat []) 0) 65) 65 ≤ 4225 ∧
      (rb (M.getD (stdBin .add .i64 (stdBin .mul .i64 (ri (l.getD i.toNat []) 0) 65) (ri (l.getD i.toNat []) 1)).toNat []) 0 = true → goodL l = false) ∧
      (rb (M.getD (stdBin .add .i64 (stdBin .mul .i64 (ri (l.getD i.toNat []) 0) 65) (ri (l.getD i.toNat []) 1)).toNat []) 0 = false → caQ l ⟨i + 1, M.set (stdBin .add .i64 (stdBin .mul .i64 (ri (l.getD i.toNat []) 0) 65) (ri (l.getD i.toNat []) 1)).toNat [D.bool true]⟩)) := by
  obtain ⟨h0, h1, h2, h3⟩ := hq
  simp only at h0 h1 h2 h3
  have hn := good_next h0 h h3
  refine ⟨by rw [b_add, wr _ (by omega) (by omega)], by rw [h2, met_len], fun g => ?_, fun g => ?_⟩
  · rw [← Bool.not_eq_true]
    intro w
    have := (hn.1 (good_take _ w)).1
    rw [g] at this
    cases this
  · have k := may_1 g
    have hm := met_has (l := l.take i.toNat) (y := l.getD i.toNat []) ((good_iff _).1 h3).1 g
    rw [← h2] at hm
    have k1 : stdBin .mul .i64 (ri (l.getD i.toNat []) 0) 65 = ri (l.getD i.toNat []) 0 * 65 := by rw [b_mul, wr _ (by omega) (by omega)]
    have k2 : stdBin .add .i64 (ri (l.getD i.toNat []) 0 * 65) (ri (l.getD i.toNat []) 1) = ri (l.getD i.toNat []) 0 * 65 + ri (l.getD i.toNat []) 1 := by rw [b_add, wr _ (by omega) (by omega)]
    have k3 : stdBin .add .i64 (ri (l.getD i.toNat []) 0 * 65) 65 = ri (l.getD i.toNat []) 0 * 65 + 65 := by rw [b_add, wr _ (by omega) (by omega)]
    rw [k1, k2, k3]
    refine ⟨k.1, k.2.1, k.2.2.1, k.2.2.2.1, by omega, by omega, by omega, by omega, fun w => ?_, fun w => ?_⟩
    · rw [← Bool.not_eq_true]
      intro v
      exact (hn.1 (good_take _ v)).2 (hm.1 w)
    · refine ⟨by simp only; omega, by simp only; omega, ?_, hn.2 ⟨g, fun v => ?_⟩⟩
      · simp only
        rw [take_next l i h0 h, h2]
        unfold metL
        rw [List.foldl_append]
        rfl
      · have := hm.2 v
        unfold keyE at this
        rw [w] at this
        cases this
theorem ca_end (l : List E) (i : Int) (M : List E) (hq : caQ l ⟨i, M⟩) (h : ¬ i < l.length) : goodL l = true := by
  obtain ⟨h0, h1, h2, h3⟩ := hq
  simp only at h0 h1 h2 h3
  have e : i = l.length := by omega
  rw [e, Int.toNat_natCast, List.take_length] at h3
  exact h3
noncomputable def caI (A : Ar) (l : List E) (y : XC) : St := stOf Try.f20.ntmps [(0, .sl none (.recs (.int .i64 (.int .i64 (.int .i64 .nil))) l)), (3, .ptr 1 0), (6, .sl none (.recs (.int .i64 (.int .i64 (.int .i64 .nil))) l)), (7, .val (.int .i64 (A.lenE l))), (8, .val (.int .i64 y.i))] [(1, .row 73 (.recs (.bool .nil) y.M))] [Any]
def caR (st : St) : XC := ⟨slotI st 8, match hget st.heap (match slotC st 3 with | .ptr n _ => n | _ => 0) with | some (.row _ c) => ctR c | _ => []⟩
structure XI where
  i : Int
def myQ (l : List E) (y : XI) : Prop := 0 ≤ y.i ∧ y.i ≤ l.length ∧ ∀ z ∈ l.take y.i.toNat, may1 z = true
def myM (l : List E) (y : XI) : Nat := l.length - y.i.toNat
def myR (st : St) : XI := ⟨slotI st 3⟩
noncomputable def myI (l : List E) (y : XI) : St := stOf Try.f7.ntmps [(0, .sl none (.recs (.int .i64 (.int .i64 (.int .i64 .nil))) l)), (3, .val (.int .i64 y.i))] [] [Any]
theorem my_step (l : List E) (i : Int) (hq : myQ l ⟨i⟩) (h : i < l.length) (hl : l.length ≤ 1000000) : stdBin .add .i64 i 1 = i + 1 ∧ (may1 (l.getD i.toNat []) = false → goodL l = false) ∧ (may1 (l.getD i.toNat []) = true → myQ l ⟨i + 1⟩) := by
  obtain ⟨h0, h1, h2⟩ := hq
  simp only at h0 h1 h2
  refine ⟨by rw [b_add, wr _ (by omega) (by omega)], fun g => ?_, fun g => ⟨by simp only; omega, by simp only; omega, fun z hz => ?_⟩⟩
  · rw [← Bool.not_eq_true]
    intro w
    have := ((good_iff _).1 w).1 _ (pl_mem h0 h)
    rw [g] at this
    cases this
  · simp only at hz
    rw [take_next l i h0 h] at hz
    rcases List.mem_append.1 hz with hz | hz
    · exact h2 z hz
    · rw [List.mem_singleton] at hz
      rw [hz]
      exact g
theorem my_end (l : List E) (i : Int) (hq : myQ l ⟨i⟩) (h : ¬ i < l.length) : ∀ z ∈ l, may1 z = true := by
  obtain ⟨h0, h1, h2⟩ := hq
  simp only at h0 h1 h2
  have e : i = l.length := by omega
  rw [e, Int.toNat_natCast, List.take_length] at h2
  exact h2
noncomputable def rcI (l : List E) (y : XC) : St := stOf Try.f7.ntmps [(0, .sl none (.recs (.int .i64 (.int .i64 (.int .i64 .nil))) l)), (4, .ptr 1 0), (5, .val (.int .i64 y.i))] [(1, .row 73 (.recs (.bool .nil) y.M))] [Any]
def rcR (st : St) : XC := ⟨slotI st 5, match hget st.heap (match slotC st 4 with | .ptr n _ => n | _ => 0) with | some (.row _ c) => ctR c | _ => []⟩
def orQ (l : List Int) (y : XI) : Prop := 0 ≤ y.i ∧ y.i ≤ l.length ∧ orF (l.drop y.i.toNat) = orF l
def orM (l : List Int) (y : XI) : Nat := l.length - y.i.toNat
def orR (st : St) : XI := ⟨slotI st 8⟩
noncomputable def orI (A : Ar) (l : List Int) (y : XI) : St := stOf Try.f79.ntmps [(3, .num .i64 0), (6, .sl none (.ints .i64 l)), (7, .val (.int .i64 (A.lenI l))), (8, .val (.int .i64 y.i))] [] [Any]
theorem or_step (l : List Int) (i : Int) (hq : orQ l ⟨i⟩) (h : i < l.length) (hl : l.length ≤ 1000000) : stdBin .add .i64 i 1 = i + 1 ∧ (l.getD i.toNat 0 = 0 → orQ l ⟨i + 1⟩) ∧ (¬ l.getD i.toNat 0 = 0 → orF l = l.getD i.toNat 0) := by
  obtain ⟨h0, h1, h2⟩ := hq
  simp only at h0 h1 h2
  have hi : i.toNat < l.length := by omega
  have e : l.getD i.toNat 0 = l[i.toNat] := by rw [List.getD_eq_getElem?_getD, List.getElem?_eq_getElem hi]; rfl
  have e2 : (i + 1).toNat = i.toNat + 1 := by omega
  rw [List.drop_eq_getElem_cons hi] at h2
  rw [e]
  refine ⟨by rw [b_add, wr _ (by omega) (by omega)], fun g => ⟨by simp only; omega, by simp only; omega, ?_⟩, fun g => ?_⟩
  · simp only
    rw [e2, ← h2]
    rw [g]
    simp [orF]
  · rw [← h2]
    simp [orF, g]
theorem or_end (l : List Int) (i : Int) (hq : orQ l ⟨i⟩) (h : ¬ i < l.length) : orF l = 0 := by
  obtain ⟨h0, h1, h2⟩ := hq
  simp only at h0 h1 h2
  rw [← h2, List.drop_eq_nil_of_le (by omega)]
  rfl
def sameE (p q : List E) : Bool := decide (p.map trE = q.map trE)
structure XE where
  i : Int
/-- As far as here, alike. -/
def eqQ {α : Type} (f : E → α) (p q : List E) (y : XE) : Prop := 0 ≤ y.i ∧ y.i ≤ p.length ∧ (p.map f).take y.i.toNat = (q.map f).take y.i.toNat
def eqM (p : List E) (y : XE) : Nat := p.length - y.i.toNat
theorem eq_zero {α : Type} (f : E → α) (p q : List E) : eqQ f p q ⟨0⟩ := ⟨Int.le_refl 0, Int.natCast_nonneg _, rfl⟩
theorem eq_step {α : Type} (f : E → α) (p q : List E) (hl : p.length = q.length) (i : Int) (hq : eqQ f p q ⟨i⟩) (h : i < p.length) :
    (f (p.getD i.toNat []) = f (q.getD i.toNat []) → eqQ f p q ⟨i + 1⟩) ∧ (¬ f (p.getD i.toNat []) = f (q.getD i.toNat []) → ¬ p.map f = q.map f) := by
  obtain ⟨h0, h1, h2⟩ := hq
  simp only at h0 h1 h2
  have e : (i + 1).toNat = i.toNat + 1 := by omega
  have hi : i.toNat < p.length := by omega
  have hj : i.toNat < q.length := by omega
  have gp : p.getD i.toNat [] = p[i.toNat] := by rw [List.getD_eq_getElem?_getD, List.getElem?_eq_getElem hi]; rfl
  have gq : q.getD i.toNat [] = q[i.toNat] := by rw [List.getD_eq_getElem?_getD, List.getElem?_eq_getElem hj]; rfl
  refine ⟨fun g => ⟨by simp only; omega, by simp only; omega, ?_⟩, fun g w => g ?_⟩
  · simp only
    rw [e, List.take_add_one, List.take_add_one, h2, List.getElem?_map, List.getElem?_map, List.getElem?_eq_getElem hi, List.getElem?_eq_getElem hj, ← gp, ← gq]
    simp only [Option.map_some, g]
  · have := congrArg (fun l => l[i.toNat]?) w
    simp only [List.getElem?_map, List.getElem?_eq_getElem hi, List.getElem?_eq_getElem hj, Option.map_some, Option.some.injEq] at this
    rw [gp, gq]
    exact this
theorem eq_end {α : Type} (f : E → α) (p q : List E) (hl : p.length = q.length) (i : Int) (hq : eqQ f p q ⟨i⟩) (h : i = p.length) : p.map f = q.map f := by
  obtain ⟨h0, h1, h2⟩ := hq
  simp only at h2
  have e1 : i.toNat = (p.map f).length := by rw [List.length_map]; omega
  have e2 : i.toNat = (q.map f).length := by rw [List.length_map]; omega
  rw [e1, List.take_length, ← e1, e2, List.take_length] at h2
  exact h2
theorem len_ne {α : Type} (f : E → α) {p q : List E} (h : ¬ p.length = q.length) : ¬ p.map f = q.map f := fun w => h (by have := congrArg List.length w; simpa using this)
noncomputable def smI (q q' : List E) (y : XE) : St := stOf Try.f17.ntmps [(0, .sl none (.recs (.int .i64 (.int .i64 (.int .i64 .nil))) q)), (1, .sl none (.recs (.int .i64 (.int .i64 (.int .i64 .nil))) q')), (5, .val (.int .i64 y.i))] [] [Any, Any]
def smR (st : St) : XE := ⟨slotI st 5⟩

structure Fs where
  e_node : Int → Bool
  e_may : Int → Int → Int → Bool
  e_ch : Int → Int → Int → Int
  e_of : Int → Int → Int → EE
  e_oth : Int → Int → Int → Int
  e_all : List E → Int
  e_srt : List E → List E
  e_ok : List E → Bool
  e_okI : List Int → Bool
  e_sgn : Int → Int → Int
  e_or : List Int → Int
  e_cmp : Int → Int → Int → Int → Int → Int → Int
  e_same : List E → List E → Bool
  e_ok2 : List E → List E → Bool
def Fs.std : Fs := ⟨nodB, mayE, chE, ofE, othE, allE, srtX, fun l => decide (l.length ≤ 1000000), fun l => decide (l.length ≤ 1000000), sgn, orF, cmpF, sameE, fun p q => decide (p.length ≤ 1000000 ∧ q.length ≤ 1000000)⟩

def c_node (F : Fs) : Con := fun xs h => match xs, h with
  | [.one (.val (.int .i64 n))], [] => some ⟨True, .sa (B (F.e_node n)), [], [Any]⟩
  | _, _ => none
set_option maxHeartbeats 1000000 in
set_option maxRecDepth 100000 in
theorem x_node (n : Int) : Does [] Try.f37 [.one (.val (.int .i64 n))] [] ⟨True, .sa (B (Fs.std.e_node n)), [], [Any]⟩ := by
  intro b gv
  generalize hF : Fs.std = F
  generalize hA : Ar.std = A
  generalize hL : Lp _ _ _ = L
  obtain ⟨Z, zq⟩ := z_all
  refine cd_open (lp_mono hL) zq rfl ?_
  repeat' (first
    | (refine z_open zq ?_; try dsimp only)
    | refine cd_seq zq ?_ (lp_mono hL)
    | refine cd_blk zq ?_
    | refine cd_ret ?_
    | refine cd_skip ?_
    | refine cd_exit ?_
    | refine cd_loop ?_
    | refine cd_cond rfl ?_
    | refine cd_condT rfl ?_
    | refine cd_condF rfl ?_
    | (refine Cd.mk ?_; cbv)
    | (refine Ends1.mk ?_; cbv)
    | (refine Fin1.mk ?_; cbv)
    | exact trivial
    | refine And.intro ?_ ?_
    | refine orf fun _ => ?_
    | refine ort fun _ => ?_)
  all_goals
    clear hL zq Z
    subst hF hA
    simp only [Fs.std, Ar.std] at *
    try (first | (exact len_m _ _ (by assumption)) | (grind [stdCmp, b_add, wr, nodB]))
theorem ok_node : ConOk Try.prog 37 (c_node Fs.std) := by
  refine con_of FsOk.nil Try.func37 rfl rfl fun xs h p hp => ?_
  unfold c_node at hp
  split at hp
  · cases hp
    exact ⟨lee_le rfl, fun _ _ => x_node _⟩
  · cases hp

def c_rnode (F : Fs) : Con := fun xs h => match xs, h with
  | [.one (.val (.int .i64 n))], [] => some ⟨True, .sa (B (F.e_node n)), [], [Any]⟩
  | _, _ => none
set_option maxHeartbeats 1000000 in
set_option maxRecDepth 100000 in
theorem x_rnode (n : Int) : Does [] Try.f25 [.one (.val (.int .i64 n))] [] ⟨True, .sa (B (Fs.std.e_node n)), [], [Any]⟩ := by
  intro b gv
  generalize hF : Fs.std = F
  generalize hA : Ar.std = A
  generalize hL : Lp _ _ _ = L
  obtain ⟨Z, zq⟩ := z_all
  refine cd_open (lp_mono hL) zq rfl ?_
  repeat' (first
    | (refine z_open zq ?_; try dsimp only)
    | refine cd_seq zq ?_ (lp_mono hL)
    | refine cd_blk zq ?_
    | refine cd_ret ?_
    | refine cd_skip ?_
    | refine cd_exit ?_
    | refine cd_loop ?_
    | refine cd_cond rfl ?_
    | refine cd_condT rfl ?_
    | refine cd_condF rfl ?_
    | (refine Cd.mk ?_; cbv)
    | (refine Ends1.mk ?_; cbv)
    | (refine Fin1.mk ?_; cbv)
    | exact trivial
    | refine And.intro ?_ ?_
    | refine orf fun _ => ?_
    | refine ort fun _ => ?_)
  all_goals
    clear hL zq Z
    subst hF hA
    simp only [Fs.std, Ar.std] at *
    try (first | (exact len_m _ _ (by assumption)) | (grind [stdCmp, b_add, wr, nodB]))
theorem ok_rnode : ConOk Try.prog 25 (c_rnode Fs.std) := by
  refine con_of FsOk.nil Try.func25 rfl rfl fun xs h p hp => ?_
  unfold c_rnode at hp
  split at hp
  · cases hp
    exact ⟨lee_le rfl, fun _ _ => x_rnode _⟩
  · cases hp

def c_echeck (F : Fs) : Con := fun xs h => match xs, h with
  | [.agg [.val (.int .i64 e_a), .val (.int .i64 e_b), .val (.int .i64 e_w)]], [] => some ⟨True, .sa (I (F.e_ch e_a e_b e_w)), [], [Any]⟩
  | _, _ => none
set_option maxHeartbeats 1000000 in
set_option maxRecDepth 100000 in
theorem x_echeck (e_a : Int) (e_b : Int) (e_w : Int) : Does [(37, c_node Fs.std)] Try.f38 [.agg [.val (.int .i64 e_a), .val (.int .i64 e_b), .val (.int .i64 e_w)]] [] ⟨True, .sa (I (Fs.std.e_ch e_a e_b e_w)), [], [Any]⟩ := by
  intro b gv
  generalize hF : Fs.std = F
  generalize hA : Ar.std = A
  generalize hL : Lp _ _ _ = L
  obtain ⟨Z, zq⟩ := z_all
  refine cd_open (lp_mono hL) zq rfl ?_
  repeat' (first
    | (refine z_open zq ?_; try dsimp only)
    | refine cd_seq zq ?_ (lp_mono hL)
    | refine cd_blk zq ?_
    | refine cd_ret ?_
    | refine cd_skip ?_
    | refine cd_exit ?_
    | refine cd_loop ?_
    | refine cd_cond rfl ?_
    | refine cd_condT rfl ?_
    | refine cd_condF rfl ?_
    | (refine Cd.mk ?_; cbv)
    | (refine Ends1.mk ?_; cbv)
    | (refine Fin1.mk ?_; cbv)
    | exact trivial
    | refine And.intro ?_ ?_
    | refine orf fun _ => ?_
    | refine ort fun _ => ?_)
  all_goals
    clear hL zq Z
    subst hF hA
    simp only [Fs.std, Ar.std] at *
    try (first | (exact len_m _ _ (by assumption)) | (grind [stdCmp, b_add, wr, chE, mayE, nodB]))
theorem ok_echeck : ConOk Try.prog 38 (c_echeck Fs.std) := by
  refine con_of (FsOk.cons ok_node FsOk.nil rfl) Try.func38 rfl rfl fun xs h p hp => ?_
  unfold c_echeck at hp
  split at hp
  · cases hp
    exact ⟨lee_le rfl, fun _ _ => x_echeck _ _ _⟩
  · cases hp

def c_remay (F : Fs) : Con := fun xs h => match xs, h with
  | [.agg [.val (.int .i64 e_a), .val (.int .i64 e_b), .val (.int .i64 e_w)]], [] => some ⟨True, .sa (B (F.e_may e_a e_b e_w)), [], [Any]⟩
  | _, _ => none
set_option maxHeartbeats 1000000 in
set_option maxRecDepth 100000 in
theorem x_remay (e_a : Int) (e_b : Int) (e_w : Int) : Does [(25, c_rnode Fs.std)] Try.f23 [.agg [.val (.int .i64 e_a), .val (.int .i64 e_b), .val (.int .i64 e_w)]] [] ⟨True, .sa (B (Fs.std.e_may e_a e_b e_w)), [], [Any]⟩ := by
  intro b gv
  generalize hF : Fs.std = F
  generalize hA : Ar.std = A
  generalize hL : Lp _ _ _ = L
  obtain ⟨Z, zq⟩ := z_all
  refine cd_open (lp_mono hL) zq rfl ?_
  repeat' (first
    | (refine z_open zq ?_; try dsimp only)
    | refine cd_seq zq ?_ (lp_mono hL)
    | refine cd_blk zq ?_
    | refine cd_ret ?_
    | refine cd_skip ?_
    | refine cd_exit ?_
    | refine cd_loop ?_
    | refine cd_cond rfl ?_
    | refine cd_condT rfl ?_
    | refine cd_condF rfl ?_
    | (refine Cd.mk ?_; cbv)
    | (refine Ends1.mk ?_; cbv)
    | (refine Fin1.mk ?_; cbv)
    | exact trivial
    | refine And.intro ?_ ?_
    | refine orf fun _ => ?_
    | refine ort fun _ => ?_)
  all_goals
    clear hL zq Z
    subst hF hA
    simp only [Fs.std, Ar.std] at *
    try (first | (exact len_m _ _ (by assumption)) | (grind [stdCmp, b_add, wr, mayE, nodB]))
theorem ok_remay : ConOk Try.prog 23 (c_remay Fs.std) := by
  refine con_of (FsOk.cons ok_rnode FsOk.nil rfl) Try.func23 rfl rfl fun xs h p hp => ?_
  unfold c_remay at hp
  split at hp
  · cases hp
    exact ⟨lee_le rfl, fun _ _ => x_remay _ _ _⟩
  · cases hp

def c_eof (F : Fs) : Con := fun xs h => match xs, h with
  | [.one (.val (.int .i64 a)), .one (.val (.int .i64 d)), .one (.val (.int .i64 w))], [] => some ⟨True, .tup [.agg [.val (.int .i64 (F.e_of a d w).a), .val (.int .i64 (F.e_of a d w).b), .val (.int .i64 (F.e_of a d w).w)], I (F.e_of a d w).e], [], [Any, Any, Any]⟩
  | _, _ => none
def c_other (F : Fs) : Con := fun xs h => match xs, h with
  | [.agg [.val (.int .i64 e_a), .val (.int .i64 e_b), .val (.int .i64 _)], .one (.val (.int .i64 n))], [] => some ⟨True, .sa (I (F.e_oth e_a e_b n)), [], [Any, Any]⟩
  | _, _ => none
def c_echeckall (F : Fs) : Con := fun xs h => match xs, h with
  | [.one (.sl none (.recs (.int .i64 (.int .i64 (.int .i64 .nil))) l))], [] => some ⟨F.e_ok l = true, .sa (I (F.e_all l)), [], [Any]⟩
  | _, _ => none
set_option maxHeartbeats 2000000 in
set_option maxRecDepth 100000 in
theorem x_echeckall (l : List E) (hC : Fs.std.e_ok l = true) : Does [(38, c_echeck Fs.std)] Try.f20 [.one (.sl none (.recs (.int .i64 (.int .i64 (.int .i64 .nil))) l))] [] ⟨Fs.std.e_ok l = true, .sa (I (Fs.std.e_all l)), [], [Any]⟩ := by
  intro b gv
  have hk : l.length ≤ 1000000 := of_decide_eq_true (show decide (l.length ≤ 1000000) = true from hC)
  have hfs := (FsOk.cons ok_echeck FsOk.nil rfl)
  generalize hF : Fs.std = F at hC hfs ⊢
  generalize hA : Ar.std = A
  generalize hL : Lp _ _ _ = L
  obtain ⟨Z, zq⟩ := z_all
  refine cd_open (lp_mono hL) zq rfl ?_
  repeat' (first
    | (refine z_open zq ?_; try dsimp only)
    | refine cd_seq zq ?_ (lp_mono hL)
    | refine cd_blk zq ?_
    | refine cd_ret ?_
    | refine cd_skip ?_
    | refine cd_exit ?_
    | refine cd_loop ?_
    | refine cd_cond rfl ?_
    | refine cd_condT rfl ?_
    | refine cd_condF rfl ?_
    | (refine Cd.mk ?_; cbv)
    | (refine Ends1.mk ?_; cbv)
    | (refine Fin1.mk ?_; cbv)
    | exact trivial
    | refine And.intro ?_ ?_
    | refine orf fun _ => ?_
    | refine ort fun _ => ?_)
  subst hL
  refine loop_z (cx_ok hfs) (caQ l) (caI A l) (caM l) caR ⟨0, A.repE 4225 [D.bool false]⟩ ?_ ?_ ?_
  · exact (by subst hA; exact ca_zero l)
  · cbv
    repeat' (first | exact trivial | exact rfl | refine And.intro ?_ ?_)
  rintro ⟨i, M⟩ hq O hO
  have hst := fun h => ca_step l i M hq h hk
  have hen := ca_end l i M hq
  have q0 := hq.1
  have q1 := hq.2.1
  dsimp only at q0 q1
  subst hA
  generalize hA : Ar.std = A
  generalize hL : Lp _ _ _ = L
  refine cd_close zq ?_
  repeat' (first
    | (refine z_open zq ?_; try dsimp only)
    | refine cd_seq zq ?_ (lp_mono hL)
    | refine cd_blk zq ?_
    | refine cd_ret ?_
    | refine cd_skip ?_
    | refine cd_exit ?_
    | refine cd_loop ?_
    | refine cd_cond rfl ?_
    | refine cd_condT rfl ?_
    | refine cd_condF rfl ?_
    | (refine Cd.mk ?_; cbv)
    | (refine Ends1.mk ?_; cbv)
    | (refine Fin1.mk ?_; cbv)
    | exact trivial
    | refine And.intro ?_ ?_
    | refine orf fun _ => ?_
    | refine ort fun _ => ?_)
  all_goals (clear hL hfs zq Z hq; subst hA hF hO; simp only [Fs.std, Ar.std, o65] at * <;> grind [stdCmp, caM, allE, may1, chE])
theorem ok_echeckall : ConOk Try.prog 20 (c_echeckall Fs.std) := by
  refine con_of (FsOk.cons ok_echeck FsOk.nil rfl) Try.func20 rfl rfl fun xs h p hp => ?_
  unfold c_echeckall at hp
  split at hp
  · cases hp
    exact ⟨lee_le rfl, fun hC _ => x_echeckall _ hC⟩
  · cases hp

def c_rcheck (F : Fs) : Con := fun xs h => match xs, h with
  | [.one (.sl none (.recs (.int .i64 (.int .i64 (.int .i64 .nil))) l))], [] => some ⟨F.e_ok l = true, .sa (I (F.e_all l)), [], [Any]⟩
  | _, _ => none
set_option maxHeartbeats 2000000 in
set_option maxRecDepth 100000 in
theorem x_rcheck (l : List E) (hC : Fs.std.e_ok l = true) : Does [(23, c_remay Fs.std)] Try.f7 [.one (.sl none (.recs (.int .i64 (.int .i64 (.int .i64 .nil))) l))] [] ⟨Fs.std.e_ok l = true, .sa (I (Fs.std.e_all l)), [], [Any]⟩ := by
  intro b gv
  have hk : l.length ≤ 1000000 := of_decide_eq_true (show decide (l.length ≤ 1000000) = true from hC)
  have hfs := (FsOk.cons ok_remay FsOk.nil rfl)
  generalize hF : Fs.std = F at hC hfs ⊢
  generalize hA : Ar.std = A
  generalize hL : Lp _ _ _ = L
  obtain ⟨Z, zq⟩ := z_all
  refine cd_open (lp_mono hL) zq rfl ?_
  repeat' (first
    | (refine z_open zq ?_; try dsimp only)
    | refine cd_seq zq ?_ (lp_mono hL)
    | refine cd_blk zq ?_
    | refine cd_ret ?_
    | refine cd_skip ?_
    | refine cd_exit ?_
    | refine cd_loop ?_
    | refine cd_cond rfl ?_
    | refine cd_condT rfl ?_
    | refine cd_condF rfl ?_
    | (refine Cd.mk ?_; cbv)
    | (refine Ends1.mk ?_; cbv)
    | (refine Fin1.mk ?_; cbv)
    | exact trivial
    | refine And.intro ?_ ?_
    | refine orf fun _ => ?_
    | refine ort fun _ => ?_)
  subst hL
  refine loop_z (cx_ok hfs) (myQ l) (myI l) (myM l) myR ⟨0⟩ ?_ ?_ ?_
  · exact ⟨Int.le_refl 0, Int.natCast_nonneg _, fun _ h => by cases h⟩
  · cbv
    repeat' (first | exact trivial | exact rfl | refine And.intro ?_ ?_)
  rintro ⟨i⟩ hq O hO
  have hst := fun h => my_step l i hq h hk
  have hen := my_end l i hq
  have q0 := hq.1
  have q1 := hq.2.1
  dsimp only at q0 q1
  subst hA
  generalize hA : Ar.std = A
  generalize hL : Lp _ _ _ = L
  refine cd_close zq ?_
  repeat' (first
    | (refine z_open zq ?_; try dsimp only)
    | refine cd_seq zq ?_ (lp_mono hL)
    | refine cd_blk zq ?_
    | refine cd_ret ?_
    | refine cd_skip ?_
    | refine cd_exit ?_
    | refine cd_loop ?_
    | refine cd_cond rfl ?_
    | refine cd_condT rfl ?_
    | refine cd_condF rfl ?_
    | (refine Cd.mk ?_; cbv)
    | (refine Ends1.mk ?_; cbv)
    | (refine Fin1.mk ?_; cbv)
    | exact trivial
    | refine And.intro ?_ ?_
    | refine orf fun _ => ?_
    | refine ort fun _ => ?_)
  all_goals first | (show L _ _ _; skip) | (clear hL hfs zq Z hq; subst hA hF hO; simp only [Fs.std, Ar.std] at * <;> grind [stdCmp, myM, allE, may1]; done)
  rename_i hx
  clear hst hO
  subst hL
  refine loop_z (cx_ok hfs) (caQ l) (rcI l) (caM l) rcR ⟨0, A.repE 4225 [D.bool false]⟩ ?_ ?_ ?_
  · exact (by subst hA; exact ca_zero l)
  · cbv
    repeat' (first | exact trivial | exact rfl | refine And.intro ?_ ?_)
  rintro ⟨k, M⟩ hq2 O hO
  have hst := fun h => ca_step l k M hq2 h hk
  have hen2 := ca_end l k M hq2
  have k0 := hq2.1
  have k1 := hq2.2.1
  dsimp only at k0 k1
  subst hA
  generalize hA : Ar.std = A
  generalize hL : Lp _ _ _ = L
  refine cd_close zq ?_
  repeat' (first
    | (refine z_open zq ?_; try dsimp only)
    | refine cd_seq zq ?_ (lp_mono hL)
    | refine cd_blk zq ?_
    | refine cd_ret ?_
    | refine cd_skip ?_
    | refine cd_exit ?_
    | refine cd_loop ?_
    | refine cd_cond rfl ?_
    | refine cd_condT rfl ?_
    | refine cd_condF rfl ?_
    | (refine Cd.mk ?_; cbv)
    | (refine Ends1.mk ?_; cbv)
    | (refine Fin1.mk ?_; cbv)
    | exact trivial
    | refine And.intro ?_ ?_
    | refine orf fun _ => ?_
    | refine ort fun _ => ?_)
  all_goals (clear hL hfs zq Z hq2; subst hA hF hO; simp only [Fs.std, Ar.std, o65] at * <;> grind [stdCmp, caM, allE])
theorem ok_rcheck : ConOk Try.prog 7 (c_rcheck Fs.std) := by
  refine con_of (FsOk.cons ok_remay FsOk.nil rfl) Try.func7 rfl rfl fun xs h p hp => ?_
  unfold c_rcheck at hp
  split at hp
  · cases hp
    exact ⟨lee_le rfl, fun hC _ => x_rcheck _ hC⟩
  · cases hp

def c_esort (F : Fs) : Con := fun xs h => match xs, h with
  | [.one (.sl none (.recs (.int .i64 (.int .i64 (.int .i64 .nil))) l))], [] => some ⟨F.e_ok l = true, .tup [.one (.sl none (.recs (.int .i64 (.int .i64 (.int .i64 .nil))) (F.e_srt l))), I (F.e_all l)], [], [Any]⟩
  | _, _ => none
set_option maxHeartbeats 1000000 in
set_option maxRecDepth 100000 in
theorem x_esort (l : List E) (hC : Fs.std.e_ok l = true) : Does [(20, c_echeckall Fs.std), (59, c_sort Os.std)] Try.f35 [.one (.sl none (.recs (.int .i64 (.int .i64 (.int .i64 .nil))) l))] [] ⟨Fs.std.e_ok l = true, .tup [.one (.sl none (.recs (.int .i64 (.int .i64 (.int .i64 .nil))) (Fs.std.e_srt l))), I (Fs.std.e_all l)], [], [Any]⟩ := by
  intro b gv
  have hk : l.length ≤ 1000000 := of_decide_eq_true (show decide (l.length ≤ 1000000) = true from hC)
  have hsl := (srt_all l).1
  have hfs := (FsOk.cons ok_echeckall (FsOk.cons ok_sort FsOk.nil rfl) rfl)
  generalize hF : Fs.std = F at hC hfs ⊢
  generalize hG0 : Os.std = G0 at hC hfs ⊢
  generalize hA : Ar.std = A
  generalize hL : Lp _ _ _ = L
  obtain ⟨Z, zq⟩ := z_all
  refine cd_open (lp_mono hL) zq rfl ?_
  repeat' (first
    | (refine z_open zq ?_; try dsimp only)
    | refine cd_seq zq ?_ (lp_mono hL)
    | refine cd_blk zq ?_
    | refine cd_ret ?_
    | refine cd_skip ?_
    | refine cd_exit ?_
    | refine cd_loop ?_
    | refine cd_cond rfl ?_
    | refine cd_condT rfl ?_
    | refine cd_condF rfl ?_
    | (refine Cd.mk ?_; cbv)
    | (refine Ends1.mk ?_; cbv)
    | (refine Fin1.mk ?_; cbv)
    | exact trivial
    | refine And.intro ?_ ?_
    | refine orf fun _ => ?_
    | refine ort fun _ => ?_)
  all_goals
    clear hL zq Z hfs
    subst hF hA hG0
    simp only [Fs.std, Os.std, Ar.std, cpy_id] at *
    try (first | (exact len_m _ _ (by assumption)) | (grind [stdCmp, b_add, wr, srtX, allE]))
theorem ok_esort : ConOk Try.prog 35 (c_esort Fs.std) := by
  refine con_of (FsOk.cons ok_echeckall (FsOk.cons ok_sort FsOk.nil rfl) rfl) Try.func35 rfl rfl fun xs h p hp => ?_
  unfold c_esort at hp
  split at hp
  · cases hp
    exact ⟨lee_le rfl, fun hC _ => x_esort _ hC⟩
  · cases hp

def c_nan (_ : Fs) : Con := fun xs h => match xs, h with
  | [.one (.val (.int .i64 _))], [] => some ⟨True, .sa (B false), [], [Any]⟩
  | _, _ => none
set_option maxHeartbeats 1000000 in
set_option maxRecDepth 100000 in
theorem x_nan (a : Int) : Does [] Try.f96 [.one (.val (.int .i64 a))] [] ⟨True, .sa (B false), [], [Any]⟩ := by
  intro b gv
  generalize hF : Fs.std = F
  generalize hA : Ar.std = A
  generalize hL : Lp _ _ _ = L
  obtain ⟨Z, zq⟩ := z_all
  refine cd_open (lp_mono hL) zq rfl ?_
  repeat' (first
    | (refine z_open zq ?_; try dsimp only)
    | refine cd_seq zq ?_ (lp_mono hL)
    | refine cd_blk zq ?_
    | refine cd_ret ?_
    | refine cd_skip ?_
    | refine cd_exit ?_
    | refine cd_loop ?_
    | refine cd_cond rfl ?_
    | refine cd_condT rfl ?_
    | refine cd_condF rfl ?_
    | (refine Cd.mk ?_; cbv)
    | (refine Ends1.mk ?_; cbv)
    | (refine Fin1.mk ?_; cbv)
    | exact trivial
    | refine And.intro ?_ ?_
    | refine orf fun _ => ?_
    | refine ort fun _ => ?_)
  all_goals
    clear hL zq Z
    subst hF hA
    simp only [Ar.std] at *
    try (first | (simp [stdCmp]; done) | (exact len_m _ _ (by assumption)) | (grind [stdCmp, b_add, wr]))
theorem ok_nan : ConOk Try.prog 96 (c_nan Fs.std) := by
  refine con_of FsOk.nil Try.func96 rfl rfl fun xs h p hp => ?_
  unfold c_nan at hp
  split at hp
  · cases hp
    exact ⟨lee_le rfl, fun _ _ => x_nan _⟩
  · cases hp

def c_cmpi (F : Fs) : Con := fun xs h => match xs, h with
  | [.one (.val (.int .i64 a)), .one (.val (.int .i64 d))], [] => some ⟨True, .sa (I (F.e_sgn a d)), [], [Any, Any]⟩
  | _, _ => none
set_option maxHeartbeats 1000000 in
set_option maxRecDepth 100000 in
theorem x_cmpi (a : Int) (d : Int) : Does [(96, c_nan Fs.std)] Try.f80 [.one (.val (.int .i64 a)), .one (.val (.int .i64 d))] [] ⟨True, .sa (I (Fs.std.e_sgn a d)), [], [Any, Any]⟩ := by
  intro b gv
  generalize hF : Fs.std = F
  generalize hA : Ar.std = A
  generalize hL : Lp _ _ _ = L
  obtain ⟨Z, zq⟩ := z_all
  refine cd_open (lp_mono hL) zq rfl ?_
  repeat' (first
    | (refine z_open zq ?_; try dsimp only)
    | refine cd_seq zq ?_ (lp_mono hL)
    | refine cd_blk zq ?_
    | refine cd_ret ?_
    | refine cd_skip ?_
    | refine cd_exit ?_
    | refine cd_loop ?_
    | refine cd_cond rfl ?_
    | refine cd_condT rfl ?_
    | refine cd_condF rfl ?_
    | (refine Cd.mk ?_; cbv)
    | (refine Ends1.mk ?_; cbv)
    | (refine Fin1.mk ?_; cbv)
    | exact trivial
    | refine And.intro ?_ ?_
    | refine orf fun _ => ?_
    | refine ort fun _ => ?_)
  all_goals
    clear hL zq Z
    subst hF hA
    simp only [Fs.std, Ar.std] at *
    try (first | (exact len_m _ _ (by assumption)) | (grind [stdCmp, b_add, wr, sgn]))
theorem ok_cmpi : ConOk Try.prog 80 (c_cmpi Fs.std) := by
  refine con_of (FsOk.cons ok_nan FsOk.nil rfl) Try.func80 rfl rfl fun xs h p hp => ?_
  unfold c_cmpi at hp
  split at hp
  · cases hp
    exact ⟨lee_le rfl, fun _ _ => x_cmpi _ _⟩
  · cases hp

def c_ori (F : Fs) : Con := fun xs h => match xs, h with
  | [.one (.sl none (.ints .i64 l))], [] => some ⟨F.e_okI l = true, .sa (I (F.e_or l)), [], [Any]⟩
  | _, _ => none
set_option maxHeartbeats 1000000 in
set_option maxRecDepth 100000 in
theorem x_ori (l : List Int) (hC : Fs.std.e_okI l = true) : Does [] Try.f79 [.one (.sl none (.ints .i64 l))] [] ⟨Fs.std.e_okI l = true, .sa (I (Fs.std.e_or l)), [], [Any]⟩ := by
  intro b gv
  have hk : l.length ≤ 1000000 := of_decide_eq_true (show decide (l.length ≤ 1000000) = true from hC)
  have hfs := FsOk.nil
  generalize hF : Fs.std = F at hC hfs ⊢
  generalize hA : Ar.std = A
  generalize hL : Lp _ _ _ = L
  obtain ⟨Z, zq⟩ := z_all
  refine cd_open (lp_mono hL) zq rfl ?_
  repeat' (first
    | (refine z_open zq ?_; try dsimp only)
    | refine cd_seq zq ?_ (lp_mono hL)
    | refine cd_blk zq ?_
    | refine cd_ret ?_
    | refine cd_skip ?_
    | refine cd_exit ?_
    | refine cd_loop ?_
    | refine cd_cond rfl ?_
    | refine cd_condT rfl ?_
    | refine cd_condF rfl ?_
    | (refine Cd.mk ?_; cbv)
    | (refine Ends1.mk ?_; cbv)
    | (refine Fin1.mk ?_; cbv)
    | exact trivial
    | refine And.intro ?_ ?_
    | refine orf fun _ => ?_
    | refine ort fun _ => ?_)
  subst hL
  refine loop_z (cx_ok hfs) (orQ l) (orI A l) (orM l) orR ⟨0⟩ ?_ ?_ ?_
  · exact ⟨Int.le_refl 0, Int.natCast_nonneg _, rfl⟩
  · cbv
    repeat' (first | exact trivial | exact rfl | refine And.intro ?_ ?_)
  rintro ⟨i⟩ hq O hO
  have hst := fun h => or_step l i hq h hk
  have hen := or_end l i hq
  have q0 := hq.1
  have q1 := hq.2.1
  dsimp only at q0 q1
  subst hA
  generalize hA : Ar.std = A
  generalize hL : Lp _ _ _ = L
  refine cd_close zq ?_
  repeat' (first
    | (refine z_open zq ?_; try dsimp only)
    | refine cd_seq zq ?_ (lp_mono hL)
    | refine cd_blk zq ?_
    | refine cd_ret ?_
    | refine cd_skip ?_
    | refine cd_exit ?_
    | refine cd_loop ?_
    | refine cd_cond rfl ?_
    | refine cd_condT rfl ?_
    | refine cd_condF rfl ?_
    | (refine Cd.mk ?_; cbv)
    | (refine Ends1.mk ?_; cbv)
    | (refine Fin1.mk ?_; cbv)
    | exact trivial
    | refine And.intro ?_ ?_
    | refine orf fun _ => ?_
    | refine ort fun _ => ?_)
  all_goals (clear hL hfs zq Z hq; subst hA hF hO; simp only [Fs.std, Ar.std] at * <;> grind [stdCmp, orM])
theorem ok_ori : ConOk Try.prog 79 (c_ori Fs.std) := by
  refine con_of FsOk.nil Try.func79 rfl rfl fun xs h p hp => ?_
  unfold c_ori at hp
  split at hp
  · cases hp
    exact ⟨lee_le rfl, fun hC _ => x_ori _ hC⟩
  · cases hp

def c_ecmp (F : Fs) : Con := fun xs h => match xs, h with
  | [.agg [.val (.int .i64 x_a), .val (.int .i64 x_b), .val (.int .i64 x_w)], .agg [.val (.int .i64 y_a), .val (.int .i64 y_b), .val (.int .i64 y_w)]], [] => some ⟨True, .sa (I (F.e_cmp x_a x_b x_w y_a y_b y_w)), [], [Any, Any]⟩
  | _, _ => none
set_option maxHeartbeats 1000000 in
set_option maxRecDepth 100000 in
theorem x_ecmp (x_a : Int) (x_b : Int) (x_w : Int) (y_a : Int) (y_b : Int) (y_w : Int) : Does [(80, c_cmpi Fs.std), (79, c_ori Fs.std)] Try.f60 [.agg [.val (.int .i64 x_a), .val (.int .i64 x_b), .val (.int .i64 x_w)], .agg [.val (.int .i64 y_a), .val (.int .i64 y_b), .val (.int .i64 y_w)]] [] ⟨True, .sa (I (Fs.std.e_cmp x_a x_b x_w y_a y_b y_w)), [], [Any, Any]⟩ := by
  intro b gv
  have h0 := cmpF_eq0 x_a x_b x_w y_a y_b y_w
  generalize hF : Fs.std = F
  generalize hA : Ar.std = A
  generalize hL : Lp _ _ _ = L
  obtain ⟨Z, zq⟩ := z_all
  refine cd_open (lp_mono hL) zq rfl ?_
  repeat' (first
    | (refine z_open zq ?_; try dsimp only)
    | refine cd_seq zq ?_ (lp_mono hL)
    | refine cd_blk zq ?_
    | refine cd_ret ?_
    | refine cd_skip ?_
    | refine cd_exit ?_
    | refine cd_loop ?_
    | refine cd_cond rfl ?_
    | refine cd_condT rfl ?_
    | refine cd_condF rfl ?_
    | (refine Cd.mk ?_; cbv)
    | (refine Ends1.mk ?_; cbv)
    | (refine Fin1.mk ?_; cbv)
    | exact trivial
    | refine And.intro ?_ ?_
    | refine orf fun _ => ?_
    | refine ort fun _ => ?_)
  all_goals
    clear hL zq Z
    subst hF hA
    simp only [Fs.std, Ar.std] at *
    try (first | (exact len_m _ _ (by assumption)) | (grind [stdCmp, b_add, wr, cmpF]))
theorem ok_ecmp : ConOk Try.prog 60 (c_ecmp Fs.std) := by
  refine con_of (FsOk.cons ok_cmpi (FsOk.cons ok_ori FsOk.nil rfl) rfl) Try.func60 rfl rfl fun xs h p hp => ?_
  unfold c_ecmp at hp
  split at hp
  · cases hp
    exact ⟨lee_le rfl, fun _ _ => x_ecmp _ _ _ _ _ _⟩
  · cases hp

def c_esame (F : Fs) : Con := fun xs h => match xs, h with
  | [.one (.sl none (.recs (.int .i64 (.int .i64 (.int .i64 .nil))) p)), .one (.sl none (.recs (.int .i64 (.int .i64 (.int .i64 .nil))) q))], [] => some ⟨F.e_ok2 p q = true, .sa (B (F.e_same p q)), [], [Any, Any]⟩
  | _, _ => none
set_option maxHeartbeats 1000000 in
set_option maxRecDepth 100000 in
theorem x_esame (p : List E) (q : List E) (hC : Fs.std.e_ok2 p q = true) : Does [] Try.f17 [.one (.sl none (.recs (.int .i64 (.int .i64 (.int .i64 .nil))) p)), .one (.sl none (.recs (.int .i64 (.int .i64 (.int .i64 .nil))) q))] [] ⟨Fs.std.e_ok2 p q = true, .sa (B (Fs.std.e_same p q)), [], [Any, Any]⟩ := by
  intro b gv
  have hk := of_decide_eq_true (show decide (p.length ≤ 1000000 ∧ q.length ≤ 1000000) = true from hC)
  have hne := len_ne trE (p := p) (q := q)
  have hfs := FsOk.nil
  generalize hF : Fs.std = F at hC hfs ⊢
  generalize hA : Ar.std = A
  generalize hL : Lp _ _ _ = L
  obtain ⟨Z, zq⟩ := z_all
  refine cd_open (lp_mono hL) zq rfl ?_
  repeat' (first
    | (refine z_open zq ?_; try dsimp only)
    | refine cd_seq zq ?_ (lp_mono hL)
    | refine cd_blk zq ?_
    | refine cd_ret ?_
    | refine cd_skip ?_
    | refine cd_exit ?_
    | refine cd_loop ?_
    | refine cd_cond rfl ?_
    | refine cd_condT rfl ?_
    | refine cd_condF rfl ?_
    | (refine Cd.mk ?_; cbv)
    | (refine Ends1.mk ?_; cbv)
    | (refine Fin1.mk ?_; cbv)
    | exact trivial
    | refine And.intro ?_ ?_
    | refine orf fun _ => ?_
    | refine ort fun _ => ?_)
  all_goals first | (show L _ _ _; skip) | (clear hfs hL zq Z; subst hA hF; simp only [Fs.std, Ar.std] at * <;> grind [stdCmp, sameE]; done)
  rename_i hx
  have hl : p.length = q.length := by
    clear hfs hL zq Z hF
    subst hA
    simp only [Ar.std] at hx
    grind [stdCmp]
  clear hx
  subst hL
  refine loop_z (cx_ok hfs) (eqQ trE p q) (smI p q) (eqM p) smR ⟨0⟩ ?_ ?_ ?_
  · exact eq_zero _ _ _
  · cbv
    repeat' (first | exact trivial | exact rfl | refine And.intro ?_ ?_)
  rintro ⟨i⟩ hq O hO
  have hst := eq_step trE p q hl i hq
  have hen := eq_end trE p q hl i hq
  have q0 := hq.1
  have q1 := hq.2.1
  dsimp only at q0 q1
  simp only [trE, Prod.mk.injEq] at hst
  subst hA
  generalize hA : Ar.std = A
  generalize hL : Lp _ _ _ = L
  refine cd_close zq ?_
  repeat' (first
    | (refine z_open zq ?_; try dsimp only)
    | refine cd_seq zq ?_ (lp_mono hL)
    | refine cd_blk zq ?_
    | refine cd_ret ?_
    | refine cd_skip ?_
    | refine cd_exit ?_
    | refine cd_loop ?_
    | refine cd_cond rfl ?_
    | refine cd_condT rfl ?_
    | refine cd_condF rfl ?_
    | (refine Cd.mk ?_; cbv)
    | (refine Ends1.mk ?_; cbv)
    | (refine Fin1.mk ?_; cbv)
    | exact trivial
    | refine And.intro ?_ ?_
    | refine orf fun _ => ?_
    | refine ort fun _ => ?_)
  all_goals (clear hL hfs zq Z hq; subst hA hF hO; simp only [Fs.std, Ar.std] at * <;> grind [stdCmp, b_add, wr, eqM, sameE])
theorem ok_esame : ConOk Try.prog 17 (c_esame Fs.std) := by
  refine con_of FsOk.nil Try.func17 rfl rfl fun xs h p hp => ?_
  unfold c_esame at hp
  split at hp
  · cases hp
    exact ⟨lee_le rfl, fun hC _ => x_esame _ _ hC⟩
  · cases hp

theorem aw_of : ofE 3 1 7 = ⟨1, 3, 7, 0⟩ := by rfl
theorem aw_n : nodB 64 = true ∧ nodB 65 = false ∧ othE 1 3 3 = 1 := ⟨rfl, rfl, rfl⟩

def c_eawake (_ : Fs) : Con := fun xs h => match xs, h with
  | [], [] => some ⟨True, .sa (B true), [], []⟩
  | _, _ => none
end Go.Proofs.Ytakebkfhigadiaa.EgR
