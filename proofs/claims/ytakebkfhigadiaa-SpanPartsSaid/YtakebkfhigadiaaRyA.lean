/-
  The reckoner's words, in the model: what a symbolic value stands for, and what stays true of it. No condition.
-/
import Derived.Test.YtakebkfhigadiaaRy
import Derived.Test.YtakebkfhigadiaaLaw
import Derived.Great.BuildSlice
import Derived.MapKept
namespace Go.Proofs.Ytakebkfhigadiaa.Ry
open Go Go.RowKit

/-! ## Blocks -/
def Blk.alive : Blk → Bool
  | .cells _ _ | .row _ _ | .rr _ _ _ _ | .emp _ | .mp _ | .tok => true
  | _ => false
def Ct.n : Ct → Nat
  | .ints _ l => l.length
  | .recs _ l => l.length
/-! Names that no state spells out: of the room behind each slice of a row of such. -/
def hidN : Nat := 100000000000000000000
def hid (k i : Nat) : Nat := hidN * (k + 1) + i
def holeAt : Option Int → Nat → Bool
  | none, _ => false
  | some h, i => decide (h = (i : Int))
def Blk.roomy : Blk → Nat → Prop
  | .rr _ _ c hole, i => i < c.n ∧ i < hidN ∧ holeAt hole i = false
  | _, _ => False
def hidA (h : H) (n : Nat) : Prop := hget h n = none ∧ ∃ k i b, n = hid k i ∧ hget h k = some b ∧ b.roomy i
def alive (h : H) (n : Nat) : Prop := (∃ k, hget h n = some k ∧ k.alive = true) ∨ hidA h n
theorem roomy_lt {b : Blk} {i : Nat} (h : b.roomy i) : i < hidN := by
  cases b <;> first | exact h.2.1 | exact h.elim
theorem hid_big (k i : Nat) : hidN ≤ hid k i := by
  unfold hid hidN
  omega
theorem hid_inj {k i k' i' : Nat} (h : hid k i = hid k' i') (hi : i < hidN) (hi' : i' < hidN) : k = k' ∧ i = i' := by
  unfold hid hidN at *
  omega
theorem see_some {h : H} {n : Nat} {b : Blk} (hb : hget h n = some b) : ¬ hidA h n := by
  rintro ⟨h1, _⟩
  rw [hb] at h1
  cases h1
theorem see_lt {h : H} {n : Nat} (hn : n < hidN) : ¬ hidA h n := by
  rintro ⟨_, k, i, b, rfl, _⟩
  have := hid_big k i
  omega
theorem see_alive {h : H} {n : Nat} {b : Blk} (hb : hget h n = some b) (ha : alive h n) : b.alive = true := by
  rcases ha with ⟨k, hk, hkal⟩ | h1
  · rw [hb] at hk
    cases hk
    exact hkal
  · exact absurd h1 (see_some hb)
theorem beq_no {n i : Nat} (h : ¬ n = i) : eqn n i = false := by
  cases e : eqn n i with
  | false => rfl
  | true => exact absurd (eqn_eq e) h
theorem no_beq {n i : Nat} (h : eqn n i = false) : ¬ n = i := by
  rintro rfl
  rw [eqn_refl] at h
  cases h
theorem ble_no {n i : Nat} (h : i < n) : lee n i = false := by
  cases e : lee n i with
  | false => rfl
  | true => exact absurd (lee_le e) (by omega)
theorem hget_set (h : H) (n : Nat) (b : Blk) (i : Nat) : hget (hset h n b) i = if n = i then some b else hget h i := by
  induction h with
  | nil =>
    simp only [hset, hget]
    by_cases e : n = i
    · subst e; simp
    · have : eqn n i = false := beq_no e
      simp [this, e]
  | cons p h ih =>
    obtain ⟨k, c⟩ := p
    simp only [hset]
    split
    · rename_i hk
      have hk := eqn_eq hk
      subst hk
      by_cases e : k = i
      · subst e; simp [hget]
      · have : eqn k i = false := beq_no e
        simp [hget, this, e]
    · rename_i hk
      have hk : ¬ k = n := no_beq hk
      split
      · by_cases e : n = i
        · subst e; simp [hget]
        · have : eqn n i = false := beq_no e
          simp [hget, this, e]
      · simp only [hget]
        by_cases e : n = i
        · subst e
          have : eqn k n = false := beq_no hk
          simp [this, ih]
        · simp only [e, if_false] at ih ⊢
          split
          · rfl
          · exact ih
theorem hget_self (h : H) (n : Nat) (b : Blk) : hget (hset h n b) n = some b := by simp [hget_set]
theorem hget_other (h : H) {n i : Nat} (b : Blk) (hne : n ≠ i) : hget (hset h n b) i = hget h i := by simp [hget_set, hne]
theorem hset_comm (h : H) {n i : Nat} (b c : Blk) (hne : n ≠ i) : hset (hset h n b) i c = hset (hset h i c) n b := by
  induction h with
  | nil =>
    have h1 : eqn n i = false := beq_no hne
    have h2 : eqn i n = false := beq_no hne.symm
    simp only [hset, h1, h2]
    by_cases e : n ≤ i
    · have g1 : lee n i = true := by simpa using e
      have g2 : lee i n = false := by rw [← Bool.not_eq_true]; simp; omega
      simp [g1, g2]
    · have g1 : lee n i = false := by rw [← Bool.not_eq_true]; simp; omega
      have g2 : lee i n = true := by simp; omega
      simp [g1, g2]
  | cons p h ih =>
    obtain ⟨k, d⟩ := p
    have h1 : eqn n i = false := beq_no hne
    have h2 : eqn i n = false := beq_no hne.symm
    by_cases e1 : k = n
    · subst e1
      have : eqn k k = true := by simp
      by_cases e2 : i ≤ k
      · have g : lee i k = true := by simpa using e2
        have g2 : lee k i = false := by rw [← Bool.not_eq_true]; simp; omega
        simp [hset, h1, h2, g, g2]
      · have g : lee i k = false := by rw [← Bool.not_eq_true]; simp; omega
        simp [hset, h1, g]
    · by_cases e2 : k = i
      · subst e2
        have : eqn k k = true := by simp
        by_cases e3 : n ≤ k
        · have g : lee n k = true := by simpa using e3
          have g2 : lee k n = false := by rw [← Bool.not_eq_true]; simp; omega
          simp [hset, h1, h2, g, g2]
        · have g : lee n k = false := by rw [← Bool.not_eq_true]; simp; omega
          simp [hset, h2, g]
      · have k1 : eqn k n = false := beq_no e1
        have k2 : eqn k i = false := beq_no e2
        by_cases e3 : n ≤ k
        · have g : lee n k = true := by simpa using e3
          by_cases e4 : i ≤ k
          · have g' : lee i k = true := by simpa using e4
            by_cases e : n ≤ i
            · have g1 : lee n i = true := by simpa using e
              have g2 : lee i n = false := by rw [← Bool.not_eq_true]; simp; omega
              simp [hset, k1, k2, h1, h2, g, g', g1, g2]
            · have g1 : lee n i = false := by rw [← Bool.not_eq_true]; simp; omega
              have g2 : lee i n = true := by simp; omega
              simp [hset, k1, k2, h1, h2, g, g', g1, g2]
          · have g' : lee i k = false := by rw [← Bool.not_eq_true]; simp; omega
            have g2 : lee i n = false := by rw [← Bool.not_eq_true]; simp; omega
            simp [hset, k1, k2, h1, g, g', g2]
        · have g : lee n k = false := by rw [← Bool.not_eq_true]; simp; omega
          by_cases e4 : i ≤ k
          · have g' : lee i k = true := by simpa using e4
            have g2 : lee n i = false := by rw [← Bool.not_eq_true]; simp; omega
            simp [hset, k1, k2, h2, g, g', g2]
          · have g' : lee i k = false := by rw [← Bool.not_eq_true]; simp; omega
            simp [hset, k1, k2, g, g', ih]

/-! ## What a symbolic value stands for -/
/-- Where a call begins: its world, the old cells that may be read, the old blocks that were handed over. -/
structure Bs where
  W : World
  K : Nat → Nat → Prop
  X : Nat → Prop
/-- The names: of a block that is one's own, its number and from where on; the blocks; the world. -/
structure Gm where
  o : Nat → Option (Nat × Nat)
  h : H
  bs : Bs
  w : World
/-- No block's kind or size turns. -/
def Shp (w w' : World) : Prop := ∀ b x, w.shape? b = some x → w'.shape? b = some x
theorem Shp.refl (w : World) : Shp w w := fun _ _ h => h
theorem Shp.trans {a b c : World} (x : Shp a b) (y : Shp b c) : Shp a c := fun g z h => y g z (x g z h)
theorem shp_of {w w' : World} (h : ∀ b, b < w.heap.size → w'.heap[b]? = w.heap[b]?) : Shp w w' := fun b x hx => by
  unfold World.shape? at hx ⊢
  by_cases hb : b < w.heap.size
  · rw [h b hb]
    exact hx
  · rw [Array.getElem?_eq_none (by omega)] at hx
    cases hx
theorem shp_row {w : World} {g : Nat} {t : TypeId} {old cs : Array Value} {f : Nat × Nat} (hg : w.heap[g]? = some (.cells old t f)) (h : cs.size = old.size) : Shp w (w.setRow g cs) := fun b x hx => by
  unfold World.shape? at hx ⊢
  by_cases e : g = b
  · subst e
    rw [hg] at hx
    rw [setRow_heap w g old cs t f hg]
    simpa [h] using hx
  · rw [setRow_other _ _ _ _ (fun q => e q.symm)]
    exact hx
/-- A cell that nobody will write. -/
structure Gm.ok (G : Gm) (b j : Nat) : Prop where
  lt : b < G.w.heap.size
  old : b < G.bs.W.heap.size → G.bs.K b j ∨ G.bs.X b
  own : ∀ n, alive G.h n → ∀ g m, G.o n = some (g, m) → g = b → j < m
structure cellAt (G : Gm) (b j : Nat) (u : Value) : Prop where
  ok : G.ok b j
  cell : G.w.cell? ⟨b, j, none⟩ = some u
  one : u.oneCell' = true
def rowIs (G : Gm) (sz : Nat) {α : Type} (P : α → List Value → Prop) (l : List α) (v : Value) : Prop :=
  ∃ A c, v = .slice A l.length c ∧ l.length ≤ c ∧ c ≤ maxLen ∧ (l ≠ [] → ∃ b o, A = some ⟨b, o, none⟩ ∧ ∀ i x, l[i]? = some x → ∃ us : List Value, us.length = sz ∧ P x us ∧ ∀ j u, us[j]? = some u → cellAt G b (o + i * sz + j) u)
def intsIs (G : Gm) (k : IntKind) (l : List Int) (v : Value) : Prop := rowIs G 1 (fun n us => us = [.int k n]) l v
def valsIs (G : Gm) : Sh → E → Nat → List Value → Prop
  | .nil, _, _, vs => vs = []
  | .int k r, x, j, vs => ∃ us, vs = .int k (ri x j) :: us ∧ valsIs G r x (j + 1) us
  | .bool r, x, j, vs => ∃ us, vs = .bool (rb x j) :: us ∧ valsIs G r x (j + 1) us
  | .str r, x, j, vs => ∃ u us, vs = .string u :: us ∧ bytesL u = rs x j ∧ valsIs G r x (j + 1) us
  | .ints k r, x, j, vs => ∃ u us, vs = u :: us ∧ intsIs G k (rl x j) u ∧ valsIs G r x (j + 1) us
  | .recs s r, x, j, vs => ∃ u us, vs = u :: us ∧ rowIs G s.size (fun y us => valsIs G s y 0 us) (rr x j) u ∧ valsIs G r x (j + 1) us
def Ct.is (G : Gm) : Ct → Value → Prop
  | .ints k l, v => intsIs G k l v
  | .recs s l, v => rowIs G s.size (fun y us => valsIs G s y 0 us) l v
/-- Cells, one behind the other. -/
def flatIs (G : Gm) : Ct → List Value → Prop
  | .ints k l, us => us = l.map (Value.int k)
  | .recs s l, us => us.length = l.length * s.size ∧ ∀ i x, l[i]? = some x → valsIs G s x 0 ((us.drop (i * s.size)).take s.size)
/-- A row of one's own, all of it; or nil, where it has nothing. -/
def ownIs (G : Gm) (n : Nat) (c : Ct) (v : Value) : Prop := (c.n = 0 ∧ G.o n = none ∧ ∃ A, v = .slice A 0 0) ∨ ∃ g off cap t k, G.o n = some (g, off) ∧ v = .slice (some ⟨g, off, none⟩) c.n cap ∧ c.n ≤ cap ∧ cap ≤ maxLen ∧ G.w.shape? g = some (t, k) ∧ off + cap * c.sz ≤ k ∧ 0 < cap
/-- A row that was cut: its rest is block d. -/
def pastIs (G : Gm) (d sz : Nat) (q : Int) (v : Value) : Prop :=
  ∃ A l cp, v = .slice A l cp ∧ 0 ≤ q ∧ q.toNat ≤ l ∧ l ≤ cp ∧ cp ≤ maxLen ∧ (match hget G.h d with
    | some (.row _ c) => c.n = l - q.toNat ∧ c.sz = sz ∧ (cp ≠ q.toNat → ownIs G d c (.slice (A.map (·.add (q.toNat * sz))) (l - q.toNat) (cp - q.toNat)))
    | some (.frz _) | some .dead | some (.past _ _ _) => True
    | _ => False)
def ownAt (G : Gm) (n : Nat) (v : Value) : Prop :=
  match hget G.h n with
  | some (.row _ c) => ownIs G n c v
  | some (.rr _ _ c _) => ownIs G n c v
  | some (.frz c) => c.is G v
  | some (.emp _) => ∃ g, G.o n = some (g, 0) ∧ v = .slice (some ⟨g, 0, none⟩) 0 0
  | some (.past d sz q) => pastIs G d sz q v
  | some .dead => True
  | _ => False
def ptrAt (G : Gm) (n off : Nat) (v : Value) : Prop :=
  match hget G.h n with
  | some (.cells _ _) | some (.row _ _) => ∃ g, G.o n = some (g, 0) ∧ v = .pointer (some ⟨g, off, none⟩)
  | some (.frz _) | some .dead | some (.past _ _ _) => True
  | _ => False
def fnAt (G : Gm) (g n : Nat) (v : Value) : Prop :=
  match hget G.h n with
  | some (.cells _ _) | some (.row _ _) => ∃ b, G.o n = some (b, 0) ∧ v = .func (.func g) #[] #[.pointer (some ⟨b, 0, none⟩)]
  | some (.frz _) | some .dead | some (.past _ _ _) => True
  | _ => False
/-- A cell that nobody writes, with a pointer to a block. -/
def cppAt (G : Gm) (n off b : Nat) : Prop := ∃ A, cellAt G b 0 (.pointer (some A)) ∧ ptrAt G n off (.pointer (some A))
def vwAt (G : Gm) (n : Nat) (l : Int) (v : Value) : Prop :=
  match hget G.h n with
  | some (.row _ c) => (0 ≤ l ∧ l.toNat ≤ c.n) ∧ ∃ A cp, v = .slice A (c.n - l.toNat) cp ∧ (l.toNat < c.n → ∃ g off, G.o n = some (g, off) ∧ A = some ⟨g, off + l.toNat * c.sz, none⟩)
  | some (.frz _) | some .dead | some (.past _ _ _) => True
  | _ => False
def mpAt (G : Gm) (n : Nat) (v : Value) : Prop :=
  match hget G.h n with
  | some (.mp _) => ∃ g, G.o n = some (g, 0) ∧ v = .map (some g)
  | some (.frz _) | some .dead | some (.past _ _ _) => True
  | _ => False
/-- A map's entries. -/
def mapIs (es : Array MapEntry) (clock : Nat) (l : List (Int × Int)) : Prop :=
  es.size ≤ maxLen ∧ MapKept.Stamped es clock ∧ es.toList.map (fun x => (x.key, x.val)) = l.map fun p => (Value.int .i64 p.1, Value.int .i64 p.2)
def rpAt (G : Gm) (n : Nat) (i : Int) (j : Nat) (v : Value) : Prop :=
  match hget G.h n with
  | some (.row _ c) => ∃ g off, G.o n = some (g, off) ∧ (0 ≤ i ∧ i.toNat < c.n) ∧ v = .pointer (some ⟨g, off + (i.toNat * c.sz + j), none⟩)
  | some (.rr _ _ c _) => ∃ g off, G.o n = some (g, off) ∧ (0 ≤ i ∧ i.toNat < c.n) ∧ v = .pointer (some ⟨g, off + (i.toNat * c.sz + j), none⟩)
  | some (.frz _) | some .dead | some (.past _ _ _) => True
  | _ => False
/-- A row that may be appended to in place: behind its end all is one's own; or it has no room. -/
def roomAt (G : Gm) (id : Nat) (e : TypeId) (sz : Nat) (v : Value) : Prop :=
  (∃ a, v = .slice a 0 0) ∨ ∃ g off n cap cur, v = .slice (some ⟨g, off, none⟩) n cap ∧ G.o id = some (g, off + n * sz) ∧ G.w.heap[g]? = some (.cells cur e (0, 0)) ∧ n ≤ cap ∧ cap ≤ maxLen ∧ cur.size = off + cap * sz ∧ off = 0
def TokOk (G : Gm) (sz : Nat) (v : Value) : Option (Nat × TypeId) → Prop
  | none => True
  | some (id, e) => match hget G.h id with
    | some .tok => roomAt G id e sz v
    | some .dead => True
    | _ => False
def SC.is (G : Gm) : SC → Value → Prop
  | .any, _ => True
  | .val u, v => v = u
  | .num k n, v => v = .int k n
  | .tf b, v => v = .bool b
  | .ptr n off, v => (∃ A, v = .pointer (some A)) ∧ ptrAt G n off v
  | .fn g n, v => (∃ A, v = .func (.func g) #[] #[.pointer (some A)]) ∧ fnAt G g n v
  | .cpp n off, v => ∃ b, v = .pointer (some ⟨b, 0, none⟩) ∧ cppAt G n off b
  | .fnp g n off, v => ∃ b, v = .func (.func g) #[] #[.pointer (some ⟨b, 0, none⟩)] ∧ cppAt G n off b
  | .fn2 g n k, v => ∃ p q, v = .func (.func g) #[] #[p, q] ∧ ((∃ A, p = .pointer (some A)) ∧ ptrAt G n 0 p) ∧ (∃ A, q = .pointer (some A)) ∧ ptrAt G k 0 q
  | .vw n l, v => (∃ A m c, v = .slice A m c) ∧ vwAt G n l v
  | .str l, v => ∃ s, v = .string s ∧ bytesL s = l
  | .sl tk c, v => c.is G v ∧ TokOk G c.sz v tk
  | .nil1, v => ∃ b o c, v = .slice (some ⟨b, o, none⟩) 1 c ∧ 1 ≤ c ∧ c ≤ maxLen ∧ cellAt G b o (.slice none 0 0)
  | .own n, v => (∃ A l c, v = .slice A l c) ∧ ownAt G n v
  | .mp n, v => (∃ A, v = .map (some A)) ∧ mpAt G n v
  | .rp n i j, v => (∃ A, v = .pointer (some A)) ∧ rpAt G n i j v
  | .rpi k n, v => ∃ b o, v = .pointer (some ⟨b, o, none⟩) ∧ cellAt G b o (.int k n)
  | .rpe s x j, v => ∃ b o us, v = .pointer (some ⟨b, o, none⟩) ∧ valsIs G s x j us ∧ ∀ i u, us[i]? = some u → cellAt G b (o + i) u
def cellsIs (G : Gm) : List SC → List Value → Prop
  | [], [] => True
  | c :: cs, v :: vs => (c.is G v ∧ v.oneCell' = true) ∧ cellsIs G cs vs
  | _, _ => False
def SA.is (G : Gm) : SA → Value → Prop
  | .one c, v => c.is G v
  | .agg cs, v => ∃ vs : List Value, v = .agg vs.toArray ∧ cellsIs G cs vs
  | .blob c, v => ∃ vs : List Value, v = .agg vs.toArray ∧ flatIs G c vs ∧ ∀ u ∈ vs, u.oneCell' = true
def sasIs (G : Gm) : List SA → List Value → Prop
  | [], [] => True
  | c :: cs, v :: vs => c.is G v ∧ sasIs G cs vs
  | _, _ => False
/-- The first values are these. -/
def pasIs (G : Gm) : List SA → List Value → Prop
  | [], _ => True
  | c :: cs, v :: vs => c.is G v ∧ pasIs G cs vs
  | _, _ => False
def SV.is (G : Gm) : SV → Value → Prop
  | .sa x, v => x.is G v
  | .tup xs, v => ∃ vs : List Value, v = .tuple vs.toArray ∧ sasIs G xs vs
def Ent.is (G : Gm) (e : Ent) (v : Value) : Prop :=
  match e.g with
  | none => e.v.is G v
  | some true => e.v.is G v
  | some false => v = undef
/-- Each slice of a row may be appended to in place. -/
def roomsIs (G : Gm) (n : Nat) (e : TypeId) (sz : Nat) (hole : Option Int) (vs : List Value) : Prop :=
  ∀ i v, vs[i]? = some v → holeAt hole i = false → hget G.h (hid n i) = none ∧ roomAt G (hid n i) e sz v
def BlkIs (G : Gm) (n : Nat) : Blk → Prop
  | .cells t cs => ∃ g vs, G.o n = some (g, 0) ∧ G.w.heap[g]? = some (.cells (List.toArray vs) t (0, 0)) ∧ cellsIs G cs vs
  | .row t c => (c.n = 0 ∧ G.o n = none) ∨ ∃ g pre vs rest, G.o n = some (g, List.length pre) ∧ G.w.heap[g]? = some (.cells (List.toArray (pre ++ (vs ++ rest))) t (0, 0)) ∧ flatIs G c vs ∧ ∀ u ∈ vs, u.oneCell' = true
  | .rr t e c hole => (c.sz = 1 ∧ c.n < hidN) ∧ ((c.n = 0 ∧ G.o n = none) ∨ ∃ g pre vs rest, G.o n = some (g, List.length pre) ∧ G.w.heap[g]? = some (.cells (List.toArray (pre ++ (vs ++ rest))) t (0, 0)) ∧ flatIs G c vs ∧ (∀ u ∈ vs, u.oneCell' = true) ∧ roomsIs G n e (isz c) hole vs)
  | .emp t => ∃ g, G.o n = some (g, 0) ∧ G.w.heap[g]? = some (.cells #[] t (0, 0))
  | .mp l => ∃ g es clock, G.o n = some (g, 0) ∧ G.w.heap[g]? = some (.map es clock) ∧ mapIs es clock l
  | _ => True
structure Mem (G : Gm) : Prop where
  os : G.w.os = G.bs.W.os
  tape : G.w.tape = G.bs.W.tape
  output : G.w.output = G.bs.W.output
  size : G.bs.W.heap.size ≤ G.w.heap.size
  block : ∀ k, k < G.bs.W.heap.size → ¬ G.bs.X k → G.w.heap[k]? = G.bs.W.heap[k]?
  keep : ∀ b j, b < G.bs.W.heap.size → G.bs.K b j → G.w.cell? ⟨b, j, none⟩ = G.bs.W.cell? ⟨b, j, none⟩
  own : ∀ n, alive G.h n → ∀ g m, G.o n = some (g, m) → g < G.w.heap.size ∧ (G.bs.W.heap.size ≤ g ∨ G.bs.X g ∧ ∀ j, G.bs.K g j → j < m)
  inj : ∀ n n', alive G.h n → alive G.h n' → ∀ g m m', G.o n = some (g, m) → G.o n' = some (g, m') → n = n'
  blk : ∀ n k, hget G.h n = some k → BlkIs G n k
  shp : Shp G.bs.W G.w
  vis : ∀ n b, hget G.h n = some b → n < hidN

/-! ## What stays true -/
/-- Cells that nobody writes stay so. -/
structure Sub (G G' : Gm) : Prop where
  ok : ∀ b j, G.ok b j → G'.ok b j
  cell : ∀ b j, G.ok b j → G'.w.cell? ⟨b, j, none⟩ = G.w.cell? ⟨b, j, none⟩
  shp : Shp G.w G'.w
theorem Sub.refl (G : Gm) : Sub G G := ⟨fun _ _ h => h, fun _ _ _ => rfl, Shp.refl _⟩
theorem Sub.trans {A B C : Gm} (x : Sub A B) (y : Sub B C) : Sub A C := ⟨fun b j h => y.ok b j (x.ok b j h), fun b j h => (y.cell b j (x.ok b j h)).trans (x.cell b j h), x.shp.trans y.shp⟩
/-- What may become of a block, for those who know its name. -/
def KExt (G G' : Gm) (n : Nat) : Blk → Blk → Prop
  | _, .dead => True
  | .frz c, .frz c' => c' = c
  | .cells _ _, .cells _ _ => G'.o n = G.o n
  | .emp _, .emp _ => G'.o n = G.o n
  | .mp _, .mp _ => G'.o n = G.o n
  | .row _ c, .row _ c' => G'.o n = G.o n ∧ c'.sz = c.sz ∧ c'.n = c.n
  | .row _ c, .frz c' => ∀ v, ownIs G n c v → c'.is G' v
  | .rr _ _ c _, .rr _ _ c' _ => G'.o n = G.o n ∧ c'.sz = c.sz ∧ c'.n = c.n
  | .rr _ _ c _, .frz c' => ∀ v, ownIs G n c v → c'.is G' v
  | .row _ c, .past d sz q => ∀ v, ownIs G n c v → pastIs G' d sz q v
  | .past d sz q, .past d' sz' q' => d' = d ∧ sz' = sz ∧ q' = q
  | .tok, .tok => G'.o n = G.o n ∧ ∀ g m, G.o n = some (g, m) → G'.w.heap[g]? = G.w.heap[g]?
  | _, _ => False
structure Ext (G G' : Gm) : Prop extends Sub G G' where
  ids : ∀ n k, hget G.h n = some k → ∃ k', hget G'.h n = some k' ∧ KExt G G' n k k'
theorem Ext.refl (G : Gm) : Ext G G := by
  refine ⟨Sub.refl G, fun n k hk => ⟨k, hk, ?_⟩⟩
  cases k with
  | row t c => exact ⟨rfl, rfl, rfl⟩
  | rr => exact ⟨rfl, rfl, rfl⟩
  | tok => exact ⟨rfl, fun _ _ _ => rfl⟩
  | cells => rfl
  | emp => rfl
  | mp => rfl
  | frz => rfl
  | past => exact ⟨rfl, rfl, rfl⟩
  | dead => trivial
section
variable {G G' : Gm}
theorem cellAt.sub (x : Sub G G') {b j : Nat} {u : Value} (h : cellAt G b j u) : cellAt G' b j u := ⟨x.ok _ _ h.ok, (x.cell _ _ h.ok).trans h.cell, h.one⟩
theorem rowIs.sub (x : Sub G G') {sz : Nat} {α : Type} {P P' : α → List Value → Prop} (hP : ∀ y us, P y us → P' y us) {l : List α} {v : Value} (h : rowIs G sz P l v) : rowIs G' sz P' l v := by
  obtain ⟨A, c, e, h1, h2, h3⟩ := h
  refine ⟨A, c, e, h1, h2, fun hne => ?_⟩
  obtain ⟨b, o, ha, hc⟩ := h3 hne
  refine ⟨b, o, ha, fun i y hy => ?_⟩
  obtain ⟨us, u1, u2, u3⟩ := hc i y hy
  exact ⟨us, u1, hP _ _ u2, fun j u hu => (u3 j u hu).sub x⟩
theorem intsIs.sub (x : Sub G G') {k : IntKind} {l : List Int} {v : Value} (h : intsIs G k l v) : intsIs G' k l v := rowIs.sub x (fun _ _ h => h) h
theorem valsIs.sub (x : Sub G G') : ∀ {s : Sh} {y : E} {j : Nat} {vs : List Value}, valsIs G s y j vs → valsIs G' s y j vs
  | .nil, _, _, _, h => h
  | .int _ _, _, _, _, ⟨us, e, h⟩ => ⟨us, e, valsIs.sub x h⟩
  | .bool _, _, _, _, ⟨us, e, h⟩ => ⟨us, e, valsIs.sub x h⟩
  | .str _, _, _, _, ⟨u, us, e, h1, h⟩ => ⟨u, us, e, h1, valsIs.sub x h⟩
  | .ints _ _, _, _, _, ⟨u, us, e, h1, h⟩ => ⟨u, us, e, h1.sub x, valsIs.sub x h⟩
  | .recs s _, _, _, _, ⟨u, us, e, h1, h⟩ => ⟨u, us, e, rowIs.sub x (fun _ _ h => valsIs.sub (s := s) x h) h1, valsIs.sub x h⟩
theorem Ct.is.sub (x : Sub G G') : ∀ {c : Ct} {v : Value}, c.is G v → c.is G' v
  | .ints _ _, _, h => intsIs.sub x h
  | .recs _ _, _, h => rowIs.sub x (fun _ _ h => valsIs.sub x h) h
theorem flatIs.sub (x : Sub G G') : ∀ {c : Ct} {us : List Value}, flatIs G c us → flatIs G' c us
  | .ints _ _, _, h => h
  | .recs _ _, _, ⟨h1, h2⟩ => ⟨h1, fun i y hy => (h2 i y hy).sub x⟩
theorem ownIs.ext {n : Nat} {c c' : Ct} {v : Value} (h1 : G'.o n = G.o n) (h2 : c'.sz = c.sz) (h3 : c'.n = c.n) (hs : Shp G.w G'.w) (h : ownIs G n c v) : ownIs G' n c' v := by
  rcases h with ⟨g0, g1, g2⟩ | ⟨g, off, cap, t, k, g1, g2, g3, g4, g5, g6⟩
  · exact .inl ⟨h3.trans g0, h1.trans g1, g2⟩
  · exact .inr ⟨g, off, cap, t, k, h1.trans g1, by rw [g2, h3], by rw [h3]; exact g3, g4, hs _ _ g5, by rw [h2]; exact g6.1, g6.2⟩
theorem pastIs.ext (x : Ext G G') {d sz : Nat} {q : Int} {v : Value} (h : pastIs G d sz q v) : pastIs G' d sz q v := by
  obtain ⟨A, l, cp, e, h0, h1, h2, h3, h4⟩ := h
  refine ⟨A, l, cp, e, h0, h1, h2, h3, ?_⟩
  cases hk : hget G.h d with
  | none => simp [hk] at h4
  | some k =>
    obtain ⟨k', hk', hx⟩ := x.ids d k hk
    rw [hk] at h4
    rw [hk']
    cases k' with
    | dead => trivial
    | frz c' => trivial
    | past _ _ _ => trivial
    | row t c' => cases k with
      | row t0 c =>
        obtain ⟨g1, g2, g3⟩ := hx
        obtain ⟨f1, f2, f3⟩ := h4
        exact ⟨g3.trans f1, g2.trans f2, fun hne => (f3 hne).ext g1 g2 g3 x.shp⟩
      | _ => exact hx.elim
    | _ => cases k <;> first | exact h4.elim | exact hx.elim
theorem ownAt.ext (x : Ext G G') {n : Nat} {v : Value} (h : ownAt G n v) : ownAt G' n v := by
  unfold ownAt at h
  cases hk : hget G.h n with
  | none => simp [hk] at h
  | some k =>
    obtain ⟨k', hk', hx⟩ := x.ids n k hk
    rw [hk] at h
    unfold ownAt
    rw [hk']
    cases k' with
    | dead => trivial
    | emp t' => cases k with
      | emp t =>
        have hx : G'.o n = G.o n := hx
        obtain ⟨g, g1, g2⟩ := h
        exact ⟨g, hx.trans g1, g2⟩
      | _ => exact hx.elim
    | frz c' => cases k with
      | frz c => have hx : c' = c := hx; subst hx; exact Ct.is.sub x.toSub h
      | row t c => exact hx v h
      | rr t e c q => exact hx v h
      | _ => exact hx.elim
    | past d' sz' q' => cases k with
      | past d sz q => obtain ⟨rfl, rfl, rfl⟩ := hx; exact pastIs.ext x h
      | row t c => exact hx v h
      | _ => exact hx.elim
    | row t c' => cases k with
      | row t0 c =>
        obtain ⟨h1, h2, h3⟩ := hx
        rcases h with ⟨g0, g1, g2⟩ | ⟨g, off, cap, t, k, g1, g2, g3, g4, g5, g6⟩
        · exact .inl ⟨h3.trans g0, h1.trans g1, g2⟩
        · exact .inr ⟨g, off, cap, t, k, h1.trans g1, by rw [g2, h3], by rw [h3]; exact g3, g4, x.shp _ _ g5, by rw [h2]; exact g6.1, g6.2⟩
      | _ => exact hx.elim
    | rr t e c' q => cases k with
      | rr t0 e0 c q0 =>
        obtain ⟨h1, h2, h3⟩ := hx
        exact ownIs.ext h1 h2 h3 x.shp h
      | _ => exact hx.elim
    | _ => cases k <;> first | exact h.elim | exact hx.elim
theorem ptrAt.ext (x : Ext G G') {n off : Nat} {v : Value} (h : ptrAt G n off v) : ptrAt G' n off v := by
  unfold ptrAt at h
  cases hk : hget G.h n with
  | none => simp [hk] at h
  | some k =>
    obtain ⟨k', hk', hx⟩ := x.ids n k hk
    rw [hk] at h
    unfold ptrAt
    rw [hk']
    cases k' with
    | dead => trivial
    | frz c' => trivial
    | past _ _ _ => trivial
    | row t c' => cases k with
      | row t0 c =>
        obtain ⟨g, g1, g2⟩ := h
        exact ⟨g, hx.1.trans g1, g2⟩
      | _ => exact hx.elim
    | cells t c' => cases k with
      | cells t0 c =>
        obtain ⟨g, g1, g2⟩ := h
        have hx : G'.o n = G.o n := hx
        exact ⟨g, hx.trans g1, g2⟩
      | _ => exact hx.elim
    | rr t => cases k <;> first | exact h.elim | exact hx.elim
    | emp t => cases k <;> first | exact h.elim | exact hx.elim
    | mp t => cases k <;> first | exact h.elim | exact hx.elim
    | tok => cases k <;> first | exact h.elim | exact hx.elim
theorem fnAt.ext (x : Ext G G') {g n : Nat} {v : Value} (h : fnAt G g n v) : fnAt G' g n v := by
  unfold fnAt at h
  cases hk : hget G.h n with
  | none => simp [hk] at h
  | some k =>
    obtain ⟨k', hk', hx⟩ := x.ids n k hk
    rw [hk] at h
    unfold fnAt
    rw [hk']
    cases k' with
    | dead => trivial
    | frz c' => trivial
    | past _ _ _ => trivial
    | row t c' => cases k with
      | row t0 c =>
        obtain ⟨b, g1, g2⟩ := h
        exact ⟨b, hx.1.trans g1, g2⟩
      | _ => exact hx.elim
    | cells t c' => cases k with
      | cells t0 c =>
        obtain ⟨b, g1, g2⟩ := h
        have hx : G'.o n = G.o n := hx
        exact ⟨b, hx.trans g1, g2⟩
      | _ => exact hx.elim
    | rr t => cases k <;> first | exact h.elim | exact hx.elim
    | emp t => cases k <;> first | exact h.elim | exact hx.elim
    | mp t => cases k <;> first | exact h.elim | exact hx.elim
    | tok => cases k <;> first | exact h.elim | exact hx.elim
theorem mpAt.ext (x : Ext G G') {n : Nat} {v : Value} (h : mpAt G n v) : mpAt G' n v := by
  unfold mpAt at h
  cases hk : hget G.h n with
  | none => simp [hk] at h
  | some k =>
    obtain ⟨k', hk', hx⟩ := x.ids n k hk
    rw [hk] at h
    unfold mpAt
    rw [hk']
    cases k' with
    | dead => trivial
    | frz c' => trivial
    | past _ _ _ => trivial
    | mp c' => cases k with
      | mp c =>
        have hx : G'.o n = G.o n := hx
        obtain ⟨b, g1, g2⟩ := h
        exact ⟨b, hx.trans g1, g2⟩
      | _ => exact hx.elim
    | _ => cases k <;> first | exact h.elim | exact hx.elim
theorem rpAt.ext (x : Ext G G') {n : Nat} {i : Int} {j : Nat} {v : Value} (h : rpAt G n i j v) : rpAt G' n i j v := by
  unfold rpAt at h
  cases hk : hget G.h n with
  | none => simp [hk] at h
  | some k =>
    obtain ⟨k', hk', hx⟩ := x.ids n k hk
    rw [hk] at h
    unfold rpAt
    rw [hk']
    cases k' with
    | dead => trivial
    | frz c' => trivial
    | past _ _ _ => trivial
    | row t c' => cases k with
      | row t0 c =>
        obtain ⟨h1, h2, h3⟩ := hx
        obtain ⟨g, off, g1, g2, g3⟩ := h
        exact ⟨g, off, h1.trans g1, by rw [h3]; exact g2, by rw [h2]; exact g3⟩
      | _ => exact hx.elim
    | rr t e c' q => cases k with
      | rr t0 e0 c q0 =>
        obtain ⟨h1, h2, h3⟩ := hx
        obtain ⟨g, off, g1, g2, g3⟩ := h
        exact ⟨g, off, h1.trans g1, by rw [h3]; exact g2, by rw [h2]; exact g3⟩
      | _ => exact hx.elim
    | _ => cases k <;> first | exact h.elim | exact hx.elim
theorem cppAt.ext (x : Ext G G') {n off b : Nat} (h : cppAt G n off b) : cppAt G' n off b := by
  obtain ⟨A, h1, h2⟩ := h
  exact ⟨A, h1.sub x.toSub, ptrAt.ext x h2⟩
theorem vwAt.ext (x : Ext G G') {n : Nat} {l : Int} {v : Value} (h : vwAt G n l v) : vwAt G' n l v := by
  unfold vwAt at h
  cases hk : hget G.h n with
  | none => simp [hk] at h
  | some k =>
    obtain ⟨k', hk', hx⟩ := x.ids n k hk
    rw [hk] at h
    unfold vwAt
    rw [hk']
    cases k' with
    | dead => trivial
    | frz c' => trivial
    | past _ _ _ => trivial
    | row t c' => cases k with
      | row t0 c =>
        obtain ⟨h1, h2, h3⟩ := hx
        obtain ⟨g0, A, cp, g1, g2⟩ := h
        refine ⟨by rw [h3]; exact g0, A, cp, by rw [h3]; exact g1, fun hl => ?_⟩
        obtain ⟨g, off, e1, e2⟩ := g2 (by rw [h3] at hl; exact hl)
        exact ⟨g, off, h1.trans e1, by rw [h2]; exact e2⟩
      | _ => exact hx.elim
    | _ => cases k <;> first | exact h.elim | exact hx.elim
theorem TokOk.ext (x : Ext G G') {sz : Nat} {v : Value} : ∀ {tk : Option (Nat × TypeId)}, TokOk G sz v tk → TokOk G' sz v tk
  | none, _ => trivial
  | some (id, e), h => by
    unfold TokOk at h
    cases hk : hget G.h id with
    | none => simp [hk] at h
    | some k =>
      obtain ⟨k', hk', hx⟩ := x.ids id k hk
      simp only [hk] at h
      unfold TokOk
      simp only [hk']
      cases k' with
      | dead => trivial
      | tok => cases k with
        | tok =>
          obtain ⟨h1, h2⟩ := hx
          rcases h with h | ⟨g, off, n, cap, cur, e1, e2, e3, r⟩
          · exact .inl h
          · exact .inr ⟨g, off, n, cap, cur, e1, h1.trans e2, (h2 _ _ e2).trans e3, r⟩
        | _ => exact hx.elim
      | _ => cases k <;> first | exact h.elim | exact hx.elim
theorem SC.is.ext (x : Ext G G') : ∀ {c : SC} {v : Value}, c.is G v → c.is G' v
  | .any, _, _ => trivial
  | .val _, _, e => e
  | .num _ _, _, e => e
  | .tf _, _, e => e
  | .ptr _ _, _, h => ⟨h.1, ptrAt.ext x h.2⟩
  | .fn _ _, _, h => ⟨h.1, fnAt.ext x h.2⟩
  | .cpp _ _, _, ⟨b, e, h⟩ => ⟨b, e, h.ext x⟩
  | .fnp _ _ _, _, ⟨b, e, h⟩ => ⟨b, e, h.ext x⟩
  | .fn2 _ _ _, _, ⟨p, q, e, h1, h2⟩ => ⟨p, q, e, ⟨h1.1, ptrAt.ext x h1.2⟩, h2.1, ptrAt.ext x h2.2⟩
  | .vw _ _, _, h => ⟨h.1, vwAt.ext x h.2⟩
  | .str _, _, h => h
  | .sl _ _, _, ⟨h1, h2⟩ => ⟨h1.sub x.toSub, h2.ext x⟩
  | .nil1, _, ⟨b, o, c, e, h1, h2, h3⟩ => ⟨b, o, c, e, h1, h2, h3.sub x.toSub⟩
  | .own _, _, h => ⟨h.1, ownAt.ext x h.2⟩
  | .mp _, _, h => ⟨h.1, mpAt.ext x h.2⟩
  | .rp _ _ _, _, h => ⟨h.1, rpAt.ext x h.2⟩
  | .rpi _ _, _, ⟨b, o, e, h⟩ => ⟨b, o, e, h.sub x.toSub⟩
  | .rpe _ _ _, _, ⟨b, o, us, e, h, hc⟩ => ⟨b, o, us, e, h.sub x.toSub, fun i u hu => (hc i u hu).sub x.toSub⟩
theorem cellsIs.ext (x : Ext G G') : ∀ {cs : List SC} {vs : List Value}, cellsIs G cs vs → cellsIs G' cs vs
  | [], [], _ => trivial
  | _ :: _, _ :: _, ⟨⟨a, b⟩, c⟩ => ⟨⟨a.ext x, b⟩, cellsIs.ext x c⟩
theorem SA.is.ext (x : Ext G G') : ∀ {c : SA} {v : Value}, c.is G v → c.is G' v
  | .one _, _, e => SC.is.ext x e
  | .agg _, _, ⟨vs, e, hc⟩ => ⟨vs, e, hc.ext x⟩
  | .blob _, _, ⟨vs, e, hc, h1⟩ => ⟨vs, e, hc.sub x.toSub, h1⟩
theorem sasIs.ext (x : Ext G G') : ∀ {cs : List SA} {vs : List Value}, sasIs G cs vs → sasIs G' cs vs
  | [], [], _ => trivial
  | _ :: _, _ :: _, ⟨a, c⟩ => ⟨a.ext x, sasIs.ext x c⟩
theorem pasIs.ext (x : Ext G G') : ∀ {cs : List SA} {vs : List Value}, pasIs G cs vs → pasIs G' cs vs
  | [], _, _ => trivial
  | _ :: _, _ :: _, ⟨a, c⟩ => ⟨a.ext x, pasIs.ext x c⟩
  | _ :: _, [], h => h.elim
theorem SV.is.ext (x : Ext G G') : ∀ {c : SV} {v : Value}, c.is G v → c.is G' v
  | .sa _, _, e => SA.is.ext x e
  | .tup _, _, ⟨vs, e, hc⟩ => ⟨vs, e, hc.ext x⟩
theorem Ent.is.ext (x : Ext G G') {e : Ent} {v : Value} (hv : e.is G v) : e.is G' v := by
  unfold Ent.is at *
  split at hv <;> first | exact hv.ext x | exact hv
theorem cell_other {w w' : World} {b : Nat} (h : w'.heap[b]? = w.heap[b]?) (j : Nat) : w'.cell? ⟨b, j, none⟩ = w.cell? ⟨b, j, none⟩ := World.cell?_of_block (a := ⟨b, j, none⟩) h
theorem heap_lt {w : World} {g : Nat} {o : Obj} (h : w.heap[g]? = some o) : g < w.heap.size := by
  rcases Nat.lt_or_ge g w.heap.size with k | k
  · exact k
  · rw [Array.getElem?_eq_none k] at h; cases h
theorem flat_len {c : Ct} {us : List Value} (h : flatIs G c us) : us.length = c.n * c.sz := by
  cases c with
  | ints k l =>
    have h : us = l.map (Value.int k) := h
    subst h
    simp [Ct.n, Ct.sz]
  | recs s l => exact h.1
/-- A step that turns only blocks that are one's own, each from its own place on, and makes new ones. D: the names that it turns. -/
theorem mem_stepH (hm : Mem G) (D : Nat → Prop) (hbs : G'.bs = G.bs)
    (hout : ∀ n, ¬ D n → hget G'.h n = hget G.h n ∧ G'.o n = G.o n)
    (hos : G'.w.os = G.w.os) (htape : G'.w.tape = G.w.tape) (houtp : G'.w.output = G.w.output) (hsize : G.w.heap.size ≤ G'.w.heap.size)
    (hblock : ∀ b, b < G.w.heap.size → (∀ n m, D n → alive G.h n → G.o n ≠ some (b, m)) → G'.w.heap[b]? = G.w.heap[b]?)
    (hcell : ∀ n b m j, D n → alive G.h n → G.o n = some (b, m) → j < m → G'.w.cell? ⟨b, j, none⟩ = G.w.cell? ⟨b, j, none⟩)
    (hnew : ∀ n, D n → alive G'.h n → ∀ b m, G'.o n = some (b, m) → b < G'.w.heap.size ∧ (G.w.heap.size ≤ b ∨ ∃ n0 m0, D n0 ∧ alive G.h n0 ∧ G.o n0 = some (b, m0) ∧ m0 ≤ m))
    (hinj : ∀ n n', D n → D n' → alive G'.h n → alive G'.h n' → ∀ b m m', G'.o n = some (b, m) → G'.o n' = some (b, m') → n = n')
    (hk : ∀ n, D n → ∀ k, hget G.h n = some k → ∃ k', hget G'.h n = some k' ∧ (Sub G G' → KExt G G' n k k'))
    (hb : ∀ n, D n → ∀ k, hget G'.h n = some k → Ext G G' → BlkIs G' n k) (hsh : Shp G.w G'.w)
    (hlt : ∀ n b, D n → hget G'.h n = some b → n < hidN)
    (hvis : ∀ k i, i < hidN → D (hid k i) → hidA G.h (hid k i) → D k)
    (hrm : ∀ k b i, D k → hget G'.h k = some b → b.roomy i → D (hid k i) ∨ ∃ b0, hget G.h k = some b0 ∧ b0.roomy i) : Ext G G' ∧ Mem G' := by
  have hal : ∀ n, ¬ D n → alive G'.h n → alive G.h n := by
    rintro n hn (⟨k, hk, hkal⟩ | ⟨h1, k, i, b, rfl, h2, h3⟩)
    · rw [(hout n hn).1] at hk
      exact .inl ⟨k, hk, hkal⟩
    · rw [(hout _ hn).1] at h1
      by_cases hd : D k
      · rcases hrm k b i hd h2 h3 with h4 | ⟨b0, h4, h5⟩
        · exact absurd h4 hn
        · exact .inr ⟨h1, k, i, b0, rfl, h4, h5⟩
      · rw [(hout k hd).1] at h2
        exact .inr ⟨h1, k, i, b, rfl, h2, h3⟩
  have hfree : ∀ n, ¬ D n → alive G.h n → ∀ g m, G.o n = some (g, m) → ∀ n' m', D n' → alive G.h n' → G.o n' ≠ some (g, m') := by
    intro n hn ha g m hg n' m' hd ha' hg'
    have := hm.inj n n' ha ha' g m m' hg hg'
    exact hn (this ▸ hd)
  have hsub : Sub G G' := by
    refine ⟨fun b j h => ⟨Nat.lt_of_lt_of_le h.lt hsize, fun hlt => ?_, fun n ha g m hg he => ?_⟩, fun b j h => ?_, hsh⟩
    · rw [hbs] at hlt ⊢
      exact h.old hlt
    · by_cases hd : D n
      · obtain ⟨_, h2⟩ := hnew n hd ha g m hg
        rcases h2 with h2 | ⟨n0, m0, _, a0, o0, hle⟩
        · have := h.lt
          omega
        · have := h.own n0 a0 g m0 o0 he
          omega
      · exact h.own n (hal n hd ha) g m ((hout n hd).2 ▸ hg) he
    · by_cases hx : ∃ n m, D n ∧ alive G.h n ∧ G.o n = some (b, m)
      · obtain ⟨n, m, hd, ha, ho⟩ := hx
        exact hcell n b m j hd ha ho (h.own n ha b m ho rfl)
      · refine cell_other (hblock b h.lt fun n m hd ha ho => hx ⟨n, m, hd, ha, ho⟩) j
  have hext : Ext G G' := by
    refine ⟨hsub, fun n k hnk => ?_⟩
    by_cases hd : D n
    · obtain ⟨k', h1, h2⟩ := hk n hd k hnk
      exact ⟨k', h1, h2 hsub⟩
    · obtain ⟨h1, h2⟩ := hout n hd
      refine ⟨k, h1.trans hnk, ?_⟩
      cases k with
      | row t c => exact ⟨h2, rfl, rfl⟩
      | rr => exact ⟨h2, rfl, rfl⟩
      | tok =>
        refine ⟨h2, fun g m hg => ?_⟩
        have ha : alive G.h n := .inl ⟨_, hnk, rfl⟩
        exact hblock g (hm.own n ha g m hg).1 (hfree n hd ha g m hg)
      | cells => exact h2
      | emp => exact h2
      | mp => exact h2
      | frz => rfl
      | past => exact ⟨rfl, rfl, rfl⟩
      | dead => trivial
  refine ⟨hext, ?_⟩
  have hbW : G'.bs = G.bs := hbs
  refine ⟨by rw [hbs]; exact hos.trans hm.os, by rw [hbs]; exact htape.trans hm.tape, by rw [hbs]; exact houtp.trans hm.output, by rw [hbs]; exact Nat.le_trans hm.size hsize, fun k hlt hx => ?_, fun b j hlt hx => ?_, fun n ha g m hg => ?_, fun n n' ha ha' g m m' hg hg' => ?_, fun n k hnk => ?_, by rw [hbs]; exact hm.shp.trans hsh, fun n b hnb => ?_⟩
  · rw [hbs] at hlt hx ⊢
    rw [← hm.block k hlt hx]
    refine hblock k (Nat.lt_of_lt_of_le hlt hm.size) fun n m hd ha ho => ?_
    rcases (hm.own n ha k m ho).2 with h | ⟨h, _⟩
    · omega
    · exact hx h
  · rw [hbs] at hlt hx ⊢
    rw [← hm.keep b j hlt hx]
    by_cases hc : ∃ n m, D n ∧ alive G.h n ∧ G.o n = some (b, m)
    · obtain ⟨n, m, hd, ha, ho⟩ := hc
      refine hcell n b m j hd ha ho ?_
      rcases (hm.own n ha b m ho).2 with h | ⟨_, h⟩
      · omega
      · exact h j hx
    · exact cell_other (hblock b (Nat.lt_of_lt_of_le hlt hm.size) fun n m hd ha ho => hc ⟨n, m, hd, ha, ho⟩) j
  · rw [hbs]
    by_cases hd : D n
    · obtain ⟨h1, h2⟩ := hnew n hd ha g m hg
      refine ⟨h1, ?_⟩
      rcases h2 with h2 | ⟨n0, m0, _, a0, o0, hle⟩
      · exact .inl (Nat.le_trans hm.size h2)
      · rcases (hm.own n0 a0 g m0 o0).2 with h | ⟨h, h'⟩
        · exact .inl h
        · exact .inr ⟨h, fun j hj => Nat.lt_of_lt_of_le (h' j hj) hle⟩
    · have := hm.own n (hal n hd ha) g m ((hout n hd).2 ▸ hg)
      exact ⟨Nat.lt_of_lt_of_le this.1 hsize, this.2⟩
  · have key : ∀ n n', D n → ¬ D n' → alive G'.h n → alive G'.h n' → ∀ m m', G'.o n = some (g, m) → G'.o n' = some (g, m') → False := by
      intro n n' hd hd' ha ha' m m' hg hg'
      have ha1 := hal n' hd' ha'
      have hg1 : G.o n' = some (g, m') := (hout n' hd').2 ▸ hg'
      obtain ⟨_, h2⟩ := hnew n hd ha g m hg
      rcases h2 with h2 | ⟨n0, m0, d0, a0, o0, hle⟩
      · have := (hm.own n' ha1 g m' hg1).1
        omega
      · exact hd' (hm.inj n0 n' a0 ha1 g m0 m' o0 hg1 ▸ d0)
    by_cases hd : D n <;> by_cases hd' : D n'
    · exact hinj n n' hd hd' ha ha' g m m' hg hg'
    · exact (key n n' hd hd' ha ha' m m' hg hg').elim
    · exact (key n' n hd' hd ha' ha m' m hg' hg).elim
    · exact hm.inj n n' (hal n hd ha) (hal n' hd' ha') g m m' ((hout n hd).2 ▸ hg) ((hout n' hd').2 ▸ hg')
  · by_cases hd : D n
    · exact hb n hd k hnk hext
    · obtain ⟨h1, h2⟩ := hout n hd
      rw [h1] at hnk
      have h3 := hm.blk n k hnk
      cases k with
      | cells t cs =>
        obtain ⟨g, vs, e1, e2, e3⟩ := h3
        have ha : alive G.h n := .inl ⟨_, hnk, rfl⟩
        exact ⟨g, vs, h2.trans e1, (hblock g (heap_lt e2) (hfree n hd ha g 0 e1)).trans e2, e3.ext hext⟩
      | row t c =>
        rcases h3 with ⟨e0, e1⟩ | ⟨g, pre, vs, rest, e1, e2, e3, e4⟩
        · exact .inl ⟨e0, h2.trans e1⟩
        have ha : alive G.h n := .inl ⟨_, hnk, rfl⟩
        exact .inr ⟨g, pre, vs, rest, h2.trans e1, (hblock g (heap_lt e2) (hfree n hd ha g _ e1)).trans e2, e3.sub hsub, e4⟩
      | rr t e c q =>
        obtain ⟨hz, h3⟩ := h3
        refine ⟨hz, ?_⟩
        rcases h3 with ⟨e0, e1⟩ | ⟨g, pre, vs, rest, e1, e2, e3, e4, e5⟩
        · exact .inl ⟨e0, h2.trans e1⟩
        have ha : alive G.h n := .inl ⟨_, hnk, rfl⟩
        refine .inr ⟨g, pre, vs, rest, h2.trans e1, (hblock g (heap_lt e2) (hfree n hd ha g _ e1)).trans e2, e3.sub hsub, e4, fun i v hv hq => ?_⟩
        have hlen : i < c.n := by
          have h5 := (List.getElem?_eq_some_iff.1 hv).1
          have h6 := flat_len e3
          rw [hz.1, Nat.mul_one] at h6
          omega
        obtain ⟨r1, r2⟩ := e5 i v hv hq
        have hh : hidA G.h (hid n i) := ⟨r1, n, i, _, rfl, hnk, hlen, by omega, hq⟩
        have hnd : ¬ D (hid n i) := fun g => hd (hvis n i (by omega) g hh)
        refine ⟨(hout _ hnd).1.trans r1, ?_⟩
        rcases r2 with r2 | ⟨g', off, n', cap, cur, r2, r3, r4, r5⟩
        · exact .inl r2
        · exact .inr ⟨g', off, n', cap, cur, r2, (hout _ hnd).2.trans r3, (hblock g' (heap_lt r4) (hfree _ hnd (.inr hh) g' _ r3)).trans r4, r5⟩
      | emp t =>
        obtain ⟨g, e1, e2⟩ := h3
        have ha : alive G.h n := .inl ⟨_, hnk, rfl⟩
        exact ⟨g, h2.trans e1, (hblock g (heap_lt e2) (hfree n hd ha g 0 e1)).trans e2⟩
      | mp l =>
        obtain ⟨g, es, clock, e1, e2, e3⟩ := h3
        have ha : alive G.h n := .inl ⟨_, hnk, rfl⟩
        exact ⟨g, es, clock, h2.trans e1, (hblock g (heap_lt e2) (hfree n hd ha g 0 e1)).trans e2, e3⟩
      | _ => trivial
  · by_cases hd : D n
    · exact hlt n b hd hnb
    · rw [(hout n hd).1] at hnb
      exact hm.vis n b hnb
theorem mem_step (hm : Mem G) (D : Nat → Prop) (hbs : G'.bs = G.bs)
    (hout : ∀ n, ¬ D n → hget G'.h n = hget G.h n ∧ G'.o n = G.o n)
    (hos : G'.w.os = G.w.os) (htape : G'.w.tape = G.w.tape) (houtp : G'.w.output = G.w.output) (hsize : G.w.heap.size ≤ G'.w.heap.size)
    (hblock : ∀ b, b < G.w.heap.size → (∀ n m, D n → alive G.h n → G.o n ≠ some (b, m)) → G'.w.heap[b]? = G.w.heap[b]?)
    (hcell : ∀ n b m j, D n → alive G.h n → G.o n = some (b, m) → j < m → G'.w.cell? ⟨b, j, none⟩ = G.w.cell? ⟨b, j, none⟩)
    (hnew : ∀ n, D n → alive G'.h n → ∀ b m, G'.o n = some (b, m) → b < G'.w.heap.size ∧ (G.w.heap.size ≤ b ∨ ∃ n0 m0, D n0 ∧ alive G.h n0 ∧ G.o n0 = some (b, m0) ∧ m0 ≤ m))
    (hinj : ∀ n n', D n → D n' → alive G'.h n → alive G'.h n' → ∀ b m m', G'.o n = some (b, m) → G'.o n' = some (b, m') → n = n')
    (hk : ∀ n, D n → ∀ k, hget G.h n = some k → ∃ k', hget G'.h n = some k' ∧ (Sub G G' → KExt G G' n k k'))
    (hb : ∀ n, D n → ∀ k, hget G'.h n = some k → Ext G G' → BlkIs G' n k) (hsh : Shp G.w G'.w)
    (hsee : ∀ n, D n → n < hidN ∨ ∃ b, hget G.h n = some b) (hnr : ∀ n, D n → ∀ b i, hget G'.h n = some b → ¬ b.roomy i) : Ext G G' ∧ Mem G' :=
  mem_stepH hm D hbs hout hos htape houtp hsize hblock hcell hnew hinj hk hb hsh (fun n _ h _ => (hsee n h).elim id fun ⟨b, hb⟩ => hm.vis n b hb) (fun _ _ _ h h' => absurd h' ((hsee _ h).elim see_lt fun ⟨_, hb⟩ => see_some hb)) fun k b i hd h h' => absurd h' (hnr k hd b i h)
end
end Go.Proofs.Ytakebkfhigadiaa.Ry
