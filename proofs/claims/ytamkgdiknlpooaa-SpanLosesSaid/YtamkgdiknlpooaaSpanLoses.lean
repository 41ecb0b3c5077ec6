/-
  SpanLoses: for every input the call tells true, and nothing that was there turns. No condition.
-/
import Derived.Test.YtamkgdiknlpooaaRows
import Derived.Test.YtamkgdiknlpooaaLaw
import Derived.Test.YtamkgdiknlpooaaRyIn
import Derived.Test.YtamkgdiknlpooaaRyZ
import Derived.Test.YtamkgdiknlpooaaSpM
import Derived.Test.YtamkgdiknlpooaaSpN
namespace Go.Proofs.Ytamkgdiknlpooaa.SpanLoses
open Go Go.Proofs.Ytamkgdiknlpooaa.Ry Go.Proofs.Ytamkgdiknlpooaa.Law Go.Proofs.Ytamkgdiknlpooaa.SpM Go.Proofs.Ytamkgdiknlpooaa.SpN Go.Proofs.Ytamkgdiknlpooaa.So Go.Proofs.Ytamkgdiknlpooaa.JoS Go.Proofs.Ytamkgdiknlpooaa.EgR Go.Proofs.Ytamkgdiknlpooaa.EgL Go.Proofs.Ytamkgdiknlpooaa.SpR Go.Proofs.Ytamkgdiknlpooaa.SpQ Go.Proofs.Ytamkgdiknlpooaa.SpK Go.Proofs.Ytamkgdiknlpooaa.SpT Go.Proofs.Ytamkgdiknlpooaa.SpO Go.Proofs.Ytamkgdiknlpooaa.SpL Go.Proofs.Ytamkgdiknlpooaa.SpN
open Go.ChangeShapes Go.WideShapes Go.ChangeAt Go.Joins Go.RowKit
structure XG where
  i : Int
def gM (l : List E) (y : XG) : Nat := l.length - y.i.toNat
def gQ (l : List E) (y : XG) : Prop := 0 ≤ y.i ∧ y.i ≤ l.length
def gR (n : Nat) (st : St) : XG := ⟨slotI st n⟩
structure XB where
  k : Int
  b : Bool
def hQ (f : List E) (x : T) (y : XB) : Prop := 0 ≤ y.k ∧ y.k ≤ f.length ∧ (y.b = true ↔ hasT (f.take y.k.toNat) x)
def hM (f : List E) (y : XB) : Nat := f.length - y.k.toNat
def slotB (st : St) (n : Nat) : Bool := match slotC st n with | .val (.bool b) => b | .tf b => b | _ => false
def hR (n m : Nat) (st : St) : XB := ⟨slotI st n, slotB st m⟩
theorem h_zero (f : List E) (x : T) : hQ f x ⟨0, false⟩ := ⟨Int.le_refl 0, Int.natCast_nonneg _, by
  constructor
  · intro h
    cases h
  · rintro ⟨y, hy, _⟩
    cases hy⟩
theorem h_step {f : List E} {x : T} (hl : f.length ≤ 1000000) {k : Int} {b : Bool} (hq : hQ f x ⟨k, b⟩) (h : k < f.length) : stdBin .add .i64 k 1 = k + 1 ∧ (∀ c, hM f ⟨k + 1, c⟩ < hM f ⟨k, b⟩) ∧ (b = true → hQ f x ⟨k + 1, true⟩) ∧ (b = false → ∀ c : Bool, (c = true ↔ ri (f.getD k.toNat []) 0 = x.1 ∧ ri (f.getD k.toNat []) 1 = x.2.1 ∧ ri (f.getD k.toNat []) 2 = x.2.2) → hQ f x ⟨k + 1, c⟩) := by
  obtain ⟨h0, h1, h2⟩ := hq
  simp only at h0 h1 h2
  have hx : hasT (f.take (k + 1).toNat) x ↔ hasT (f.take k.toNat) x ∨ trE (f.getD k.toNat []) = x := by
    rw [take_next f k h0 h]
    unfold hasT
    simp only [List.mem_append, List.mem_singleton]
    constructor
    · rintro ⟨y, hy | rfl, e⟩
      · exact .inl ⟨y, hy, e⟩
      · exact .inr e
    · rintro (⟨y, hy, e⟩ | e)
      · exact ⟨y, .inl hy, e⟩
      · exact ⟨_, .inr rfl, e⟩
  refine ⟨by rw [b_add, wr _ (by omega) (by omega)], fun c => by simp only [hM]; omega, fun g => ⟨by simp only; omega, by simp only; omega, ?_⟩, fun g c hc => ⟨by simp only; omega, by simp only; omega, ?_⟩⟩
  · simp only
    rw [hx]
    exact ⟨fun _ => .inl (h2.1 g), fun _ => by first | rfl | trivial⟩
  · simp only
    rw [hx, hc]
    constructor
    · rintro ⟨e1, e2, e3⟩
      right
      unfold trE
      rw [e1, e2, e3]
    · rintro (e | e)
      · rw [h2.2 e] at g
        cases g
      · unfold trE at e
        rw [← e]
        exact ⟨rfl, rfl, rfl⟩
theorem h_end {f : List E} {x : T} {k : Int} {b : Bool} (hq : hQ f x ⟨k, b⟩) (h : ¬ k < f.length) : b = true ↔ hasT f x := by
  obtain ⟨h0, h1, h2⟩ := hq
  simp only at h0 h1 h2
  have e : k = f.length := by omega
  rw [e, Int.toNat_natCast, List.take_length] at h2
  exact h2
theorem g_step {l : List E} (hl : l.length ≤ 1000000) {i : Int} (hq : gQ l ⟨i⟩) (h : i < l.length) : stdBin .add .i64 i 1 = i + 1 ∧ gQ l ⟨i + 1⟩ ∧ gM l ⟨i + 1⟩ < gM l ⟨i⟩ := by
  obtain ⟨h0, h1⟩ := hq
  simp only at h0 h1
  exact ⟨by rw [b_add, wr _ (by omega) (by omega)], ⟨by simp only; omega, by simp only; omega⟩, by simp only [gM]; omega⟩
structure XO2 where
  i : Int
  o : List E
def wQ (f : List E) (c : T) (y : XO2) : Prop := 0 ≤ y.i ∧ y.i ≤ f.length ∧ y.o = butF (f.take y.i.toNat) c
def wM (f : List E) (y : XO2) : Nat := f.length - y.i.toNat
def wR (n m : Nat) (st : St) : XO2 := ⟨slotI st n, ctR (match slotC st m with | .sl _ c => c | _ => .recs .nil [])⟩
noncomputable def w1I (l f : List E) (c0 c1 c2 : Int) (y : XO2) : St := stOf Try.f9.ntmps [(0, .sl none (.recs (.int .i64 (.int .i64 (.int .i64 .nil))) l)), (5, .sl none (.recs (.int .i64 (.int .i64 (.int .i64 .nil))) f)), (7, .ptr 1 0), (8, .sl (some (2, 36)) (.recs (.int .i64 (.int .i64 (.int .i64 .nil))) y.o)), (9, .sl (some (3, 36)) (.recs (.int .i64 (.int .i64 (.int .i64 .nil))) [])), (10, .val (.int .i64 y.i))] [(1, .cells 36 [.val (.int .i64 c0), .val (.int .i64 c1), .val (.int .i64 c2)]), (2, .tok), (3, .tok)] [Any, Any]
structure XZ where
  i : Int
  best : Int
  o : List E
noncomputable def w2I (l k : List E) (c0 c1 c2 : Int) (y : XZ) : St := stOf Try.f9.ntmps [(0, .sl none (.recs (.int .i64 (.int .i64 (.int .i64 .nil))) l)), (7, .ptr 1 0), (8, .sl (some (2, 36)) (.recs (.int .i64 (.int .i64 (.int .i64 .nil))) k)), (9, .sl (some (3, 36)) (.recs (.int .i64 (.int .i64 (.int .i64 .nil))) y.o)), (11, .val (.int .i64 y.best)), (12, .val (.int .i64 y.i))] [(1, .cells 36 [.val (.int .i64 c0), .val (.int .i64 c1), .val (.int .i64 c2)]), (2, .tok), (3, .tok)] [Any, Any]
def zR (st : St) : XZ := ⟨slotI st 12, slotI st 11, ctR (match slotC st 9 with | .sl _ c => c | _ => .recs .nil [])⟩
def zM (l : List E) (y : XZ) : Nat := l.length - y.i.toNat
def bestQ (l k r : List E) (best : Int) : Prop := (best = -1 ∧ ∀ z ∈ r.map trE, Cn (k.map trE) z.1 z.2.1) ∨
  (0 ≤ best ∧ best < l.length ∧ trE (l.getD best.toNat []) ∈ r.map trE ∧ ¬ Cn (k.map trE) (trE (l.getD best.toNat [])).1 (trE (l.getD best.toNat [])).2.1 ∧ ∀ z ∈ r.map trE, ¬ Cn (k.map trE) z.1 z.2.1 → z = trE (l.getD best.toNat []) ∨ lt (trE (l.getD best.toNat [])) z)
def zQ (l k : List E) (c : T) (y : XZ) : Prop := 0 ≤ y.i ∧ y.i ≤ l.length ∧ y.o = butF (l.take y.i.toNat) c ∧ bestQ l k y.o y.best
theorem e3_of (y : E) : [D.int (ri y 0), D.int (ri y 1), D.int (ri y 2)] = e3 y := rfl
theorem tr_eq (y : E) (c0 c1 c2 : Int) : trE y = (c0, c1, c2) ↔ ri y 0 = c0 ∧ ri y 1 = c1 ∧ ri y 2 = c2 := by
  unfold trE
  simp only [Prod.mk.injEq]
theorem but_next {f : List E} {i : Int} (h0 : 0 ≤ i) (h : i < f.length) (c : T) : butF (f.take (i + 1).toNat) c = if trE (f.getD i.toNat []) = c then butF (f.take i.toNat) c else butF (f.take i.toNat) c ++ [e3 (f.getD i.toNat [])] := by
  rw [take_next f i h0 h]
  unfold butF
  rw [List.filter_append, List.map_append, List.filter_cons]
  by_cases e : trE (f.getD i.toNat []) = c
  · rw [if_pos e, if_neg (by rw [decide_eq_true_eq]; exact fun q => q e)]
    simp
  · rw [if_neg e, if_pos (decide_eq_true e)]
    rfl
theorem but_le (f : List E) (c : T) (k : Nat) : (butF (f.take k) c).length ≤ f.length := by
  have h := but_len (f.take k) c
  rw [List.length_take] at h
  omega
theorem w_step {f : List E} {c0 c1 c2 : Int} (hl : f.length ≤ 1000000) {i : Int} {o : List E} (hq : wQ f (c0, c1, c2) ⟨i, o⟩) (h : i < f.length) : stdBin .add .i64 i 1 = i + 1 ∧ o.length ≤ 1000000 ∧ (∀ p, wM f ⟨i + 1, p⟩ < wM f ⟨i, o⟩) ∧
    (ri (f.getD i.toNat []) 0 = c0 ∧ ri (f.getD i.toNat []) 1 = c1 ∧ ri (f.getD i.toNat []) 2 = c2 → wQ f (c0, c1, c2) ⟨i + 1, o⟩) ∧ (¬ (ri (f.getD i.toNat []) 0 = c0 ∧ ri (f.getD i.toNat []) 1 = c1 ∧ ri (f.getD i.toNat []) 2 = c2) → wQ f (c0, c1, c2) ⟨i + 1, o ++ [[D.int (ri (f.getD i.toNat []) 0), D.int (ri (f.getD i.toNat []) 1), D.int (ri (f.getD i.toNat []) 2)]]⟩) := by
  obtain ⟨h0, h1, h2⟩ := hq
  simp only at h0 h1 h2
  have hb := but_next h0 h (c0, c1, c2)
  have hle := but_le f (c0, c1, c2) i.toNat
  rw [← h2] at hle
  refine ⟨by rw [b_add, wr _ (by omega) (by omega)], by omega, fun p => by simp only [wM]; omega, fun g => ⟨by simp only; omega, by simp only; omega, ?_⟩, fun g => ⟨by simp only; omega, by simp only; omega, ?_⟩⟩
  · simp only
    rw [hb, if_pos ((tr_eq _ _ _ _).2 g)]
    exact h2
  · simp only
    rw [hb, if_neg (fun w => g ((tr_eq _ _ _ _).1 w)), h2]
    rfl
theorem w_end {f : List E} {c : T} {i : Int} {o : List E} (hq : wQ f c ⟨i, o⟩) (h : ¬ i < f.length) : o = butF f c := by
  obtain ⟨h0, h1, h2⟩ := hq
  simp only at h0 h1 h2
  have e : i = f.length := by omega
  rw [e, Int.toNat_natCast, List.take_length] at h2
  exact h2
theorem z_zero (l k : List E) (c : T) : zQ l k c ⟨0, -1, []⟩ := ⟨Int.le_refl 0, Int.natCast_nonneg _, rfl, .inl ⟨rfl, fun z hz => by cases hz⟩⟩
theorem z_step {l : List E} (h : allE l = 0) (hl : l.length ≤ 1000000) {c0 c1 c2 : Int} {i best : Int} {o k : List E} (hk : k = butF (lstB l) (c0, c1, c2)) (hq : zQ l k (c0, c1, c2) ⟨i, best, o⟩) (hi : i < l.length) :
    stdBin .add .i64 i 1 = i + 1 ∧ o.length ≤ 1000000 ∧ inR k = true ∧ (∀ b p, zM l ⟨i + 1, b, p⟩ < zM l ⟨i, best, o⟩) ∧ (¬ best < 0 → 0 ≤ best ∧ best < l.length) ∧
    (ri (l.getD i.toNat []) 0 = c0 ∧ ri (l.getD i.toNat []) 1 = c1 ∧ ri (l.getD i.toNat []) 2 = c2 → zQ l k (c0, c1, c2) ⟨i + 1, best, o⟩) ∧
    (¬ (ri (l.getD i.toNat []) 0 = c0 ∧ ri (l.getD i.toNat []) 1 = c1 ∧ ri (l.getD i.toNat []) 2 = c2) →
      (lkR k (ri (l.getD i.toNat []) 0) (ri (l.getD i.toNat []) 1) = true → zQ l k (c0, c1, c2) ⟨i + 1, best, o ++ [[D.int (ri (l.getD i.toNat []) 0), D.int (ri (l.getD i.toNat []) 1), D.int (ri (l.getD i.toNat []) 2)]]⟩) ∧
      (lkR k (ri (l.getD i.toNat []) 0) (ri (l.getD i.toNat []) 1) = false → (best < 0 → zQ l k (c0, c1, c2) ⟨i + 1, i, o ++ [[D.int (ri (l.getD i.toNat []) 0), D.int (ri (l.getD i.toNat []) 1), D.int (ri (l.getD i.toNat []) 2)]]⟩) ∧
        (¬ best < 0 → (lsW (ri (l.getD i.toNat []) 0) (ri (l.getD i.toNat []) 1) (ri (l.getD i.toNat []) 2) (ri (l.getD best.toNat []) 0) (ri (l.getD best.toNat []) 1) (ri (l.getD best.toNat []) 2) = true → zQ l k (c0, c1, c2) ⟨i + 1, i, o ++ [[D.int (ri (l.getD i.toNat []) 0), D.int (ri (l.getD i.toNat []) 1), D.int (ri (l.getD i.toNat []) 2)]]⟩) ∧
          (lsW (ri (l.getD i.toNat []) 0) (ri (l.getD i.toNat []) 1) (ri (l.getD i.toNat []) 2) (ri (l.getD best.toNat []) 0) (ri (l.getD best.toNat []) 1) (ri (l.getD best.toNat []) 2) = false → zQ l k (c0, c1, c2) ⟨i + 1, best, o ++ [[D.int (ri (l.getD i.toNat []) 0), D.int (ri (l.getD i.toNat []) 1), D.int (ri (l.getD i.toNat []) 2)]]⟩)))) := by
  obtain ⟨h0, h1, h2, h3⟩ := hq
  simp only at h0 h1 h2 h3
  have hb := but_next h0 hi (c0, c1, c2)
  have hle := but_le l (c0, c1, c2) i.toNat
  rw [← h2] at hle
  have ko := kept_oth h (c0, c1, c2)
  rw [← hk] at ko
  have kl : k.length ≤ 1000000 := by
    have a := lst_len l
    have b := but_len (lstB l) (c0, c1, c2)
    rw [← hk] at b
    omega
  have kin := oth_in h ko kl
  have hy := may_ok (((good_iff l).1 (all_good h)).1 _ (pl_mem h0 hi))
  have kok := fun z hz => may_ok (oth_may h ko z hz)
  have lk := lk_iff kok (ri (l.getD i.toNat []) 0) (ri (l.getD i.toNat []) 1)
  have lk1 : lkR k (ri (l.getD i.toNat []) 0) (ri (l.getD i.toNat []) 1) = true → Cn (k.map trE) (trE (l.getD i.toNat [])).1 (trE (l.getD i.toNat [])).2.1 := fun g => (lk.1 g).2.2
  have lk2 : lkR k (ri (l.getD i.toNat []) 0) (ri (l.getD i.toNat []) 1) = false → ¬ Cn (k.map trE) (trE (l.getD i.toNat [])).1 (trE (l.getD i.toNat [])).2.1 := fun g w => by
    rw [lk.2 ⟨hy.1, hy.2, w⟩] at g
    cases g
  have mm : ∀ z, z ∈ (o ++ [e3 (l.getD i.toNat [])]).map trE ↔ z ∈ o.map trE ∨ z = trE (l.getD i.toNat []) := fun z => by
    rw [List.map_append, List.mem_append, show [e3 (l.getD i.toNat [])].map trE = [trE (l.getD i.toNat [])] from rfl, List.mem_singleton]
  have mk : ∀ b : Int, ¬ (ri (l.getD i.toNat []) 0 = c0 ∧ ri (l.getD i.toNat []) 1 = c1 ∧ ri (l.getD i.toNat []) 2 = c2) → bestQ l k (o ++ [e3 (l.getD i.toNat [])]) b → zQ l k (c0, c1, c2) ⟨i + 1, b, o ++ [[D.int (ri (l.getD i.toNat []) 0), D.int (ri (l.getD i.toNat []) 1), D.int (ri (l.getD i.toNat []) 2)]]⟩ := fun b g w => ⟨by simp only; omega, by simp only; omega, by
    simp only
    rw [hb, if_neg (fun w => g ((tr_eq _ _ _ _).1 w)), h2]
    rfl, w⟩
  refine ⟨by rw [b_add, wr _ (by omega) (by omega)], by omega, kin, fun b p => by simp only [zM]; omega, fun g => ?_, fun g => ⟨by simp only; omega, by simp only; omega, ?_, h3⟩, fun g => ⟨fun w => mk _ g ?_, fun w => ⟨fun v => mk _ g ?_, fun v => ⟨fun u => mk _ g ?_, fun u => mk _ g ?_⟩⟩⟩⟩
  · rcases h3 with ⟨e, _⟩ | ⟨e1, e2, _⟩
    · omega
    · exact ⟨e1, e2⟩
  · simp only
    rw [hb, if_pos ((tr_eq _ _ _ _).2 g)]
    exact h2
  · rcases h3 with ⟨e, q⟩ | ⟨e1, e2, e3', e4, e5⟩
    · refine .inl ⟨e, fun z hz => ?_⟩
      rcases (mm z).1 hz with hz | rfl
      · exact q z hz
      · exact lk1 w
    · refine .inr ⟨e1, e2, (mm _).2 (.inl e3'), e4, fun z hz hn => ?_⟩
      rcases (mm z).1 hz with hz | rfl
      · exact e5 z hz hn
      · exact absurd (lk1 w) hn
  · rcases h3 with ⟨e, q⟩ | ⟨e1, e2, _⟩
    · refine .inr ⟨h0, hi, (mm _).2 (.inr rfl), lk2 w, fun z hz hn => ?_⟩
      rcases (mm z).1 hz with hz | rfl
      · exact absurd (q z hz) hn
      · exact .inl rfl
    · omega
  · rcases h3 with ⟨e, q⟩ | ⟨e1, e2, e3', e4, e5⟩
    · omega
    · have hlt : lt (trE (l.getD i.toNat [])) (trE (l.getD best.toNat [])) := (ls_lt _ _).1 u
      refine .inr ⟨h0, hi, (mm _).2 (.inr rfl), lk2 w, fun z hz hn => ?_⟩
      rcases (mm z).1 hz with hz | rfl
      · rcases e5 z hz hn with rfl | q
        · exact .inr hlt
        · exact .inr (lt_tr hlt q)
      · exact .inl rfl
  · rcases h3 with ⟨e, q⟩ | ⟨e1, e2, e3', e4, e5⟩
    · omega
    · have hlt : ¬ lt (trE (l.getD i.toNat [])) (trE (l.getD best.toNat [])) := fun q => by
        have q2 : lsW (ri (l.getD i.toNat []) 0) (ri (l.getD i.toNat []) 1) (ri (l.getD i.toNat []) 2) (ri (l.getD best.toNat []) 0) (ri (l.getD best.toNat []) 1) (ri (l.getD best.toNat []) 2) = true := (ls_lt _ _).2 q
        rw [q2] at u
        cases u
      refine .inr ⟨e1, e2, (mm _).2 (.inl e3'), e4, fun z hz hn => ?_⟩
      rcases (mm z).1 hz with hz | rfl
      · exact e5 z hz hn
      · by_cases e : trE (l.getD i.toNat []) = trE (l.getD best.toNat [])
        · exact .inl e
        · exact .inr ((lt_or e).resolve_left hlt)
theorem z_end {l : List E} (h : allE l = 0) (hl : l.length ≤ 1000000) {c : T} (hc : c ∈ (lstB l).map trE) {i best : Int} {o k : List E} (hk : k = butF (lstB l) c) (hq : zQ l k c ⟨i, best, o⟩) (hi : ¬ i < l.length) :
    allE o = 0 ∧ o.length ≤ l.length ∧ k.length ≤ l.length ∧ (¬ best ≥ 0 → sameE (lstB o) (rsB k) = true) ∧ (best ≥ 0 → best < l.length ∧ sameE (lstB o) (rsB (k ++ [[D.int (ri (l.getD best.toNat []) 0), D.int (ri (l.getD best.toNat []) 1), D.int (ri (l.getD best.toNat []) 2)]])) = true) := by
  obtain ⟨h0, h1, h2, h3⟩ := hq
  simp only at h0 h1 h2 h3
  have e : i = l.length := by omega
  rw [e, Int.toNat_natCast, List.take_length] at h2
  have a := lst_len l
  have b := but_len (lstB l) c
  have d := but_len l c
  rw [← hk] at b
  rw [← h2] at d
  refine ⟨by rw [h2]; exact but_all h c, d, by omega, fun g => ?_, fun g => ?_⟩
  · rcases h3 with ⟨_, q⟩ | ⟨e1, _⟩
    · have := lose_ok h hc [] (.inl ⟨rfl, fun z hz => by rw [← hk]; exact q z (by rw [h2]; exact hz)⟩)
      rw [List.append_nil, ← hk, ← h2] at this
      exact this
    · omega
  · rcases h3 with ⟨e1, _⟩ | ⟨e1, e2, e3', e4, e5⟩
    · omega
    · refine ⟨e2, ?_⟩
      have := lose_ok h hc [e3 (l.getD best.toNat [])] (.inr ⟨_, rfl, by rw [← h2]; exact e3', by rw [← hk]; exact e4, fun z hz hn => e5 z (by rw [h2]; exact hz) (by rw [hk]; exact hn)⟩)
      rw [← hk, ← h2] at this
      exact this
theorem p_mod {n : Nat} (hl : n ≤ 40) {a : Int} (ha : 0 ≤ a ∧ a ≤ 255) (hp : 0 < n) : 0 ≤ stdBin .rem .i64 (IntKind.i64.wrap a) n ∧ stdBin .rem .i64 (IntKind.i64.wrap a) n < n ∧ (n : Int) ≠ 0 := by
  rw [wr _ (by omega) (by omega), b_rem, Int.tmod_eq_emod_of_nonneg ha.1]
  exact ⟨Int.emod_nonneg _ (by omega), Int.emod_lt_of_pos _ (by omega), by omega⟩
set_option maxHeartbeats 4000000 in
set_option maxRecDepth 100000 in
theorem x_law (a0 : List E) (a1 : Int) (w1 : (Lit.int .u8 a1).wf = true) (_ : sized [.one (.sl none (.recs (.int .i64 (.int .i64 (.int .i64 .nil))) a0)), .one (.val (.int .u8 a1))]) : Does [(26, c_sleast SpR.Sp.std), (17, c_rcheck EgR.Fs.std), (34, c_rlinked SpQ.Sq.std), (23, c_rsort SpO.Sv.std), (22, c_esame EgR.Fs.std), (37, c_rless SpQ.Sq.std), (25, c_sawake Sm.std)] Try.f9 [.one (.sl none (.recs (.int .i64 (.int .i64 (.int .i64 .nil))) a0)), .one (.val (.int .u8 a1))] [] ⟨True, .sa (B true), [], [Any, Any]⟩ := by
  intro b gv
  have f1 := lst_len a0
  have f2 := fun h k => p_mod (n := (lstB a0).length) (a := a1) h (wf8 w1) k
  have hfs := (FsOk.cons ok_sleast (FsOk.cons ok_rcheck (FsOk.cons ok_rlinked (FsOk.cons ok_rsort (FsOk.cons ok_esame (FsOk.cons ok_rless (FsOk.cons ok_sawake FsOk.nil rfl) rfl) rfl) rfl) rfl) rfl) rfl)
  generalize hF : SpR.Sp.std = F at hfs ⊢
  generalize hG0 : EgR.Fs.std = G0 at hfs ⊢
  generalize hG1 : SpQ.Sq.std = G1 at hfs ⊢
  generalize hG2 : SpO.Sv.std = G2 at hfs ⊢
  generalize hG3 : SpM.Sm.std = G3 at hfs ⊢
  generalize hA : Ar.std = A
  generalize hL : Lp _ _ _ = L
  obtain ⟨Z, zq⟩ := z_all
  refine cd_open (lp_mono hL) zq rfl ?_
  repeat' (first
    | (refine z_open zq ?_; try dsimp only)
    | refine cd_seq zq ?_ (lp_mono hL)
    | refine cd_blk zq ?_
    | refine cd_ret ?_
    | refine cd_skip ?_
    | refine cd_exit ?_
    | refine cd_loop ?_
    | refine cd_cond rfl ?_
    | refine cd_condT rfl ?_
    | refine cd_condF rfl ?_
    | (refine Cd.mk ?_; cbv)
    | (refine Ends1.mk ?_; cbv)
    | (refine Fin1.mk ?_; cbv)
    | exact trivial
    | refine And.intro ?_ ?_
    | refine orf fun _ => ?_
    | refine ort fun _ => ?_)
  all_goals first | (show L _ _ _; skip) | (clear hL hfs zq Z; subst hA hF hG0 hG1 hG2 hG3; simp only [SpR.Sp.std, EgR.Fs.std, SpQ.Sq.std, SpO.Sv.std, Ar.std, List.nil_append] at * <;> grind [stdCmp]; done)
  rename_i hx
  have hin : a0.length ≤ 40 ∧ allE a0 = 0 ∧ 0 < (lstB a0).length := by
    clear hL hfs zq Z
    subst hA hF hG0 hG1 hG2 hG3
    simp only [SpR.Sp.std, EgR.Fs.std, SpQ.Sq.std, SpO.Sv.std, Ar.std, List.nil_append] at *
    grind [stdCmp]
  clear hx
  have hmd := f2 (by omega) hin.2.2
  have hcm : ((ri ((lstB a0).getD (stdBin .rem .i64 (IntKind.i64.wrap a1) (lstB a0).length).toNat []) 0), (ri ((lstB a0).getD (stdBin .rem .i64 (IntKind.i64.wrap a1) (lstB a0).length).toNat []) 1), (ri ((lstB a0).getD (stdBin .rem .i64 (IntKind.i64.wrap a1) (lstB a0).length).toNat []) 2)) ∈ (lstB a0).map trE := List.mem_map_of_mem (f := trE) (pl_mem hmd.1 hmd.2.1)
  clear f2
  subst hL
  refine loop_z (cx_ok hfs) (wQ (lstB a0) ((ri ((lstB a0).getD (stdBin .rem .i64 (IntKind.i64.wrap a1) (lstB a0).length).toNat []) 0), (ri ((lstB a0).getD (stdBin .rem .i64 (IntKind.i64.wrap a1) (lstB a0).length).toNat []) 1), (ri ((lstB a0).getD (stdBin .rem .i64 (IntKind.i64.wrap a1) (lstB a0).length).toNat []) 2))) (w1I a0 (F.s_l a0) (A.ri (A.atE (F.s_l a0) (A.bin .rem .i64 (A.conv .i64 a1) (A.lenE (F.s_l a0)))) 0) (A.ri (A.atE (F.s_l a0) (A.bin .rem .i64 (A.conv .i64 a1) (A.lenE (F.s_l a0)))) 1) (A.ri (A.atE (F.s_l a0) (A.bin .rem .i64 (A.conv .i64 a1) (A.lenE (F.s_l a0)))) 2)) (wM (lstB a0)) (wR 10 8) ⟨0, []⟩ ?_ ?_ ?_
  · exact ⟨Int.le_refl 0, Int.natCast_nonneg _, rfl⟩
  · cbv
    repeat' (first | exact trivial | exact rfl | refine And.intro ?_ ?_)
  rintro ⟨i, o⟩ hq O hO
  have hst := fun h => w_step (by omega) hq h
  have hz := fun h => w_end hq h
  have q0 := hq.1
  have q1 := hq.2.1
  dsimp only at q0 q1
  subst hA
  generalize hA : Ar.std = A
  generalize hL : Lp _ _ _ = L
  refine cd_close zq ?_
  repeat' (first
    | (refine z_open zq ?_; try dsimp only)
    | refine cd_seq zq ?_ (lp_mono hL)
    | refine cd_blk zq ?_
    | refine cd_ret ?_
    | refine cd_skip ?_
    | refine cd_exit ?_
    | refine cd_loop ?_
    | refine cd_cond rfl ?_
    | refine cd_condT rfl ?_
    | refine cd_condF rfl ?_
    | (refine Cd.mk ?_; cbv)
    | (refine Ends1.mk ?_; cbv)
    | (refine Fin1.mk ?_; cbv)
    | exact trivial
    | refine And.intro ?_ ?_
    | refine orf fun _ => ?_
    | refine ort fun _ => ?_)
  all_goals first | (show L _ _ _; skip) | (clear hL hfs zq Z hq; subst hA hF hG0 hG1 hG2 hG3 hO; simp only [SpR.Sp.std, EgR.Fs.std, SpQ.Sq.std, SpO.Sv.std, Ar.std, List.nil_append] at * <;> grind [stdCmp]; done)
  rename_i hx
  have hi : ¬ i < (lstB a0).length := by
    clear hL hfs zq Z hO hst
    subst hA hF hG0 hG1 hG2 hG3
    simp only [SpR.Sp.std, EgR.Fs.std, SpQ.Sq.std, SpO.Sv.std, Ar.std, List.nil_append] at *
    grind [stdCmp]
  have hko := hz hi
  clear hx hst hz hq hi
  subst hL
  refine loop_z (cx_ok hfs) (zQ a0 o ((ri ((lstB a0).getD (stdBin .rem .i64 (IntKind.i64.wrap a1) (lstB a0).length).toNat []) 0), (ri ((lstB a0).getD (stdBin .rem .i64 (IntKind.i64.wrap a1) (lstB a0).length).toNat []) 1), (ri ((lstB a0).getD (stdBin .rem .i64 (IntKind.i64.wrap a1) (lstB a0).length).toNat []) 2))) (w2I a0 o (A.ri (A.atE (F.s_l a0) (A.bin .rem .i64 (A.conv .i64 a1) (A.lenE (F.s_l a0)))) 0) (A.ri (A.atE (F.s_l a0) (A.bin .rem .i64 (A.conv .i64 a1) (A.lenE (F.s_l a0)))) 1) (A.ri (A.atE (F.s_l a0) (A.bin .rem .i64 (A.conv .i64 a1) (A.lenE (F.s_l a0)))) 2)) (zM a0) zR ⟨0, -1, []⟩ ?_ ?_ ?_
  · exact z_zero _ _ _
  · cbv
    repeat' (first | exact trivial | exact rfl | refine And.intro ?_ ?_)
  rintro ⟨j, best, r⟩ hq2 O2 hO2
  have hst := fun h => z_step hin.2.1 (by omega) hko hq2 h
  have hen := fun h => z_end hin.2.1 (by omega) hcm hko hq2 h
  have k0 := hq2.1
  have k1 := hq2.2.1
  have l1 := lst_len r
  dsimp only at k0 k1
  subst hA
  generalize hA : Ar.std = A
  generalize hL : Lp _ _ _ = L
  refine cd_close zq ?_
  repeat' (first
    | (refine z_open zq ?_; try dsimp only)
    | refine cd_seq zq ?_ (lp_mono hL)
    | refine cd_blk zq ?_
    | refine cd_ret ?_
    | refine cd_skip ?_
    | refine cd_exit ?_
    | refine cd_loop ?_
    | refine cd_cond rfl ?_
    | refine cd_condT rfl ?_
    | refine cd_condF rfl ?_
    | (refine Cd.mk ?_; cbv)
    | (refine Ends1.mk ?_; cbv)
    | (refine Fin1.mk ?_; cbv)
    | exact trivial
    | refine And.intro ?_ ?_
    | refine orf fun _ => ?_
    | refine ort fun _ => ?_)
  all_goals (clear hL hfs zq Z hq2 hko hcm; subst hA hF hG0 hG1 hG2 hG3 hO hO2; simp only [SpR.Sp.std, EgR.Fs.std, SpQ.Sq.std, SpO.Sv.std, Ar.std, List.nil_append] at * <;> grind [stdCmp, rs_len])
theorem walk (a0 : List E) (a1 : Int) (A0 : Option Addr) (n0 c0 : Nat) (w : World) (r0 : (SC.sl none (.recs (.int .i64 (.int .i64 (.int .i64 .nil))) a0)).is (G0 w) (.slice A0 n0 c0)) (_ : ∀ y ∈ a0, wfS (.int .i64 (.int .i64 (.int .i64 .nil))) y 0) (_ : a0.length ≤ 140737488355328) (w1 : (Lit.int .u8 a1).wf = true) : Calls Try.prog 9 #[.slice A0 n0 c0, .int .u8 a1] w (Law.Yes w) :=
  yes_of (FsOk.cons ok_sleast (FsOk.cons ok_rcheck (FsOk.cons ok_rlinked (FsOk.cons ok_rsort (FsOk.cons ok_esame (FsOk.cons ok_rless (FsOk.cons ok_sawake FsOk.nil rfl) rfl) rfl) rfl) rfl) rfl) rfl) Try.func9 rfl (vs := [.slice A0 n0 c0, .int .u8 a1]) (by exact ⟨r0, rfl, trivial⟩) (lee_le rfl) fun hZ => x_law a0 a1 w1 hZ
theorem own : ownKnob Try.prog.godebug = none := by kernel_rfl
theorem laidOut : laidOutB Try.prog = true := by kernel_rfl
set_option maxRecDepth 100000 in
theorem lifted (os : Os) (started : os.Started) (H : Type) (enc : TypeId × Value → H) :
    ReturnsInHanded {} Try.checked os 9 .any (Rows.spanLosesSpec.pre6 enc Try.prog Try.f9 Rows.spanLosesRow.domain false) (Rows.spanLosesSpec.post enc Try.prog Try.f9 false true false false) := by
  refine returnsInHanded_of_change_sized (C := Try.checked) own started (by kernel_rfl) Try.func9
    (ChangeSpec.witness6 (enc := enc) (C := Try.checked) false ⟨#[], #[.slice none 0 0, .int .u8 0], []⟩ 8 (by kernel_rfl) (by kernel_rfl) (by kernel_rfl) (by kernel_rfl)) ?_
  intro W base args ds gs before hval0 hW _ hz _
  have hval : ∀ (j : Nat) t v, Try.f9.params[j]? = some t → args[j]? = some v → Value.okWide Try.prog W .any base t v := hval0
  have hW' := hW
  obtain ⟨p, q, hA0, hV, rfl, _, _⟩ := hW
  have hA : DataW.TrodAll enc Try.prog W 0 (fun _ => true) true Try.f9.params.toList args.toList ds p := hA0
  rw [Try.params9] at hA hval
  obtain ⟨v0, v1, d0, d1, p0, p1, rfl, rfl, rfl, h0, h1⟩ := trodAll_two hA
  obtain ⟨rfl, rfl⟩ := trodVars_none hV
  obtain ⟨A0, n0, c0, a0, rfl, l0, r0, w0⟩ := sl_any (s := .int .i64 (.int .i64 (.int .i64 .nil))) Try.underlying22 (by kernel_rfl) (by kernel_rfl) (hval 0 22 v0 rfl rfl) h0
  have s0 : a0.length ≤ 140737488355328 := by rw [l0]; exact short_of Try.underlying22 (by decide +kernel) hz (j := 0) rfl rfl h0
  obtain ⟨a1, rfl, rfl, rfl, w1⟩ := open_int Try.underlying5 (hval 1 5 v1 rfl rfl) h1
  refine (walk a0 a1 A0 n0 c0 W r0 w0 s0 w1).mono fun e W' ⟨he, hb⟩ => ?_
  subst he
  exact ⟨_, rfl, law_post laidOut (by kernel_rfl) (by kernel_rfl) Try.underlying4 rfl hW' rfl hb⟩
theorem proved : Rows.SpanLosesSaid :=
  OpenClaim.holds_of_wide 9 Try.f9 rfl rfl rfl rfl rfl rfl rfl ⟨rfl, rfl, rfl, rfl, rfl⟩ rfl rfl rfl rfl rfl (by kernel_rfl) Try.func9 (by kernel_rfl)
    (of_decide_eq_true (by kernel_rfl)) (by unfold Func.isWrapper; first | (rw [if_pos (by decide +kernel)]; kernel_rfl) | (rw [if_neg (by decide +kernel)]; exact ⟨rfl, rfl⟩))
    (fun os started H enc _ => lifted os started H enc)
end Go.Proofs.Ytamkgdiknlpooaa.SpanLoses
