/-
  EidMax: for every list of names the call tells true, and nothing that was there turns. No condition.
-/
import Derived.Test.YtcbfccadodikgaaRows
import Derived.Test.YtcbfccadodikgaaEdR
import Derived.Test.YtcbfccadodikgaaRxIn
namespace Go.Proofs.Ytcbfccadodikgaa.EidMax
open Go Go.Proofs.Ytcbfccadodikgaa.Rx Go.Proofs.Ytcbfccadodikgaa.EdR Go.Proofs.Ytcbfccadodikgaa.Law

open Go.ChangeShapes Go.WideShapes Go.ChangeAt Go.Joins Go.RowKit
def fs (F : Fs) : List (Nat × Con) := [(28, c_max F), (27, c_less F), (29, c_awake F)]
theorem fs_ok : FsOk (fs Fs.std) := FsOk.cons ok_max (FsOk.cons ok_less (FsOk.cons ok_awake FsOk.nil))
def e0 (ll : List E) (j : Nat) : Int := ri (ll.getD j []) 0
def e1 (ll : List E) (j : Nat) : Int := ri (ll.getD j []) 1
def Top (ll : List E) (e r : Int) (n : Nat) : Prop := (∃ j, j < n ∧ e0 ll j = e ∧ e1 ll j = r) ∧ ∀ j, j < n → eidL e r (e0 ll j) (e1 ll j) = false
theorem less_trans (a b c d x y : Int) (h : eidL a b x y = false) (h2 : eidC a b c d < 0) : eidL c d x y = false := by
  grind [eidL, eidC, cmpI]
theorem less_self (a b : Int) : eidL a b a b = false := by grind [eidL]
theorem less_not (a b c d : Int) (h2 : ¬ eidC a b c d < 0) : eidL a b c d = false := by grind [eidL, eidC, cmpI]
theorem Top.one (ll : List E) : Top ll (e0 ll 0) (e1 ll 0) 1 := by
  refine ⟨⟨0, by omega, rfl, rfl⟩, fun j hj => ?_⟩
  have : j = 0 := by omega
  subst this
  exact less_self _ _
theorem Top.step {ll : List E} {e r : Int} {n : Nat} (h : Top ll e r n) : Top ll (maxE e r (e0 ll n) (e1 ll n)).e (maxE e r (e0 ll n) (e1 ll n)).r (n + 1) := by
  obtain ⟨⟨j, hj, h1, h2⟩, h3⟩ := h
  unfold maxE
  by_cases hc : eidC e r (e0 ll n) (e1 ll n) < 0
  · rw [if_pos hc]
    refine ⟨⟨n, by omega, rfl, rfl⟩, fun k hk => ?_⟩
    rcases Nat.lt_or_ge k n with hk' | hk'
    · exact less_trans _ _ _ _ _ _ (h3 k hk') hc
    · have : k = n := by omega
      subst this
      exact less_self _ _
  · rw [if_neg hc]
    refine ⟨⟨j, by omega, h1, h2⟩, fun k hk => ?_⟩
    rcases Nat.lt_or_ge k n with hk' | hk'
    · exact h3 k hk'
    · have : k = n := by omega
      subst this
      exact less_not _ _ _ _ hc
structure X where
  e : Int
  r : Int
  i : Int
def Q1 (ll : List E) (x : X) : Prop := 1 ≤ x.i ∧ x.i ≤ ll.length ∧ Top ll x.e x.r x.i.toNat
def M1 (ll : List E) (x : X) : Nat := ll.length - x.i.toNat
noncomputable def I1 (ll : List E) (x : X) : St := stOf Try.f7.ntmps [(0, .sa (.one (.sl none (.recs (.int .i64 (.int .i64 .nil)) ll)))), (3, .sa (.one (.ptr 3 0))), (4, .sa (.one (I x.i)))] [(3, 37, [I x.e, I x.r])]
def rd1 (st : St) : X := ⟨valI (blkC st 3 0), valI (blkC st 3 1), valI (slotC st 4)⟩
structure Y where
  b : Bool
  i : Int
def Q2 (ll : List E) (e r : Int) (y : Y) : Prop := 0 ≤ y.i ∧ y.i ≤ ll.length ∧ ∀ j, j < y.i.toNat → e0 ll j = e → e1 ll j = r → y.b = true
def M2 (ll : List E) (y : Y) : Nat := ll.length - y.i.toNat
noncomputable def I2 (ll : List E) (e r : Int) (y : Y) : St := stOf Try.f7.ntmps [(0, .sa (.one (.sl none (.recs (.int .i64 (.int .i64 .nil)) ll)))), (3, .sa (.one (.ptr 3 0))), (5, .sa (.one (B y.b))), (6, .sa (.one (I y.i)))] [(3, 37, [I e, I r])]
def rd2 (st : St) : Y := ⟨valB (slotC st 5), valI (slotC st 6)⟩
theorem Q2.step {ll : List E} {e r : Int} {b : Bool} {i : Int} (h : Q2 ll e r ⟨b, i⟩) (h1 : i < ll.length) (b' : Bool) (hb : b = true → b' = true) (hn : e0 ll i.toNat = e → e1 ll i.toNat = r → b' = true) : Q2 ll e r ⟨b', i + 1⟩ := by
  obtain ⟨q0, q1, q2⟩ := h
  simp only at q0 q1 q2
  refine ⟨by simp only; omega, by simp only; omega, fun j hj g1 g2 => ?_⟩
  simp only at hj ⊢
  rcases Nat.lt_or_ge j i.toNat with hk | hk
  · exact hb (q2 j hk g1 g2)
  · have : j = i.toNat := by omega
    subst this
    exact hn g1 g2
theorem Q2.done {ll : List E} {e r : Int} {b : Bool} {i : Int} (h : Q2 ll e r ⟨b, i⟩) (ht : Top ll e r ll.length) (h1 : ¬ i < ll.length) : b = true := by
  obtain ⟨q0, q1, q2⟩ := h
  obtain ⟨⟨j, hj, g1, g2⟩, _⟩ := ht
  simp only at q0 q1 q2
  exact q2 j (by omega) g1 g2
set_option maxRecDepth 100000 in
theorem x_law (ll : List E) : Does (fs Fs.std) Try.f7 [.one (.sl none (.recs (.int .i64 (.int .i64 .nil)) ll))] (hands (.sa (.one (B true)))) := by
  intro W S
  have hfs := fs_ok
  generalize hF : Fs.std = F at hfs ⊢
  generalize hA : Ar.std = A
  generalize hL : Lp _ _ _ = L
  cbv
  repeat' (first | exact trivial | refine ⟨?_, ?_⟩ | refine orf fun _ => ?_ | refine ort fun hlen => ?_)
  all_goals first
    | (fail_if_success change L _ _ _
       clear hL hfs
       subst hA hF
       simp only [Fs.std, Ar.std] at *
       grind [stdCmp, stdBin])
    | skip
  have hn : 1 ≤ ll.length ∧ ll.length ≤ 200 := by
    subst hA
    simp only [Ar.std] at hlen
    grind [stdCmp]
  clear hlen
  subst hL
  refine loop_rd (cx_ok hfs) (Q1 ll) (I1 ll) (M1 ll) rd1 ⟨e0 ll 0, e1 ll 0, 1⟩ ?_ ?_ ?_
  · exact ⟨by simp, by simp; omega, Top.one ll⟩
  · generalize h0e : e0 ll 0 = a0
    generalize h1e : e1 ll 0 = a1
    cbv
    subst hA h0e h1e
    repeat' (first | exact trivial | refine And.intro ?_ ?_)
    all_goals rfl
  rintro ⟨e, r, i⟩ hQ O hO
  obtain ⟨q0, q1, qt⟩ := hQ
  have hs := qt.step
  simp only [e0, e1] at q0 q1 hs
  subst hA
  generalize hA : Ar.std = A
  generalize hL : Lp _ _ _ = L
  cbv
  repeat' (first | exact trivial | refine ⟨?_, ?_⟩ | refine orf fun _ => ?_ | refine ort fun hlt => ?_)
  all_goals first
    | (fail_if_success change L _ _ _
       clear hL hfs qt
       subst hA hF hO
       simp only [Fs.std, Ar.std] at *
       have hi : (i + 1).toNat = i.toNat + 1 := by omega
       grind [stdCmp, stdBin, wr, Q1, M1])
    | skip
  have hend : i = ll.length := by
    subst hA
    simp only [Ar.std] at hlt
    grind [stdCmp]
  have ht : Top ll e r ll.length := by
    have := qt
    rw [hend] at this
    simpa using this
  clear hlt hs qt q0 q1 hO
  subst hL
  subst hA
  refine loop_rd (cx_ok hfs) (Q2 ll e r) (I2 ll e r) (M2 ll) rd2 ⟨false, 0⟩ ?_ ?_ ?_
  · exact ⟨by simp, by simp, fun j hj => by simp at hj⟩
  · generalize Ar.std = A
    cbv
  rintro ⟨b, k⟩ hQ O2 hO
  obtain ⟨q0, q1, q2⟩ := id hQ
  have hst := fun h1 => Q2.step hQ h1
  have hdn := Q2.done hQ ht
  have hls := ht.2 k.toNat
  simp only [e0, e1] at q0 q1 hst hls
  generalize hA : Ar.std = A
  generalize hL : Lp _ _ _ = L
  cbv
  repeat' (first | exact trivial | refine ⟨?_, ?_⟩ | refine orf fun _ => ?_ | refine ort fun hlt => ?_)
  all_goals (clear hL hfs ht hQ q2; subst hA hF hO; simp only [Fs.std, Ar.std] at *; grind [stdCmp, stdBin, wr, M2])
theorem walk (A : Option Addr) (n c : Nat) (l : List E) (w : World) (hr : rowIs (G1 (fun _ _ => True) w w) (Sh.int .i64 (.int .i64 .nil)).size (fun y us => valsIs (G1 (fun _ _ => True) w w) (.int .i64 (.int .i64 .nil)) y 0 us) l (.slice A n c)) : Calls Try.prog 7 #[.slice A n c] w (Law.Yes w) :=
  yes_of fs_ok Try.func7 rfl (vs := [.slice A n c]) rfl (by exact ⟨⟨hr, trivial⟩, trivial⟩) (Nat.le_of_ble_eq_true rfl) (x_law l)

theorem own : ownKnob Try.prog.godebug = none := by kernel_rfl
theorem laidOut : laidOutB Try.prog = true := by kernel_rfl

set_option maxRecDepth 100000 in
theorem lifted (os : Os) (started : os.Started) (H : Type) (enc : TypeId × Value → H) :
    ReturnsInHanded {} Try.checked os 7 .any (Rows.eidMaxSpec.pre6 enc Try.prog Try.f7 Rows.eidMaxRow.domain false) (Rows.eidMaxSpec.post enc Try.prog Try.f7 false true false false) := by
  refine returnsInHanded_of_change (C := Try.checked) own started (by kernel_rfl) Try.func7
    (ChangeSpec.witness6 (enc := enc) (C := Try.checked) false ⟨#[], #[.slice none 0 0], []⟩ 8 (by kernel_rfl) (by kernel_rfl) (by kernel_rfl) (by kernel_rfl)) ?_
  intro W base args ds gs before hval0 hW _ _
  have hval : ∀ (j : Nat) t v, Try.f7.params[j]? = some t → args[j]? = some v → Value.okWide Try.prog W .any base t v := hval0
  have hW' := hW
  obtain ⟨p, q, hA0, hV, rfl, _, _⟩ := hW
  have hA : DataW.TrodAll enc Try.prog W 0 (fun _ => true) true Try.f7.params.toList args.toList ds p := hA0
  rw [Try.params7] at hA hval
  obtain ⟨v0, d0, rfl, rfl, h0⟩ := trodAll_one hA
  obtain ⟨rfl, rfl⟩ := trodVars_none hV
  obtain ⟨A0, n0, c0, l0, rfl, rw0⟩ := row_in (α := E) (Q := fun y us => valsIs (G1 (fun _ _ => True) W W) (.int .i64 (.int .i64 .nil)) y 0 us) Try.underlying47 (by kernel_rfl : _ = 2) (by omega) (hval 0 47 v0 rfl rfl) h0
    (fun fuel cs x h => ii_in Try.underlying37 Try.underlying3 Try.underlying3 ⟨rfl, by kernel_rfl⟩ ⟨rfl, by kernel_rfl⟩ (by kernel_rfl) fuel cs x h)
  refine (walk A0 n0 c0 l0 W rw0).mono fun e W' ⟨he, hb⟩ => ?_
  subst he
  exact ⟨_, rfl, law_post laidOut (by kernel_rfl) (by kernel_rfl) Try.underlying4 rfl hW' rfl hb⟩

theorem proved : Rows.EidMaxSaid :=
  OpenClaim.holds_of_wide 7 Try.f7 rfl rfl rfl rfl rfl rfl rfl ⟨rfl, rfl, rfl, rfl, rfl⟩ rfl rfl rfl rfl rfl (by kernel_rfl) Try.func7 (by kernel_rfl)
    (of_decide_eq_true (by kernel_rfl)) (by unfold Func.isWrapper; first | (rw [if_pos (by decide +kernel)]; kernel_rfl) | (rw [if_neg (by decide +kernel)]; exact ⟨rfl, rfl⟩))
    (fun os started H enc _ => lifted os started H enc)
end Go.Proofs.Ytcbfccadodikgaa.EidMax
