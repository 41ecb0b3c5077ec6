/-
  BeatLate: for every two numbers the call tells true, and nothing that was there turns. No condition.
-/
import Derived.Test.YtcbfccadodikgaaRows
import Derived.Test.YtcbfccadodikgaaBeatCounts
import Derived.Test.YtcbfccadodikgaaOwn
namespace Go.Proofs.Ytcbfccadodikgaa.BeatLate
open Go.RowKit Go.Proofs.Ytcbfccadodikgaa.Law Go.Proofs.Ytcbfccadodikgaa.Node Go.Proofs.Ytcbfccadodikgaa.Beat Go.Proofs.Ytcbfccadodikgaa.BeatCount
open Go.ChangeShapes Go.WideShapes Go.ChangeAt Go.Joins

theorem run_append (a b : List Bool) : St.run (a ++ b) = b.foldl St.step (St.run a) := by simp [St.run]
theorem trues (m : Nat) : (St.run (List.replicate (m + 1) true)).q = 1 ∧ (St.run (List.replicate (m + 1) true)).u = 0 := by
  induction m with
  | zero => simp [St.run, St.step, nextQ]
  | succ m ih =>
    rw [List.replicate_succ', St.run_snoc]
    simp [St.step, nextQ, ih.2]
theorem falses (x : St) (hx : x.q = 1) (hu : x.u = 0) (j : Nat) : ((List.replicate j false).foldl St.step x).q = ((j : Int) + 1) % 6 ∧ ((List.replicate j false).foldl St.step x).u = ((j : Int) + 1) / 6 := by
  induction j with
  | zero => simp [hx, hu]
  | succ j ih =>
    rw [List.replicate_succ', List.foldl_append]
    generalize (List.replicate j false).foldl St.step x = y at *
    obtain ⟨h1, h2⟩ := ih
    simp only [List.foldl_cons, List.foldl_nil, St.step, nextQ, h1, h2, Bool.false_eq_true, if_false]
    constructor <;> split <;> omega
theorem late (m j : Nat) : (St.run (List.replicate (m + 1) true ++ List.replicate j false)).u = ((j : Int) + 1) / 6 := by
  rw [run_append]
  exact (falses _ (trues m).1 (trues m).2 j).2

theorem info_bool : (Try.prog.info? 4).map (fun i => (i.zero, i.size, i.bytes)) = some (some (.bool false), 1, 1) := by kernel_rfl

/-- Behind an append of one: the row's shape, and below the first world nothing has turned. -/
theorem step {w wr w1 : World} {g k cap : Nat} {xs : List Value} {b : Bool} {v : Value} (hown : wr.ownsRow w.heap.size 4 1 (.slice (some ⟨g, 0, none⟩) k cap) k xs) (hb : Below w.heap.size w wr)
    (hown1 : w1.ownsRow w.heap.size 4 1 v (k + 1) (xs ++ [.bool b])) (hgrow : (wr.alloc (.cells #[.bool b] 4)).grownBy w1 (Value.slice (some ⟨g, 0, none⟩) k cap).ownBlock)
    (hnil : v = .slice none 0 0 ↔ Value.slice (some ⟨g, 0, none⟩) k cap = .slice none 0 0 ∧ 1 = 0) :
    ∃ g' cap', v = .slice (some ⟨g', 0, none⟩) (k + 1) cap' ∧ w1.ownsRow w.heap.size 4 1 (.slice (some ⟨g', 0, none⟩) (k + 1) cap') (k + 1) (xs ++ [.bool b]) ∧ Below w.heap.size w w1 := by
  obtain ⟨g', cap', rfl, _, _, _⟩ := own_shape hown1 (fun h => by have := (hnil.1 h).2; omega)
  exact ⟨g', cap', rfl, hown1, own_below (hb.alloc hb.size _) (hown.alloc _) (Nat.le_refl _) (by have := hb.size; simp; omega) hgrow⟩

theorem late' (m j : Nat) (h : 1 ≤ m) : (St.run (List.replicate m true ++ List.replicate j false)).u = ((j : Int) + 1) / 6 := by
  obtain ⟨m', rfl⟩ : ∃ m', m = m' + 1 := ⟨m - 1, by omega⟩
  exact late m' j

theorem more (m j : Nat) : (List.replicate m true ++ List.replicate (j + 1) false).map Value.bool = (List.replicate m true ++ List.replicate j false).map Value.bool ++ [Value.bool false] := by
  rw [List.replicate_succ' (n := j), ← List.append_assoc, List.map_append (l₁ := List.replicate m true ++ List.replicate j false)]
  rfl

def Row (w wr : World) (g cap n : Nat) (l : List Bool) : Prop := wr.ownsRow w.heap.size 4 1 (.slice (some ⟨g, 0, none⟩) n cap) n (l.map Value.bool) ∧ Below w.heap.size w wr

set_option maxHeartbeats 1000000 in
theorem walk0 (a n : Int) (w : World) (ha0 : 0 ≤ a) (ha1 : a ≤ 255) (hn0 : 0 ≤ n) (hn1 : n ≤ 255) : Calls Try.prog 11 #[.int .u8 a, .int .u8 n] w (Yes w) := by
  obtain ⟨i0, hi, hz0, hz1, hz2⟩ := info_parts info_bool
  have HI := Law.hide hi; have HZ0 := Law.hide hz0; have HZ1 := Law.hide hz1; have HZ2 := Law.hide hz2; clear hi hz0 hz1 hz2
  go_enter Try.func11, Try.ntmps11
  go_wp2
  go_loopw [5, 6] (fun v i wr => ∃ (k g cap : Nat), (k : Int) ≤ a ∧ i = .int .i64 k ∧ v = .slice (some ⟨g, 0, none⟩) k cap ∧ Hid (Row w wr g cap k (List.replicate k true)))
    (fun _ i _ => a.toNat - (intOf i).toNat)
  case atStart =>
    exact ⟨0, w.heap.size, 0, by omega, rfl, rfl, own_new w w.heap.size (Nat.le_refl _) 4 #[] (by simp), (Below.refl _ _).alloc (Nat.le_refl _) _⟩
  case round =>
    obtain ⟨k, g, cap, hk, rfl, rfl, HR⟩ := hrel
    obtain ⟨hown, hb⟩ := HR.out
    have HO := Law.hide hown; have HB := Law.hide hb; clear hown hb
    have hbz := HB.out.size
    by_cases hlt : (k : Int) < a
    · go_wp2_with (at_builtin; refine wpList_append_own _ rfl _ _ 59 rfl w.heap.size 4 i0 (.bool false) 1 1 Try.underlying59 HI.out HZ0.out HZ1.out HZ2.out rfl (by decide) _ _ _ rfl (HO.out.alloc _) ⟨wr.heap.size, 0, none⟩ 1 1 [.bool true] rfl rfl (World.news_of_block (cs := #[.bool true]) (t := 4) (fr := (0, 0)) (heap_alloc_new wr _)) (by simp [Value.oneCell']) (by unfold maxLen; omega) (by omega) (by simp; omega) ?_; intro nv nw nown ngrow nnil)
      obtain ⟨g', cap', rfl, hown1, hb1⟩ := step HO.out HB.out nown ngrow nnil
      exact ⟨⟨k + 1, g', cap', by omega, by go_num, rfl, by rw [List.replicate_succ']; simpa using hown1, hb1⟩, by simp [intOf]; omega⟩
    · have hm : (k == 0) = true ∧ k = 0 ∨ (k == 0) = false ∧ 1 ≤ k := by
        by_cases h : k = 0
        · exact .inl ⟨by simpa using h, h⟩
        · exact .inr ⟨by simpa using h, by omega⟩
      rcases hm with ⟨hm, hk0⟩ | ⟨hm, hm1⟩
      · have hk1 : k ≤ 0 := by omega
        have hki : ((k : Int) == 0) = true := by simpa using hk0
        have HK0 := Law.hide hk0; clear hm hk0
        go_wp2_with (at_builtin; refine wpList_append_own _ rfl _ _ 59 rfl w.heap.size 4 i0 (.bool false) 1 1 Try.underlying59 HI.out HZ0.out HZ1.out HZ2.out rfl (by decide) _ _ _ rfl (HO.out.alloc _) ⟨wr.heap.size, 0, none⟩ 1 1 [.bool true] rfl rfl (World.news_of_block (cs := #[.bool true]) (t := 4) (fr := (0, 0)) (heap_alloc_new wr _)) (by simp [Value.oneCell']) (by unfold maxLen; omega) (by omega) (by simp; omega) ?_; intro nv nw nown ngrow nnil)
        obtain ⟨g', cap', rfl, hown1, hb1⟩ := step HO.out HB.out nown ngrow nnil
        have HR1 : Hid (Row w nw g' cap' (k + 1) (List.replicate (k + 1) true)) := ⟨by rw [List.replicate_succ']; simpa using hown1, hb1⟩
        clear hown1 hb1 nnil ngrow nown
        go_wp2
        go_loopw [5, 7] (fun v i wr => ∃ (j g cap : Nat), (j : Int) ≤ n ∧ i = .int .i64 j ∧ v = .slice (some ⟨g, 0, none⟩) ((k + 1) + j) cap ∧ Hid (Row w wr g cap ((k + 1) + j) (List.replicate (k + 1) true ++ List.replicate j false)))
          (fun _ i _ => n.toNat - (intOf i).toNat)
        case atStart => exact ⟨0, _, _, by omega, rfl, rfl, by simpa using HR1⟩
        case round =>
          obtain ⟨j, g2, cap2, hj, rfl, rfl, HR2⟩ := hrel
          obtain ⟨hown2, hb2⟩ := HR2.out
          have HO2 := Law.hide hown2; have HB2 := Law.hide hb2; clear hown2 hb2
          have hbz2 := HB2.out.size
          by_cases hlt2 : (j : Int) < n
          · go_wp2_with (at_builtin; refine wpList_append_own _ rfl _ _ 59 rfl w.heap.size 4 i0 (.bool false) 1 1 Try.underlying59 HI.out HZ0.out HZ1.out HZ2.out rfl (by decide) _ _ _ rfl (HO2.out.alloc _) ⟨wr.heap.size, 0, none⟩ 1 1 [.bool false] rfl rfl (World.news_of_block (cs := #[.bool false]) (t := 4) (fr := (0, 0)) (heap_alloc_new wr _)) (by simp [Value.oneCell']) (by unfold maxLen; omega) (by omega) (by simp; omega) ?_; intro lv lw lown lgrow lnil)
            obtain ⟨g', cap', rfl, hown1, hb1⟩ := step HO2.out HB2.out lown lgrow lnil
            exact ⟨⟨j + 1, g', cap', by omega, by go_num, rfl, by rw [more]; exact hown1, hb1⟩, by simp [intOf]; omega⟩
          · have hjn : (j : Int) = n := by omega
            have hlen : (k + 1) + j ≤ 9223372036854775807 := by omega
            have hcnt := count_any (some ⟨g2, 0, none⟩) ((k + 1) + j) cap2 (List.replicate (k + 1) true ++ List.replicate j false) wr.heap.size wr (Nat.le_refl _) hlen (Reads.of_own HO2.out)
            have hlate : (St.run (List.replicate (k + 1) true ++ List.replicate j false)).u = (n + 1) / 6 := by
              rw [← hjn]
              exact late' (k + 1) j (by omega)
            unfold Counted at hcnt
            rw [hlate] at hcnt
            have HC := Law.hide hcnt; have HJ := Law.hide hjn; clear hcnt hlate hjn
            go_wp2_with fail
            refine HC.out.mono ?_
            rintro e w3 ⟨rfl, hb3⟩
            have HB3 := Law.hide (HB2.out.trans (hb3.mono hbz2)); clear hb3
            go_wp2_with fail
            refine (BeatCounts.awake_any _).mono ?_
            rintro e w4 ⟨rfl, hb4⟩
            go_wp2_with fail
            go_ret
            exact ⟨rfl, HB3.out.trans (hb4.mono HB3.out.size)⟩

      · have hki : ((k : Int) == 0) = false := by simpa using hm
        clear hm
        go_wp2
        go_loopw [5, 7] (fun v i wr => ∃ (j g cap : Nat), (j : Int) ≤ n ∧ i = .int .i64 j ∧ v = .slice (some ⟨g, 0, none⟩) (k + j) cap ∧ Hid (Row w wr g cap (k + j) (List.replicate k true ++ List.replicate j false)))
          (fun _ i _ => n.toNat - (intOf i).toNat)
        case atStart => exact ⟨0, _, _, by omega, rfl, rfl, by simpa using HR⟩
        case round =>
          obtain ⟨j, g2, cap2, hj, rfl, rfl, HR2⟩ := hrel
          obtain ⟨hown2, hb2⟩ := HR2.out
          have HO2 := Law.hide hown2; have HB2 := Law.hide hb2; clear hown2 hb2
          have hbz2 := HB2.out.size
          by_cases hlt2 : (j : Int) < n
          · go_wp2_with (at_builtin; refine wpList_append_own _ rfl _ _ 59 rfl w.heap.size 4 i0 (.bool false) 1 1 Try.underlying59 HI.out HZ0.out HZ1.out HZ2.out rfl (by decide) _ _ _ rfl (HO2.out.alloc _) ⟨wr.heap.size, 0, none⟩ 1 1 [.bool false] rfl rfl (World.news_of_block (cs := #[.bool false]) (t := 4) (fr := (0, 0)) (heap_alloc_new wr _)) (by simp [Value.oneCell']) (by unfold maxLen; omega) (by omega) (by simp; omega) ?_; intro lv lw lown lgrow lnil)
            obtain ⟨g', cap', rfl, hown1, hb1⟩ := step HO2.out HB2.out lown lgrow lnil
            exact ⟨⟨j + 1, g', cap', by omega, by go_num, rfl, by rw [more]; exact hown1, hb1⟩, by simp [intOf]; omega⟩
          · have hjn : (j : Int) = n := by omega
            have hlen : k + j ≤ 9223372036854775807 := by omega
            have hcnt := count_any (some ⟨g2, 0, none⟩) (k + j) cap2 (List.replicate k true ++ List.replicate j false) wr.heap.size wr (Nat.le_refl _) hlen (Reads.of_own HO2.out)
            have hlate : (St.run (List.replicate k true ++ List.replicate j false)).u = (n + 1) / 6 := by
              rw [← hjn]
              exact late' k j (by omega)
            unfold Counted at hcnt
            rw [hlate] at hcnt
            have HC := Law.hide hcnt; have HJ := Law.hide hjn; clear hcnt hlate hjn
            go_wp2_with fail
            refine HC.out.mono ?_
            rintro e w3 ⟨rfl, hb3⟩
            have HB3 := Law.hide (HB2.out.trans (hb3.mono hbz2)); clear hb3
            go_wp2_with fail
            refine (BeatCounts.awake_any _).mono ?_
            rintro e w4 ⟨rfl, hb4⟩
            go_wp2_with fail
            go_ret
            exact ⟨rfl, HB3.out.trans (hb4.mono HB3.out.size)⟩


theorem walk (a n : Int) (w : World) (ha : (Lit.int .u8 a).wf = true) (hn : (Lit.int .u8 n).wf = true) : Calls Try.prog 11 #[.int .u8 a, .int .u8 n] w (Yes w) := by
  obtain ⟨h1, h2⟩ := wf8 ha
  obtain ⟨h3, h4⟩ := wf8 hn
  exact walk0 a n w h1 h2 h3 h4

theorem own : ownKnob Try.prog.godebug = none := by kernel_rfl
theorem laidOut : laidOutB Try.prog = true := by kernel_rfl

set_option maxRecDepth 100000 in
theorem lifted (os : Os) (started : os.Started) (H : Type) (enc : TypeId × Value → H) :
    ReturnsInHanded {} Try.checked os 11 .any (Rows.beatLateSpec.pre6 enc Try.prog Try.f11 Rows.beatLateRow.domain false) (Rows.beatLateSpec.post enc Try.prog Try.f11 false true false false) := by
  refine returnsInHanded_of_change (C := Try.checked) own started (by kernel_rfl) Try.func11
    (ChangeSpec.witness6 (enc := enc) (C := Try.checked) false ⟨#[], #[.int .u8 0, .int .u8 0], []⟩ 8 (by kernel_rfl) (by kernel_rfl) (by kernel_rfl) (by kernel_rfl)) ?_
  intro W base args ds gs before hval0 hW _ _
  have hval : ∀ (j : Nat) t v, Try.f11.params[j]? = some t → args[j]? = some v → Value.okWide Try.prog W .any base t v := hval0
  have hW' := hW
  obtain ⟨p, q, hA0, hV, rfl, _, _⟩ := hW
  have hA : DataW.TrodAll enc Try.prog W 0 (fun _ => true) true Try.f11.params.toList args.toList ds p := hA0
  rw [Try.params11] at hA hval
  obtain ⟨v0, v1, d0, d1, p0, p1, rfl, rfl, rfl, h0, h1⟩ := trodAll_two hA
  obtain ⟨rfl, rfl⟩ := trodVars_none hV
  obtain ⟨a0, rfl, rfl, rfl, w0⟩ := open_int Try.underlying5 (hval 0 5 v0 rfl rfl) h0
  obtain ⟨a1, rfl, rfl, rfl, w1⟩ := open_int Try.underlying5 (hval 1 5 v1 rfl rfl) h1
  refine (walk a0 a1 W w0 w1).mono fun e W' ⟨he, hb⟩ => ?_
  subst he
  exact ⟨_, rfl, law_post laidOut (by kernel_rfl) (by kernel_rfl) Try.underlying4 rfl hW' rfl hb⟩

theorem proved : Rows.BeatLateSaid :=
  OpenClaim.holds_of_wide 11 Try.f11 rfl rfl rfl rfl rfl rfl rfl ⟨rfl, rfl, rfl, rfl, rfl⟩ rfl rfl rfl rfl rfl (by kernel_rfl) Try.func11 (by kernel_rfl)
    (of_decide_eq_true (by kernel_rfl)) (by unfold Func.isWrapper; first | (rw [if_pos (by decide +kernel)]; kernel_rfl) | (rw [if_neg (by decide +kernel)]; exact ⟨rfl, rfl⟩))
    (fun os started H enc _ => lifted os started H enc)
end Go.Proofs.Ytcbfccadodikgaa.BeatLate
