/-
  BeatTicks: for every beat the call tells true, and nothing that was there turns. No condition.
-/
import Derived.Test.YtcbfccadodikgaaRows
import Derived.Test.YtcbfccadodikgaaBeatCounts
namespace Go.Proofs.Ytcbfccadodikgaa.BeatTicks
open Go.RowKit Go.Proofs.Ytcbfccadodikgaa.Law Go.Proofs.Ytcbfccadodikgaa.Node Go.Proofs.Ytcbfccadodikgaa.Beat Go.Proofs.Ytcbfccadodikgaa.BeatCount
open Go.ChangeShapes Go.WideShapes Go.ChangeAt Go.Joins

set_option maxHeartbeats 1000000 in
theorem walk_no (q s : Int) (w : World) (h : mayT q s = false) : Calls Try.prog 8 #[.agg #[.int .i64 q, .int .i64 s]] w (Yes w) := by
  have h1 := fun w => heard_no q s w h
  have h2 := fun w => tick_no q s w h
  have h3 := may_any q s
  have h4 := check_any q s
  rw [h] at h3
  rw [chkT_ff h] at h4
  have H1 := Law.hide h1; have H2 := Law.hide h2; have H3 := Law.hide h3; have H4 := Law.hide h4
  clear h1 h2 h3 h4 h
  go_enter Try.func8, Try.ntmps8
  go_wp2_with fail
  refine (H1.out _).mono ?_
  rintro e w1 ⟨rfl, hb⟩
  have k1 := ((Kept.start w).new2 50 (.int .i64 q) (.int .i64 s)).call hb
  clear hb
  obtain ⟨⟨za0, ca0⟩, ar0⟩ := k1.head
  obtain ⟨⟨za1, ca1⟩, ar1⟩ := ar0.head
  unfold NotHeard
  go_wp2_with fail
  refine (H2.out _).mono ?_
  rintro e w2 ⟨rfl, hb⟩
  have k2 := (k1.new2 50 (.int .i64 0) (.int .i64 0)).call hb
  clear za0 ca0 ar0 za1 ca1 ar1
  clear hb k1
  obtain ⟨⟨zb0, cb0⟩, br0⟩ := k2.head
  obtain ⟨⟨zb1, cb1⟩, br1⟩ := br0.head
  obtain ⟨⟨zb2, cb2⟩, br2⟩ := br1.head
  obtain ⟨⟨zb3, cb3⟩, br3⟩ := br2.head
  unfold NotTicked
  go_wp2_with fail
  refine (H3.out _).mono ?_
  rintro e w3 ⟨rfl, hb⟩
  have k3 := (k2.new2 50 (.int .i64 0) (.int .i64 0)).call hb
  clear zb0 cb0 br0 zb1 cb1 br1 zb2 cb2 br2 zb3 cb3 br3
  clear hb k2
  obtain ⟨⟨zc0, cc0⟩, cr0⟩ := k3.head
  obtain ⟨⟨zc1, cc1⟩, cr1⟩ := cr0.head
  obtain ⟨⟨zc2, cc2⟩, cr2⟩ := cr1.head
  obtain ⟨⟨zc3, cc3⟩, cr3⟩ := cr2.head
  obtain ⟨⟨zc4, cc4⟩, cr4⟩ := cr3.head
  obtain ⟨⟨zc5, cc5⟩, cr5⟩ := cr4.head
  go_wp2_with fail
  refine (H4.out _).mono ?_
  rintro e w4 ⟨rfl, hb⟩
  have k4 := k3.call hb
  clear zc0 cc0 cr0 zc1 cc1 cr1 zc2 cc2 cr2 zc3 cc3 cr3 zc4 cc4 cr4 zc5 cc5 cr5
  clear hb k3
  obtain ⟨⟨zd0, cd0⟩, dr0⟩ := k4.head
  obtain ⟨⟨zd1, cd1⟩, dr1⟩ := dr0.head
  obtain ⟨⟨zd2, cd2⟩, dr2⟩ := dr1.head
  obtain ⟨⟨zd3, cd3⟩, dr3⟩ := dr2.head
  obtain ⟨⟨zd4, cd4⟩, dr4⟩ := dr3.head
  obtain ⟨⟨zd5, cd5⟩, dr5⟩ := dr4.head
  go_wp2_with fail
  refine (BeatCounts.awake_any _).mono ?_
  rintro e w5 ⟨rfl, hb⟩
  have k5 := k4.call hb
  go_wp2_with fail
  go_ret
  exact ⟨rfl, k5.1⟩

set_option maxHeartbeats 1000000 in
theorem walk_ok (q s : Int) (w : World) (h : mayT q s = true) : Calls Try.prog 8 #[.agg #[.int .i64 q, .int .i64 s]] w (Yes w) := by
  have h1 := fun w => heard_ok q s w h
  have h2 := fun w => tick_ok q s w h
  have h3 := may_any q s
  have h4 := check_any q s
  have h5 := fun w => rtick_ok q s w h
  rw [h] at h3
  rw [chkT_tt h] at h4
  have H1 := Law.hide h1; have H2 := Law.hide h2; have H3 := Law.hide h3; have H4 := Law.hide h4; have H5 := Law.hide h5
  clear h1 h2 h3 h4 h5 h
  go_enter Try.func8, Try.ntmps8
  go_wp2_with fail
  refine (H1.out _).mono ?_
  rintro e w1 ⟨rfl, hb⟩
  have k1 := ((Kept.start w).new2 50 (.int .i64 q) (.int .i64 s)).call hb
  clear hb
  obtain ⟨⟨za0, ca0⟩, ar0⟩ := k1.head
  obtain ⟨⟨za1, ca1⟩, ar1⟩ := ar0.head
  unfold Heard
  go_wp2_with fail
  refine (H2.out _).mono ?_
  rintro e w2 ⟨rfl, hb⟩
  have k2 := (k1.new2 50 (.int .i64 0) (.int .i64 s)).call hb
  clear za0 ca0 ar0 za1 ca1 ar1
  clear hb k1
  obtain ⟨⟨zb0, cb0⟩, br0⟩ := k2.head
  obtain ⟨⟨zb1, cb1⟩, br1⟩ := br0.head
  obtain ⟨⟨zb2, cb2⟩, br2⟩ := br1.head
  obtain ⟨⟨zb3, cb3⟩, br3⟩ := br2.head
  unfold Ticked
  go_wp2_with fail
  refine (H3.out _).mono ?_
  rintro e w3 ⟨rfl, hb⟩
  have k3 := (k2.new2 50 (.int .i64 (nextQ q)) (.int .i64 (nextS s))).call hb
  clear zb0 cb0 br0 zb1 cb1 br1 zb2 cb2 br2 zb3 cb3 br3
  clear hb k2
  obtain ⟨⟨zc0, cc0⟩, cr0⟩ := k3.head
  obtain ⟨⟨zc1, cc1⟩, cr1⟩ := cr0.head
  obtain ⟨⟨zc2, cc2⟩, cr2⟩ := cr1.head
  obtain ⟨⟨zc3, cc3⟩, cr3⟩ := cr2.head
  obtain ⟨⟨zc4, cc4⟩, cr4⟩ := cr3.head
  obtain ⟨⟨zc5, cc5⟩, cr5⟩ := cr4.head
  go_wp2_with fail
  refine (H5.out _).mono ?_
  rintro e w4 ⟨rfl, hb⟩
  have k4 := k3.call hb
  clear zc0 cc0 cr0 zc1 cc1 cr1 zc2 cc2 cr2 zc3 cc3 cr3 zc4 cc4 cr4 zc5 cc5 cr5
  clear hb k3
  obtain ⟨⟨zd0, cd0⟩, dr0⟩ := k4.head
  obtain ⟨⟨zd1, cd1⟩, dr1⟩ := dr0.head
  obtain ⟨⟨zd2, cd2⟩, dr2⟩ := dr1.head
  obtain ⟨⟨zd3, cd3⟩, dr3⟩ := dr2.head
  obtain ⟨⟨zd4, cd4⟩, dr4⟩ := dr3.head
  obtain ⟨⟨zd5, cd5⟩, dr5⟩ := dr4.head
  unfold Ticked3
  go_wp2_with fail
  refine (H4.out _).mono ?_
  rintro e w5 ⟨rfl, hb⟩
  have k5 := (k4.new2 50 (.int .i64 (nextQ q)) (.int .i64 (nextS s))).call hb
  clear zd0 cd0 dr0 zd1 cd1 dr1 zd2 cd2 dr2 zd3 cd3 dr3 zd4 cd4 dr4 zd5 cd5 dr5
  clear hb k4
  obtain ⟨⟨zf0, cf0⟩, fr0⟩ := k5.head
  obtain ⟨⟨zf1, cf1⟩, fr1⟩ := fr0.head
  obtain ⟨⟨zf2, cf2⟩, fr2⟩ := fr1.head
  obtain ⟨⟨zf3, cf3⟩, fr3⟩ := fr2.head
  obtain ⟨⟨zf4, cf4⟩, fr4⟩ := fr3.head
  obtain ⟨⟨zf5, cf5⟩, fr5⟩ := fr4.head
  obtain ⟨⟨zf6, cf6⟩, fr6⟩ := fr5.head
  obtain ⟨⟨zf7, cf7⟩, fr7⟩ := fr6.head
  go_wp2_with fail
  refine (BeatCounts.awake_any _).mono ?_
  rintro e w6 ⟨rfl, hb⟩
  have k6 := k5.call hb
  go_wp2_with fail
  go_ret
  exact ⟨rfl, k6.1⟩

theorem walk (q s : Int) (w : World) : Calls Try.prog 8 #[.agg #[.int .i64 q, .int .i64 s]] w (Yes w) := by
  cases h : mayT q s
  · exact walk_no q s w h
  · exact walk_ok q s w h

theorem own : ownKnob Try.prog.godebug = none := by kernel_rfl
theorem laidOut : laidOutB Try.prog = true := by kernel_rfl

set_option maxRecDepth 100000 in
theorem lifted (os : Os) (started : os.Started) (H : Type) (enc : TypeId × Value → H) :
    ReturnsInHanded {} Try.checked os 8 .any (Rows.beatTicksSpec.pre6 enc Try.prog Try.f8 Rows.beatTicksRow.domain false) (Rows.beatTicksSpec.post enc Try.prog Try.f8 false true false false) := by
  refine returnsInHanded_of_change (C := Try.checked) own started (by kernel_rfl) Try.func8
    (ChangeSpec.witness6 (enc := enc) (C := Try.checked) false ⟨#[], #[.agg #[.int .i64 0, .int .i64 0]], []⟩ 8 (by kernel_rfl) (by kernel_rfl) (by kernel_rfl) (by kernel_rfl)) ?_
  intro W base args ds gs before hval0 hW _ _
  have hval : ∀ (j : Nat) t v, Try.f8.params[j]? = some t → args[j]? = some v → Value.okWide Try.prog W .any base t v := hval0
  have hW' := hW
  obtain ⟨p, q, hA0, hV, rfl, _, _⟩ := hW
  have hA : DataW.TrodAll enc Try.prog W 0 (fun _ => true) true Try.f8.params.toList args.toList ds p := hA0
  rw [Try.params8] at hA hval
  obtain ⟨v0, d0, rfl, rfl, h0⟩ := trodAll_one hA
  obtain ⟨rfl, rfl⟩ := trodVars_none hV
  obtain ⟨c0x0, c0x1, y0x0, y0x1, m0, rfl, rfl, rfl, hy0x0, hy0x1⟩ := open_agg2 Try.underlying50 (by kernel_rfl) (by kernel_rfl) (hval 0 50 v0 rfl rfl) h0
  obtain ⟨a0x0, e0x0, rfl, w0x0⟩ := DataW.trod_int Try.underlying3 hy0x0
  obtain ⟨a0x1, e0x1, rfl, w0x1⟩ := DataW.trod_int Try.underlying3 hy0x1
  simp at e0x0 e0x1
  subst e0x0 e0x1
  refine (walk a0x0 a0x1 W).mono fun e W' ⟨he, hb⟩ => ?_
  subst he
  exact ⟨_, rfl, law_post laidOut (by kernel_rfl) (by kernel_rfl) Try.underlying4 rfl hW' rfl hb⟩

theorem proved : Rows.BeatTicksSaid :=
  OpenClaim.holds_of_wide 8 Try.f8 rfl rfl rfl rfl rfl rfl rfl ⟨rfl, rfl, rfl, rfl, rfl⟩ rfl rfl rfl rfl rfl (by kernel_rfl) Try.func8 (by kernel_rfl)
    (of_decide_eq_true (by kernel_rfl)) (by unfold Func.isWrapper; first | (rw [if_pos (by decide +kernel)]; kernel_rfl) | (rw [if_neg (by decide +kernel)]; exact ⟨rfl, rfl⟩))
    (fun os started H enc _ => lifted os started H enc)
end Go.Proofs.Ytcbfccadodikgaa.BeatTicks
