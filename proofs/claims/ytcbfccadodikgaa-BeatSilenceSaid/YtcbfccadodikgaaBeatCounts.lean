/-
  BeatCounts: for every list of signs the call tells true, and nothing that was there turns. No condition.
-/
import Derived.Test.YtcbfccadodikgaaRows
import Derived.Test.YtcbfccadodikgaaBeatCount
namespace Go.Proofs.Ytcbfccadodikgaa.BeatCounts
open Go.RowKit Go.Proofs.Ytcbfccadodikgaa.Law Go.Proofs.Ytcbfccadodikgaa.Node Go.Proofs.Ytcbfccadodikgaa.Beat Go.Proofs.Ytcbfccadodikgaa.BeatCount
open Go.ChangeShapes Go.WideShapes Go.ChangeAt Go.Joins

theorem awake_any (w : World) : Calls Try.prog 36 #[] w (Makes (.bool true) w) := by
  go_enter Try.func36, Try.ntmps36
  go_wp2_with fail
  refine (count_any (some ⟨w.heap.size, 0, none⟩) 6 6 [false, false, false, false, false, false] (w.heap.size + 1) _ (by simp) (by omega) ⟨rfl, fun _ => ⟨_, rfl, by simp, ?_⟩⟩).mono ?_
  · intro j u hu
    match j, hu with
    | 0, hu => simp at hu; subst hu; go_simp
    | 1, hu => simp at hu; subst hu; go_simp
    | 2, hu => simp at hu; subst hu; go_simp
    | 3, hu => simp at hu; subst hu; go_simp
    | 4, hu => simp at hu; subst hu; go_simp
    | 5, hu => simp at hu; subst hu; go_simp
  rintro e w1 ⟨rfl, hb⟩
  rw [show Counted [false, false, false, false, false, false] = .tuple #[.int .i64 3, .int .i64 1] by simp [Counted, St.run, St.step, nextQ, nextS]]
  go_wp2_with fail
  go_ret
  exact ⟨rfl, ((Below.refl _ _).alloc (Nat.le_refl _) _).trans (hb.mono (by simp))⟩

theorem long (A : Option Addr) (n c : Nat) (l : List Bool) (w : World) (hn : 2000 < n) (hc : n ≤ 9223372036854775807) : Calls Try.prog 9 #[.slice A n c] w (Yes w) := by
  go_enter Try.func9, Try.ntmps9
  go_wp2_with fail
  refine (awake_any _).mono ?_
  rintro e w1 ⟨rfl, hb⟩
  go_wp2_with fail
  go_ret
  exact ⟨rfl, hb⟩

theorem close {l : List Bool} {w wr w2 : World} {k n : Nat} {q s p u : Int} {b : Bool} {y : St} (h : Rel l w k ⟨q, s, p, u⟩ wr) (hl : l.length = n) (hk : k < n) (hb : ∀ h : k < l.length, l[k] = b)
    (hw : Below w.heap.size w w2) (hz : w.heap.size < w2.heap.size) (e : St.step ⟨q, s, p, u⟩ b = y)
    (h1 : w2.cell? ⟨w.heap.size, 0, none⟩ = some (.int .i64 y.q)) (h2 : w2.cell? ⟨w.heap.size, 1, none⟩ = some (.int .i64 y.s)) (hf : ∀ o, w2.frozen? ⟨w.heap.size, o, none⟩ = false) :
    (∃ (k1 : Nat) (x : St), k1 ≤ n ∧ Value.int .i64 ((k : Int) + 1) = .int .i64 k1 ∧ Value.int .i64 y.p = .int .i64 x.p ∧ Value.int .i64 y.u = .int .i64 x.u ∧ 0 ≤ x.p ∧ x.p ≤ k1 ∧ 0 ≤ x.u ∧ x.u ≤ k1 ∧ Hid (Rel l w k1 x w2)) ∧
      n - (intOf (Value.int .i64 ((k : Int) + 1))).toNat < n - (intOf (Value.int .i64 (k : Int))).toNat := Rel.close h hl hk hb hw hz e h1 h2 hf

set_option maxHeartbeats 1000000 in
theorem short (A : Option Addr) (n c : Nat) (l : List Bool) (w : World) (hr : Reads w w.heap.size 1 A n (l.map Value.bool)) (hn : n ≤ 2000) : Calls Try.prog 9 #[.slice A n c] w (Yes w) := by
  have hl : l.length = n := by have := hr.1; simpa using this
  have HR := Law.hide hr; have HL := Law.hide hl; clear hr hl
  go_enter Try.func9, Try.ntmps9
  go_wp2
  go_loopw [4, 5, 6] (fun p u i wr => ∃ (k : Nat) (x : St), k ≤ n ∧ i = .int .i64 k ∧ p = .int .i64 x.p ∧ u = .int .i64 x.u ∧ 0 ≤ x.p ∧ x.p ≤ k ∧ 0 ≤ x.u ∧ x.u ≤ k ∧ Hid (Rel l w k x wr)) (fun _ _ i _ => n - (intOf i).toNat)
  case atStart =>
    exact ⟨0, ⟨0, 0, 0, 0⟩, Nat.zero_le _, rfl, rfl, rfl, by simp, by simp, by simp, by simp, rfl, by decide, by go_simp, by go_simp, fun o => by go_simp, (Below.refl _ _).alloc (Nat.le_refl _) _, by simp⟩
  case round =>
    obtain ⟨k, x, hk, rfl, rfl, rfl, hp1, hp2, hu1, hu2, HQ⟩ := hrel
    by_cases hlt : k < n
    · obtain ⟨ad, v, rfl, hbl, hx, hcell⟩ := HR.out.at_ hlt
      have hlk : k < l.length := by rw [HL.out]; exact hlt
      rw [List.getElem?_map, List.getElem?_eq_getElem hlk] at hx
      have hv : v = .bool l[k] := by simpa using hx.symm
      subst hv
      clear hx
      obtain ⟨hrun, hm, c0, c1, hf, hbb, hz⟩ := HQ.out
      have hcell' : wr.cell? (ad.add k) = some (.bool l[k]) := (hbb.cell (by rw [block_of_add]; omega)).trans hcell
      clear hcell hrun
      have HM := Law.hide hm; have HBB := Law.hide hbb; clear hm hbb
      generalize hb : l[k] = b at *
      have Hb := Law.hide (fun (_ : k < l.length) => hb); clear hb
      obtain ⟨q, s, p, u⟩ := x
      dsimp only at HM c0 c1 hp1 hp2 hu1 hu2
      obtain ⟨m1, m2, m3, m4⟩ := (mayT_iff q s).1 HM.out
      cases b
      · have hs : decide (s = 1) = true ∧ s = 1 ∨ decide (s = 1) = false ∧ s ≠ 1 := by
          by_cases h : s = 1
          · exact .inl ⟨by simpa using h, h⟩
          · exact .inr ⟨by simpa using h, h⟩
        have hq : decide (q = 5) = true ∧ q = 5 ∨ decide (q = 5) = false ∧ q ≠ 5 := by
          by_cases h : q = 5
          · exact .inl ⟨by simpa using h, h⟩
          · exact .inr ⟨by simpa using h, h⟩
        rcases hs with ⟨hs, hs'⟩ | ⟨hs, hs'⟩ <;> rcases hq with ⟨hq, hq'⟩ | ⟨hq, hq'⟩
        all_goals
          have HS := Law.hide hs'; have HQ' := Law.hide hq'; clear hs' hq'
          go_wp2_with fail
          refine (rtick_ok q s _ HM.out).mono ?_
          rintro e w2 ⟨rfl, hb2⟩
          obtain ⟨hc2, hf2⟩ := bcell hb2
          have hz2 := hb2.size
          have d0 := (hc2 _ 0 hz).trans c0
          have d1 := (hc2 _ 1 hz).trans c1
          have e0 : ∀ o, w2.frozen? ⟨w.heap.size, o, none⟩ = false := fun o => (hf2 _ o hz).trans (hf o)
          have hz3 : w.heap.size < w2.heap.size := by omega
          have HB2 := Law.hide (HBB.out.trans (hb2.mono (by omega)))
          clear hc2 hf2 hb2 c0 c1 hf
          unfold Ticked3
          go_wp2_with fail
          first
            | exact close (b := false) (y := ⟨nextQ q, nextS s, p + 1, u + 1⟩) HQ.out HL.out hlt Hb.out ((HB2.out.setCell (by simp) _).setCell (by simp) _) (by simpa using hz3) (by simp [St.step, HS.out, HQ'.out]) (by go_simp) (by go_simp) (fun o => by go_simp)
            | exact close (b := false) (y := ⟨nextQ q, nextS s, p + 1, u⟩) HQ.out HL.out hlt Hb.out ((HB2.out.setCell (by simp) _).setCell (by simp) _) (by simpa using hz3) (by simp [St.step, HS.out, HQ'.out]) (by go_simp) (by go_simp) (fun o => by go_simp)
            | exact close (b := false) (y := ⟨nextQ q, nextS s, p, u + 1⟩) HQ.out HL.out hlt Hb.out ((HB2.out.setCell (by simp) _).setCell (by simp) _) (by simpa using hz3) (by simp [St.step, HS.out, HQ'.out]) (by go_simp) (by go_simp) (fun o => by go_simp)
            | exact close (b := false) (y := ⟨nextQ q, nextS s, p, u⟩) HQ.out HL.out hlt Hb.out ((HB2.out.setCell (by simp) _).setCell (by simp) _) (by simpa using hz3) (by simp [St.step, HS.out, HQ'.out]) (by go_simp) (by go_simp) (fun o => by go_simp)
      · have hs : decide (s = 1) = true ∧ s = 1 ∨ decide (s = 1) = false ∧ s ≠ 1 := by
          by_cases h : s = 1
          · exact .inl ⟨by simpa using h, h⟩
          · exact .inr ⟨by simpa using h, h⟩
        have HQ' := Law.hide (show (0 : Int) ≠ 5 by decide)
        have hm0 : mayT 0 s = true := (mayT_iff 0 s).2 ⟨by omega, by omega, m3, m4⟩
        have HM0 := Law.hide hm0; clear hm0
        rcases hs with ⟨hs, hs'⟩ | ⟨hs, hs'⟩
        all_goals
          have HS := Law.hide hs'; clear hs'
          go_wp2_with fail
          refine (rtick_ok 0 s _ HM0.out).mono ?_
          rintro e w2 ⟨rfl, hb2⟩
          obtain ⟨hc2, hf2⟩ := bcell hb2
          have hz2 := hb2.size
          have hz8 : w.heap.size < (wr.setCell ⟨w.heap.size, 0, none⟩ (.int .i64 0)).heap.size := by simpa using hz
          have d0 : w2.cell? ⟨w.heap.size, 0, none⟩ = some (.int .i64 0) := (hc2 _ 0 hz8).trans (by go_simp)
          have d1 : w2.cell? ⟨w.heap.size, 1, none⟩ = some (.int .i64 s) := (hc2 _ 1 hz8).trans (by go_simp)
          have e0 : ∀ o, w2.frozen? ⟨w.heap.size, o, none⟩ = false := fun o => (hf2 _ o hz8).trans (by go_simp)
          have hz3 : w.heap.size < w2.heap.size := Nat.lt_of_lt_of_le hz8 hz2
          have HB2 := Law.hide ((HBB.out.setCell (p := ⟨w.heap.size, 0, none⟩) (by simp) (.int .i64 0)).trans (hb2.mono (Nat.le_of_lt hz8)))
          clear hc2 hf2 hb2 c0 c1 hf hz8 hz2
          unfold Ticked3
          go_wp2_with fail
          first
            | exact close (b := true) (y := ⟨nextQ 0, nextS s, p + 1, u + 1⟩) HQ.out HL.out hlt Hb.out ((HB2.out.setCell (by simp) _).setCell (by simp) _) (by simpa using hz3) (by simp [St.step, HS.out, HQ'.out]) (by go_simp) (by go_simp) (fun o => by go_simp)
            | exact close (b := true) (y := ⟨nextQ 0, nextS s, p + 1, u⟩) HQ.out HL.out hlt Hb.out ((HB2.out.setCell (by simp) _).setCell (by simp) _) (by simpa using hz3) (by simp [St.step, HS.out, HQ'.out]) (by go_simp) (by go_simp) (fun o => by go_simp)
            | exact close (b := true) (y := ⟨nextQ 0, nextS s, p, u + 1⟩) HQ.out HL.out hlt Hb.out ((HB2.out.setCell (by simp) _).setCell (by simp) _) (by simpa using hz3) (by simp [St.step, HS.out, HQ'.out]) (by go_simp) (by go_simp) (fun o => by go_simp)
            | exact close (b := true) (y := ⟨nextQ 0, nextS s, p, u⟩) HQ.out HL.out hlt Hb.out ((HB2.out.setCell (by simp) _).setCell (by simp) _) (by simpa using hz3) (by simp [St.step, HS.out, HQ'.out]) (by go_simp) (by go_simp) (fun o => by go_simp)
    · have hk2 : k = n := by omega
      have HK := Law.hide hk2; clear hk2
      obtain ⟨hrun, _, _, _, _, hbb, hz⟩ := HQ.out
      have e : Counted l = .tuple #[.int .i64 x.p, .int .i64 x.u] := by
        unfold Counted
        rw [← hrun, List.take_of_length_le (by rw [HL.out, HK.out]; exact Nat.le_refl _)]
      have hcnt := count_any A n c l w.heap.size wr (by omega) (by omega) (HR.out.below hbb)
      rw [e] at hcnt
      have HC := Law.hide hcnt; have HB := Law.hide hbb; clear e hrun hcnt hbb
      go_wp2_with fail
      refine HC.out.mono ?_
      rintro e w3 ⟨rfl, hb3⟩
      have HB3 := Law.hide (HB.out.trans (hb3.mono (by omega))); clear hb3
      go_wp2_with fail
      refine (awake_any _).mono ?_
      rintro e w4 ⟨rfl, hb4⟩
      go_wp2_with fail
      go_ret
      exact ⟨rfl, HB3.out.trans (hb4.mono HB3.out.size)⟩

theorem walk (A : Option Addr) (n c : Nat) (l : List Bool) (w : World) (hr : Reads w w.heap.size 1 A n (l.map Value.bool)) (hs : n ≤ c ∧ c ≤ maxLen) : Calls Try.prog 9 #[.slice A n c] w (Yes w) := by
  by_cases h : n ≤ 2000
  · exact short A n c l w hr h
  · exact long A n c l w (by omega) (by unfold maxLen at hs; omega)

theorem own : ownKnob Try.prog.godebug = none := by kernel_rfl
theorem laidOut : laidOutB Try.prog = true := by kernel_rfl

set_option maxRecDepth 100000 in
theorem lifted (os : Os) (started : os.Started) (H : Type) (enc : TypeId × Value → H) :
    ReturnsInHanded {} Try.checked os 9 .any (Rows.beatCountsSpec.pre6 enc Try.prog Try.f9 Rows.beatCountsRow.domain false) (Rows.beatCountsSpec.post enc Try.prog Try.f9 false true false false) := by
  refine returnsInHanded_of_change (C := Try.checked) own started (by kernel_rfl) Try.func9
    (ChangeSpec.witness6 (enc := enc) (C := Try.checked) false ⟨#[], #[.slice none 0 0], []⟩ 8 (by kernel_rfl) (by kernel_rfl) (by kernel_rfl) (by kernel_rfl)) ?_
  intro W base args ds gs before hval0 hW _ _
  have hval : ∀ (j : Nat) t v, Try.f9.params[j]? = some t → args[j]? = some v → Value.okWide Try.prog W .any base t v := hval0
  have hW' := hW
  obtain ⟨p, q, hA0, hV, rfl, _, _⟩ := hW
  have hA : DataW.TrodAll enc Try.prog W 0 (fun _ => true) true Try.f9.params.toList args.toList ds p := hA0
  rw [Try.params9] at hA hval
  obtain ⟨v0, d0, rfl, rfl, h0⟩ := trodAll_one hA
  obtain ⟨rfl, rfl⟩ := trodVars_none hV
  obtain ⟨A0, n0, c0, l0, rfl, sb0, rd0⟩ := SliceIn.slb Try.underlying59 Try.underlying4 (by kernel_rfl) (hval 0 59 v0 rfl rfl) h0
  refine (walk A0 n0 c0 l0 W rd0 sb0).mono fun e W' ⟨he, hb⟩ => ?_
  subst he
  exact ⟨_, rfl, law_post laidOut (by kernel_rfl) (by kernel_rfl) Try.underlying4 rfl hW' rfl hb⟩

theorem proved : Rows.BeatCountsSaid :=
  OpenClaim.holds_of_wide 9 Try.f9 rfl rfl rfl rfl rfl rfl rfl ⟨rfl, rfl, rfl, rfl, rfl⟩ rfl rfl rfl rfl rfl (by kernel_rfl) Try.func9 (by kernel_rfl)
    (of_decide_eq_true (by kernel_rfl)) (by unfold Func.isWrapper; first | (rw [if_pos (by decide +kernel)]; kernel_rfl) | (rw [if_neg (by decide +kernel)]; exact ⟨rfl, rfl⟩))
    (fun os started H enc _ => lifted os started H enc)
end Go.Proofs.Ytcbfccadodikgaa.BeatCounts
