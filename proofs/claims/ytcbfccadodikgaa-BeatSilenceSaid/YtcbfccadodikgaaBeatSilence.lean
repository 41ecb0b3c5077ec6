/-
  BeatSilence: for every list of gaps the call tells true, and nothing that was there turns. No condition.
-/
import Derived.Test.YtcbfccadodikgaaRows
import Derived.Test.YtcbfccadodikgaaBeatLate
namespace Go.Proofs.Ytcbfccadodikgaa.BeatSilence
open Go.RowKit Go.Proofs.Ytcbfccadodikgaa.Law Go.Proofs.Ytcbfccadodikgaa.Node Go.Proofs.Ytcbfccadodikgaa.Beat Go.Proofs.Ytcbfccadodikgaa.BeatCount Go.Proofs.Ytcbfccadodikgaa.BeatLate
open Go.ChangeShapes Go.WideShapes Go.ChangeAt Go.Joins

theorem none_run (n : Nat) : (St.run (List.replicate n false)).q = (n : Int) % 6 ∧ (St.run (List.replicate n false)).s = (n : Int) % 2 ∧ (St.run (List.replicate n false)).u = (n : Int) / 6 ∧ (St.run (List.replicate n false)).p = (n : Int) / 2 := by
  induction n with
  | zero => simp [St.run]
  | succ n ih =>
    rw [List.replicate_succ', St.run_snoc]
    generalize St.run (List.replicate n false) = y at *
    obtain ⟨h1, h2, h3, h4⟩ := ih
    simp only [St.step, nextQ, nextS, h1, h2, h3, h4, Bool.false_eq_true, if_false]
    refine ⟨?_, ?_, ?_, ?_⟩ <;> split <;> omega

/-- The signs so far: a row, whose last sign came d ticks ago, with no silence. -/
def Good (w wr : World) (g cap : Nat) (l : List Bool) (d : Int) : Prop := Row w wr g cap l.length l ∧ (St.run l).q = d ∧ (St.run l).u = 0
theorem Good.next {w wr w1 : World} {g cap : Nat} {l : List Bool} {d d' : Int} {b : Bool} {v : Value} (h : Good w wr g cap l d) (hd : (b = true ∧ d' = 1) ∨ (b = false ∧ 1 ≤ d ∧ d ≤ 4 ∧ d' = d + 1))
    (hown1 : w1.ownsRow w.heap.size 4 1 v (l.length + 1) (l.map Value.bool ++ [.bool b])) (hgrow : (wr.alloc (.cells #[.bool b] 4)).grownBy w1 (Value.slice (some ⟨g, 0, none⟩) l.length cap).ownBlock)
    (hnil : v = .slice none 0 0 ↔ Value.slice (some ⟨g, 0, none⟩) l.length cap = .slice none 0 0 ∧ 1 = 0) :
    ∃ g' cap', v = .slice (some ⟨g', 0, none⟩) (l.length + 1) cap' ∧ Good w w1 g' cap' (l ++ [b]) d' := by
  obtain ⟨⟨ho, hb⟩, hq, hu⟩ := h
  obtain ⟨g', cap', rfl, h1, h2⟩ := BeatLate.step ho hb hown1 hgrow hnil
  refine ⟨g', cap', rfl, ⟨by simpa [List.map_append] using h1, h2⟩, ?_⟩
  rw [St.run_snoc]
  simp only [St.step, nextQ, hq, hu]
  rcases hd with ⟨rfl, rfl⟩ | ⟨rfl, h3, h4, rfl⟩
  · simp
  · simp
    constructor <;> intro h <;> omega

set_option maxHeartbeats 2000000 in
theorem walk (A : Option Addr) (n c : Nat) (gaps : List Int) (w : World) (hr : Reads w w.heap.size 1 A n (gaps.map (Value.int .u8))) (hs : n ≤ c ∧ c ≤ maxLen) (hwf : Wf .u8 gaps) : Calls Try.prog 10 #[.slice A n c] w (Yes w) := by
  have hn : n ≤ 9223372036854775807 := by have := hs.2; unfold maxLen at this; omega
  have hl : gaps.length = n := by have := hr.1; simpa using this
  have HR := Law.hide hr; have HL := Law.hide hl; have HW := Law.hide hwf; clear hr hl hs hwf
  obtain ⟨i0, hi, hz0, hz1, hz2⟩ := info_parts info_bool
  have HI := Law.hide hi; have HZ0 := Law.hide hz0; have HZ1 := Law.hide hz1; have HZ2 := Law.hide hz2; clear hi hz0 hz1 hz2
  go_enter Try.func10, Try.ntmps10
  go_wp2
  go_loopw [3, 4] (fun v i wr => ∃ (k g cap : Nat) (l : List Bool), k ≤ n ∧ k ≤ 100 ∧ i = .int .i64 k ∧ v = .slice (some ⟨g, 0, none⟩) l.length cap ∧ l.length ≤ 1 + 5 * k ∧ Hid (Good w wr g cap l 1))
    (fun _ i _ => n - (intOf i).toNat)
  case atStart =>
    exact ⟨0, w.heap.size, 1, [true], by omega, by omega, rfl, rfl, by simp, ⟨own_new w w.heap.size (Nat.le_refl _) 4 #[.bool true] (by simp [maxLen]), (Below.refl _ _).alloc (Nat.le_refl _) _⟩, by simp [St.run, St.step, nextQ], by simp [St.run, St.step]⟩
  case round =>
    obtain ⟨k, g, cap, l, hk, hk100, rfl, rfl, hll, HG⟩ := hrel
    by_cases hlt : k < n ∧ k < 100
    · obtain ⟨hlt, hlt2⟩ := hlt
      obtain ⟨ad, v, rfl, hbl, hx, hcell⟩ := HR.out.at_ hlt
      have hlk : k < gaps.length := by rw [HL.out]; exact hlt
      rw [List.getElem?_map, List.getElem?_eq_getElem hlk] at hx
      have hv : v = .int .u8 gaps[k] := by simpa using hx.symm
      have hg := wf8 (HW.out _ (List.getElem_mem hlk))
      subst hv
      clear hx
      obtain ⟨hg0, hg1⟩ := hg
      generalize gaps[k] = gv at *
      have hm0 : 0 ≤ gv % 5 := by omega
      have hm1 : gv % 5 ≤ 4 := by omega
      have HC := Law.hide hcell; clear hcell
      have hd100 : decide ((k : Int) < 100) = true := by simp; omega
      have hdn : decide (k < n) = true := by simpa using hlt
      obtain ⟨wo, rfl⟩ : ∃ wo : World, wo = wr := ⟨_, rfl⟩
      go_wp2
      go_loopw [3, 5] (fun v i wr => ∃ (j g cap : Nat) (l : List Bool), (j : Int) ≤ gv % 5 ∧ i = .int .i64 j ∧ v = .slice (some ⟨g, 0, none⟩) l.length cap ∧ l.length ≤ 1 + 5 * k + j ∧ Hid (Good w wr g cap l (1 + j)))
        (fun _ i _ => (gv % 5).toNat - (intOf i).toNat)
      case atStart => exact ⟨0, g, cap, l, by omega, rfl, rfl, by omega, HG.out⟩
      case round =>
        obtain ⟨j, g2, cap2, l2, hj, rfl, rfl, hll2, HG2⟩ := hrel
        obtain ⟨ho2, hb2⟩ := HG2.out.1
        have hcell : wr.cell? (ad.add k) = some (.int .u8 gv) := (hb2.cell (by rw [block_of_add]; omega)).trans HC.out
        have HO2 := Law.hide ho2
        have hbz2 := hb2.size
        clear ho2 hb2
        by_cases hlt3 : (j : Int) < gv % 5
        · go_wp2_with (at_builtin; refine wpList_append_own _ rfl _ _ 59 rfl w.heap.size 4 i0 (.bool false) 1 1 Try.underlying59 HI.out HZ0.out HZ1.out HZ2.out rfl (by decide) _ _ _ rfl (HO2.out.alloc _) ⟨wr.heap.size, 0, none⟩ 1 1 [.bool false] rfl rfl (World.news_of_block (cs := #[.bool false]) (t := 4) (fr := (0, 0)) (heap_alloc_new wr _)) (by simp [Value.oneCell']) (by unfold maxLen; omega) (by omega) (by simp; omega) ?_; intro nv nw nown ngrow nnil)
          obtain ⟨g', cap', rfl, hgood⟩ := HG2.out.next (d' := 1 + ((j + 1 : Nat) : Int)) (.inr ⟨rfl, by omega, by omega, by omega⟩) nown ngrow nnil
          exact ⟨⟨j + 1, g', cap', l2 ++ [false], by omega, by go_num, by simp, by simp; omega, hgood⟩, by simp [intOf]; omega⟩
        · go_wp2_with (at_builtin; refine wpList_append_own _ rfl _ _ 59 rfl w.heap.size 4 i0 (.bool false) 1 1 Try.underlying59 HI.out HZ0.out HZ1.out HZ2.out rfl (by decide) _ _ _ rfl (HO2.out.alloc _) ⟨wr.heap.size, 0, none⟩ 1 1 [.bool true] rfl rfl (World.news_of_block (cs := #[.bool true]) (t := 4) (fr := (0, 0)) (heap_alloc_new wr _)) (by simp [Value.oneCell']) (by unfold maxLen; omega) (by omega) (by simp; omega) ?_; intro nv nw nown ngrow nnil)
          obtain ⟨g', cap', rfl, hgood⟩ := HG2.out.next (d' := 1) (.inl ⟨rfl, rfl⟩) nown ngrow nnil
          exact ⟨⟨k + 1, g', cap', l2 ++ [true], by omega, by omega, by go_num, by simp, by simp; omega, hgood⟩, by simp [intOf]; omega⟩
    · have hstop : ¬ k < n ∨ k < n ∧ ¬ k < 100 := by omega
      obtain ⟨⟨ho, hb⟩, hq, hu⟩ := HG.out
      have hcnt := count_any (some ⟨g, 0, none⟩) l.length cap l wr.heap.size wr (Nat.le_refl _) (by omega) (Reads.of_own ho)
      unfold Counted at hcnt
      rw [hu] at hcnt
      have HC := Law.hide hcnt; have HB := Law.hide hb; clear hcnt ho hb hq hu hlt
      have hbz := HB.out.size
      obtain ⟨hn1, hn2, hn3, hn4⟩ := none_run l.length
      have HN3 := Law.hide hn3; have HN4 := Law.hide hn4; clear hn1 hn2 hn3 hn4
      rcases hstop with hstop | ⟨hstop, hstop2⟩
      all_goals
        go_wp2_with fail
        refine HC.out.mono ?_
        rintro e w3 ⟨rfl, hb3⟩
        have HB3 := Law.hide (HB.out.trans (hb3.mono hbz)); clear hb3
        have hbz3 := HB3.out.size
        go_wp2_with (at_make; refine wpList_make_full _ rfl _ _ 59 rfl w.heap.size 4 i0 (.bool false) 1 Try.underlying59 HI.out HZ0.out HZ1.out _ _ _ _ l.length rfl rfl rfl rfl (by rw [HZ2.out]; omega) (by unfold maxLen; omega) hbz3 ?_; intro w4 own4 grow4)
        have own5 : w4.ownsRow w.heap.size 4 1 (.slice (some ⟨w3.heap.size, 0, none⟩) l.length l.length) l.length ((List.replicate l.length false).map Value.bool) := by
          have h := own4
          rw [show (Value.bool false).cells = #[.bool false] from rfl, Nat.mul_one, made_one] at h
          simpa using h
        have hb4 : Below w.heap.size w w4 := HB3.out.grown grow4 hbz3 (fun k hk => by cases hk)
        have hcnt4 := count_any (some ⟨w3.heap.size, 0, none⟩) l.length l.length (List.replicate l.length false) w4.heap.size w4 (Nat.le_refl _) (by omega) (Reads.of_own own5)
        unfold Counted at hcnt4
        rw [HN3.out, HN4.out] at hcnt4
        have HC4 := Law.hide hcnt4; have HB4 := Law.hide hb4
        clear own4 own5 grow4 hcnt4 hb4
        go_wp2_with fail
        refine HC4.out.mono ?_
        rintro e w5 ⟨rfl, hb5⟩
        have HB5 := Law.hide (HB4.out.trans (hb5.mono HB4.out.size)); clear hb5
        go_wp2_with fail
        refine (BeatCounts.awake_any _).mono ?_
        rintro e w6 ⟨rfl, hb6⟩
        go_wp2_with fail
        go_ret
        exact ⟨rfl, HB5.out.trans (hb6.mono HB5.out.size)⟩

theorem own : ownKnob Try.prog.godebug = none := by kernel_rfl
theorem laidOut : laidOutB Try.prog = true := by kernel_rfl

set_option maxRecDepth 100000 in
theorem lifted (os : Os) (started : os.Started) (H : Type) (enc : TypeId × Value → H) :
    ReturnsInHanded {} Try.checked os 10 .any (Rows.beatSilenceSpec.pre6 enc Try.prog Try.f10 Rows.beatSilenceRow.domain false) (Rows.beatSilenceSpec.post enc Try.prog Try.f10 false true false false) := by
  refine returnsInHanded_of_change (C := Try.checked) own started (by kernel_rfl) Try.func10
    (ChangeSpec.witness6 (enc := enc) (C := Try.checked) false ⟨#[], #[.slice none 0 0], []⟩ 8 (by kernel_rfl) (by kernel_rfl) (by kernel_rfl) (by kernel_rfl)) ?_
  intro W base args ds gs before hval0 hW _ _
  have hval : ∀ (j : Nat) t v, Try.f10.params[j]? = some t → args[j]? = some v → Value.okWide Try.prog W .any base t v := hval0
  have hW' := hW
  obtain ⟨p, q, hA0, hV, rfl, _, _⟩ := hW
  have hA : DataW.TrodAll enc Try.prog W 0 (fun _ => true) true Try.f10.params.toList args.toList ds p := hA0
  rw [Try.params10] at hA hval
  obtain ⟨v0, d0, rfl, rfl, h0⟩ := trodAll_one hA
  obtain ⟨rfl, rfl⟩ := trodVars_none hV
  obtain ⟨A0, n0, c0, l0, rfl, sb0, rd0, wf0⟩ := SliceIn.ints Try.underlying63 Try.underlying5 (by kernel_rfl) (hval 0 63 v0 rfl rfl) h0
  refine (walk A0 n0 c0 l0 W rd0 sb0 wf0).mono fun e W' ⟨he, hb⟩ => ?_
  subst he
  exact ⟨_, rfl, law_post laidOut (by kernel_rfl) (by kernel_rfl) Try.underlying4 rfl hW' rfl hb⟩

theorem proved : Rows.BeatSilenceSaid :=
  OpenClaim.holds_of_wide 10 Try.f10 rfl rfl rfl rfl rfl rfl rfl ⟨rfl, rfl, rfl, rfl, rfl⟩ rfl rfl rfl rfl rfl (by kernel_rfl) Try.func10 (by kernel_rfl)
    (of_decide_eq_true (by kernel_rfl)) (by unfold Func.isWrapper; first | (rw [if_pos (by decide +kernel)]; kernel_rfl) | (rw [if_neg (by decide +kernel)]; exact ⟨rfl, rfl⟩))
    (fun os started H enc _ => lifted os started H enc)
end Go.Proofs.Ytcbfccadodikgaa.BeatSilence
