/-
  Beat's Count: what it tells of any signs. The signs' list is shorter than 2^47.
-/
import Derived.Test.YtcbfccadodikgaaBeat
namespace Go.Proofs.Ytcbfccadodikgaa.BeatCount
open Go.RowKit Go.Proofs.Ytcbfccadodikgaa.Law Go.Proofs.Ytcbfccadodikgaa.Node Go.Proofs.Ytcbfccadodikgaa.Beat

structure St where
  q : Int
  s : Int
  p : Int
  u : Int
def St.step (x : St) (b : Bool) : St :=
  ⟨nextQ (if b = true then 0 else x.q), nextS x.s, x.p + (if x.s = 1 then 1 else 0), x.u + (if (if b = true then 0 else x.q) = 5 then 1 else 0)⟩
def St.run (l : List Bool) : St := l.foldl St.step ⟨0, 0, 0, 0⟩
theorem St.run_snoc (l : List Bool) (b : Bool) : St.run (l ++ [b]) = (St.run l).step b := by simp [St.run]
theorem St.run_take (l : List Bool) (k : Nat) (h : k < l.length) : St.run (l.take (k + 1)) = (St.run (l.take k)).step l[k] := by
  rw [List.take_succ_eq_append_getElem h, St.run_snoc]
theorem St.inv (l : List Bool) : ∀ k, k ≤ l.length → mayT (St.run (l.take k)).q (St.run (l.take k)).s = true ∧ 0 ≤ (St.run (l.take k)).p ∧ (St.run (l.take k)).p ≤ k ∧ 0 ≤ (St.run (l.take k)).u ∧ (St.run (l.take k)).u ≤ k := by
  intro k
  induction k with
  | zero => simp [St.run, mayT]
  | succ k ih =>
    intro hk
    rw [St.run_take l k (by omega)]
    have ih := ih (by omega)
    generalize St.run (l.take k) = x at *
    obtain ⟨h1, h2, h3, h4, h5⟩ := ih
    simp only [mayT_iff] at h1 ⊢
    simp only [St.step, nextQ, nextS]
    generalize l[k] = b
    cases b <;> simp <;> (repeat' split) <;> omega

def Counted (l : List Bool) : Value := .tuple #[.int .i64 (St.run l).p, .int .i64 (St.run l).u]

/-- What holds at each round's head. -/
def Rel (l : List Bool) (w : World) (k : Nat) (x : St) (wr : World) : Prop :=
  St.run (l.take k) = x ∧ mayT x.q x.s = true ∧ wr.cell? ⟨w.heap.size, 0, none⟩ = some (.int .i64 x.q) ∧ wr.cell? ⟨w.heap.size, 1, none⟩ = some (.int .i64 x.s) ∧
    (∀ o, wr.frozen? ⟨w.heap.size, o, none⟩ = false) ∧ Below w.heap.size w wr ∧ w.heap.size < wr.heap.size
theorem Rel.next {l : List Bool} {w wr w2 : World} {k : Nat} {x : St} {b : Bool} (h : Rel l w k x wr) (hk : k < l.length) (hb : l[k] = b) (hw : Below w.heap.size w w2) (hz : w.heap.size < w2.heap.size)
    (h1 : w2.cell? ⟨w.heap.size, 0, none⟩ = some (.int .i64 (x.step b).q)) (h2 : w2.cell? ⟨w.heap.size, 1, none⟩ = some (.int .i64 (x.step b).s)) (hf : ∀ o, w2.frozen? ⟨w.heap.size, o, none⟩ = false) :
    Rel l w (k + 1) (x.step b) w2 := by
  obtain ⟨hr, _⟩ := h
  have hi := St.inv l (k + 1) hk
  rw [St.run_take l k hk, hr, hb] at hi
  exact ⟨by rw [St.run_take l k hk, hr, hb], hi.1, h1, h2, hf, hw, hz⟩

theorem Rel.close {l : List Bool} {w wr w2 : World} {k n : Nat} {q s p u : Int} {b : Bool} {y : St} (h : Rel l w k ⟨q, s, p, u⟩ wr) (hl : l.length = n) (hk : k < n) (hb : ∀ h : k < l.length, l[k] = b)
    (hw : Below w.heap.size w w2) (hz : w.heap.size < w2.heap.size) (e : St.step ⟨q, s, p, u⟩ b = y)
    (h1 : w2.cell? ⟨w.heap.size, 0, none⟩ = some (.int .i64 y.q)) (h2 : w2.cell? ⟨w.heap.size, 1, none⟩ = some (.int .i64 y.s)) (hf : ∀ o, w2.frozen? ⟨w.heap.size, o, none⟩ = false) :
    (∃ (k1 : Nat) (x : St), k1 ≤ n ∧ Value.int .i64 ((k : Int) + 1) = .int .i64 k1 ∧ Value.int .i64 y.p = .int .i64 x.p ∧ Value.int .i64 y.u = .int .i64 x.u ∧ 0 ≤ x.p ∧ x.p ≤ k1 ∧ 0 ≤ x.u ∧ x.u ≤ k1 ∧ Hid (Rel l w k1 x w2)) ∧
      n - (intOf (Value.int .i64 ((k : Int) + 1))).toNat < n - (intOf (Value.int .i64 (k : Int))).toNat := by
  subst e
  have hkl : k < l.length := by omega
  have hr := h.next hkl (hb hkl) hw hz h1 h2 hf
  have hi := St.inv l (k + 1) hkl
  rw [hr.1] at hi
  exact ⟨⟨k + 1, _, by omega, by go_num, rfl, rfl, hi.2.1, hi.2.2.1, hi.2.2.2.1, hi.2.2.2.2, hr⟩, by simp [intOf]; omega⟩

set_option maxHeartbeats 1000000 in
theorem count_any (A : Option Addr) (n c : Nat) (l : List Bool) (B : Nat) (w : World) (hB : B ≤ w.heap.size) (hn : n ≤ 9223372036854775807) (hr : Reads w B 1 A n (l.map Value.bool)) :
    Calls Try.prog 38 #[.slice A n c] w (Makes (Counted l) w) := by
  have hl : l.length = n := by have := hr.1; simpa using this
  have HR := Law.hide hr; have HL := Law.hide hl; clear hr hl
  go_enter Try.func38, Try.ntmps38
  go_wp2
  go_loopw [2, 3, 11] (fun p u i wr => ∃ (k : Nat) (x : St), k ≤ n ∧ i = .int .i64 k ∧ p = .int .i64 x.p ∧ u = .int .i64 x.u ∧ 0 ≤ x.p ∧ x.p ≤ k ∧ 0 ≤ x.u ∧ x.u ≤ k ∧ Hid (Rel l w k x wr)) (fun _ _ i _ => n - (intOf i).toNat)
  case atStart =>
    exact ⟨0, ⟨0, 0, 0, 0⟩, Nat.zero_le _, rfl, rfl, rfl, by simp, by simp, by simp, by simp, rfl, by decide, by go_simp, by go_simp, fun o => by go_simp, (Below.refl _ _).alloc (Nat.le_refl _) _, by simp⟩
  case round =>
    obtain ⟨k, x, hk, rfl, rfl, rfl, hp1, hp2, hu1, hu2, HQ⟩ := hrel
    by_cases hlt : k < n
    · obtain ⟨ad, v, rfl, hbl, hx, hcell⟩ := HR.out.at_ hlt
      have hlk : k < l.length := by rw [HL.out]; exact hlt
      rw [List.getElem?_map, List.getElem?_eq_getElem hlk] at hx
      have hv : v = .bool l[k] := by simpa using hx.symm
      subst hv
      clear hx
      obtain ⟨hrun, hm, c0, c1, hf, hbb, hz⟩ := HQ.out
      have hcell' : wr.cell? (ad.add k) = some (.bool l[k]) := (hbb.cell (by rw [block_of_add]; omega)).trans hcell
      clear hcell hrun
      have HM := Law.hide hm; have HBB := Law.hide hbb; clear hm hbb
      generalize hb : l[k] = b at *
      have Hb := Law.hide hb; clear hb
      obtain ⟨q, s, p, u⟩ := x
      dsimp only at HM c0 c1 hp1 hp2 hu1 hu2
      obtain ⟨m1, m2, m3, m4⟩ := (mayT_iff q s).1 HM.out
      cases b
      · have hs : decide (s = 1) = true ∧ s = 1 ∨ decide (s = 1) = false ∧ s ≠ 1 := by
          by_cases h : s = 1
          · exact .inl ⟨by simpa using h, h⟩
          · exact .inr ⟨by simpa using h, h⟩
        have hq : decide (q = 5) = true ∧ q = 5 ∨ decide (q = 5) = false ∧ q ≠ 5 := by
          by_cases h : q = 5
          · exact .inl ⟨by simpa using h, h⟩
          · exact .inr ⟨by simpa using h, h⟩
        rcases hs with ⟨hs, hs'⟩ | ⟨hs, hs'⟩ <;> rcases hq with ⟨hq, hq'⟩ | ⟨hq, hq'⟩
        all_goals
          have HS := Law.hide hs'; have HQ' := Law.hide hq'; clear hs' hq'
          go_wp2_with fail
          refine (tick_ok q s _ HM.out).mono ?_
          rintro e w2 ⟨rfl, hb2⟩
          obtain ⟨hc2, hf2⟩ := bcell hb2
          have hz2 := hb2.size
          have d0 := (hc2 _ 0 hz).trans c0
          have d1 := (hc2 _ 1 hz).trans c1
          have e0 : ∀ o, w2.frozen? ⟨w.heap.size, o, none⟩ = false := fun o => (hf2 _ o hz).trans (hf o)
          have hz3 : w.heap.size < w2.heap.size := by omega
          have HB2 := Law.hide (HBB.out.trans (hb2.mono (by omega)))
          clear hc2 hf2 hb2 c0 c1 hf
          unfold Ticked
          go_wp2_with fail
          first
            | exact Rel.close (b := false) (y := ⟨nextQ q, nextS s, p + 1, u + 1⟩) HQ.out HL.out hlt (fun _ => Hb.out) ((HB2.out.setCell (by simp) _).setCell (by simp) _) (by simpa using hz3) (by simp [St.step, HS.out, HQ'.out]) (by go_simp) (by go_simp) (fun o => by go_simp)
            | exact Rel.close (b := false) (y := ⟨nextQ q, nextS s, p + 1, u⟩) HQ.out HL.out hlt (fun _ => Hb.out) ((HB2.out.setCell (by simp) _).setCell (by simp) _) (by simpa using hz3) (by simp [St.step, HS.out, HQ'.out]) (by go_simp) (by go_simp) (fun o => by go_simp)
            | exact Rel.close (b := false) (y := ⟨nextQ q, nextS s, p, u + 1⟩) HQ.out HL.out hlt (fun _ => Hb.out) ((HB2.out.setCell (by simp) _).setCell (by simp) _) (by simpa using hz3) (by simp [St.step, HS.out, HQ'.out]) (by go_simp) (by go_simp) (fun o => by go_simp)
            | exact Rel.close (b := false) (y := ⟨nextQ q, nextS s, p, u⟩) HQ.out HL.out hlt (fun _ => Hb.out) ((HB2.out.setCell (by simp) _).setCell (by simp) _) (by simpa using hz3) (by simp [St.step, HS.out, HQ'.out]) (by go_simp) (by go_simp) (fun o => by go_simp)
      · have hs : decide (s = 1) = true ∧ s = 1 ∨ decide (s = 1) = false ∧ s ≠ 1 := by
          by_cases h : s = 1
          · exact .inl ⟨by simpa using h, h⟩
          · exact .inr ⟨by simpa using h, h⟩
        have HQ' := Law.hide (show (0 : Int) ≠ 5 by decide)
        have hm0 : mayT 0 s = true := (mayT_iff 0 s).2 ⟨by omega, by omega, m3, m4⟩
        have HM0 := Law.hide hm0; clear hm0
        rcases hs with ⟨hs, hs'⟩ | ⟨hs, hs'⟩
        all_goals
          have HS := Law.hide hs'; clear hs'
          go_wp2_with fail
          refine (heard_ok q s _ HM.out).mono ?_
          rintro e w1 ⟨rfl, hb1⟩
          obtain ⟨hc1, hf1⟩ := bcell hb1
          have hz1 := hb1.size
          have a0 := (hc1 _ 0 hz).trans c0
          have a1 := (hc1 _ 1 hz).trans c1
          have b0 : ∀ o, w1.frozen? ⟨w.heap.size, o, none⟩ = false := fun o => (hf1 _ o hz).trans (hf o)
          have hz9 : w.heap.size < w1.heap.size := by omega
          have HB1 := Law.hide (HBB.out.trans (hb1.mono (by omega)))
          clear hc1 hf1 hb1 c0 c1 hf
          unfold Heard
          go_wp2_with fail
          refine (tick_ok 0 s _ HM0.out).mono ?_
          rintro e w2 ⟨rfl, hb2⟩
          obtain ⟨hc2, hf2⟩ := bcell hb2
          have hz2 := hb2.size
          have hz8 : w.heap.size < ((w1.setCell ⟨w.heap.size, 0, none⟩ (.int .i64 0)).setCell ⟨w.heap.size, 1, none⟩ (.int .i64 s)).heap.size := by simpa using hz9
          have d0 : w2.cell? ⟨w.heap.size, 0, none⟩ = some (.int .i64 0) := (hc2 _ 0 hz8).trans (by go_simp)
          have d1 : w2.cell? ⟨w.heap.size, 1, none⟩ = some (.int .i64 s) := (hc2 _ 1 hz8).trans (by go_simp)
          have e0 : ∀ o, w2.frozen? ⟨w.heap.size, o, none⟩ = false := fun o => (hf2 _ o hz8).trans (by go_simp)
          have hz3 : w.heap.size < w2.heap.size := Nat.lt_of_lt_of_le hz8 hz2
          have HB2 := Law.hide (((HB1.out.setCell (p := ⟨w.heap.size, 0, none⟩) (by simp) (.int .i64 0)).setCell (p := ⟨w.heap.size, 1, none⟩) (by simp) (.int .i64 s)).trans (hb2.mono (Nat.le_of_lt hz8)))
          clear hc2 hf2 hb2 a0 a1 b0 hz8 hz2
          unfold Ticked
          go_wp2_with fail
          first
            | exact Rel.close (b := true) (y := ⟨nextQ 0, nextS s, p + 1, u + 1⟩) HQ.out HL.out hlt (fun _ => Hb.out) ((HB2.out.setCell (by simp) _).setCell (by simp) _) (by simpa using hz3) (by simp [St.step, HS.out, HQ'.out]) (by go_simp) (by go_simp) (fun o => by go_simp)
            | exact Rel.close (b := true) (y := ⟨nextQ 0, nextS s, p + 1, u⟩) HQ.out HL.out hlt (fun _ => Hb.out) ((HB2.out.setCell (by simp) _).setCell (by simp) _) (by simpa using hz3) (by simp [St.step, HS.out, HQ'.out]) (by go_simp) (by go_simp) (fun o => by go_simp)
            | exact Rel.close (b := true) (y := ⟨nextQ 0, nextS s, p, u + 1⟩) HQ.out HL.out hlt (fun _ => Hb.out) ((HB2.out.setCell (by simp) _).setCell (by simp) _) (by simpa using hz3) (by simp [St.step, HS.out, HQ'.out]) (by go_simp) (by go_simp) (fun o => by go_simp)
            | exact Rel.close (b := true) (y := ⟨nextQ 0, nextS s, p, u⟩) HQ.out HL.out hlt (fun _ => Hb.out) ((HB2.out.setCell (by simp) _).setCell (by simp) _) (by simpa using hz3) (by simp [St.step, HS.out, HQ'.out]) (by go_simp) (by go_simp) (fun o => by go_simp)
    · have hk2 : k = n := by omega
      have HK := Law.hide hk2; clear hk2
      obtain ⟨hrun, _, _, _, _, hbb, _⟩ := HQ.out
      have e : Counted l = .tuple #[.int .i64 x.p, .int .i64 x.u] := by
        unfold Counted
        rw [← hrun, List.take_of_length_le (by rw [HL.out, HK.out]; exact Nat.le_refl _)]
      have HE := Law.hide e; clear e hrun
      go_wp2
      go_ret2
      exact ⟨congrArg Ending.returned HE.out.symm, hbb⟩
end Go.Proofs.Ytcbfccadodikgaa.BeatCount
