/-
  What is carried: the code's run is the document's; what is taken is a beginning of what was pushed. No condition.
-/
import Derived.Test.YtgemoemkgcmcgaaTkM
import Derived.Test.YtgemoemkgcmcgaaTkQ
namespace Go.Proofs.Ytgemoemkgcmcgaa.TkT
open Go Go.Proofs.Ytgemoemkgcmcgaa.Ry Go.Proofs.Ytgemoemkgcmcgaa.SeR Go.Proofs.Ytgemoemkgcmcgaa.SeS Go.Proofs.Ytgemoemkgcmcgaa.SeU Go.Proofs.Ytgemoemkgcmcgaa.SeL Go.Proofs.Ytgemoemkgcmcgaa.SeV Go.Proofs.Ytgemoemkgcmcgaa.TkR Go.Proofs.Ytgemoemkgcmcgaa.TkM Go.Proofs.Ytgemoemkgcmcgaa.TkQ
/-- What holds at each time; lq: the payloads, in order. -/
structure P (lq : List E) (d : CR) : Prop where
  can : nq lq = lq
  len : lq.length ≤ 64
  may : maySn d.sb d.s d.q d.c = true
  q : d.q = lq.drop d.sb.toNat
  n0 : 0 ≤ d.n
  n1 : d.n ≤ lq.length
  bn : d.sb ≤ d.n
  ou : d.ou = lq.take d.n.toNat
  wy : ∀ y ∈ d.wy, 0 ≤ ri y 0 ∧ ri y 0 < lq.length ∧ rl y 1 = rl (lq.getD (ri y 0).toNat []) 0
  bk : ∀ k ∈ d.bk, k ≤ d.n
theorem cnt_of {lq : List E} {d : CR} (h : P lq d) : HaR.cntB d.n = true := by
  have := h.n0
  have := h.n1
  have := h.len
  unfold HaR.cntB
  simp only [Bool.and_eq_true, decide_eq_true_eq]
  omega
theorem can_q {lq : List E} {d : CR} (h : P lq d) : nq d.q = d.q := by
  rw [h.q, ← nq_drop, h.can]
theorem can_at {lq : List E} (h : nq lq = lq) {i : Nat} (hi : i < lq.length) : [D.ints (rl (lq.getD i []) 0)] = lq.getD i [] := by
  have e : (nq lq).getD i [] = [D.ints (rl (lq.getD i []) 0)] := by
    rw [List.getD_eq_getElem?_getD, List.getD_eq_getElem?_getD, nq, List.getElem?_map, List.getElem?_eq_getElem hi]
    rfl
  rw [← e, h]
theorem nu_mem {lq : List E} {b f t : Int} {q : List E} (hb : 0 ≤ b) (hq : q = lq.drop b.toNat) (hf : 0 ≤ f) (ht : t ≤ q.length) {y : E} (hy : y ∈ nuS b q f t) : 0 ≤ ri y 0 ∧ ri y 0 < lq.length ∧ rl y 1 = rl (lq.getD (ri y 0).toNat []) 0 := by
  obtain ⟨j, hj, rfl⟩ := List.mem_map.1 hy
  have hj := List.mem_range.1 hj
  have hl : q.length = lq.length - b.toNat := by rw [hq, List.length_drop]
  have e1 : ri [D.int (b + f + (j : Int)), D.ints (rl (q.getD (f + (j : Int)).toNat []) 0)] 0 = b + f + (j : Int) := rfl
  have e2 : rl [D.int (b + f + (j : Int)), D.ints (rl (q.getD (f + (j : Int)).toNat []) 0)] 1 = rl (q.getD (f + (j : Int)).toNat []) 0 := rfl
  rw [e1, e2]
  refine ⟨by omega, by omega, ?_⟩
  rw [hq, List.getD_eq_getElem?_getD, List.getElem?_drop, List.getD_eq_getElem?_getD]
  congr 3
  omega
theorem tk_eq {lq : List E} {d : CR} (h : P lq d) : tkC d = tkR d := by
  have hm := h.may
  have hq := can_q h
  have hc := cnt_of h
  have e1 : s1C d = s1R d := by
    unfold s1C s1R tkS rtkS
    rw [if_neg (by rw [hm]; decide), hq]
  have hm1 : maySn (s1R d).b (s1R d).s (s1R d).q (s1R d).c = true := rtk_may hm
  have q1 : (s1R d).q = d.q := by
    unfold s1R rtkS
    repeat' split
    all_goals rfl
  have e2 : s2C d = s2R d := by
    unfold s2C s2R rdyS rrdS
    rw [e1, if_neg (by rw [hm1]; decide), q1, hq]
  have e3 : rdyN (s1C d).b (s1C d).s (s1C d).q (s1C d).c = nuS (s1R d).b (s1R d).q (s1R d).s (mbS (s1R d).q) := by
    unfold rdyN
    rw [e1, if_neg (by rw [hm1]; decide)]
  unfold tkC tkR
  rw [e2, e3]
  unfold HaR.akF
  cases hw : d.w with
  | true => rw [if_pos ⟨rfl, hc⟩]
  | false => rw [if_neg (fun w => by cases w.1)]; rfl
theorem tk_p {lq : List E} {d : CR} (h : P lq d) : P lq (tkR d) := by
  have hm := h.may
  have hm0 := may_ok hm
  have hm1 : maySn (s1R d).b (s1R d).s (s1R d).q (s1R d).c = true := rtk_may hm
  have hm10 := may_ok hm1
  have q1 : (s1R d).q = d.q ∧ (s1R d).b = d.sb := by
    unfold s1R rtkS
    repeat' split
    all_goals exact ⟨rfl, rfl⟩
  have q2 : (s2R d).q = d.q ∧ (s2R d).b = d.sb := by
    unfold s2R rrdS
    split
    all_goals exact q1
  have hb := mb_le d.q
  refine ⟨h.can, h.len, rrd_may hm1, ?_, h.n0, h.n1, ?_, h.ou, ?_, ?_⟩
  · show (s2R d).q = lq.drop (s2R d).b.toNat
    rw [q2.1, q2.2]
    exact h.q
  · show (s2R d).b ≤ d.n
    rw [q2.2]
    exact h.bn
  · intro y hy
    have hy : y ∈ d.wy ++ tkN d.sb d.s d.q d.c ++ nuS (s1R d).b (s1R d).q (s1R d).s (mbS (s1R d).q) := hy
    rcases List.mem_append.1 hy with hy | hy
    · rcases List.mem_append.1 hy with hy | hy
      · exact h.wy y hy
      · unfold tkN at hy
        split at hy
        · cases hy
        · split at hy
          · cases hy
          · split at hy
            · cases hy
            · exact nu_mem hm0.2.2.1 h.q (Int.le_refl 0) hm0.2.2.2.2.2.2.1 hy
    · rw [q1.1, q1.2] at hy
      exact nu_mem hm0.2.2.1 h.q hm10.2.2.2.2.1 hb.2.1 hy
  · intro k hk
    have hk : k ∈ (if d.w = true then d.bk ++ [d.n] else d.bk) := hk
    split at hk
    · rcases List.mem_append.1 hk with hk | hk
      · exact h.bk k hk
      · rw [List.mem_singleton] at hk
        exact Int.le_of_eq hk
    · exact h.bk k hk
theorem wy_p {lq : List E} {d : CR} (h : P lq d) {w : List E} (hw : ∀ y ∈ w, 0 ≤ ri y 0 ∧ ri y 0 < lq.length ∧ rl y 1 = rl (lq.getD (ri y 0).toNat []) 0) : P lq { d with wy := w } := ⟨h.can, h.len, h.may, h.q, h.n0, h.n1, h.bn, h.ou, hw, h.bk⟩
theorem bk_p {lq : List E} {d : CR} (h : P lq d) {w : List Int} (hw : ∀ k ∈ w, k ≤ d.n) : P lq { d with bk := w } := ⟨h.can, h.len, h.may, h.q, h.n0, h.n1, h.bn, h.ou, h.wy, hw⟩
theorem gt_eq {lq : List E} {d : CR} (h : P lq d) (sq : Int) (p : List Int) : gtC d sq p = gtR d sq p := by
  have e : HaR.getF d.n sq = HaR.getH d.n sq := if_pos (cnt_of h)
  unfold gtC gtR
  rw [e]
theorem gt_p {lq : List E} {d : CR} (h : P lq d) {sq : Int} {p : List Int} (h0 : 0 ≤ sq) (h1 : sq < lq.length) (h2 : p = rl (lq.getD sq.toNat []) 0) : P lq (gtR d sq p) := by
  unfold gtR HaR.getH
  by_cases g : sq = d.n ∧ sq < 2147483647
  · rw [if_pos g]
    have hn := h.n0
    have hn1 := h.n1
    refine ⟨h.can, h.len, h.may, h.q, ?_, ?_, ?_, ?_, h.wy, fun k hk => ?_⟩
    · show 0 ≤ d.n + 1
      omega
    · show d.n + 1 ≤ lq.length
      omega
    · show d.sb ≤ d.n + 1
      have := h.bn
      omega
    · show d.ou ++ [[D.ints p]] = lq.take (d.n + 1).toNat
      rw [take_next lq d.n hn (by omega), h.ou, h2, g.1, can_at h.can (by omega)]
    · show k ≤ d.n + 1
      have := h.bk k hk
      omega
  · rw [if_neg g]
    exact ⟨h.can, h.len, h.may, h.q, h.n0, h.n1, h.bn, h.ou, h.wy, h.bk⟩
theorem ak_eq {lq : List E} {d : CR} (h : P lq d) (k : Int) : akC d k = akR d k := by
  have e : ackS d.sb d.s d.q d.c k = rackS d.sb d.s d.q d.c k := by
    unfold ackS rackS
    rw [if_neg (by rw [h.may]; decide), ← nq_drop, can_q h]
  unfold akC akR
  rw [e]
theorem ak_p {lq : List E} {d : CR} (h : P lq d) {k : Int} (hk : k ≤ d.n) : P lq (akR d k) := by
  have hm := may_ok h.may
  unfold akR rackS
  by_cases g : d.sb < k ∧ k ≤ d.sb + d.s
  · rw [if_pos g]
    refine ⟨h.can, h.len, ?_, ?_, h.n0, h.n1, hk, h.ou, h.wy, h.bk⟩
    · have hs : shQ d.q = true := by
        have := h.may
        simp only [maySn, Bool.and_eq_true] at this
        exact this.1
      have hs := of_decide_eq_true hs
      have hs2 : shQ (d.q.drop (k - d.sb).toNat) = true := decide_eq_true fun y hy => hs y (List.mem_of_mem_drop hy)
      have hn1 := h.n1
      have hl := h.len
      show maySn k (d.s - (k - d.sb)) (d.q.drop (k - d.sb).toNat) (if d.s - (k - d.sb) = 0 then 0 else 4) = true
      unfold maySn
      rw [hs2, List.length_drop]
      simp only [Bool.true_and, decide_eq_true_eq]
      split <;> omega
    · show d.q.drop (k - d.sb).toNat = lq.drop k.toNat
      rw [h.q, List.drop_drop]
      congr 1
      omega
  · rw [if_neg g]
    exact ⟨h.can, h.len, h.may, h.q, h.n0, h.n1, h.bn, h.ou, h.wy, h.bk⟩
theorem modI_lt {n k : Int} (h : 0 < k) : 0 ≤ BwN.modI n k ∧ BwN.modI n k < k := by
  unfold BwN.modI
  rw [if_neg (by omega)]
  exact ⟨Int.emod_nonneg _ (by omega), Int.emod_lt_of_pos _ h⟩
theorem mem_atW {w : List E} (h : w.length ≠ 0) (n : Int) : atW w n ∈ w := by
  have := modI_lt (n := n) (show (0 : Int) < w.length by omega)
  unfold atW
  have hi : (BwN.modI n w.length).toNat < w.length := by omega
  rw [List.getD_eq_getElem?_getD, List.getElem?_eq_getElem hi]
  exact List.getElem_mem _
theorem mem_atB {w : List Int} (h : w.length ≠ 0) (n : Int) : atB w n ∈ w := by
  have := modI_lt (n := n) (show (0 : Int) < w.length by omega)
  unfold atB
  have hi : (BwN.modI n w.length).toNat < w.length := by omega
  rw [List.getD_eq_getElem?_getD, List.getElem?_eq_getElem hi]
  exact List.getElem_mem _
theorem mem_resN {w : List E} {i : Int} {y : E} (h : y ∈ BwN.res w i) : y ∈ w := by
  unfold BwN.res at h
  rcases List.mem_append.1 h with h | h
  · exact List.mem_of_mem_take h
  · exact List.mem_of_mem_drop h
theorem mem_resI {w : List Int} {i : Int} {y : Int} (h : y ∈ BwI.res w i) : y ∈ w := by
  unfold BwI.res at h
  rcases List.mem_append.1 h with h | h
  · exact List.mem_of_mem_take h
  · exact List.mem_of_mem_drop h
theorem do_p {lq : List E} {d : CR} (h : P lq d) (k a n : Int) : doC k a n d = doR k a n d ∧ P lq (doR k a n d) := by
  unfold doC doR
  by_cases k1 : k = 1
  · rw [if_pos k1, if_pos k1]
    exact ⟨tk_eq h, tk_p h⟩
  rw [if_neg k1, if_neg k1]
  by_cases a1 : a = 1
  · rw [if_pos a1]
    by_cases hk : k < 2 ∨ 5 < k
    · rw [if_pos hk]
      have e1 : BwN.bwB d.wy k = false := decide_eq_false (by omega)
      have e2 : BwN.bwL d.wy k n = d.wy := by
        unfold BwN.bwL
        split
        · exact (List.eq_nil_of_length_eq_zero (by assumption)).symm
        · rw [if_neg (by omega), if_neg (by omega), if_neg (by omega)]
      rw [e1, e2, if_neg (by decide)]
      exact ⟨rfl, h⟩
    · rw [if_neg hk, if_pos a1]
      by_cases h0 : d.wy.length = 0
      · have e1 : BwN.bwB d.wy k = false := decide_eq_false (by omega)
        have e2 : BwN.bwL d.wy k n = d.wy := by
          unfold BwN.bwL
          rw [if_pos h0]
          exact (List.eq_nil_of_length_eq_zero h0).symm
        rw [e1, e2, if_neg (by decide), if_pos h0]
        exact ⟨rfl, h⟩
      · rw [if_neg h0]
        have hat := h.wy _ (mem_atW h0 n)
        have hr : ∀ y ∈ BwN.res d.wy (BwN.modI n d.wy.length), _ := fun y hy => h.wy y (mem_resN hy)
        have he : ∀ y ∈ [BwN.eO (atW d.wy n)], 0 ≤ ri y 0 ∧ ri y 0 < lq.length ∧ rl y 1 = rl (lq.getD (ri y 0).toNat []) 0 := fun y hy => by
          rw [List.mem_singleton] at hy
          subst hy
          exact hat
        by_cases k2 : k = 2
        · have e1 : BwN.bwB d.wy k = true := decide_eq_true ⟨by omega, k2⟩
          have e2 : BwN.bwL d.wy k n = BwN.res d.wy (BwN.modI n d.wy.length) := by
            unfold BwN.bwL
            rw [if_neg h0, if_pos (.inl k2)]
          have e3 : BwN.bwE d.wy k n = ⟨ri (atW d.wy n) 0, rl (atW d.wy n) 1⟩ := if_pos ⟨by omega, k2⟩
          rw [e1, if_pos rfl, if_pos k2, e2, e3]
          have hp := wy_p h hr
          exact ⟨gt_eq hp _ _, gt_p hp hat.1 hat.2.1 hat.2.2⟩
        · have e1 : BwN.bwB d.wy k = false := decide_eq_false (fun w => k2 w.2)
          rw [e1, if_neg (by decide), if_neg k2]
          by_cases k3 : k = 3
          · have e2 : BwN.bwL d.wy k n = BwN.res d.wy (BwN.modI n d.wy.length) := by
              unfold BwN.bwL
              rw [if_neg h0, if_pos (.inr k3)]
            rw [if_pos k3, e2]
            exact ⟨rfl, wy_p h hr⟩
          · rw [if_neg k3]
            by_cases k4 : k = 4
            · have e2 : BwN.bwL d.wy k n = d.wy ++ [BwN.eO (atW d.wy n)] := by
                unfold BwN.bwL
                rw [if_neg h0, if_neg (by omega), if_pos k4]
                rfl
              rw [if_pos k4, e2]
              exact ⟨rfl, wy_p h fun y hy => (List.mem_append.1 hy).elim (h.wy y) (he y)⟩
            · have e2 : BwN.bwL d.wy k n = BwN.res d.wy (BwN.modI n d.wy.length) ++ [BwN.eO (atW d.wy n)] := by
                unfold BwN.bwL
                rw [if_neg h0, if_neg (by omega), if_neg k4, if_pos (by omega)]
                rfl
              rw [if_neg k4, e2]
              exact ⟨rfl, wy_p h fun y hy => (List.mem_append.1 hy).elim (hr y) (he y)⟩
  · rw [if_neg a1]
    by_cases a2 : a = 2
    · rw [if_pos a2]
      by_cases hk : k < 2 ∨ 5 < k
      · rw [if_pos hk]
        have e1 : BwI.bwB d.bk k = false := decide_eq_false (by omega)
        have e2 : BwI.bwL d.bk k n = d.bk := by
          unfold BwI.bwL
          split
          · exact (List.eq_nil_of_length_eq_zero (by assumption)).symm
          · rw [if_neg (by omega), if_neg (by omega), if_neg (by omega)]
        rw [e1, e2, if_neg (by decide)]
        exact ⟨rfl, h⟩
      · rw [if_neg hk, if_neg a1, if_pos a2]
        by_cases h0 : d.bk.length = 0
        · have e1 : BwI.bwB d.bk k = false := decide_eq_false (by omega)
          have e2 : BwI.bwL d.bk k n = d.bk := by
            unfold BwI.bwL
            rw [if_pos h0]
            exact (List.eq_nil_of_length_eq_zero h0).symm
          rw [e1, e2, if_neg (by decide), if_pos h0]
          exact ⟨rfl, h⟩
        · rw [if_neg h0]
          have hat := h.bk _ (mem_atB h0 n)
          have hr : ∀ y ∈ BwI.res d.bk (BwN.modI n d.bk.length), y ≤ d.n := fun y hy => h.bk y (mem_resI hy)
          have he : ∀ y ∈ [atB d.bk n], y ≤ d.n := fun y hy => by
            rw [List.mem_singleton] at hy
            subst hy
            exact hat
          by_cases k2 : k = 2
          · have e1 : BwI.bwB d.bk k = true := decide_eq_true ⟨by omega, k2⟩
            have e2 : BwI.bwL d.bk k n = BwI.res d.bk (BwN.modI n d.bk.length) := by
              unfold BwI.bwL
              rw [if_neg h0, if_pos (.inl k2)]
            have e3 : BwI.bwE d.bk k n = ⟨atB d.bk n⟩ := if_pos ⟨by omega, k2⟩
            rw [e1, if_pos rfl, if_pos k2, e2, e3]
            have hp := bk_p h hr
            exact ⟨ak_eq hp _, ak_p hp hat⟩
          · have e1 : BwI.bwB d.bk k = false := decide_eq_false (fun w => k2 w.2)
            rw [e1, if_neg (by decide), if_neg k2]
            by_cases k3 : k = 3
            · have e2 : BwI.bwL d.bk k n = BwI.res d.bk (BwN.modI n d.bk.length) := by
                unfold BwI.bwL
                rw [if_neg h0, if_pos (.inr k3)]
              rw [if_pos k3, e2]
              exact ⟨rfl, bk_p h hr⟩
            · rw [if_neg k3]
              by_cases k4 : k = 4
              · have e2 : BwI.bwL d.bk k n = d.bk ++ [atB d.bk n] := by
                  unfold BwI.bwL
                  rw [if_neg h0, if_neg (by omega), if_pos k4]
                  rfl
                rw [if_pos k4, e2]
                exact ⟨rfl, bk_p h fun y hy => (List.mem_append.1 hy).elim (h.bk y) (he y)⟩
              · have e2 : BwI.bwL d.bk k n = BwI.res d.bk (BwN.modI n d.bk.length) ++ [atB d.bk n] := by
                  unfold BwI.bwL
                  rw [if_neg h0, if_neg (by omega), if_neg k4, if_pos (by omega)]
                  rfl
                rw [if_neg k4, e2]
                exact ⟨rfl, bk_p h fun y hy => (List.mem_append.1 hy).elim (hr y) (he y)⟩
    · rw [if_neg a2]
      by_cases hk : k < 2 ∨ 5 < k
      · rw [if_pos hk]
        exact ⟨rfl, h⟩
      · rw [if_neg hk, if_neg a1, if_neg a2]
        exact ⟨rfl, h⟩
/-! ## From the beginning -/
theorem p_begin {l : List E} (hs : smB l = true) : P (nq l) (c00 l) := by
  obtain ⟨s1, s2⟩ := sm_is hs
  have hm := may_0 hs l.length
  rw [List.take_length] at hm
  exact ⟨nq_nq l, by rw [nq_len]; exact s1, hm, rfl, Int.le_refl 0, Int.natCast_nonneg _, Int.le_refl 0, rfl, fun y hy => absurd hy (List.not_mem_nil), fun y hy => absurd hy (List.not_mem_nil)⟩
def runR (l w : List E) : CR := w.foldl (fun d y => doR (ri y 0) (ri y 1) (ri y 3) d) (c00 l)
theorem runR_next (l w : List E) (i : Int) (h0 : 0 ≤ i) (h : i < w.length) : runR l (w.take (i + 1).toNat) = doR (ri (w.getD i.toNat []) 0) (ri (w.getD i.toNat []) 1) (ri (w.getD i.toNat []) 3) (runR l (w.take i.toNat)) := by
  rw [take_next w i h0 h]
  unfold runR
  rw [List.foldl_append]
  rfl
theorem run_all {l : List E} (hs : smB l = true) (w : List E) : ∀ k : Nat, k ≤ w.length → runC l (w.take k) = runR l (w.take k) ∧ P (nq l) (runR l (w.take k)) := fun k => by
  induction k with
  | zero => exact fun _ => ⟨rfl, p_begin hs⟩
  | succ k ih =>
    intro hk
    obtain ⟨h1, h2⟩ := ih (by omega)
    have e1 := run_next l w (k : Int) (by omega) (by omega)
    have e2 := runR_next l w (k : Int) (by omega) (by omega)
    rw [show ((k : Int) + 1).toNat = k + 1 by omega, Int.toNat_natCast] at e1 e2
    have hd := do_p h2 (ri (w.getD k []) 0) (ri (w.getD k []) 1) (ri (w.getD k []) 3)
    rw [e1, e2, h1]
    exact hd
theorem ok_p {lq : List E} {d : CR} (h : P lq d) (h1 : d.wy.length ≤ 400) (h2 : d.bk.length ≤ 400) : okR d = true := by
  have h3 : d.ou.length ≤ 64 := by
    have := h.len
    rw [h.ou, List.length_take]
    omega
  unfold okR
  rw [h.may, cnt_of h]
  simp only [Bool.true_and, decide_eq_true_eq]
  omega
theorem pq_take (l : List E) (k : Nat) : pq ((nq l).take k) = pq (l.take k) := by
  have e : (nq l).take k = nq (l.take k) := by
    unfold nq
    rw [List.map_take]
  rw [e, pq_nq]
/-- At the end. -/
theorem fin_all {l w : List E} (hs : smB l = true) (hw : w.length ≤ 1000) : crE l w = 0 ∧ crO l w = (runR l w).ou ∧ crN l w = (runR l w).q.length ∧ (runR l w).ou.length ≤ 64 ∧ (runR l w).ou.length ≤ l.length ∧ stdBin .sub .i64 (l.length : Int) ((runR l w).ou.length : Int) = l.length - (runR l w).ou.length ∧ (l.length : Int) - (runR l w).ou.length ≤ (runR l w).q.length ∧ decide (pq (runR l w).ou = pq (runR l w).ou ∧ (runR l w).ou.length ≤ 100000) = true ∧ decide (pq (runR l w).ou = pq (List.drop (Int.toNat 0) (List.take (Int.toNat (runR l w).ou.length) l)) ∧ (runR l w).ou.length ≤ 100000) = true := by
  obtain ⟨g1, g2, g3, g4⟩ := lg_is hs hw
  have hr := run_all hs w w.length (Nat.le_refl _)
  rw [List.take_length] at hr
  obtain ⟨hr, hp⟩ := hr
  obtain ⟨s1, _⟩ := sm_is hs
  have hl : (nq l).length = l.length := nq_len l
  have n0 := hp.n0
  have n1 := hp.n1
  have ho : (runR l w).ou.length = (runR l w).n.toNat := by
    rw [hp.ou, List.length_take]
    omega
  have hq : (runR l w).q.length = l.length - (runR l w).sb.toNat := by
    rw [hp.q, List.length_drop, hl]
  have hbn := hp.bn
  refine ⟨g4, by rw [g2, hr], by rw [g3, hr], by omega, by omega, by rw [b_sub, wr _ (by omega) (by omega)], by omega, decide_eq_true ⟨rfl, by omega⟩, decide_eq_true ⟨?_, by omega⟩⟩
  rw [Int.toNat_natCast, show Int.toNat 0 = 0 from rfl, List.drop_zero, ho]
  rw [hp.ou, pq_take]
end Go.Proofs.Ytgemoemkgcmcgaa.TkT
