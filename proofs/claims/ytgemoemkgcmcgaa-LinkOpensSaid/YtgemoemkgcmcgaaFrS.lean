/-
  Frames: written, they are read; what is read is written so; a beginning is no frame. No condition.
-/
import Derived.Test.YtgemoemkgcmcgaaFrQ
import Derived.Test.YtgemoemkgcmcgaaCrcW
namespace Go.Proofs.Ytgemoemkgcmcgaa.FrS
open Go Go.Proofs.Ytgemoemkgcmcgaa.Ry Go.Proofs.Ytgemoemkgcmcgaa.OctR Go.Proofs.Ytgemoemkgcmcgaa.OctP Go.Proofs.Ytgemoemkgcmcgaa.OctQ Go.Proofs.Ytgemoemkgcmcgaa.FrR Go.Proofs.Ytgemoemkgcmcgaa.FrQ

theorem okR_by' {r : List Int} (h : okR r = true) : byB r = true := by
  simp only [okR, Bool.and_eq_true] at h
  exact h.1
theorem num_back {l : List Int} {w : Int} (hw : w = 1 ∨ w = 2 ∨ w = 4) (hl : (l.length : Int) = w) (hb : ∀ x ∈ l, 0 ≤ x ∧ x ≤ 255) : numL (numI l) w = l := by
  rcases hw with rfl | rfl | rfl
  · match l, hl with
    | [x], _ =>
      have h0 := hb x (by simp)
      have e : numI [x] = x := by
        simp only [numI, List.foldl_cons, List.foldl_nil]
        rw [num_one 0 _ (by omega) (by omega) h0]
        omega
      rw [e, num_1 x h0.1]
      simp only [List.cons.injEq, and_true]
      omega
  · match l, hl with
    | [x, y], _ =>
      have h0 := hb x (by simp)
      have h1 := hb y (by simp)
      have e : numI [x, y] = x * 256 + y := by
        simp only [numI, List.foldl_cons, List.foldl_nil]
        rw [num_one 0 _ (by omega) (by omega) h0, num_one (0 * 256 + _) _ (by omega) (by omega) h1]
        omega
      rw [e, num_2 _ (by omega)]
      simp only [List.cons.injEq, and_true]
      omega
  · match l, hl with
    | [x, y, z, t], _ =>
      have h0 := hb x (by simp)
      have h1 := hb y (by simp)
      have h2 := hb z (by simp)
      have h3 := hb t (by simp)
      have e : numI [x, y, z, t] = ((x * 256 + y) * 256 + z) * 256 + t := by
        simp only [numI, List.foldl_cons, List.foldl_nil]
        rw [num_one 0 _ (by omega) (by omega) h0, num_one (0 * 256 + _) _ (by omega) (by omega) h1, num_one ((0 * 256 + _) * 256 + _) _ (by omega) (by omega) h2, num_one (((0 * 256 + _) * 256 + _) * 256 + _) _ (by omega) (by omega) h3]
        omega
      rw [e, num_4 _ (by omega)]
      simp only [List.cons.injEq, and_true]
      omega
theorem tk_e {r : List Int} {e w : Int} (h : tkE r e w = 0) : e = 0 := by
  unfold tkE at h
  by_cases he : e = 0
  · exact he
  · rw [if_neg he] at h
    exact absurd h he
/-- A step of reading that went well. -/
theorem tk_back {r : List Int} {e w : Int} (hw : w = 1 ∨ w = 2 ∨ w = 4) (hb : ∀ x ∈ r, 0 ≤ x ∧ x ≤ 255) (h : tkE r e w = 0) :
    r = numL (tkN r e w) w ++ tkR r e w ∧ (∀ x ∈ tkR r e w, 0 ≤ x ∧ x ≤ 255) ∧ r.length = w.toNat + (tkR r e w).length := by
  have hW : isW w = true := decide_eq_true (by omega)
  unfold tkE at h
  by_cases he : e = 0
  · subst he
    rw [if_pos rfl, if_pos hW] at h
    by_cases hB : tkBad r w = true
    · rw [if_pos hB] at h
      exact absurd h (by decide)
    · have hB : tkBad r w = false := by simpa using hB
      have h1 : tkN r 0 w = numI (r.take w.toNat) := by
        unfold tkN
        rw [if_pos ⟨rfl, hW, hB⟩]
      have h2 : tkR r 0 w = r.drop w.toNat := by
        unfold tkR
        rw [if_pos ⟨rfl, hW, hB⟩]
      have h3 := of_decide_eq_false hB
      have hl : ((r.take w.toNat).length : Int) = w := by
        rw [List.length_take]
        omega
      have hb1 : ∀ x ∈ r.take w.toNat, 0 ≤ x ∧ x ≤ 255 := fun x hx => hb x (List.mem_of_mem_take hx)
      refine ⟨?_, ?_, ?_⟩
      · rw [h1, h2, num_back hw hl hb1, List.take_append_drop]
      · rw [h2]
        exact fun x hx => hb x (List.mem_of_mem_drop hx)
      · rw [h2, List.length_drop]
        omega
  · rw [if_neg he] at h
    exact absurd h he
def head (k s q a : Int) (n : Nat) (r : List Int) : List Int := numL n 2 ++ (numL k 1 ++ (numL s 4 ++ (numL q 4 ++ (numL a 4 ++ r))))
theorem body_head (k s q a : Int) (p : List Int) : bodyF k s q a p = head k s q a p.length [] ++ p := by simp [bodyF, head]
theorem body_head2 (k s q a : Int) (p : List Int) : bodyF k s q a p = head k s q a p.length p := by simp [bodyF, head]
theorem head_len (k s q a : Int) (n : Nat) (r : List Int) : (head k s q a n r).length = 15 + r.length := by
  have t1 : (1 : Int).toNat = 1 := rfl
  have t2 : (2 : Int).toNat = 2 := rfl
  have t4 : (4 : Int).toNat = 4 := rfl
  simp only [head, List.length_append, num_len, t1, t2, t4]
  omega
/-- What is read ahead of anything. -/
theorem chain {k s q a : Int} {p : List Int} (h : mayF k s q a p = true) (hp : byB p = true) (r : List Int) :
    tkN (head k s q a p.length r) 0 2 = p.length ∧ tkE (head k s q a p.length r) 0 2 = 0 ∧ tkR (head k s q a p.length r) 0 2 = numL k 1 ++ (numL s 4 ++ (numL q 4 ++ (numL a 4 ++ r))) :=
  take_num (body_ok h hp).2.2.2.2.2.1 _
theorem rd_body {k s q a : Int} {p : List Int} (h : mayF k s q a p = true) (hp : byB p = true) : rdF (bodyF k s q a p) = ⟨k, s, q, a, p, 0⟩ := by
  have hb := body_ok h hp
  have ht : (bodyF k s q a p).take 15 = head k s q a p.length [] := by
    rw [body_head, List.take_left' (by rw [head_len]; rfl)]
  have hd : (bodyF k s q a p).drop 15 = p := by
    rw [body_head, List.drop_left' (by rw [head_len]; rfl)]
  obtain ⟨c1, c2, c3⟩ := chain h hp []
  obtain ⟨k1, k2, k3⟩ := take_num hb.2.1 (numL s 4 ++ (numL q 4 ++ (numL a 4 ++ [])))
  obtain ⟨s1, s2, s3⟩ := take_num hb.2.2.1 (numL q 4 ++ (numL a 4 ++ []))
  obtain ⟨q1, q2, q3⟩ := take_num hb.2.2.2.1 (numL a 4 ++ [])
  obtain ⟨a1, a2, a3⟩ := take_num hb.2.2.2.2.1 []
  unfold rdF
  simp only [ht, hd, c1, c2, c3, k1, k2, k3, s1, s2, s3, q1, q2, q3, a1, a2, h, and_self, if_true]
theorem rr_body {k s q a : Int} {p : List Int} (h : mayF k s q a p = true) (hp : byB p = true) : rrF (CrcR.sealI (bodyF k s q a p)) (bodyF k s q a p) = ⟨k, s, q, a, p, 0⟩ := by
  have hb := body_ok h hp
  obtain ⟨c1, c2, c3⟩ := chain h hp p
  obtain ⟨k1, k2, k3⟩ := take_num hb.2.1 (numL s 4 ++ (numL q 4 ++ (numL a 4 ++ p)))
  obtain ⟨s1, s2, s3⟩ := take_num hb.2.2.1 (numL q 4 ++ (numL a 4 ++ p))
  obtain ⟨q1, q2, q3⟩ := take_num hb.2.2.2.1 (numL a 4 ++ p)
  obtain ⟨a1, a2, a3⟩ := take_num hb.2.2.2.2.1 p
  have e := body_head2 k s q a p
  rw [← e] at c2 c3
  unfold rrF
  simp only [c2, c3, k1, k2, k3, s1, s2, s3, q1, q2, q3, a1, a2, a3, h, and_self, if_true]
/-- What is read has been written so. -/
theorem rd_back {c : List Int} (hb : ∀ x ∈ c, 0 ≤ x ∧ x ≤ 255) (h15 : 15 ≤ c.length) : rdF c = zF 5 ∨ ∃ k s q a p, mayF k s q a p = true ∧ (∀ x ∈ p, 0 ≤ x ∧ x ≤ 255) ∧ c = bodyF k s q a p := by
  unfold rdF
  simp only
  split
  · rename_i hc
    obtain ⟨h5, hn, hm⟩ := hc
    have b0 : ∀ x ∈ c.take 15, 0 ≤ x ∧ x ≤ 255 := fun x hx => hb x (List.mem_of_mem_take hx)
    have l0 : (c.take 15).length = 15 := by rw [List.length_take]; omega
    have ed := List.take_append_drop 15 c
    generalize c.take 15 = r0 at *
    generalize c.drop 15 = p at *
    have E4 := tk_e h5
    have E3 := tk_e E4
    have E2 := tk_e E3
    have E1 := tk_e E2
    obtain ⟨x1, b1, n1⟩ := tk_back (.inr (.inl rfl)) b0 E1
    obtain ⟨x2, b2, n2⟩ := tk_back (.inl rfl) b1 E2
    obtain ⟨x3, b3, n3⟩ := tk_back (.inr (.inr rfl)) b2 E3
    obtain ⟨x4, b4, n4⟩ := tk_back (.inr (.inr rfl)) b3 E4
    obtain ⟨x5, b5, n5⟩ := tk_back (.inr (.inr rfl)) b4 h5
    refine .inr ⟨_, _, _, _, p, hm, fun x hx => hb x (by rw [← ed]; exact List.mem_append_right _ hx), ?_⟩
    rw [body_head, ← ed]
    congr 1
    have t1 : (1 : Int).toNat = 1 := rfl
    have t2 : (2 : Int).toNat = 2 := rfl
    have t4 : (4 : Int).toNat = 4 := rfl
    rw [t2] at n1
    rw [t1] at n2
    rw [t4] at n3 n4 n5
    rw [show tkR (tkR (tkR (tkR (tkR r0 0 2) (tkE r0 0 2) 1) (tkE (tkR r0 0 2) (tkE r0 0 2) 1) 4) (tkE (tkR (tkR r0 0 2) (tkE r0 0 2) 1) (tkE (tkR r0 0 2) (tkE r0 0 2) 1) 4) 4) (tkE (tkR (tkR (tkR r0 0 2) (tkE r0 0 2) 1) (tkE (tkR r0 0 2) (tkE r0 0 2) 1) 4) (tkE (tkR (tkR r0 0 2) (tkE r0 0 2) 1) (tkE (tkR r0 0 2) (tkE r0 0 2) 1) 4) 4) 4 = [] from List.eq_nil_of_length_eq_zero (by omega)] at x5
    unfold head
    rw [← x5, ← x4, ← x3, ← x2, ← hn, ← x1]
  · exact .inl rfl
theorem seal_inj {l m : List Int} (h : CrcR.sealI l = CrcR.sealI m) : l = m := by
  have hl := CrcT.open_seal l
  rw [h, (CrcT.open_seal m).1] at hl
  exact hl.1.symm
theorem rr_is {c : List Int} (hb : ∀ x ∈ c, 0 ≤ x ∧ x ≤ 255) (h15 : 15 ≤ c.length) : rrF (CrcR.sealI c) c = rdF c := by
  by_cases h : ∃ k s q a p, mayF k s q a p = true ∧ (∀ x ∈ p, 0 ≤ x ∧ x ≤ 255) ∧ c = bodyF k s q a p
  · obtain ⟨k, s, q, a, p, hm, hp, rfl⟩ := h
    rw [rr_body hm (decide_eq_true hp), rd_body hm (decide_eq_true hp)]
  · rw [(rd_back hb h15).resolve_right h]
    unfold rrF
    simp only
    split
    · rename_i hc
      obtain ⟨h5, hm, he⟩ := hc
      exfalso
      refine h ⟨_, _, _, _, _, hm, ?_, ?_⟩
      · have hB : byB c = true := decide_eq_true hb
        exact of_decide_eq_true (by_tk _ _ _ (by_tk _ _ _ (by_tk _ _ _ (by_tk _ _ _ (by_tk _ _ _ hB)))))
      · have hB : byB c = true := decide_eq_true hb
        have hp := by_tk _ (tkE (tkR (tkR (tkR c 0 2) (tkE c 0 2) 1) (tkE (tkR c 0 2) (tkE c 0 2) 1) 4) (tkE (tkR (tkR c 0 2) (tkE c 0 2) 1) (tkE (tkR c 0 2) (tkE c 0 2) 1) 4) 4) 4 (by_tk _ (tkE (tkR (tkR c 0 2) (tkE c 0 2) 1) (tkE (tkR c 0 2) (tkE c 0 2) 1) 4) 4 (by_tk _ (tkE (tkR c 0 2) (tkE c 0 2) 1) 4 (by_tk _ (tkE c 0 2) 1 (by_tk _ 0 2 hB))))
        have hb2 := (body_ok hm hp).2.2.2.2.2.2.2
        have hs := CrcW.seal_byte _ (of_decide_eq_true (okR_by' hb2))
        have hs2 := CrcW.seal_byte c hb
        rw [byt_by (decide_eq_true hs), byt_by (decide_eq_true hs2)] at he
        exact (seal_inj he).symm
    · rfl
theorem dec_is {l : List Int} (hb : ∀ x ∈ l, 0 ≤ x ∧ x ≤ 255) : rdecF l = decF l := by
  unfold rdecF decF
  by_cases h1 : 16403 < l.length
  · rw [if_pos h1, if_pos h1]
  rw [if_neg h1, if_neg h1]
  by_cases h2 : l.length < 19
  · rw [if_pos h2, if_pos h2]
  rw [if_neg h2, if_neg h2]
  have h4 : ¬ l.length < 4 := by omega
  rw [CrcT.good_iff l h4 hb]
  by_cases hs : CrcS.ofI (l.take (l.length - 4)) = CrcR.lastI (l.drop (l.length - 4))
  · have he : CrcR.errI l = 0 := by
      unfold CrcR.errI
      rw [if_neg h4, if_pos hs]
    obtain ⟨m, rfl⟩ := CrcW.sealed_is hb h4 he
    have hr : CrcR.ropenI (m ++ CrcR.sum4 m) = m := by
      unfold CrcR.ropenI
      rw [if_neg h4, List.length_append, CrcT.sum4_len, Nat.add_sub_cancel, List.take_left' rfl]
    have ho := (CrcT.open_seal m).1
    have e : CrcR.sealI m = m ++ CrcR.sum4 m := rfl
    rw [e] at ho
    rw [if_pos (decide_eq_true hs), if_pos he, hr, ho, ← e]
    refine rr_is (fun x hx => hb x (List.mem_append_left _ hx)) ?_
    rw [List.length_append, CrcT.sum4_len] at h2
    omega
  · have he : CrcR.errI l = 6 := by
      unfold CrcR.errI
      rw [if_neg h4, if_neg hs]
    rw [decide_eq_false hs, he]
    rfl
theorem enc_len {k s q a : Int} {p : List Int} (h : mayF k s q a p = true) : encF k s q a p = CrcR.sealI (bodyF k s q a p) ∧ (encF k s q a p).length = 19 + p.length ∧ p.length ≤ 16384 := by
  have h5 := (put5 h).2.2.2.2.2.2
  have e : encF k s q a p = CrcR.sealI (bodyF k s q a p) := by
    unfold encF
    rw [if_pos h]
  refine ⟨e, ?_, h5.2.1⟩
  rw [e, CrcT.seal_len, h5.1]
  omega
theorem dec_enc {k s q a : Int} {p : List Int} (h : mayF k s q a p = true) (hp : ∀ x ∈ p, 0 ≤ x ∧ x ≤ 255) : decF (encF k s q a p) = ⟨k, s, q, a, p, 0⟩ := by
  obtain ⟨e, hl, h4⟩ := enc_len h
  unfold decF
  rw [if_neg (by omega), if_neg (by omega), e, if_pos (CrcT.open_seal _).2, (CrcT.open_seal _).1]
  exact rd_body h (decide_eq_true hp)
theorem enc_by {k s q a : Int} {p : List Int} (hp : ∀ x ∈ p, 0 ≤ x ∧ x ≤ 255) : ∀ x ∈ encF k s q a p, 0 ≤ x ∧ x ≤ 255 := by
  by_cases h : mayF k s q a p = true
  · rw [(enc_len h).1]
    exact CrcW.seal_byte _ (of_decide_eq_true (okR_by' (body_ok h (decide_eq_true hp)).2.2.2.2.2.2.2))
  · unfold encF
    rw [if_neg h]
    exact fun x hx => (by cases hx)
theorem dec_by {l : List Int} (hb : ∀ x ∈ l, 0 ≤ x ∧ x ≤ 255) : byB (decF l).p = true := by
  have hz : ∀ e, byB (zF e).p = true := fun e => rfl
  unfold decF
  split
  · exact hz _
  split
  · exact hz _
  split
  · unfold rdF
    simp only
    split
    · refine decide_eq_true fun x hx => hb x ?_
      have hx : x ∈ (CrcR.openI l).drop 15 := hx
      have hx := List.mem_of_mem_drop hx
      unfold CrcR.openI at hx
      split at hx
      · cases hx
      split at hx
      · exact List.mem_of_mem_take hx
      · cases hx
    · exact hz _
  · exact hz _
theorem enc_same {k s q a : Int} {p : List Int} {k' s' q' a' : Int} {p' : List Int} (h : mayF k s q a p = true) (h' : mayF k' s' q' a' p' = true) (hp : ∀ x ∈ p, 0 ≤ x ∧ x ≤ 255) (hp' : ∀ x ∈ p', 0 ≤ x ∧ x ≤ 255) :
    decide (encF k s q a p = encF k' s' q' a' p') = smF k s q a p k' s' q' a' p' := by
  unfold smF
  rw [Bool.eq_iff_iff, decide_eq_true_eq, decide_eq_true_eq]
  constructor
  · intro e
    have d := dec_enc h hp
    rw [e, dec_enc h' hp'] at d
    cases d
    exact ⟨rfl, rfl, rfl, rfl, rfl⟩
  · rintro ⟨rfl, rfl, rfl, rfl, rfl⟩
    rfl
/-- A beginning of a frame's bytes. -/
theorem cut {k s q a : Int} {p : List Int} (h : mayF k s q a p = true) (hp : ∀ x ∈ p, 0 ≤ x ∧ x ≤ 255) (n : Nat) (hn : n < (encF k s q a p).length) : decF ((encF k s q a p).take n) = zF 5 ∨ decF ((encF k s q a p).take n) = zF 6 := by
  obtain ⟨e, hl, h4⟩ := enc_len h
  have hL : ((encF k s q a p).take n).length = n := by rw [List.length_take]; omega
  have hb : ∀ x ∈ (encF k s q a p).take n, 0 ≤ x ∧ x ≤ 255 := fun x hx => enc_by hp x (List.mem_of_mem_take hx)
  unfold decF
  rw [if_neg (by omega)]
  by_cases h2 : ((encF k s q a p).take n).length < 19
  · rw [if_pos h2]
    exact .inl rfl
  rw [if_neg h2]
  by_cases he : CrcR.errI ((encF k s q a p).take n) = 0
  · rw [if_pos he]
    obtain ⟨m, hm⟩ := CrcW.sealed_is hb (by omega) he
    have ho : CrcR.openI ((encF k s q a p).take n) = m := by
      rw [hm]
      exact (CrcT.open_seal m).1
    rw [ho]
    have hml : m.length + 4 = n := by
      have := congrArg List.length hm
      rw [hL, List.length_append, CrcT.sum4_len] at this
      exact this.symm
    rcases rd_back (c := m) (fun x hx => hb x (by rw [hm]; exact List.mem_append_left _ hx)) (by omega) with g | ⟨k', s', q', a', p', g1, g2, g3⟩
    · exact .inl g
    · exfalso
      have t2 : (2 : Int).toNat = 2 := rfl
      have f1 : m.take 2 = numL p'.length 2 := by
        rw [g3, body_head2]
        unfold head
        rw [List.take_left' (by rw [num_len, t2])]
      have f2 : m.take 2 = numL p.length 2 := by
        have : m.take 2 = ((encF k s q a p).take n).take 2 := by
          rw [hm, List.take_append_of_le_length (by omega)]
        rw [this, List.take_take, Nat.min_eq_left (by omega), e]
        unfold CrcR.sealI
        rw [body_head2]
        unfold head
        rw [List.append_assoc, List.take_left' (by rw [num_len, t2])]
      have hi := num_inj (body_ok g1 (decide_eq_true g2)).2.2.2.2.2.1 (body_ok h (decide_eq_true hp)).2.2.2.2.2.1
      rw [← f1, f2, decide_eq_true rfl] at hi
      have hi := of_decide_eq_true hi.symm
      have hb' := congrArg List.length g3
      rw [body_head2, head_len] at hb'
      omega
  · rw [if_neg he]
    right
    unfold CrcR.errI at he ⊢
    rw [if_neg (by omega)] at he ⊢
    by_cases hs : CrcS.ofI (((encF k s q a p).take n).take (((encF k s q a p).take n).length - 4)) = CrcR.lastI (((encF k s q a p).take n).drop (((encF k s q a p).take n).length - 4))
    · rw [if_pos hs] at he
      exact absurd rfl he
    · rw [if_neg hs]
end Go.Proofs.Ytgemoemkgcmcgaa.FrS
