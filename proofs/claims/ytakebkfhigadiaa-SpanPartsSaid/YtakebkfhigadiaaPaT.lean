/-
  Nodes part by part: what the code makes is the document's. No condition.
-/
import Derived.Test.YtakebkfhigadiaaPaR
import Derived.Test.YtakebkfhigadiaaSpL
namespace Go.Proofs.Ytakebkfhigadiaa.PaT
open Go Go.Proofs.Ytakebkfhigadiaa.Ry Go.Proofs.Ytakebkfhigadiaa.JoS Go.Proofs.Ytakebkfhigadiaa.JoR Go.Proofs.Ytakebkfhigadiaa.JoW Go.Proofs.Ytakebkfhigadiaa.JoN Go.Proofs.Ytakebkfhigadiaa.EgR Go.Proofs.Ytakebkfhigadiaa.SpR Go.Proofs.Ytakebkfhigadiaa.SpQ Go.Proofs.Ytakebkfhigadiaa.CgR Go.Proofs.Ytakebkfhigadiaa.PaR Go.Proofs.Ytakebkfhigadiaa.EgL Go.Proofs.Ytakebkfhigadiaa.SpK Go.Proofs.Ytakebkfhigadiaa.SpT Go.Proofs.Ytakebkfhigadiaa.SpL

/-! ## Groups, by what they have in common -/
variable {f : Int → Int}
def gp (f : Int → Int) (P : List Int) (a : Int) : List Int := P.filter fun b => decide (f b = f a)
def inF (f : Int → Int) (fs : List Int) (a : Int) : Bool := fs.any fun b => decide (f b = f a)
def fsS (f : Int → Int) (fs : List Int) (a : Int) : List Int := if inF f fs a = true then fs else fs ++ [a]
def fsN (f : Int → Int) (P : List Int) : List Int := P.foldl (fsS f) []
theorem inF_iff {fs : List Int} {a : Int} : inF f fs a = true ↔ ∃ b ∈ fs, f b = f a := by
  unfold inF
  rw [List.any_eq_true]
  exact ⟨fun ⟨b, h1, h2⟩ => ⟨b, h1, of_decide_eq_true h2⟩, fun ⟨b, h1, h2⟩ => ⟨b, h1, decide_eq_true h2⟩⟩
theorem fs_snoc (P : List Int) (a : Int) : fsN f (P ++ [a]) = fsS f (fsN f P) a := by
  unfold fsN
  rw [List.foldl_append]
  rfl
theorem fs_fold : ∀ (P fs : List Int), (∀ a ∈ P.foldl (fsS f) fs, a ∈ fs ∨ a ∈ P) ∧ (∀ a, inF f fs a = true → inF f (P.foldl (fsS f) fs) a = true) ∧ (∀ a ∈ P, inF f (P.foldl (fsS f) fs) a = true) ∧ (fs.Pairwise (fun a b => f a ≠ f b) → (P.foldl (fsS f) fs).Pairwise fun a b => f a ≠ f b)
  | [], fs => ⟨fun _ h => .inl h, fun _ h => h, fun _ h => (by cases h), fun h => h⟩
  | x :: P, fs => by
    obtain ⟨h1, h2, h3, h4⟩ := fs_fold P (fsS f fs x)
    rw [List.foldl_cons]
    refine ⟨fun a ha => ?_, fun a ha => h2 a ?_, fun a ha => ?_, fun hp => h4 ?_⟩
    · rcases h1 a ha with h | h
      · unfold fsS at h
        split at h
        · exact .inl h
        · rcases List.mem_append.1 h with h | h
          · exact .inl h
          · rw [List.mem_singleton.1 h]
            exact .inr List.mem_cons_self
      · exact .inr (List.mem_cons_of_mem _ h)
    · unfold fsS
      split
      · exact ha
      · obtain ⟨b, hb, e⟩ := inF_iff.1 ha
        exact inF_iff.2 ⟨b, List.mem_append_left _ hb, e⟩
    · rcases List.mem_cons.1 ha with rfl | ha
      · refine h2 _ ?_
        unfold fsS
        split
        · assumption
        · exact inF_iff.2 ⟨_, List.mem_append_right _ (List.mem_singleton.2 rfl), rfl⟩
      · exact h3 a ha
    · unfold fsS
      split
      · exact hp
      · rename_i hn
        rw [List.pairwise_append]
        refine ⟨hp, List.pairwise_singleton _ _, fun a ha b hb e => hn ?_⟩
        rw [List.mem_singleton.1 hb] at e
        exact inF_iff.2 ⟨a, ha, e⟩
theorem fs_mem {P : List Int} {a : Int} (h : a ∈ fsN f P) : a ∈ P := ((fs_fold P []).1 a h).resolve_left fun h => by cases h
theorem fs_all {P : List Int} {a : Int} (h : a ∈ P) : ∃ b ∈ fsN f P, f b = f a := inF_iff.1 ((fs_fold P []).2.2.1 a h)
theorem fs_inj {P : List Int} {i j : Nat} (hi : i < (fsN f P).length) (hj : j < (fsN f P).length) (e : f (fsN f P)[i] = f (fsN f P)[j]) : i = j := by
  have h := (fs_fold (f := f) P []).2.2.2 List.Pairwise.nil
  rw [List.pairwise_iff_getElem] at h
  rcases Nat.lt_trichotomy i j with g | g | g
  · exact absurd e (h i j hi hj g)
  · exact g
  · exact absurd e.symm (h j i hj hi g)
theorem gp_snoc (P : List Int) (i a : Int) : gp f (P ++ [i]) a = if f i = f a then gp f P a ++ [i] else gp f P a := by
  unfold gp
  rw [List.filter_append]
  split
  · rename_i e
    rw [List.filter_cons_of_pos (by simpa using e)]
    rfl
  · rename_i e
    rw [List.filter_cons_of_neg (by simpa using e)]
    simp
theorem gp_none {P : List Int} {a : Int} (h : ∀ b ∈ P, f b ≠ f a) : gp f P a = [] := by
  unfold gp
  rw [List.filter_eq_nil_iff]
  intro b hb
  simpa using h b hb
/-! ## The code -/
structure CR (f : Int → Int) (V : List Int) (y : PaR.XP) (P : List Int) : Prop where
  up : Up y.u V
  pl : y.p.length = 65
  o : y.o = (fsN f P).map fun a => [D.ints (gp f P a)]
  p : ∀ s : Nat, s < 65 → (y.p.getD s 0 = 0 ∧ ∀ a ∈ fsN f P, f a ≠ s) ∨ ∃ j : Nat, ∃ h : j < (fsN f P).length, y.p.getD s 0 = (j : Int) + 1 ∧ f (fsN f P)[j] = s
theorem cr_step {V : List Int} (hf : ∀ a, f a = lw V a) {x : List E} {i : Int} {o : List E} {p u : List Int} {P : List Int} (h : CR f V ⟨i, o, p, u⟩ P) (hb : rb (x.getD i.toNat []) 0 = true) (h0 : 0 ≤ f i) (h1 : f i < 65) : CR f V (prT x ⟨i, o, p, u⟩) (P ++ [i]) := by
  obtain ⟨c1, c2, c3, c4⟩ := h
  simp only at c1 c2 c3 c4
  have hl : lstI u i = f i := by rw [hf, (lst_w c1 i).1]
  have hu := (lst_w c1 i).2
  have hol : o.length = (fsN f P).length := by rw [c3, List.length_map]
  unfold prT
  simp only
  rw [if_pos hb, hl]
  obtain ⟨s, hs⟩ : ∃ s : Nat, f i = (s : Int) := ⟨(f i).toNat, by omega⟩
  rw [hs, Int.toNat_natCast]
  have hs65 : s < 65 := by omega
  rcases c4 s hs65 with ⟨e0, e1⟩ | ⟨j, hj, e0, e1⟩
  · have hP : ∀ b ∈ P, f b ≠ f i := fun b hb e => by
      obtain ⟨a, ha, ea⟩ := fs_all (f := f) hb
      exact e1 a ha (by rw [ea, e, hs])
    have hfs : fsN f (P ++ [i]) = fsN f P ++ [i] := by
      rw [fs_snoc]
      unfold fsS
      rw [if_neg]
      intro hq
      obtain ⟨a, ha, ea⟩ := inF_iff.1 hq
      exact e1 a ha (by rw [ea, hs])
    have q1 : prO o p (s : Int) = o ++ [[D.ints []]] := by unfold prO; rw [Int.toNat_natCast, if_pos e0]
    have q2 : prP o p (s : Int) = p.set s (o.length + 1) := by unfold prP; rw [Int.toNat_natCast, if_pos e0]
    have q3 : (p.set s ((o.length : Int) + 1)).getD s 0 = (o.length : Int) + 1 := by
      rw [List.getD_eq_getElem?_getD, List.getElem?_set_self (by omega)]
      rfl
    rw [q1, q2, q3]
    refine ⟨hu, by simp only; rw [List.length_set]; exact c2, ?_, fun t ht => ?_⟩
    · simp only
      unfold prA
      rw [show ((o.length : Int) + 1 - 1).toNat = o.length by omega, hfs, List.map_append]
      have q4 : (o ++ [[D.ints []]]).getD o.length [] = [D.ints []] := by
        rw [List.getD_eq_getElem?_getD, List.getElem?_append_right (Nat.le_refl _), Nat.sub_self]
        rfl
      rw [q4, List.set_append_right _ _ (Nat.le_refl _), Nat.sub_self]
      have q5 : (fsN f P).map (fun a => [D.ints (gp f (P ++ [i]) a)]) = o := by
        rw [c3]
        refine List.map_congr_left fun a ha => ?_
        rw [gp_snoc, if_neg]
        intro e
        exact e1 a ha (by rw [← e, hs])
      rw [q5, List.map_singleton, gp_snoc, if_pos rfl, gp_none hP]
      rfl
    · simp only
      rw [hfs]
      by_cases hts : t = s
      · subst hts
        refine .inr ⟨(fsN f P).length, by rw [List.length_append]; exact Nat.lt_succ_self _, by rw [q3, hol], ?_⟩
        rw [List.getElem_append_right (Nat.le_refl _)]
        simp only [Nat.sub_self, List.getElem_cons_zero]
        exact hs
      · have q6 : (p.set s ((o.length : Int) + 1)).getD t 0 = p.getD t 0 := by
          rw [List.getD_eq_getElem?_getD, List.getElem?_set_ne (Ne.symm hts), ← List.getD_eq_getElem?_getD]
        rw [q6]
        rcases c4 t ht with ⟨g0, g1⟩ | ⟨j, hj, g0, g1⟩
        · refine .inl ⟨g0, fun a ha => ?_⟩
          rcases List.mem_append.1 ha with ha | ha
          · exact g1 a ha
          · rw [List.mem_singleton.1 ha, hs]
            omega
        · exact .inr ⟨j, by rw [List.length_append]; omega, g0, by rw [List.getElem_append_left hj]; exact g1⟩
  · have hfs : fsN f (P ++ [i]) = fsN f P := by
      rw [fs_snoc]
      unfold fsS
      rw [if_pos (inF_iff.2 ⟨_, List.getElem_mem hj, by rw [e1, hs]⟩)]
    have hne : ¬ p.getD s 0 = 0 := by omega
    have q1 : prO o p (s : Int) = o := by unfold prO; rw [Int.toNat_natCast, if_neg hne]
    have q2 : prP o p (s : Int) = p := by unfold prP; rw [Int.toNat_natCast, if_neg hne]
    rw [q1, q2, e0]
    refine ⟨hu, c2, ?_, fun t ht => ?_⟩
    · simp only
      unfold prA
      rw [show ((j : Int) + 1 - 1).toNat = j by omega, hfs]
      refine List.ext_getElem (by rw [List.length_set, List.length_map, hol]) fun m hm1 hm2 => ?_
      rw [List.length_set] at hm1
      rw [List.length_map] at hm2
      rw [List.getElem_set, List.getElem_map, gp_snoc]
      have hoj : o.getD j [] = [D.ints (gp f P (fsN f P)[j])] := by
        rw [List.getD_eq_getElem?_getD, c3, List.getElem?_map, List.getElem?_eq_getElem hj]
        rfl
      split
      · rename_i e
        subst e
        rw [if_pos (by rw [hs, e1]), hoj]
        rfl
      · rename_i hjm
        rw [if_neg]
        · simp only [c3, List.getElem_map]
        · intro e
          exact hjm (fs_inj hj hm2 (by rw [e1, ← e, hs]))
    · simp only
      rw [hfs]
      exact c4 t ht
/-! ## All of it -/
def ask (n : List Int) (j : Int) : Bool := rb ((inA n).getD j.toNat []) 0
def Pk (n : List Int) (k : Nat) : List Int := ((List.range k).map fun j : Nat => (j : Int)).filter (ask n)
theorem pk_next (n : List Int) (k : Nat) : Pk n (k + 1) = if ask n (k : Int) = true then Pk n k ++ [(k : Int)] else Pk n k := by
  unfold Pk
  rw [List.range_succ, List.map_append, List.filter_append, List.map_singleton]
  split
  · rename_i h
    rw [List.filter_cons_of_pos h]
    rfl
  · rename_i h
    rw [List.filter_cons_of_neg h]
    simp
theorem lw_rng {V : List Int} (hl : V.length = 65) (ok : WOk V) (a : Int) : 0 ≤ lw V a ∧ lw V a < 65 := by
  unfold lw
  split
  · rename_i h
    have := ok.lo a h.1 h.2
    have := ok.hi a h.1 h.2
    omega
  · omega
theorem cr_all {V : List Int} (hl : V.length = 65) (ok : WOk V) {n : List Int} {u : List Int} (hu : okU u = true ∧ u.length = 65) (up : Up u V) : ∀ k : Nat, k ≤ 65 → CR (lw V) V (prN (inA n) u k) (Pk n k)
  | 0, _ => ⟨up, List.length_replicate, rfl, fun s hs => .inl ⟨by
      show (List.replicate 65 (0 : Int)).getD s 0 = 0
      rw [List.getD_eq_getElem?_getD, List.getElem?_replicate, if_pos hs]
      rfl, fun a ha => by cases ha⟩⟩
  | k + 1, hk => by
    have h := cr_all hl ok hu up (n := n) k (by omega)
    have hi := (pb_all (x := inA n) hu k (by omega)).2
    rw [pk_next]
    show CR _ _ (prT (inA n) (prN (inA n) u k)) _
    revert h hi
    generalize prN (inA n) u k = y
    obtain ⟨i, o, p, u'⟩ := y
    intro h hi
    have hi : i = (k : Int) := hi
    subst hi
    obtain ⟨r1, r2⟩ := lw_rng hl ok (k : Int)
    split
    · rename_i hb
      exact cr_step (fun _ => rfl) h hb r1 r2
    · rename_i hb
      have e : prT (inA n) ⟨(k : Int), o, p, u'⟩ = ⟨(k : Int) + 1, o, p, u'⟩ := by
        unfold prT
        simp only
        rw [if_neg (show ¬ rb ((inA n).getD (k : Int).toNat []) 0 = true from hb)]
      rw [e]
      exact ⟨h.up, h.pl, h.o, h.p⟩
theorem fo_mk : ∀ (L : List Int) (M : List E) (j : Nat), j < M.length → (rb ((L.foldl inSt M).getD j []) 0 = true ↔ rb (M.getD j []) 0 = true ∨ ∃ x ∈ L, x.toNat = j)
  | [], M, j, _ => ⟨.inl, fun h => h.elim id fun ⟨_, h, _⟩ => by cases h⟩
  | x :: L, M, j, hj => by
    rw [List.foldl_cons, fo_mk L (inSt M x) j (by unfold inSt; rw [List.length_set]; exact hj)]
    have e : rb ((inSt M x).getD j []) 0 = true ↔ rb (M.getD j []) 0 = true ∨ x.toNat = j := by
      unfold inSt
      by_cases h : x.toNat = j
      · rw [h, List.getD_eq_getElem?_getD, List.getElem?_set_self hj]
        exact ⟨fun _ => .inr rfl, fun _ => rfl⟩
      · rw [List.getD_eq_getElem?_getD, List.getElem?_set_ne h, ← List.getD_eq_getElem?_getD]
        exact ⟨.inl, fun g => g.resolve_right h⟩
    rw [e]
    constructor
    · rintro ((h | h) | ⟨y, hy, h⟩)
      · exact .inl h
      · exact .inr ⟨x, List.mem_cons_self, h⟩
      · exact .inr ⟨y, List.mem_cons_of_mem _ hy, h⟩
    · rintro (h | ⟨y, hy, h⟩)
      · exact .inl (.inl h)
      · rcases List.mem_cons.1 hy with rfl | hy
        · exact .inl (.inr h)
        · exact .inr ⟨y, hy, h⟩
theorem zer_no (j : Nat) (hj : j < 65) : rb (zer.getD j []) 0 = false := by
  rw [zer, List.getD_eq_getElem?_getD, List.getElem?_replicate, if_pos hj]
  rfl
theorem pa_is {n : List Int} {l : List E} {m : Int} {x : Int} : x ∈ paP n l m ↔ (1 ≤ x ∧ x ≤ 64) ∧ ask n x = true ∧ rb ((reaB l m).getD x.toNat []) 0 = true := by
  unfold paP
  rw [List.mem_filter, up_mem]
  unfold inPk ask
  rw [Bool.and_eq_true]
  exact Iff.rfl
theorem sp_all {f : Int → Int} {n : List Int} {l : List E} (h0 : ask n 0 = false) (hr : ∀ a b : Int, 1 ≤ a → a ≤ 64 → 1 ≤ b → b ≤ 64 → (rb ((reaB l a).getD b.toNat []) 0 = true ↔ f a = f b)) : ∀ k : Nat, k ≤ 64 →
    (paS n l k).1 = ((fsN f (Pk n (k + 1))).map fun a => [D.ints (paP n l a)]) ∧ ∀ j : Int, 1 ≤ j → j ≤ 64 → (rb ((paS n l k).2.getD j.toNat []) 0 = true ↔ ask n j = true ∧ ∃ a ∈ fsN f (Pk n (k + 1)), f a = f j)
  | 0, _ => by
    have e : Pk n 1 = [] := by
      have := pk_next n 0
      rw [show ((0 : Nat) : Int) = 0 from rfl, h0] at this
      rw [this]
      rfl
    rw [e]
    refine ⟨rfl, fun j h1 h2 => ⟨fun h => ?_, fun ⟨_, a, ha, _⟩ => by cases ha⟩⟩
    have h : rb (zer.getD j.toNat []) 0 = true := h
    rw [zer_no _ (by omega)] at h
    cases h
  | k + 1, hk => by
    obtain ⟨i1, i2⟩ := sp_all h0 hr k (by omega)
    have hl := (paS_len n l k).1
    have e9 : ((k + 1 : Nat) : Int) = (k : Int) + 1 := by omega
    have et : ((k : Int) + 1).toNat = k + 1 := by omega
    have i3 := i2 ((k : Int) + 1) (by omega) (by omega)
    rw [et] at i3
    have ea : ask n ((k : Int) + 1) = rb ((inA n).getD (k + 1) []) 0 := by unfold ask; rw [et]
    rw [pk_next n (k + 1), e9]
    unfold paS
    by_cases ha : ask n ((k : Int) + 1) = true
    · rw [if_pos ha, fs_snoc]
      unfold fsS
      by_cases hf : inF f (fsN f (Pk n (k + 1))) ((k : Int) + 1) = true
      · rw [if_pos hf, if_neg (fun q => q.2 (i3.2 ⟨ha, inF_iff.1 hf⟩))]
        exact ⟨i1, i2⟩
      · rw [if_neg hf, if_pos ⟨by rw [← ea]; exact ha, fun q => hf (inF_iff.2 (i3.1 q).2)⟩]
        refine ⟨by simp only; rw [i1, List.map_append]; rfl, fun j h1 h2 => ?_⟩
        simp only
        rw [fo_mk _ _ _ (by rw [hl]; omega), i2 j h1 h2]
        constructor
        · rintro (⟨g1, a, g2, g3⟩ | ⟨x, hx, e⟩)
          · exact ⟨g1, a, List.mem_append_left _ g2, g3⟩
          · obtain ⟨⟨x1, x2⟩, x3, x4⟩ := pa_is.1 hx
            have hxj : x = j := by omega
            subst hxj
            exact ⟨x3, _, List.mem_append_right _ (List.mem_singleton.2 rfl), (hr _ _ (by omega) (by omega) h1 h2).1 x4⟩
        · rintro ⟨g1, a, g2, g3⟩
          rcases List.mem_append.1 g2 with g2 | g2
          · exact .inl ⟨g1, a, g2, g3⟩
          · rw [List.mem_singleton.1 g2] at g3
            exact .inr ⟨j, pa_is.2 ⟨⟨h1, h2⟩, g1, (hr _ _ (by omega) (by omega) h1 h2).2 g3⟩, rfl⟩
    · rw [if_neg ha, if_neg (fun q => ha (by rw [ea]; exact q.1))]
      exact ⟨i1, i2⟩
theorem pk_up {n : List Int} (h0 : ask n 0 = false) : Pk n 65 = (upN 64).filter (ask n) := by
  unfold Pk upN
  rw [List.range_succ_eq_map, List.map_cons, List.filter_cons_of_neg (by rw [show ((0 : Nat) : Int) = 0 from rfl, h0]; decide), List.map_map]
  congr 1
theorem parts_same {n : List Int} {l : List E} (h0 : ask n 0 = false) (hl : ∀ y ∈ l, okT (trE y)) : paX (inA n) (jJ l).u = paO n l := by
  obtain ⟨V, v1, v2⟩ := fold_rel l j0_ok rel_0 hl
  rw [List.append_nil] at v2
  have v2 := rel_same v2 (d := l.map trE) (cn_same fun y => by rw [List.mem_reverse])
  have v1 : JOk V (jJ l) := v1
  have hlen : V.length = 65 := v2.len
  have hu : okU (jJ l).u = true ∧ (jJ l).u.length = 65 := ⟨jJ_u l, v1.2.up.len.trans hlen⟩
  have hr : ∀ a b : Int, 1 ≤ a → a ≤ 64 → 1 ≤ b → b ≤ 64 → (rb ((reaB l a).getD b.toNat []) 0 = true ↔ lw V a = lw V b) := fun a b a1 a2 b1 b2 => by
    rw [rea_iff hl ⟨a1, a2⟩ ⟨b1, b2⟩, ← v2.cn a b ⟨a1, a2⟩ ⟨b1, b2⟩, lw_nod hlen ⟨a1, a2⟩, lw_nod hlen ⟨b1, b2⟩]
  have c := (cr_all hlen v2.ok hu v1.2.up (n := n) 65 (Nat.le_refl _)).o
  have s := (sp_all (f := lw V) h0 hr 64 (Nat.le_refl _)).1
  show (prN (inA n) (jJ l).u 65).o = (paS n l 64).1
  rw [c, s]
  refine List.map_congr_left fun a ha => ?_
  have hm : a ∈ Pk n 65 := fs_mem ha
  rw [pk_up h0, List.mem_filter, up_mem] at hm
  have e : gp (lw V) (Pk n 65) a = paP n l a := by
    rw [pk_up h0]
    unfold gp paP
    rw [List.filter_filter]
    refine List.filter_congr fun b hb => ?_
    rw [up_mem] at hb
    have q := hr a b hm.1.1 (by omega) hb.1 (by omega)
    unfold inPk ask
    rw [Bool.eq_iff_iff, Bool.and_eq_true, Bool.and_eq_true, decide_eq_true_eq, q]
    exact ⟨fun h => ⟨h.2, h.1.symm⟩, fun h => ⟨h.2.symm, h.1⟩⟩
  rw [e]
theorem okS_nod : ∀ (n : List Int) (M : List E), okS n M = true → ∀ x ∈ n, 1 ≤ x ∧ x ≤ 64
  | [], _, _, _, hx => by cases hx
  | y :: n, M, h, x, hx => by
    have h : (decide (1 ≤ y ∧ y ≤ 64) && (!rb (M.getD y.toNat []) 0) && okS n (inSt M y)) = true := h
    rw [Bool.and_eq_true, Bool.and_eq_true, decide_eq_true_eq] at h
    rcases List.mem_cons.1 hx with rfl | hx
    · exact h.1.1
    · exact okS_nod n _ h.2 x hx
theorem ask_zero {n : List Int} (h : okS n zer = true) : ask n 0 = false := by
  rw [← Bool.not_eq_true]
  intro g
  unfold ask inA at g
  rcases (fo_mk n zer 0 (by rw [zer_len]; decide)).1 g with g | ⟨x, hx, g⟩
  · rw [zer_no 0 (by decide)] at g
    cases g
  · have := okS_nod n _ h x hx
    omega
theorem parts_eq {n : List Int} {l : List E} (h : okS n zer = true) (hl : allE l = 0) : rO n l = paO n l := by
  unfold rO
  rw [if_pos ⟨h, hl⟩]
  exact parts_same (ask_zero h) (ok_T (all_good hl))
end Go.Proofs.Ytakebkfhigadiaa.PaT
