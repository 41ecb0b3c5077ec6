/-
  links that tick: the code's and the answer's stay alike. No condition.
-/
import Derived.Test.YtgemoemkgcmcgaaLkS
namespace Go.Proofs.Ytgemoemkgcmcgaa.LkT
open Go Go.Proofs.Ytgemoemkgcmcgaa.Ry Go.Proofs.Ytgemoemkgcmcgaa.HaR Go.Proofs.Ytgemoemkgcmcgaa.SeR Go.Proofs.Ytgemoemkgcmcgaa.SeS Go.Proofs.Ytgemoemkgcmcgaa.SeT Go.Proofs.Ytgemoemkgcmcgaa.SeU Go.Proofs.Ytgemoemkgcmcgaa.SeL Go.Proofs.Ytgemoemkgcmcgaa.SeV Go.Proofs.Ytgemoemkgcmcgaa.LiR Go.Proofs.Ytgemoemkgcmcgaa.LiQ Go.Proofs.Ytgemoemkgcmcgaa.LiS Go.Proofs.Ytgemoemkgcmcgaa.LkR Go.Proofs.Ytgemoemkgcmcgaa.LkQ Go.Proofs.Ytgemoemkgcmcgaa.LkS

theorem prF_df {c n : Int} {l l' : List E} (h : prN l = prN l') : prF (dfL c n l) = prF (dfL c n l') := by
  have e : ∀ l : List E, prF (dfL c n l) = (prN l).map fun p => ((3 : Int), c, p.1, n, p.2) := fun l => by
    unfold prF dfL prN
    rw [List.map_map, List.map_map]
    rfl
  rw [e, e, h]
structure TwoL (x y : LN) : Prop where
  m1 : mayL x = true
  m2 : mayL y = true
  s : smL x y = true
  b1 : byS x.q = true
  b2 : byS y.q = true
theorem bg_eq {x y : LN} (h : smL x y = true) : bgL x = bgL y := by
  obtain ⟨h1, h2, h3, h4, _⟩ := smL_iff h
  unfold bgL
  rw [h1, h2, h3, h4]
theorem op_eq {x y : LN} (h : smL x y = true) : opL x = opL y := by
  unfold opL
  rw [(smL_iff h).2.1]
theorem tik2 {x y : LN} {n : Int} (h : TwoL x y) (hl : limitB n = true) : Al (tikL x n) (rtikL y) ∧ mayL (tikL x n).x = true ∧ mayL (rtikL y).x = true ∧ (tikL x n).x.c = x.c := by
  have hm1 := may_tik h.b1 h.m1 hl
  have hm2 := may_rtik h.b2 h.m2
  by_cases g : opL x = true
  · have g2 : opL y = true := by rw [← op_eq h.s]; exact g
    have hx := may_L h.m1
    have hy := may_L h.m2
    obtain ⟨e1, e2, e3, e4, e5, e6, e7, e8, e9, e10⟩ := smL_iff h.s
    have h2 := two_tick ⟨hx.2.1, hy.2.1, e7, e8, e9, e10, h.b1, h.b2⟩
    have t1 : tikL x n = ⟨sndL x (tkS x.b x.s x.q x.t), ⟨dfL x.c x.n (tkN x.b x.s x.q x.t), [], false, 0⟩, 0⟩ := by
      unfold tikL
      rw [if_pos ⟨h.m1, hl⟩, if_pos g]
    have t2 : rtikL y = ⟨sndL y (rtkS y.b y.s y.q y.t), ⟨dfL y.c y.n (tkN y.b y.s y.q y.t), [], false, 0⟩, 0⟩ := by
      unfold rtikL
      rw [if_neg (by rw [op_p h.m2 g2]; decide)]
    rw [t2] at hm2 ⊢
    rw [t1] at hm1 ⊢
    refine ⟨⟨rfl, sm_of e1 e2 e3 e4 e5 e6 h2.2.2.2.2.1, ?_, h2.2.2.2.2.2.y, h2.2.2.2.2.2.y', ?_, ?_⟩, hm1, hm2, rfl⟩
    · refine decide_eq_true ⟨rfl, rfl, ?_, rfl⟩
      simp only
      rw [e2, e5]
      exact prF_df (of_decide_eq_true h2.2.2.2.1)
    · simp only [nwB, Bool.and_eq_true]
      exact ⟨by_df h2.2.1, rfl⟩
    · simp only [nwB, Bool.and_eq_true]
      exact ⟨by_df h2.2.2.1, rfl⟩
  · have g : opL x = false := by simpa using g
    have g2 : opL y = false := by rw [← op_eq h.s]; exact g
    have e : x = y := (shut h.m1 g).trans ((bg_eq h.s).trans (shut h.m2 g2).symm)
    subst e
    refine ⟨tik_same h.b1 h.m1 hl, hm1, hm2, ?_⟩
    unfold tikL
    rw [if_pos ⟨h.m1, hl⟩, if_neg (by rw [g]; decide)]
    rfl
theorem may_new {l n : Int} (h0 : 0 ≤ l) (h1 : l ≤ 2147483647) (hl : limitB n = true) : mayH (newF l n).l (newF l n).c (newF l n).p (newF l n).o = true := by
  have hl2 : 1 ≤ n ∧ n ≤ 2147483647 := by
    simpa [limitB] using hl
  unfold newF newH
  rw [if_pos ⟨h0, h1, hl⟩]
  split
  · simp [mayH, overB, h0, h1]
  · simp only [mayH, openB, openingB, overB, Bool.and_eq_true, Bool.or_eq_true, decide_eq_true_eq, beq_iff_eq, Bool.not_eq_true']
    refine ⟨⟨h0, h1⟩, .inl (.inr ⟨⟨⟨trivial, by omega⟩, by omega⟩, trivial⟩)⟩
theorem clo2 {x y : LN} {n : Int} (h : TwoL x y) (ho : opL x = true) (hl : limitB n = true) : Al (cloL x n) (rcloL y n) ∧ mayL (cloL x n).x = true ∧ mayL (rcloL y n).x = true ∧ (rcloL y n).y.d = true ∧ opL (cloL x n).x = false := by
  have hx := may_L h.m1
  obtain ⟨e1, e2, e3, e4, _⟩ := smL_iff h.s
  have hne := op_ne ho
  have hc := may_c h.m1
  have hcl : closeF x.l x.c x.p x.o n = newH x.l n ∧ closeH y.l y.c y.p y.o n = newH x.l n := by
    unfold closeF closeH
    rw [if_pos ⟨hx.1, hl⟩, if_pos (by omega), if_pos (by omega), e1]
    exact ⟨rfl, rfl⟩
  have hl0 : 0 ≤ x.l ∧ x.l ≤ 2147483647 := by
    have h1 := hx.1
    simp only [mayH, Bool.and_eq_true, decide_eq_true_eq] at h1
    exact h1.1
  have hmn := may_new hl0.1 hl0.2 hl
  have hnf : newF x.l n = newH x.l n := by
    unfold newF
    exact if_pos ⟨hl0.1, hl0.2, hl⟩
  rw [hnf] at hmn
  have t1 : cloL x n = ⟨⟨(newH x.l n).l, (newH x.l n).c, (newH x.l n).p, (newH x.l n).o, 0, 0, [], 0, 0, false⟩, ⟨[], [], true, 0⟩, 0⟩ := by
    unfold cloL
    rw [if_pos ⟨h.m1, hl⟩, if_pos ho, hcl.1]
  have t2 : rcloL y n = ⟨⟨(newH x.l n).l, (newH x.l n).c, (newH x.l n).p, (newH x.l n).o, 0, 0, [], 0, 0, false⟩, ⟨[], [], true, 0⟩, 0⟩ := by
    unfold rcloL
    rw [if_neg (by rw [← e2]; exact hne), hcl.2]
  have h0 : (newH x.l n).c = 0 := by
    unfold newH
    split <;> rfl
  have hmm : mayL ⟨(newH x.l n).l, (newH x.l n).c, (newH x.l n).p, (newH x.l n).o, 0, 0, [], 0, 0, false⟩ = true := by
    unfold mayL
    rw [hmn]
    simp only [Bool.true_and, Bool.and_eq_true, Bool.or_eq_true]
    exact ⟨⟨rfl, rfl⟩, .inr (sm_refl _)⟩
  rw [t1, t2]
  refine ⟨⟨rfl, sm_refl _, nw_self _, rfl, rfl, rfl, rfl⟩, hmm, hmm, rfl, ?_⟩
  unfold opL
  rw [h0]
  rfl
structure TwoK (a c : KN) : Prop where
  m1 : mayK a = true
  m2 : mayK c = true
  s : smK a c = true
  b1 : byS a.x.q = true
  b2 : byS c.x.q = true
theorem may_mk {h g u v : Int} {x : LN} (h1 : 1 ≤ h ∧ h ≤ 64) (h2 : 0 ≤ g ∧ g ≤ 2147483647) (hx : mayL x = true) (hb : 0 ≤ u ∧ u ≤ 5 ∧ 0 ≤ v ∧ v ≤ 1) (ho : opL x = true ∨ u = 0 ∧ v = 0) : mayK ⟨h, g, x, u, v⟩ = true := by
  unfold mayK wtB bmB
  simp only [hx, Bool.and_eq_true, Bool.or_eq_true, decide_eq_true_eq]
  exact ⟨⟨⟨⟨h1, h2⟩, trivial⟩, hb⟩, ho⟩
theorem tikK_bad {k : KN} {n : Int} (h : ¬ (mayK k = true ∧ limitB n = true)) : tikK k n = ⟨zK, zN, 1⟩ := by
  unfold tikK
  rw [if_neg h]
theorem tikK2 {a c : KN} {n : Int} (h : TwoK a c) (hl : limitB n = true) : AlK (tikK a n) (rtikK c n) ∧ TwoK (tikK a n).k (rtikK c n).k := by
  have hk := may_K h.m1
  obtain ⟨s1, s2, s3, s4, s5⟩ := smK_iff h.s
  have hk2 := may_K h.m2
  have ht : TwoL a.x c.x := ⟨hk.2.2.2.2.1, hk2.2.2.2.2.1, s5, h.b1, h.b2⟩
  obtain ⟨t1, t2, t3, t4⟩ := tik2 ht hl
  have hcc := (smL_iff t1.s).2.1
  have hop : opL (tikL a.x n).x = opL a.x := by
    unfold opL
    rw [t4]
  have htt : TwoL (tikL a.x n).x (rtikL c.x).x := ⟨t2, t3, t1.s, t1.b1, t1.b2⟩
  unfold tikK rtikK
  rw [if_pos ⟨h.m1, hl⟩, ← s3, ← s4]
  by_cases g : opL (tikL a.x n).x = true
  · have gc : ¬ (rtikL c.x).x.c = 0 := by
      rw [← hcc]
      exact op_ne g
    rw [if_pos g, if_neg gc]
    by_cases g5 : a.u = 5
    · rw [if_pos g5, if_pos g5]
      obtain ⟨c1, c2, c3, c4, c5⟩ := clo2 htt g hl
      have hmk : mayK ⟨a.h, a.g, (tikL a.x n).x, a.u, a.v⟩ = true := may_mk ⟨hk.1, hk.2.1⟩ ⟨hk.2.2.1, hk.2.2.2.1⟩ t2 ⟨hk.2.2.2.2.2.1, hk.2.2.2.2.2.2.1, hk.2.2.2.2.2.2.2.1, hk.2.2.2.2.2.2.2.2.1⟩ (.inl g)
      unfold cloK rcloK
      rw [if_pos ⟨hmk, hl⟩]
      simp only [c4, if_true]
      have hs : smK ⟨a.h, a.g, (cloL (tikL a.x n).x n).x, 0, 0⟩ ⟨c.h, c.g, (rcloL (rtikL c.x).x n).x, 0, 0⟩ = true := smK_of s1 s2 rfl rfl c1.s
      exact ⟨⟨rfl, hs, c1.n, c1.b1, c1.b2, c1.n1, c1.n2⟩, ⟨may_mk ⟨hk.1, hk.2.1⟩ ⟨hk.2.2.1, hk.2.2.2.1⟩ c2 ⟨by decide, by decide, by decide, by decide⟩ (.inr ⟨rfl, rfl⟩), may_mk ⟨hk2.1, hk2.2.1⟩ ⟨hk2.2.2.1, hk2.2.2.2.1⟩ c3 ⟨by decide, by decide, by decide, by decide⟩ (.inr ⟨rfl, rfl⟩), hs, c1.b1, c1.b2⟩⟩
    · rw [if_neg g5, if_neg g5]
      have hs : ∀ v, smK ⟨a.h, a.g, (tikL a.x n).x, a.u + 1, v⟩ ⟨c.h, c.g, (rtikL c.x).x, a.u + 1, v⟩ = true := fun v => smK_of s1 s2 rfl rfl t1.s
      obtain ⟨n1, n2, n3, n4⟩ := nw_iff t1.n
      have hv : 0 ≤ (if a.v = 1 then 0 else a.v + 1) ∧ (if a.v = 1 then 0 else a.v + 1) ≤ 1 := by
        have := hk.2.2.2.2.2.2.2
        split <;> omega
      have hu := hk.2.2.2.2.2
      have gc2 : opL (rtikL c.x).x = true := by
        rw [← op_eq t1.s]
        exact g
      have q1 := t1.n1
      have q2 := t1.n2
      simp only [nwB, Bool.and_eq_true] at q1 q2
      have b5 : ∀ p r : Int, byF [[D.int 5, D.int p, D.int 0, D.int r, D.ints []]] = true := fun p r => by_F1 (fun _ h => by cases h)
      have hln : (tikL a.x n).y.f.length ≤ 16 := by
        unfold tikL
        rw [if_pos ⟨ht.m1, hl⟩]
        split
        · simp only
          rw [df_len]
          unfold tkN
          repeat' split
          · simp
          · simp
          · simp
          · rw [nus_len]
            have := may_ok (may_L ht.m1).2.1
            omega
        · simp only
          split <;> simp
      have hln2 : (rtikL c.x).y.f.length = (tikL a.x n).y.f.length := by
        have := congrArg List.length n3
        simpa [prF] using this.symm
      refine ⟨⟨rfl, hs _, ?_, t1.b1, t1.b2, ?_, ?_⟩, ⟨may_mk ⟨hk.1, hk.2.1⟩ ⟨hk.2.2.1, hk.2.2.2.1⟩ t2 ⟨by omega, by omega, hv.1, hv.2⟩ (.inl g), may_mk ⟨hk2.1, hk2.2.1⟩ ⟨hk2.2.2.1, hk2.2.2.2.1⟩ t3 ⟨by omega, by omega, hv.1, hv.2⟩ (.inl gc2), hs _, t1.b1, t1.b2⟩⟩
      · refine decide_eq_true ⟨n1, n2, ?_, n4⟩
        have ew := (smL_iff t1.s).2.2.2.2.1
        simp only
        split
        · unfold prF at n3 ⊢
          rw [List.map_append, List.map_append, n3, hcc, ew]
        · exact n3
      · simp only [nwB, Bool.and_eq_true]
        refine ⟨?_, q1.2⟩
        split
        · exact by_F q1.1 (b5 _ _) (by simp; omega)
        · exact q1.1
      · simp only [nwB, Bool.and_eq_true]
        refine ⟨?_, q2.2⟩
        split
        · exact by_F q2.1 (b5 _ _) (by simp; omega)
        · exact q2.1
  · have g : opL (tikL a.x n).x = false := by simpa using g
    have gc : (rtikL c.x).x.c = 0 := by
      rw [← hcc]
      unfold opL at g
      simpa using g
    rw [if_neg (by rw [g]; decide), if_pos gc]
    have huv : a.u = 0 ∧ a.v = 0 := by
      rcases hk.2.2.2.2.2.2.2.2.2 with w | w
      · rw [← hop, g] at w
        cases w
      · exact w
    have hs : smK ⟨a.h, a.g, (tikL a.x n).x, a.u, a.v⟩ ⟨c.h, c.g, (rtikL c.x).x, a.u, a.v⟩ = true := smK_of s1 s2 rfl rfl t1.s
    exact ⟨⟨rfl, hs, t1.n, t1.b1, t1.b2, t1.n1, t1.n2⟩, ⟨may_mk ⟨hk.1, hk.2.1⟩ ⟨hk.2.2.1, hk.2.2.2.1⟩ t2 ⟨by omega, by omega, by omega, by omega⟩ (.inr huv), may_mk ⟨hk2.1, hk2.2.1⟩ ⟨hk2.2.2.1, hk2.2.2.2.1⟩ t3 ⟨by omega, by omega, by omega, by omega⟩ (.inr huv), hs, t1.b1, t1.b2⟩⟩

structure Ws2 where
  l : Unit
def Ws2.std : Ws2 := ⟨()⟩
end Go.Proofs.Ytgemoemkgcmcgaa.LkT
