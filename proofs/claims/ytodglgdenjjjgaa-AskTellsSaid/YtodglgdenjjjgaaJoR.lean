
/-
  joins over the reckoner. No condition.
-/
import Derived.Test.YtodglgdenjjjgaaJoS
import Derived.Test.YtodglgdenjjjgaaRyOp
namespace Go.Proofs.Ytodglgdenjjjgaa.JoR
open Go Go.Proofs.Ytodglgdenjjjgaa.Ry Go.Proofs.Ytodglgdenjjjgaa.JoS

def Va (u : List Int) : Prop := ∀ i : Int, 1 ≤ i → i < u.length → 1 ≤ ix u i ∧ ix u i ≤ i
def okU (u : List Int) : Bool := decide (1 ≤ u.length ∧ u.length ≤ 5000) && (List.range u.length).all fun i : Nat => decide (i = 0) || decide (1 ≤ ix u i ∧ ix u i ≤ i)
theorem okU_iff {u : List Int} : okU u = true ↔ (1 ≤ u.length ∧ u.length ≤ 5000) ∧ Va u := by
  unfold okU Va
  simp only [Bool.and_eq_true, decide_eq_true_eq, List.all_eq_true, Bool.or_eq_true, List.mem_range]
  refine and_congr_right fun _ => ⟨fun h i h1 h2 => ?_, fun h i hi => ?_⟩
  · have := h i.toNat (by omega)
    have e : ((i.toNat : Nat) : Int) = i := by omega
    rw [e] at this
    omega
  · by_cases h0 : i = 0
    · exact .inl h0
    · exact .inr (h i (by omega) (by omega))
theorem va_two {u : List Int} (h : Va u) {a : Int} (h1 : 1 ≤ a) (h2 : a < u.length) (hne : ix u a ≠ a) : 1 ≤ ix u (ix u a) ∧ ix u (ix u a) < a ∧ Va (u.set a.toNat (ix u (ix u a))) := by
  obtain ⟨l1, l2⟩ := h a h1 h2
  obtain ⟨l3, l4⟩ := h (ix u a) l1 (by omega)
  refine ⟨l3, by omega, fun i i1 i2 => ?_⟩
  rw [List.length_set] at i2
  rw [ix_set _ _ _ _ (by omega) (by omega) h2]
  split
  · omega
  · exact h i i1 i2
def lsA : Nat → List Int → Int → Int
  | 0, _, a => a
  | k + 1, u, a => if ix u a = a then a else lsA k (u.set a.toNat (ix u (ix u a))) (ix u (ix u a))
theorem ls_same : ∀ (k j : Nat) (u : List Int) (a : Int), Va u → 1 ≤ a → a < u.length → a ≤ k → a ≤ j → lsN k u a = lsN j u a ∧ lsA k u a = lsA j u a
  | 0, _, _, _, _, h1, _, h3, _ => by omega
  | _, 0, _, _, _, h1, _, _, h4 => by omega
  | k + 1, j + 1, u, a, h, h1, h2, h3, h4 => by
    unfold lsN lsA
    split
    · exact ⟨rfl, rfl⟩
    · rename_i hne
      obtain ⟨q1, q2, q4⟩ := va_two h h1 h2 hne
      exact ls_same k j _ _ q4 q1 (by rw [List.length_set]; omega) (by omega) (by omega)
theorem ls_va : ∀ (k : Nat) (u : List Int) (a : Int), Va u → 1 ≤ a → a < u.length → Va (lsN k u a) ∧ (lsN k u a).length = u.length
  | 0, _, _, h, _, _ => ⟨h, rfl⟩
  | k + 1, u, a, h, h1, h2 => by
    unfold lsN
    split
    · exact ⟨h, rfl⟩
    · rename_i hne
      obtain ⟨q1, q2, q4⟩ := va_two h h1 h2 hne
      have := ls_va k _ _ q4 q1 (by rw [List.length_set]; omega)
      rw [List.length_set] at this
      exact this
theorem ls_le : ∀ (k : Nat) (u : List Int) (a : Int), Va u → 1 ≤ a → a < u.length → 1 ≤ lsA k u a ∧ lsA k u a ≤ a
  | 0, _, _, _, h1, _ => ⟨h1, Int.le_refl _⟩
  | k + 1, u, a, h, h1, h2 => by
    unfold lsA
    split
    · exact ⟨h1, Int.le_refl _⟩
    · rename_i hne
      obtain ⟨q1, q2, q4⟩ := va_two h h1 h2 hne
      have := ls_le k _ _ q4 q1 (by rw [List.length_set]; omega)
      omega
def hasB (u : List Int) (a : Int) : Bool := decide (1 ≤ a ∧ a < u.length)
def lstI (u : List Int) (a : Int) : Int := if hasB u a = true then lsA a.toNat u a else 0
def lstU (u : List Int) (a : Int) : List Int := if hasB u a = true then lsN a.toNat u a else u
theorem lst_ok {u : List Int} (a : Int) (h : okU u = true) : okU (lstU u a) = true ∧ (lstU u a).length = u.length ∧ 0 ≤ lstI u a ∧ lstI u a < u.length := by
  obtain ⟨h1, h2⟩ := okU_iff.1 h
  unfold lstU lstI
  split
  · rename_i hb
    have hb := of_decide_eq_true hb
    obtain ⟨k1, k2⟩ := ls_va a.toNat u a h2 hb.1 hb.2
    have := ls_le a.toNat u a h2 hb.1 hb.2
    exact ⟨okU_iff.2 ⟨by omega, k1⟩, k2, by omega, by omega⟩
  · exact ⟨h, rfl, by omega, by omega⟩
def unX (u : List Int) (a _b : Int) : Int := lstI u a
def unY (u : List Int) (a b : Int) : Int := lstI (lstU u a) b
def unW (u : List Int) (a b : Int) : List Int := lstU (lstU u a) b
def unB (u : List Int) (a b : Int) : Bool := decide (unX u a b ≠ 0 ∧ unY u a b ≠ 0 ∧ unX u a b ≠ unY u a b)
def unLo (u : List Int) (a b : Int) : Int := if unY u a b < unX u a b then unY u a b else unX u a b
def unHi (u : List Int) (a b : Int) : Int := if unX u a b < unY u a b then unY u a b else unX u a b
def unU (u : List Int) (a b : Int) : List Int := if unB u a b = true then (unW u a b).set (unHi u a b).toNat (unLo u a b) else unW u a b
def unZ (u z : List Int) (a b : Int) : List Int := if unB u a b = true then z.set (unLo u a b).toNat (stdBin .add .i64 (ix z (unLo u a b)) (ix z (unHi u a b))) else z
def unS (u : List Int) (s : Int) (a b : Int) : Int := if unB u a b = true then stdBin .sub .i64 s 1 else s
def okZ (u z : List Int) : Bool := okU u && decide (z.length = u.length)
def szI (u z : List Int) (a : Int) : Int := if lstI u a = 0 then 0 else ix z (lstI u a)
structure XL where
  u : List Int
  a : Int
def leQ (u0 : List Int) (a0 : Int) (y : XL) : Prop := Va y.u ∧ y.u.length = u0.length ∧ 1 ≤ y.a ∧ y.a < u0.length ∧ lsN y.a.toNat y.u y.a = lsN a0.toNat u0 a0 ∧ lsA y.a.toNat y.u y.a = lsA a0.toNat u0 a0
theorem lsN_s (k : Nat) (u : List Int) (a : Int) : lsN (k + 1) u a = if ix u a = a then u else lsN k (u.set a.toNat (ix u (ix u a))) (ix u (ix u a)) := rfl
theorem lsA_s (k : Nat) (u : List Int) (a : Int) : lsA (k + 1) u a = if ix u a = a then a else lsA k (u.set a.toNat (ix u (ix u a))) (ix u (ix u a)) := rfl
def leM (y : XL) : Nat := y.a.toNat
theorem le_step {u0 : List Int} {a0 : Int} {u : List Int} {a : Int} (h : leQ u0 a0 ⟨u, a⟩) : (¬ ix u a = a → leQ u0 a0 ⟨u.set a.toNat (ix u (ix u a)), ix u (ix u a)⟩ ∧ ix u (ix u a) < a ∧ ix (u.set a.toNat (ix u (ix u a))) a = ix u (ix u a)) ∧ (ix u a = a → u = lsN a0.toNat u0 a0 ∧ a = lsA a0.toNat u0 a0) ∧ 0 ≤ ix u a ∧ ix u a < u.length ∧ 0 ≤ ix u (ix u a) ∧ ix u (ix u a) < u.length := by
  obtain ⟨h1, h2, h3, h4, h5, h6⟩ := h
  simp only at h1 h2 h3 h4 h5 h6
  have l1 := h1 a h3 (by omega)
  have l2 := h1 (ix u a) l1.1 (by omega)
  refine ⟨fun hne => ?_, fun he => ?_, by omega, by omega, by omega, by omega⟩
  · obtain ⟨q1, q2, q4⟩ := va_two h1 h3 (by omega) hne
    have e : a.toNat = (a.toNat - 1) + 1 := by omega
    have f5 : lsN a.toNat u a = lsN (a.toNat - 1) (u.set a.toNat (ix u (ix u a))) (ix u (ix u a)) := by
      have h := lsN_s (a.toNat - 1) u a
      rw [← e, if_neg hne] at h
      exact h
    have f6 : lsA a.toNat u a = lsA (a.toNat - 1) (u.set a.toNat (ix u (ix u a))) (ix u (ix u a)) := by
      have h := lsA_s (a.toNat - 1) u a
      rw [← e, if_neg hne] at h
      exact h
    have g := ls_same (ix u (ix u a)).toNat (a.toNat - 1) (u.set a.toNat (ix u (ix u a))) (ix u (ix u a)) q4 q1 (by rw [List.length_set]; omega) (by omega) (by omega)
    refine ⟨⟨q4, by simp only [List.length_set]; exact h2, q1, by simp only; omega, ?_, ?_⟩, q2, ?_⟩
    · exact (g.1.trans f5.symm).trans h5
    · exact (g.2.trans f6.symm).trans h6
    · rw [ix_set _ _ _ _ (by omega) (by omega) (by omega)]
      simp
  · have e : a.toNat = (a.toNat - 1) + 1 := by omega
    have g5 := lsN_s (a.toNat - 1) u a
    have g6 := lsA_s (a.toNat - 1) u a
    rw [← e, if_pos he] at g5 g6
    exact ⟨g5.symm.trans h5, g6.symm.trans h6⟩

noncomputable def leI (s : Int) (z : List Int) (y : XL) : St := stOf Try.f83.ntmps [(0, .ptr 1 0), (1, .val (.int .i64 y.a))] [(1, .cells 133 [.own 2, .own 3, .val (.int .i64 s)]), (2, .row 3 (.ints .i64 y.u)), (3, .row 3 (.ints .i64 z))] [.one (.ptr 1 0), Any]
def leR (st : St) : XL := ⟨valL st.heap (cellC st 0 0), slotI st 1⟩

structure Fs where
  j_ok : List Int → Bool
  j_okz : List Int → List Int → Bool
  j_I : List Int → Int → Int
  j_U : List Int → Int → List Int
  j_B : List Int → Int → Int → Bool
  j_uU : List Int → Int → Int → List Int
  j_uZ : List Int → List Int → Int → Int → List Int
  j_uS : List Int → Int → Int → Int → Int
  j_sz : List Int → List Int → Int → Int
def Fs.std : Fs := ⟨okU, okZ, lstI, lstU, unB, unU, unZ, unS, szI⟩

def c_least (F : Fs) : Con := fun xs h => match xs, h with
  | [.one (.ptr 0 0), .one (.val (.int .i64 a))], [(0, .cells 133 [.own 1, .own 2, .val (.int .i64 s)]), (1, .row 3 (.ints .i64 u)), (2, .row 3 (.ints .i64 z))] => some ⟨F.j_ok u = true, .sa (I (F.j_I u a)), [(0, .cells 133 [.own 1, .own 2, .val (.int .i64 s)]), (1, .row 3 (.ints .i64 (F.j_U u a))), (2, .row 3 (.ints .i64 z))], [.one (.ptr 0 0), Any]⟩
  | _, _ => none
set_option maxHeartbeats 1000000 in
set_option maxRecDepth 100000 in
theorem x_least (a : Int) (s : Int) (u : List Int) (z : List Int) (hC : Fs.std.j_ok u = true) : Does [] Try.f83 [.one (.ptr 0 0), .one (.val (.int .i64 a))] [(0, .cells 133 [.own 1, .own 2, .val (.int .i64 s)]), (1, .row 3 (.ints .i64 u)), (2, .row 3 (.ints .i64 z))] ⟨Fs.std.j_ok u = true, .sa (I (Fs.std.j_I u a)), [(0, .cells 133 [.own 1, .own 2, .val (.int .i64 s)]), (1, .row 3 (.ints .i64 (Fs.std.j_U u a))), (2, .row 3 (.ints .i64 z))], [.one (.ptr 0 0), Any]⟩ := by
  intro b gv
  have hk := okU_iff.1 (show okU u = true from hC)
  have hfs := FsOk.nil
  generalize hF : Fs.std = F at hC hfs ⊢
  generalize hA : Ar.std = A
  generalize hL : Lp _ _ _ = L
  obtain ⟨Z, zq⟩ := z_all
  refine cd_open (lp_mono hL) zq rfl ?_
  repeat' (first
    | (refine z_open zq ?_; try dsimp only)
    | refine cd_seq zq ?_ (lp_mono hL)
    | refine cd_blk zq ?_
    | refine cd_ret ?_
    | refine cd_skip ?_
    | refine cd_exit ?_
    | refine cd_loop ?_
    | refine cd_cond rfl ?_
    | refine cd_condT rfl ?_
    | refine cd_condF rfl ?_
    | (refine Cd.mk ?_; cbv)
    | (refine Ends1.mk ?_; cbv)
    | (refine Fin1.mk ?_; cbv)
    | exact trivial
    | refine And.intro ?_ ?_
    | refine orf fun _ => ?_
    | refine ort fun _ => ?_)
  all_goals first | (show L _ _ _; skip) | (clear hfs hL zq Z; subst hF hA; simp only [Fs.std, Ar.std] at * <;> grind [stdCmp, lstI, lstU, hasB])
  rename_i hx
  have hb : 1 ≤ a ∧ a < u.length := by
    clear hfs hL zq Z
    subst hF hA
    simp only [Ar.std] at hx
    grind [stdCmp]
  have hu : lstU u a = lsN a.toNat u a ∧ lstI u a = lsA a.toNat u a := by
    have : hasB u a = true := decide_eq_true hb
    unfold lstU lstI
    rw [if_pos this, if_pos this]
    exact ⟨rfl, rfl⟩
  subst hL
  refine loop_z (cx_ok hfs) (leQ u a) (leI s z) leM leR ⟨u, a⟩ ?_ ?_ ?_
  · exact ⟨hk.2, rfl, hb.1, hb.2, rfl, rfl⟩
  · cbv
    repeat' (first | exact trivial | exact rfl | refine And.intro ?_ ?_)
  rintro ⟨v, c⟩ hq O hO
  have hst := le_step hq
  have hq2 := hq.2.1
  have hq3 := hq.2.2.1
  have hq4 := hq.2.2.2.1
  simp only at hq2 hq3 hq4
  subst hA
  generalize hA : Ar.std = A
  generalize hL : Lp _ _ _ = L
  refine cd_close zq ?_
  repeat' (first
    | (refine z_open zq ?_; try dsimp only)
    | refine cd_seq zq ?_ (lp_mono hL)
    | refine cd_blk zq ?_
    | refine cd_ret ?_
    | refine cd_skip ?_
    | refine cd_exit ?_
    | refine cd_loop ?_
    | refine cd_cond rfl ?_
    | refine cd_condT rfl ?_
    | refine cd_condF rfl ?_
    | (refine Cd.mk ?_; cbv)
    | (refine Ends1.mk ?_; cbv)
    | (refine Fin1.mk ?_; cbv)
    | exact trivial
    | refine And.intro ?_ ?_
    | refine orf fun _ => ?_
    | refine ort fun _ => ?_)
  all_goals (clear hL hfs zq Z; subst hA hF hO; simp only [Fs.std, Ar.std] at * <;> grind [stdCmp, leM])
theorem ok_least : ConOk Try.prog 83 (c_least Fs.std) := by
  refine con_of FsOk.nil Try.func83 rfl rfl fun xs h p hp => ?_
  unfold c_least at hp
  split at hp
  · cases hp
    exact ⟨lee_le rfl, fun hC _ => x_least _ _ _ _ hC⟩
  · cases hp

def c_unite (F : Fs) : Con := fun xs h => match xs, h with
  | [.one (.ptr 0 0), .one (.val (.int .i64 a)), .one (.val (.int .i64 d))], [(0, .cells 133 [.own 1, .own 2, .val (.int .i64 s)]), (1, .row 3 (.ints .i64 u)), (2, .row 3 (.ints .i64 z))] => some ⟨F.j_okz u z = true, .sa (B (F.j_B u a d)), [(0, .cells 133 [.own 1, .own 2, .val (.int .i64 (F.j_uS u s a d))]), (1, .row 3 (.ints .i64 (F.j_uU u a d))), (2, .row 3 (.ints .i64 (F.j_uZ u z a d)))], [.one (.ptr 0 0), Any, Any]⟩
  | _, _ => none
set_option maxHeartbeats 2000000 in
set_option maxRecDepth 100000 in
theorem x_unite (a : Int) (d : Int) (s : Int) (u : List Int) (z : List Int) (hC : Fs.std.j_okz u z = true) : Does [(83, c_least Fs.std)] Try.f69 [.one (.ptr 0 0), .one (.val (.int .i64 a)), .one (.val (.int .i64 d))] [(0, .cells 133 [.own 1, .own 2, .val (.int .i64 s)]), (1, .row 3 (.ints .i64 u)), (2, .row 3 (.ints .i64 z))] ⟨Fs.std.j_okz u z = true, .sa (B (Fs.std.j_B u a d)), [(0, .cells 133 [.own 1, .own 2, .val (.int .i64 (Fs.std.j_uS u s a d))]), (1, .row 3 (.ints .i64 (Fs.std.j_uU u a d))), (2, .row 3 (.ints .i64 (Fs.std.j_uZ u z a d)))], [.one (.ptr 0 0), Any, Any]⟩ := by
  intro b gv
  have hk : okU u = true ∧ z.length = u.length := by
    have h : okZ u z = true := hC
    simpa [okZ] using h
  have k1 := lst_ok a hk.1
  have k2 := lst_ok d k1.1
  have hfs := (FsOk.cons ok_least FsOk.nil rfl)
  generalize hF : Fs.std = F at hC hfs ⊢
  generalize hA : Ar.std = A
  generalize hL : Lp _ _ _ = L
  obtain ⟨Z, zq⟩ := z_all
  refine cd_open (lp_mono hL) zq rfl ?_
  repeat' (first
    | (refine z_open zq ?_; try dsimp only)
    | refine cd_seq zq ?_ (lp_mono hL)
    | refine cd_blk zq ?_
    | refine cd_ret ?_
    | refine cd_skip ?_
    | refine cd_exit ?_
    | refine cd_loop ?_
    | refine cd_cond rfl ?_
    | refine cd_condT rfl ?_
    | refine cd_condF rfl ?_
    | (refine Cd.mk ?_; cbv)
    | (refine Ends1.mk ?_; cbv)
    | (refine Fin1.mk ?_; cbv)
    | exact trivial
    | refine And.intro ?_ ?_
    | refine orf fun _ => ?_
    | refine ort fun _ => ?_)
  all_goals
    clear hL zq Z hfs
    subst hF hA
    simp only [Fs.std, Ar.std] at *
    try (grind [stdCmp, unB, unX, unY, unLo, unHi, unU, unZ, unS, unW])
theorem ok_unite : ConOk Try.prog 69 (c_unite Fs.std) := by
  refine con_of (FsOk.cons ok_least FsOk.nil rfl) Try.func69 rfl rfl fun xs h p hp => ?_
  unfold c_unite at hp
  split at hp
  · cases hp
    exact ⟨lee_le rfl, fun hC _ => x_unite _ _ _ _ _ hC⟩
  · cases hp

def c_sets (_ : Fs) : Con := fun xs h => match xs, h with
  | [.one (.ptr 0 0)], [(0, .cells 133 [.own 1, .own 2, .val (.int .i64 s)]), (1, .row 3 (.ints .i64 u)), (2, .row 3 (.ints .i64 z))] => some ⟨True, .sa (I s), [(0, .cells 133 [.own 1, .own 2, .val (.int .i64 s)]), (1, .row 3 (.ints .i64 u)), (2, .row 3 (.ints .i64 z))], [.one (.ptr 0 0)]⟩
  | _, _ => none
theorem kp_sets : Keeps (c_sets Fs.std) := by
  intro xs h p hp
  unfold c_sets at hp
  split at hp
  · cases hp
    rfl
  · cases hp

def c_sizef (F : Fs) : Con := fun xs h => match xs, h with
  | [.one (.ptr 0 0), .one (.val (.int .i64 a))], [(0, .cells 133 [.own 1, .own 2, .val (.int .i64 s)]), (1, .row 3 (.ints .i64 u)), (2, .row 3 (.ints .i64 z))] => some ⟨F.j_okz u z = true, .sa (I (F.j_sz u z a)), [(0, .cells 133 [.own 1, .own 2, .val (.int .i64 s)]), (1, .row 3 (.ints .i64 (F.j_U u a))), (2, .row 3 (.ints .i64 z))], [.one (.ptr 0 0), Any]⟩
  | _, _ => none
end Go.Proofs.Ytodglgdenjjjgaa.JoR
