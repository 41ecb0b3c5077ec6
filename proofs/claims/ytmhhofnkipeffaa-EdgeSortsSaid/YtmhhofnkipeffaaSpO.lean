
/-
  the answer of forests: sorted by swaps, and its least forest. No condition.
-/
import Derived.Test.YtmhhofnkipeffaaSpT
namespace Go.Proofs.Ytmhhofnkipeffaa.SpO
open Go Go.Proofs.Ytmhhofnkipeffaa.Ry Go.Proofs.Ytmhhofnkipeffaa.So Go.Proofs.Ytmhhofnkipeffaa.JoS Go.Proofs.Ytmhhofnkipeffaa.EgR Go.Proofs.Ytmhhofnkipeffaa.SpR Go.Proofs.Ytmhhofnkipeffaa.SpQ Go.Proofs.Ytmhhofnkipeffaa.SpT

def rlB (l : List E) : List E := rlF [] (rsB l)
theorem rs_len (l : List E) : (rsB l).length = l.length := ou_len l _
theorem rs_in {l : List E} (h : goodL l = true) : ∀ y ∈ rsB l, may1 y = true := by
  intro y hy
  have h1 : trE y ∈ (rsB l).map trE := List.mem_map_of_mem hy
  rw [(rs_ok l).1.mem_iff] at h1
  obtain ⟨z, hz, e⟩ := List.mem_map.1 h1
  have := ((good_iff l).1 h).1 z hz
  unfold may1 at *
  unfold trE at e
  simp only [Prod.mk.injEq] at e
  rw [← e.1, ← e.2.1, ← e.2.2]
  exact this
structure XL where
  i : Int
  o : List E
def rlQ (s : List E) (y : XL) : Prop := 0 ≤ y.i ∧ y.i ≤ s.length ∧ y.o.length ≤ y.i ∧ inR y.o = true ∧ rlF y.o (s.drop y.i.toNat) = rlF [] s
def rlM (s : List E) (y : XL) : Nat := s.length - y.i.toNat
theorem rl_zero (s : List E) : rlQ s ⟨0, []⟩ := ⟨Int.le_refl 0, Int.natCast_nonneg _, Int.le_refl 0, rfl, rfl⟩
theorem rl_step {s : List E} (hs : ∀ y ∈ s, may1 y = true) (hl : s.length ≤ 1000000) {i : Int} {o : List E} (hq : rlQ s ⟨i, o⟩) (h : i < s.length) :
    stdBin .add .i64 i 1 = i + 1 ∧ o.length ≤ 1000000 ∧ (∀ p : List E, rlM s ⟨i + 1, p⟩ < rlM s ⟨i, o⟩) ∧
    (lkR o (ri (s.getD i.toNat []) 0) (ri (s.getD i.toNat []) 1) = true → rlQ s ⟨i + 1, o⟩) ∧
    (lkR o (ri (s.getD i.toNat []) 0) (ri (s.getD i.toNat []) 1) = false → rlQ s ⟨i + 1, o ++ [[D.int (ri (s.getD i.toNat []) 0), D.int (ri (s.getD i.toNat []) 1), D.int (ri (s.getD i.toNat []) 2)]]⟩) := by
  obtain ⟨h0, h1, h2, h3, h4⟩ := hq
  simp only at h0 h1 h2 h3 h4
  have hi : i.toNat < s.length := by omega
  have e : (i + 1).toNat = i.toNat + 1 := by omega
  have eg : s.getD i.toNat [] = s[i.toNat] := by rw [List.getD_eq_getElem?_getD, List.getElem?_eq_getElem hi]; rfl
  have hm := may_1 (hs _ (List.getElem_mem hi))
  rw [List.drop_eq_getElem_cons hi, ← eg] at h4
  rw [← eg] at hm
  have mz : ∀ p : List E, rlM s ⟨i + 1, p⟩ < rlM s ⟨i, o⟩ := fun p => by simp only [rlM]; omega
  refine ⟨by rw [b_add, wr _ (by omega) (by omega)], by omega, mz, fun g => ⟨by simp only; omega, by simp only; omega, by simp only; omega, h3, ?_⟩, fun g => ⟨by simp only; omega, by simp only; omega, by simp only [List.length_append, List.length_cons, List.length_nil]; omega, ?_, ?_⟩⟩
  · simp only [rlF] at h4 ⊢
    rw [if_pos g] at h4
    rw [e]
    exact h4
  · obtain ⟨k1, k2⟩ := inR_iff.1 h3
    refine inR_iff.2 ⟨by simp only [List.length_append, List.length_cons, List.length_nil]; omega, fun y hy => ?_⟩
    simp only at hy
    rcases List.mem_append.1 hy with hy | hy
    · exact k2 y hy
    · rw [List.mem_singleton.1 hy]
      show 0 ≤ ri (s.getD i.toNat []) 0 ∧ ri (s.getD i.toNat []) 0 < 65 ∧ 0 ≤ ri (s.getD i.toNat []) 1 ∧ ri (s.getD i.toNat []) 1 < 65
      omega
  · simp only [rlF] at h4 ⊢
    rw [if_neg (by rw [g]; decide)] at h4
    rw [e]
    exact h4
theorem rl_end {s : List E} {i : Int} {o : List E} (hq : rlQ s ⟨i, o⟩) (h : ¬ i < s.length) : o = rlF [] s := by
  obtain ⟨h0, h1, h2, h3, h4⟩ := hq
  simp only at h4 h0 h1
  rw [← h4, List.drop_eq_nil_of_le (by omega)]
  rfl
def rlR (st : St) : XL := ⟨slotI st 5, ctR (match slotC st 4 with | .sl _ c => c | _ => .recs .nil [])⟩

structure Sv where
  t_srt : List E → List E
  t_ok : List E → Bool
  t_le : List E → List E
  t_g : List E → Bool
def Sv.std : Sv := ⟨rsB, fun l => decide (l.length ≤ 1000000), rlB, fun l => decide (l.length ≤ 1000000) && goodL l⟩

def c_rsort (F : Sv) : Con := fun xs h => match xs, h with
  | [.one (.sl none (.recs (.int .i64 (.int .i64 (.int .i64 .nil))) l))], [] => some ⟨F.t_ok l = true, .sa (.one (.sl none (.recs (.int .i64 (.int .i64 (.int .i64 .nil))) (F.t_srt l)))), [], [Any]⟩
  | _, _ => none
set_option maxHeartbeats 4000000 in
set_option maxRecDepth 100000 in
theorem x_rsort (l : List E) (hC : Sv.std.t_ok l = true) : Does [(ownKey 1000, noCon), (27, c_rless SpQ.Sq.std)] Try.f13 [.one (.sl none (.recs (.int .i64 (.int .i64 (.int .i64 .nil))) l))] [] ⟨Sv.std.t_ok l = true, .sa (.one (.sl none (.recs (.int .i64 (.int .i64 (.int .i64 .nil))) (Sv.std.t_srt l)))), [], [Any]⟩ := by
  intro b gv
  have hk : l.length ≤ 1000000 := of_decide_eq_true (show decide (l.length ≤ 1000000) = true from hC)
  have hfs := (FsOk.own (u := 1000) (FsOk.cons ok_rless FsOk.nil rfl))
  generalize hF : Sv.std = F at hC hfs ⊢
  generalize hG0 : SpQ.Sq.std = G0 at hC hfs ⊢
  generalize hA : Ar.std = A
  generalize hL : Lp _ _ _ = L
  obtain ⟨Z, zq⟩ := z_all
  refine cd_open (lp_mono hL) zq rfl ?_
  repeat' (first
    | (refine z_open zq ?_; try dsimp only)
    | refine cd_seq zq ?_ (lp_mono hL)
    | refine cd_blk zq ?_
    | refine cd_ret ?_
    | refine cd_skip ?_
    | refine cd_exit ?_
    | refine cd_loop ?_
    | refine cd_cond rfl ?_
    | refine cd_condT rfl ?_
    | refine cd_condF rfl ?_
    | (refine Cd.mk ?_; cbv)
    | (refine Ends1.mk ?_; cbv)
    | (refine Fin1.mk ?_; cbv)
    | exact trivial
    | refine And.intro ?_ ?_
    | refine orf fun _ => ?_
    | refine ort fun _ => ?_)
  all_goals first | (show L _ _ _; skip) | (clear hL zq Z hfs; subst hA hF hG0; simp only [Sv.std, Ar.std, List.nil_append] at *; grind [stdCmp]; done)
  subst hL
  refine loop_z (cx_ok hfs) (soQ l) (soI l) (soM l) soR ⟨0, A.appE [] l⟩ ?_ ?_ ?_
  · subst hA
    exact ⟨Int.le_refl 0, Int.natCast_nonneg _, rfl⟩
  · cbv
    repeat' (first | exact trivial | exact rfl | refine And.intro ?_ ?_)
  rintro ⟨i, S0⟩ hq O hO
  have q0 := hq.1
  have q1 := hq.2.1
  have q2 := so_len hq
  have hen := fun h => so_end hq h
  dsimp only at q0 q1
  subst hA
  generalize hA : Ar.std = A
  generalize hL : Lp _ _ _ = L
  refine cd_close zq ?_
  repeat' (first
    | (refine z_open zq ?_; try dsimp only)
    | refine cd_seq zq ?_ (lp_mono hL)
    | refine cd_blk zq ?_
    | refine cd_ret ?_
    | refine cd_skip ?_
    | refine cd_exit ?_
    | refine cd_loop ?_
    | refine cd_cond rfl ?_
    | refine cd_condT rfl ?_
    | refine cd_condF rfl ?_
    | (refine Cd.mk ?_; cbv)
    | (refine Ends1.mk ?_; cbv)
    | (refine Fin1.mk ?_; cbv)
    | exact trivial
    | refine And.intro ?_ ?_
    | refine orf fun _ => ?_
    | refine ort fun _ => ?_)
  all_goals first | (show L _ _ _; skip) | (clear hL hfs zq Z; subst hA hF hG0 hO; simp only [Sv.std, Ar.std] at * <;> grind [stdCmp]; done)
  rename_i hx
  have hi : i < l.length := by
    clear hfs hL zq Z hF hO
    subst hA
    simp only [Ar.std] at hx
    grind [stdCmp]
  clear hx hen
  subst hL
  refine loop_z (cx_ok hfs) (siQ l.length i S0) (siI l i) siM siR ⟨i, S0⟩ ?_ ?_ ?_
  · exact ⟨q0, Int.le_refl i, q2, rfl⟩
  · cbv
    repeat' (first | exact trivial | exact rfl | refine And.intro ?_ ?_)
  rintro ⟨j, s⟩ hq2 O2 hO2
  have hst := si_step hk hi hq2
  have hnx := fun h => so_next (M := s) hk hq hi h
  have k0 := hq2.1
  have k1 := hq2.2.1
  have hl2 := hst.1
  dsimp only at k0 k1
  have dec : soM l ⟨i + 1, s⟩ < soM l ⟨i, S0⟩ := by simp only [soM]; omega
  clear hq hq2
  by_cases g : 0 < j
  · obtain ⟨e, ha, hb⟩ := hst.2.1 g
    clear hst
    have g1 : stdCmp .gtr j 0 = true := decide_eq_true g
    have g2 : stdCmp .lss j s.length = true := decide_eq_true (by omega)
    have g3 : stdCmp .lss (j - 1) s.length = true := decide_eq_true (by omega)
    have g4 : stdCmp .geq (j - 1) 0 = true := decide_eq_true (by omega)
    have g5 : stdCmp .geq j 0 = true := decide_eq_true (by omega)
    have g6 : ∀ M, siM ⟨j - 1, M⟩ < siM ⟨j, s⟩ := fun M => by simp only [siM]; omega
    subst hA
    generalize hA : Ar.std = A
    generalize hL : Lp _ _ _ = L
    refine cd_close zq ?_
    repeat' (first
      | (refine z_open zq ?_; try dsimp only)
      | refine cd_seq zq ?_ (lp_mono hL)
      | refine cd_blk zq ?_
      | refine cd_ret ?_
      | refine cd_skip ?_
      | refine cd_exit ?_
      | refine cd_loop ?_
      | refine cd_cond rfl ?_
      | refine cd_condT rfl ?_
      | refine cd_condF rfl ?_
      | (refine Cd.mk ?_; cbv)
      | (refine Ends1.mk ?_; cbv)
      | (refine Fin1.mk ?_; cbv)
      | exact trivial
      | refine And.intro ?_ ?_
      | refine orf fun _ => ?_
      | refine ort fun _ => ?_)

    all_goals (clear hL hfs zq Z; subst hA hF hG0 hO hO2; simp only [Sv.std, SpQ.Sq.std, Ar.std, e, g1, g2, g3, g4, g5, List.length_set, if_true] at *)
    all_goals first | assumption | exact trivial | exact g6 _ | (exact ha ‹_›) | (have q := hnx (hb ‹_›); simp only [q.1]; first | exact q.2 | exact dec) | fail
  · have hc := hnx (hst.2.2 g)
    clear hst hnx
    have g1 : stdCmp .gtr j 0 = false := decide_eq_false (by omega)
    subst hA
    generalize hA : Ar.std = A
    generalize hL : Lp _ _ _ = L
    refine cd_close zq ?_
    repeat' (first
      | (refine z_open zq ?_; try dsimp only)
      | refine cd_seq zq ?_ (lp_mono hL)
      | refine cd_blk zq ?_
      | refine cd_ret ?_
      | refine cd_skip ?_
      | refine cd_exit ?_
      | refine cd_loop ?_
      | refine cd_cond rfl ?_
      | refine cd_condT rfl ?_
      | refine cd_condF rfl ?_
      | (refine Cd.mk ?_; cbv)
      | (refine Ends1.mk ?_; cbv)
      | (refine Fin1.mk ?_; cbv)
      | exact trivial
      | refine And.intro ?_ ?_
      | refine orf fun _ => ?_
      | refine ort fun _ => ?_)

    all_goals (clear hL hfs zq Z; subst hA hF hG0 hO hO2; simp only [Sv.std, SpQ.Sq.std, Ar.std, g1, Bool.false_eq_true, if_false] at *)
    all_goals first | assumption | exact trivial | (exfalso; assumption) | (simp only [hc.1]; first | exact hc.2 | exact dec) | fail
theorem ok_rsort : ConOk Try.prog 13 (c_rsort Sv.std) := by
  refine con_of (FsOk.own (u := 1000) (FsOk.cons ok_rless FsOk.nil rfl)) Try.func13 rfl rfl fun xs h p hp => ?_
  unfold c_rsort at hp
  split at hp
  · cases hp
    exact ⟨lee_le rfl, fun hC _ => x_rsort _ hC⟩
  · cases hp

def c_rleast (F : Sv) : Con := fun xs h => match xs, h with
  | [.one (.sl none (.recs (.int .i64 (.int .i64 (.int .i64 .nil))) l))], [] => some ⟨F.t_g l = true, .sa (.one (.sl none (.recs (.int .i64 (.int .i64 (.int .i64 .nil))) (F.t_le l)))), [], [Any]⟩
  | _, _ => none
end Go.Proofs.Ytmhhofnkipeffaa.SpO
