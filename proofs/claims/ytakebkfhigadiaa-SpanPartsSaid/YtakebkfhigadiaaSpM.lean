/-
  the least forest of some edges, awake. No condition.
-/
import Derived.Test.YtakebkfhigadiaaSpL
namespace Go.Proofs.Ytakebkfhigadiaa.SpM
open Go Go.Proofs.Ytakebkfhigadiaa.Ry Go.Proofs.Ytakebkfhigadiaa.So Go.Proofs.Ytakebkfhigadiaa.EgR Go.Proofs.Ytakebkfhigadiaa.SpR Go.Proofs.Ytakebkfhigadiaa.SpQ Go.Proofs.Ytakebkfhigadiaa.SpO Go.Proofs.Ytakebkfhigadiaa.SpL

structure Sm where
  l : Unit
def Sm.std : Sm := ⟨()⟩

def c_sawake (_ : Sm) : Con := fun xs h => match xs, h with
  | [], [] => some ⟨True, .sa (B true), [], []⟩
  | _, _ => none
set_option maxHeartbeats 4000000 in
set_option maxRecDepth 100000 in
theorem x_sawake  : Does [(16, c_sleast SpR.Sp.std), (17, c_esame EgR.Fs.std), (18, c_forest SpR.Sp.std), (8, c_linked SpR.Sp.std)] Try.f5 [] [] ⟨True, .sa (B true), [], []⟩ := by
  intro b gv
  generalize hF : Sm.std = F
  generalize hG0 : SpR.Sp.std = G0
  generalize hG1 : EgR.Fs.std = G1
  generalize hA : Ar.std = A
  generalize hL : Lp _ _ _ = L
  obtain ⟨Z, zq⟩ := z_all
  refine cd_open (lp_mono hL) zq rfl ?_
  repeat' (first
    | (refine z_open zq ?_; try dsimp only)
    | refine cd_seq zq ?_ (lp_mono hL)
    | refine cd_blk zq ?_
    | refine cd_ret ?_
    | refine cd_skip ?_
    | refine cd_exit ?_
    | refine cd_loop ?_
    | refine cd_cond rfl ?_
    | refine cd_condT rfl ?_
    | refine cd_condF rfl ?_
    | (refine Cd.mk ?_; cbv)
    | (refine Ends1.mk ?_; cbv)
    | (refine Fin1.mk ?_; cbv)
    | exact trivial
    | refine And.intro ?_ ?_
    | refine orf fun _ => ?_
    | refine ort fun _ => ?_)
  all_goals
    clear hL zq Z
    subst hA hF hG0 hG1
    simp only [SpR.Sp.std, EgR.Fs.std, Ar.std] at *
    have g1 := aw_l
    have g2 := aw_all
    have g3 := aw_f
    simp only [aL, aF] at g1 g2 g3
    try simp only [g1] at *
    try (grind [stdCmp])
theorem ok_sawake : ConOk Try.prog 5 (c_sawake Sm.std) := by
  refine con_of (FsOk.cons ok_sleast (FsOk.cons ok_esame (FsOk.cons ok_forest (FsOk.cons ok_linked FsOk.nil rfl) rfl) rfl) rfl) Try.func5 rfl rfl fun xs h p hp => ?_
  unfold c_sawake at hp
  split at hp
  · cases hp
    exact ⟨lee_le rfl, fun _ _ => x_sawake ⟩
  · cases hp
end Go.Proofs.Ytakebkfhigadiaa.SpM
