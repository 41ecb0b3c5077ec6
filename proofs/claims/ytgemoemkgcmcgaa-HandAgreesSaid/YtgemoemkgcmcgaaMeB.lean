/-
  how two ends begin, by the document; is a session opened? No condition.
-/
import Derived.Test.YtgemoemkgcmcgaaMeT
namespace Go.Proofs.Ytgemoemkgcmcgaa.MeB
open Go Go.Proofs.Ytgemoemkgcmcgaa.Ry Go.Proofs.Ytgemoemkgcmcgaa.HaR Go.Proofs.Ytgemoemkgcmcgaa.BwS Go.Proofs.Ytgemoemkgcmcgaa.MeR Go.Proofs.Ytgemoemkgcmcgaa.MeM Go.Proofs.Ytgemoemkgcmcgaa.MeQ Go.Proofs.Ytgemoemkgcmcgaa.MeT

theorem aw1 : newF 0 9 = ⟨0, 0, 1, false, 0⟩ := by rfl
theorem aw2 : helF 0 0 1 false 3 9 = ⟨0, 0, 3, false, true, false, 0⟩ := by rfl
theorem aw3 : welF 0 0 3 false 3 = ⟨3, 3, 0, false, true, false, 0⟩ := by rfl

structure Mb where
  b_n : Int → MS
def Mb.std : Mb := ⟨n00⟩

def c_hawake (_ : Mb) : Con := fun xs h => match xs, h with
  | [], [] => some ⟨True, .sa (B true), [], []⟩
  | _, _ => none
set_option maxRecDepth 100000 in
theorem x_hawake  : Does [(52, c_hnew HaR.Fs.std), (81, c_hel HaR.Fs.std), (82, c_wel HaR.Fs.std)] Try.f30 [] [] ⟨True, .sa (B true), [], []⟩ := by
  intro b gv
  have hfs := (FsOk.cons ok_hnew (FsOk.cons ok_hel (FsOk.cons ok_wel FsOk.nil rfl) rfl) rfl)
  generalize hF : Mb.std = F at hfs ⊢
  generalize hG0 : HaR.Fs.std = G0 at hfs ⊢
  generalize hA : Ar.std = A
  generalize hL : Lp _ _ _ = L
  obtain ⟨Z, zq⟩ := z_all
  refine cd_open (lp_mono hL) zq rfl ?_
  repeat' (first
    | (refine z_open zq ?_; try dsimp only)
    | refine cd_seq zq ?_ (lp_mono hL)
    | refine cd_blk zq ?_
    | refine cd_ret ?_
    | refine cd_skip ?_
    | refine cd_exit ?_
    | refine cd_loop ?_
    | refine cd_cond rfl ?_
    | refine cd_condT rfl ?_
    | refine cd_condF rfl ?_
    | (refine Cd.mk ?_; cbv)
    | (refine Ends1.mk ?_; cbv)
    | (refine Fin1.mk ?_; cbv)
    | exact trivial
    | refine And.intro ?_ ?_
    | refine orf fun _ => ?_
    | refine ort fun _ => ?_)
  all_goals
    clear hL zq Z
    try clear hfs
    subst hA hF hG0
    simp only [HaR.Fs.std, Ar.std, aw1, aw2, aw3] at *
    try (grind [stdCmp])
theorem ok_hawake : ConOk Try.prog 30 (c_hawake Mb.std) := by
  refine con_of (FsOk.cons ok_hnew (FsOk.cons ok_hel (FsOk.cons ok_wel FsOk.nil rfl) rfl) rfl) Try.func30 rfl rfl fun xs h p hp => ?_
  unfold c_hawake at hp
  split at hp
  · cases hp
    exact ⟨lee_le rfl, fun _ _ => x_hawake ⟩
  · cases hp

def c_rbegin (F : Mb) : Con := fun xs h => match xs, h with
  | [.one (.val (.int .i64 lim))], [] => some ⟨True, .sa (.agg [.val (.int .i64 lim), .val (.int .i64 (F.b_n lim).l0), .val (.int .i64 (F.b_n lim).c0), .val (.int .i64 (F.b_n lim).p0), .val (.bool (F.b_n lim).o0), .val (.int .i64 (F.b_n lim).l1), .val (.int .i64 (F.b_n lim).c1), .val (.int .i64 (F.b_n lim).p1), .val (.bool (F.b_n lim).o1), .sl none (.recs (.bool (.int .i64 .nil)) (F.b_n lim).w0), .sl none (.recs (.bool (.int .i64 .nil)) (F.b_n lim).w1)]), [], [Any]⟩
  | _, _ => none
set_option maxRecDepth 100000 in
theorem x_rbegin (lim : Int) : Does [(83, c_hrnew HaR.Fs.std)] Try.f31 [.one (.val (.int .i64 lim))] [] ⟨True, .sa (.agg [.val (.int .i64 lim), .val (.int .i64 (Mb.std.b_n lim).l0), .val (.int .i64 (Mb.std.b_n lim).c0), .val (.int .i64 (Mb.std.b_n lim).p0), .val (.bool (Mb.std.b_n lim).o0), .val (.int .i64 (Mb.std.b_n lim).l1), .val (.int .i64 (Mb.std.b_n lim).c1), .val (.int .i64 (Mb.std.b_n lim).p1), .val (.bool (Mb.std.b_n lim).o1), .sl none (.recs (.bool (.int .i64 .nil)) (Mb.std.b_n lim).w0), .sl none (.recs (.bool (.int .i64 .nil)) (Mb.std.b_n lim).w1)]), [], [Any]⟩ := by
  intro b gv
  have hfs := (FsOk.cons ok_hrnew FsOk.nil rfl)
  generalize hF : Mb.std = F at hfs ⊢
  generalize hG0 : HaR.Fs.std = G0 at hfs ⊢
  generalize hA : Ar.std = A
  generalize hL : Lp _ _ _ = L
  obtain ⟨Z, zq⟩ := z_all
  refine cd_open (lp_mono hL) zq rfl ?_
  repeat' (first
    | (refine z_open zq ?_; try dsimp only)
    | refine cd_seq zq ?_ (lp_mono hL)
    | refine cd_blk zq ?_
    | refine cd_ret ?_
    | refine cd_skip ?_
    | refine cd_exit ?_
    | refine cd_loop ?_
    | refine cd_cond rfl ?_
    | refine cd_condT rfl ?_
    | refine cd_condF rfl ?_
    | (refine Cd.mk ?_; cbv)
    | (refine Ends1.mk ?_; cbv)
    | (refine Fin1.mk ?_; cbv)
    | exact trivial
    | refine And.intro ?_ ?_
    | refine orf fun _ => ?_
    | refine ort fun _ => ?_)
  all_goals
    clear hL zq Z
    try clear hfs
    subst hA hF hG0
    simp only [Mb.std, HaR.Fs.std] at *
    try (grind [stdCmp, n00, cntB])
theorem ok_rbegin : ConOk Try.prog 31 (c_rbegin Mb.std) := by
  refine con_of (FsOk.cons ok_hrnew FsOk.nil rfl) Try.func31 rfl rfl fun xs h p hp => ?_
  unfold c_rbegin at hp
  split at hp
  · cases hp
    exact ⟨lee_le rfl, fun _ _ => x_rbegin _⟩
  · cases hp
end Go.Proofs.Ytgemoemkgcmcgaa.MeB
