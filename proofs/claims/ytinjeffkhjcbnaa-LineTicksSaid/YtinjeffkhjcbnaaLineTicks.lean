/-
  LineTicks: for every input the call tells true, and nothing that was there turns. No condition.
-/
import Derived.Test.YtinjeffkhjcbnaaRows
import Derived.Test.YtinjeffkhjcbnaaLaw
import Derived.Test.YtinjeffkhjcbnaaRyIn
import Derived.Test.YtinjeffkhjcbnaaRyZ
import Derived.Test.YtinjeffkhjcbnaaLiS
namespace Go.Proofs.Ytinjeffkhjcbnaa.LineTicks
open Go Go.Proofs.Ytinjeffkhjcbnaa.Ry Go.Proofs.Ytinjeffkhjcbnaa.Law Go.Proofs.Ytinjeffkhjcbnaa.LiS Go.Proofs.Ytinjeffkhjcbnaa.HaR Go.Proofs.Ytinjeffkhjcbnaa.SeR Go.Proofs.Ytinjeffkhjcbnaa.SeS Go.Proofs.Ytinjeffkhjcbnaa.SeT Go.Proofs.Ytinjeffkhjcbnaa.SeU Go.Proofs.Ytinjeffkhjcbnaa.SeL Go.Proofs.Ytinjeffkhjcbnaa.SeV Go.Proofs.Ytinjeffkhjcbnaa.LiR Go.Proofs.Ytinjeffkhjcbnaa.LiQ
open Go.ChangeShapes Go.WideShapes Go.ChangeAt Go.Joins Go.RowKit
theorem rowsL {x : E} (w : wfS (.int .i64 (.int .i64 (.int .i64 (.bool (.int .i64 (.int .i64 (.recs (.ints .u8 .nil) (.int .i64 (.int .i64 (.bool .nil)))))))))) x 0) : ∀ y ∈ rr x 6, ∀ n ∈ rl y 0, 0 ≤ n ∧ n ≤ 255 := fun y hy n hn => wf8 ((w.2.2.2.2.2.1 y hy).1 n hn)
set_option maxHeartbeats 4000000 in
set_option maxRecDepth 100000 in
theorem x_law (a0 : E) (a1 : Int) (w0 : ∀ y ∈ rr a0 6, ∀ n ∈ rl y 0, 0 ≤ n ∧ n ≤ 255) (_ : sized [.agg (shCells Ar.std (.int .i64 (.int .i64 (.int .i64 (.bool (.int .i64 (.int .i64 (.recs (.ints .u8 .nil) (.int .i64 (.int .i64 (.bool .nil)))))))))) a0 0 10), .one (.val (.int .i64 a1))]) : Does [(14, c_light Us.std), (25, c_ltick Ks.std), (26, c_flush Ks.std), (17, c_rlmay Js.std), (18, c_rlimit HaR.Fs.std), (21, c_bad Is.std), (28, c_rltick Js.std), (27, c_rlflush Js.std), (23, c_rlsame Js.std), (24, c_news Js.std), (15, c_awake Is.std)] Try.f4 [.agg (shCells Ar.std (.int .i64 (.int .i64 (.int .i64 (.bool (.int .i64 (.int .i64 (.recs (.ints .u8 .nil) (.int .i64 (.int .i64 (.bool .nil)))))))))) a0 0 10), .one (.val (.int .i64 a1))] [] ⟨True, .sa (B true), [], [Any, Any]⟩ := by
  intro b gv
  have hfs := (FsOk.cons ok_light (FsOk.cons ok_ltick (FsOk.cons ok_flush (FsOk.cons ok_rlmay (FsOk.cons ok_rlimit (FsOk.cons ok_bad (FsOk.cons ok_rltick (FsOk.cons ok_rlflush (FsOk.cons ok_rlsame (FsOk.cons ok_news (FsOk.cons ok_awake FsOk.nil rfl) rfl) rfl) rfl) rfl) rfl) rfl) rfl) rfl) rfl) rfl)
  generalize hF : Is.std = F at hfs ⊢
  generalize hG0 : Ks.std = G0 at hfs ⊢
  generalize hG1 : Js.std = G1 at hfs ⊢
  generalize hG2 : Us.std = G2 at hfs ⊢
  generalize hG3 : HaR.Fs.std = G3 at hfs ⊢
  generalize hA : Ar.std = A
  generalize hL : Lp _ _ _ = L
  obtain ⟨Z, zq⟩ := z_all
  refine cd_open (lp_mono hL) zq rfl ?_
  repeat' (first
    | (refine z_open zq ?_; try dsimp only)
    | refine cd_seq zq ?_ (lp_mono hL)
    | refine cd_blk zq ?_
    | refine cd_ret ?_
    | refine cd_skip ?_
    | refine cd_exit ?_
    | refine cd_loop ?_
    | refine cd_cond rfl ?_
    | refine cd_condT rfl ?_
    | refine cd_condF rfl ?_
    | (refine Cd.mk ?_; cbv)
    | (refine Ends1.mk ?_; cbv)
    | (refine Fin1.mk ?_; cbv)
    | exact trivial
    | refine And.intro ?_ ?_
    | refine orf fun _ => ?_
    | refine ort fun _ => ?_)
  all_goals
    clear hL zq Z hfs
    subst hF hA hG0 hG1 hG2 hG3
    have hli : liW (rr a0 6) = true → (rr a0 6).length ≤ 300 := li_len
    have hq : (rr a0 6).length ≤ 300 → byS (rr a0 6) = true := fun h => decide_eq_true ⟨by omega, w0⟩
    have hlb : ∀ x : LN, lbB x = byS x.q := fun _ => rfl
    have hbb : ∀ x y, badB x y = (byS x.q && nwB y) := fun _ _ => rfl
    have hz1 : badS zL zN 1 = true := rfl
    have hz2 : byS zL.q = true := rfl
    have hz3 : nwB zN = true := rfl
    have hn2 : ∀ x y, nw2 x y = (nwB x && nwB y) := fun _ _ => rfl
    have h1 := fun hb h1 h3 => tik_same (x := ⟨ri a0 0, ri a0 1, ri a0 2, rb a0 3, ri a0 4, ri a0 5, rr a0 6, ri a0 7, ri a0 8, rb a0 9⟩) (n := a1) hb h1 h3
    have h2 := fun h => tik_bad (x := ⟨ri a0 0, ri a0 1, ri a0 2, rb a0 3, ri a0 4, ri a0 5, rr a0 6, ri a0 7, ri a0 8, rb a0 9⟩) (n := a1) h
    have h3 := fun hb h1 => flu_same (x := ⟨ri a0 0, ri a0 1, ri a0 2, rb a0 3, ri a0 4, ri a0 5, rr a0 6, ri a0 7, ri a0 8, rb a0 9⟩) hb h1
    have h4 := fun h => flu_bad (x := ⟨ri a0 0, ri a0 1, ri a0 2, rb a0 3, ri a0 4, ri a0 5, rr a0 6, ri a0 7, ri a0 8, rb a0 9⟩) h
    simp only [Is.std, Ks.std, Js.std, Us.std, HaR.Fs.std, Ar.std, eta_LN, eta_NW] at *
    try (grind [stdCmp, Al])
theorem walk (a0 : E) (a1 : Int) (v0 : Value) (w : World) (r0 : (SA.agg (shCells Ar.std (.int .i64 (.int .i64 (.int .i64 (.bool (.int .i64 (.int .i64 (.recs (.ints .u8 .nil) (.int .i64 (.int .i64 (.bool .nil)))))))))) a0 0 10)).is (G0 w) v0) (w0 : wfS (.int .i64 (.int .i64 (.int .i64 (.bool (.int .i64 (.int .i64 (.recs (.ints .u8 .nil) (.int .i64 (.int .i64 (.bool .nil)))))))))) a0 0) (_ : (Lit.int .i64 a1).wf = true) : Calls Try.prog 4 #[v0, .int .i64 a1] w (Law.Yes w) :=
  yes_of (FsOk.cons ok_light (FsOk.cons ok_ltick (FsOk.cons ok_flush (FsOk.cons ok_rlmay (FsOk.cons ok_rlimit (FsOk.cons ok_bad (FsOk.cons ok_rltick (FsOk.cons ok_rlflush (FsOk.cons ok_rlsame (FsOk.cons ok_news (FsOk.cons ok_awake FsOk.nil rfl) rfl) rfl) rfl) rfl) rfl) rfl) rfl) rfl) rfl) rfl) Try.func4 rfl (vs := [v0, .int .i64 a1]) (by exact ⟨r0, rfl, trivial⟩) (lee_le rfl) fun hZ => x_law a0 a1 (rowsL w0) hZ
theorem own : ownKnob Try.prog.godebug = none := by kernel_rfl
theorem laidOut : laidOutB Try.prog = true := by kernel_rfl
set_option maxRecDepth 100000 in
theorem lifted (os : Os) (started : os.Started) (H : Type) (enc : TypeId × Value → H) :
    ReturnsInHanded {} Try.checked os 4 .any (Rows.lineTicksSpec.pre6 enc Try.prog Try.f4 Rows.lineTicksRow.domain false) (Rows.lineTicksSpec.post enc Try.prog Try.f4 false true false false) := by
  refine returnsInHanded_of_change_sized (C := Try.checked) own started (by kernel_rfl) Try.func4
    (ChangeSpec.witness6 (enc := enc) (C := Try.checked) false ⟨#[], #[.agg #[.int .i64 0, .int .i64 0, .int .i64 0, .bool false, .int .i64 0, .int .i64 0, .slice none 0 0, .int .i64 0, .int .i64 0, .bool false], .int .i64 0], []⟩ 8 (by kernel_rfl) (by kernel_rfl) (by kernel_rfl) (by kernel_rfl)) ?_
  intro W base args ds gs before hval0 hW _ hz _
  have hval : ∀ (j : Nat) t v, Try.f4.params[j]? = some t → args[j]? = some v → Value.okWide Try.prog W .any base t v := hval0
  have hW' := hW
  obtain ⟨p, q, hA0, hV, rfl, _, _⟩ := hW
  have hA : DataW.TrodAll enc Try.prog W 0 (fun _ => true) true Try.f4.params.toList args.toList ds p := hA0
  rw [Try.params4] at hA hval
  obtain ⟨v0, v1, d0, d1, p0, p1, rfl, rfl, rfl, h0, h1⟩ := trodAll_two hA
  obtain ⟨rfl, rfl⟩ := trodVars_none hV
  obtain ⟨a0, r0, w0⟩ := agg_any (s := .int .i64 (.int .i64 (.int .i64 (.bool (.int .i64 (.int .i64 (.recs (.ints .u8 .nil) (.int .i64 (.int .i64 (.bool .nil)))))))))) (by rw [Try.underlying30]) (by kernel_rfl) (by kernel_rfl) (hval 0 30 v0 rfl rfl) h0
  obtain ⟨a1, rfl, rfl, rfl, w1⟩ := open_int Try.underlying3 (hval 1 3 v1 rfl rfl) h1
  refine (walk a0 a1 v0 W r0 w0 w1).mono fun e W' ⟨he, hb⟩ => ?_
  subst he
  exact ⟨_, rfl, law_post laidOut (by kernel_rfl) (by kernel_rfl) Try.underlying4 rfl hW' rfl hb⟩
theorem proved : Rows.LineTicksSaid :=
  OpenClaim.holds_of_wide 4 Try.f4 rfl rfl rfl rfl rfl rfl rfl ⟨rfl, rfl, rfl, rfl, rfl⟩ rfl rfl rfl rfl rfl (by kernel_rfl) Try.func4 (by kernel_rfl)
    (of_decide_eq_true (by kernel_rfl)) (by unfold Func.isWrapper; first | (rw [if_pos (by decide +kernel)]; kernel_rfl) | (rw [if_neg (by decide +kernel)]; exact ⟨rfl, rfl⟩))
    (fun os started H enc _ => lifted os started H enc)
end Go.Proofs.Ytinjeffkhjcbnaa.LineTicks
