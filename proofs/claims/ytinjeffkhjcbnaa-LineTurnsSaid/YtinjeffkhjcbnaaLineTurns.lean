/-
  LineTurns: for every input the call tells true, and nothing that was there turns. No condition.
-/
import Derived.Test.YtinjeffkhjcbnaaRows
import Derived.Test.YtinjeffkhjcbnaaLaw
import Derived.Test.YtinjeffkhjcbnaaRyIn
import Derived.Test.YtinjeffkhjcbnaaRyZ
import Derived.Test.YtinjeffkhjcbnaaLiS
namespace Go.Proofs.Ytinjeffkhjcbnaa.LineTurns
open Go Go.Proofs.Ytinjeffkhjcbnaa.Ry Go.Proofs.Ytinjeffkhjcbnaa.Law Go.Proofs.Ytinjeffkhjcbnaa.LiS Go.Proofs.Ytinjeffkhjcbnaa.HaR Go.Proofs.Ytinjeffkhjcbnaa.SeR Go.Proofs.Ytinjeffkhjcbnaa.SeS Go.Proofs.Ytinjeffkhjcbnaa.SeT Go.Proofs.Ytinjeffkhjcbnaa.SeU Go.Proofs.Ytinjeffkhjcbnaa.SeL Go.Proofs.Ytinjeffkhjcbnaa.SeV Go.Proofs.Ytinjeffkhjcbnaa.LiR Go.Proofs.Ytinjeffkhjcbnaa.LiQ
open Go.ChangeShapes Go.WideShapes Go.ChangeAt Go.Joins Go.RowKit
theorem rowsL {x : E} (w : wfS (.int .i64 (.int .i64 (.int .i64 (.bool (.int .i64 (.int .i64 (.recs (.ints .u8 .nil) (.int .i64 (.int .i64 (.bool .nil)))))))))) x 0) : ∀ y ∈ rr x 6, ∀ n ∈ rl y 0, 0 ≤ n ∧ n ≤ 255 := fun y hy n hn => wf8 ((w.2.2.2.2.2.1 y hy).1 n hn)
set_option maxHeartbeats 4000000 in
set_option maxRecDepth 100000 in
theorem x_law (a0 : E) (a1 : List Int) (a2 : Int) (w0 : ∀ y ∈ rr a0 6, ∀ n ∈ rl y 0, 0 ≤ n ∧ n ≤ 255) (w1 : ∀ x ∈ a1, 0 ≤ x ∧ x ≤ 255) (_ : sized [.agg (shCells Ar.std (.int .i64 (.int .i64 (.int .i64 (.bool (.int .i64 (.int .i64 (.recs (.ints .u8 .nil) (.int .i64 (.int .i64 (.bool .nil)))))))))) a0 0 10), .one (.sl none (.ints .u8 a1)), .one (.val (.int .i64 a2))]) : Does [(14, c_light Us.std), (29, c_lnew Ks.std), (30, c_lpush Ks.std), (31, c_lclose Ks.std), (33, c_lsame Ks.std), (17, c_rlmay Js.std), (18, c_rlimit HaR.Fs.std), (21, c_bad Is.std), (32, c_rlnew Js.std), (34, c_rlpush Js.std), (35, c_rlclose Js.std), (23, dnil [[none, none, none, none, none, none, some (.recs (.ints .u8 .nil) []), none, none, none], [none, none, none, none, none, none, some (.recs (.ints .u8 .nil) []), none, none, none]] (c_rlsame Js.std)), (24, c_news Js.std), (15, c_awake Is.std)] Try.f5 [.agg (shCells Ar.std (.int .i64 (.int .i64 (.int .i64 (.bool (.int .i64 (.int .i64 (.recs (.ints .u8 .nil) (.int .i64 (.int .i64 (.bool .nil)))))))))) a0 0 10), .one (.sl none (.ints .u8 a1)), .one (.val (.int .i64 a2))] [] ⟨True, .sa (B true), [], [Any, Any, Any]⟩ := by
  intro b gv
  have hfs := (FsOk.cons ok_light (FsOk.cons ok_lnew (FsOk.cons ok_lpush (FsOk.cons ok_lclose (FsOk.cons ok_lsame (FsOk.cons ok_rlmay (FsOk.cons ok_rlimit (FsOk.cons ok_bad (FsOk.cons ok_rlnew (FsOk.cons ok_rlpush (FsOk.cons ok_rlclose (FsOk.cons (dnil_ok [[none, none, none, none, none, none, some (.recs (.ints .u8 .nil) []), none, none, none], [none, none, none, none, none, none, some (.recs (.ints .u8 .nil) []), none, none, none]] ok_rlsame) (FsOk.cons ok_news (FsOk.cons ok_awake FsOk.nil rfl) rfl) rfl) rfl) rfl) rfl) rfl) rfl) rfl) rfl) rfl) rfl) rfl) rfl)
  generalize hF : Is.std = F at hfs ⊢
  generalize hG0 : Ks.std = G0 at hfs ⊢
  generalize hG1 : Js.std = G1 at hfs ⊢
  generalize hG2 : Us.std = G2 at hfs ⊢
  generalize hG3 : HaR.Fs.std = G3 at hfs ⊢
  generalize hA : Ar.std = A
  generalize hL : Lp _ _ _ = L
  obtain ⟨Z, zq⟩ := z_all
  refine cd_open (lp_mono hL) zq rfl ?_
  repeat' (first
    | (refine z_open zq ?_; try dsimp only)
    | refine cd_seq zq ?_ (lp_mono hL)
    | refine cd_blk zq ?_
    | refine cd_ret ?_
    | refine cd_skip ?_
    | refine cd_exit ?_
    | refine cd_loop ?_
    | refine cd_cond rfl ?_
    | refine cd_condT rfl ?_
    | refine cd_condF rfl ?_
    | (refine Cd.mk ?_; cbv)
    | (refine Ends1.mk ?_; cbv)
    | (refine Fin1.mk ?_; cbv)
    | exact trivial
    | refine And.intro ?_ ?_
    | refine orf fun _ => ?_
    | refine ort fun _ => ?_)
  all_goals
    clear hL zq Z hfs
    subst hF hA hG0 hG1 hG2 hG3
    have hli : liW (rr a0 6) = true → (rr a0 6).length ≤ 300 := li_len
    have hq : (rr a0 6).length ≤ 300 → byS (rr a0 6) = true := fun h => decide_eq_true ⟨by omega, w0⟩
    have hlb : ∀ x : LN, lbB x = byS x.q := fun _ => rfl
    have hbb : ∀ x y, badB x y = (byS x.q && nwB y) := fun _ _ => rfl
    have hz1 : badS zL zN 1 = true := rfl
    have hz2 : byS zL.q = true := rfl
    have hz3 : nwB zN = true := rfl
    have hn2 : ∀ x y, nw2 x y = (nwB x && nwB y) := fun _ _ => rfl
    have h1 := fun hl hb h1 h3 => push_alike (x := ⟨ri a0 0, ri a0 1, ri a0 2, rb a0 3, ri a0 4, ri a0 5, rr a0 6, ri a0 7, ri a0 8, rb a0 9⟩) (p := a1) (n := a2) hl hb w1 h1 h3
    have h2 := fun h => push_bad (x := ⟨ri a0 0, ri a0 1, ri a0 2, rb a0 3, ri a0 4, ri a0 5, rr a0 6, ri a0 7, ri a0 8, rb a0 9⟩) (p := a1) (n := a2) h
    have h3 := fun hb h1 h3 => clo_same (x := ⟨ri a0 0, ri a0 1, ri a0 2, rb a0 3, ri a0 4, ri a0 5, rr a0 6, ri a0 7, ri a0 8, rb a0 9⟩) (n := a2) hb h1 h3
    have h4 := fun h => clo_bad (x := ⟨ri a0 0, ri a0 1, ri a0 2, rb a0 3, ri a0 4, ri a0 5, rr a0 6, ri a0 7, ri a0 8, rb a0 9⟩) (n := a2) h
    have h5 := new_ok (n := a2)
    have h6 := sm_refl
    have h7 : smL zL ⟨0, 0, 0, false, 0, 0, [], 0, 0, false⟩ = true := rfl
    have h8 : byS [] = true := rfl
    simp only [Is.std, Ks.std, Js.std, Us.std, HaR.Fs.std, Ar.std, eta_LN, eta_NW] at *
    try (grind [stdCmp, Al])
theorem walk (a0 : E) (a1 : List Int) (a2 : Int) (v0 : Value) (A1 : Option Addr) (n1 c1 : Nat) (w : World) (r0 : (SA.agg (shCells Ar.std (.int .i64 (.int .i64 (.int .i64 (.bool (.int .i64 (.int .i64 (.recs (.ints .u8 .nil) (.int .i64 (.int .i64 (.bool .nil)))))))))) a0 0 10)).is (G0 w) v0) (w0 : wfS (.int .i64 (.int .i64 (.int .i64 (.bool (.int .i64 (.int .i64 (.recs (.ints .u8 .nil) (.int .i64 (.int .i64 (.bool .nil)))))))))) a0 0) (r1 : Law.Reads w w.heap.size 1 A1 n1 (a1.map (Value.int .u8))) (b1 : n1 ≤ c1 ∧ c1 ≤ maxLen) (w1 : Law.Wf .u8 a1) (_ : n1 ≤ 140737488355328) (_ : (Lit.int .i64 a2).wf = true) : Calls Try.prog 5 #[v0, .slice A1 n1 c1, .int .i64 a2] w (Law.Yes w) :=
  yes_of (FsOk.cons ok_light (FsOk.cons ok_lnew (FsOk.cons ok_lpush (FsOk.cons ok_lclose (FsOk.cons ok_lsame (FsOk.cons ok_rlmay (FsOk.cons ok_rlimit (FsOk.cons ok_bad (FsOk.cons ok_rlnew (FsOk.cons ok_rlpush (FsOk.cons ok_rlclose (FsOk.cons (dnil_ok [[none, none, none, none, none, none, some (.recs (.ints .u8 .nil) []), none, none, none], [none, none, none, none, none, none, some (.recs (.ints .u8 .nil) []), none, none, none]] ok_rlsame) (FsOk.cons ok_news (FsOk.cons ok_awake FsOk.nil rfl) rfl) rfl) rfl) rfl) rfl) rfl) rfl) rfl) rfl) rfl) rfl) rfl) rfl) Try.func5 rfl (vs := [v0, .slice A1 n1 c1, .int .i64 a2]) (by exact ⟨r0, (ints_of r1 b1).2, rfl, trivial⟩) (lee_le rfl) fun hZ => x_law a0 a1 a2 (rowsL w0) (fun x hx => wf8 (w1 x hx)) hZ
theorem own : ownKnob Try.prog.godebug = none := by kernel_rfl
theorem laidOut : laidOutB Try.prog = true := by kernel_rfl
set_option maxRecDepth 100000 in
theorem lifted (os : Os) (started : os.Started) (H : Type) (enc : TypeId × Value → H) :
    ReturnsInHanded {} Try.checked os 5 .any (Rows.lineTurnsSpec.pre6 enc Try.prog Try.f5 Rows.lineTurnsRow.domain false) (Rows.lineTurnsSpec.post enc Try.prog Try.f5 false true false false) := by
  refine returnsInHanded_of_change_sized (C := Try.checked) own started (by kernel_rfl) Try.func5
    (ChangeSpec.witness6 (enc := enc) (C := Try.checked) false ⟨#[], #[.agg #[.int .i64 0, .int .i64 0, .int .i64 0, .bool false, .int .i64 0, .int .i64 0, .slice none 0 0, .int .i64 0, .int .i64 0, .bool false], .slice none 0 0, .int .i64 0], []⟩ 8 (by kernel_rfl) (by kernel_rfl) (by kernel_rfl) (by kernel_rfl)) ?_
  intro W base args ds gs before hval0 hW _ hz _
  have hval : ∀ (j : Nat) t v, Try.f5.params[j]? = some t → args[j]? = some v → Value.okWide Try.prog W .any base t v := hval0
  have hW' := hW
  obtain ⟨p, q, hA0, hV, rfl, _, _⟩ := hW
  have hA : DataW.TrodAll enc Try.prog W 0 (fun _ => true) true Try.f5.params.toList args.toList ds p := hA0
  rw [Try.params5] at hA hval
  obtain ⟨v0, v1, v2, d0, d1, d2, p0, p1, p2, rfl, rfl, rfl, h0, h1, h2⟩ := trodAll_three hA
  obtain ⟨rfl, rfl⟩ := trodVars_none hV
  obtain ⟨a0, r0, w0⟩ := agg_any (s := .int .i64 (.int .i64 (.int .i64 (.bool (.int .i64 (.int .i64 (.recs (.ints .u8 .nil) (.int .i64 (.int .i64 (.bool .nil)))))))))) (by rw [Try.underlying30]) (by kernel_rfl) (by kernel_rfl) (hval 0 30 v0 rfl rfl) h0
  obtain ⟨A1, n1, c1, a1, rfl, b1, r1, w1⟩ := SliceIn.ints Try.underlying31 Try.underlying5 (by kernel_rfl) (hval 1 31 v1 rfl rfl) h1
  have s1 := short_of Try.underlying31 (by decide +kernel) hz (j := 1) rfl rfl h1
  obtain ⟨a2, rfl, rfl, rfl, w2⟩ := open_int Try.underlying3 (hval 2 3 v2 rfl rfl) h2
  refine (walk a0 a1 a2 v0 A1 n1 c1 W r0 w0 r1 b1 w1 s1 w2).mono fun e W' ⟨he, hb⟩ => ?_
  subst he
  exact ⟨_, rfl, law_post laidOut (by kernel_rfl) (by kernel_rfl) Try.underlying4 rfl hW' rfl hb⟩
theorem proved : Rows.LineTurnsSaid :=
  OpenClaim.holds_of_wide 5 Try.f5 rfl rfl rfl rfl rfl rfl rfl ⟨rfl, rfl, rfl, rfl, rfl⟩ rfl rfl rfl rfl rfl (by kernel_rfl) Try.func5 (by kernel_rfl)
    (of_decide_eq_true (by kernel_rfl)) (by unfold Func.isWrapper; first | (rw [if_pos (by decide +kernel)]; kernel_rfl) | (rw [if_neg (by decide +kernel)]; exact ⟨rfl, rfl⟩))
    (fun os started H enc _ => lifted os started H enc)
end Go.Proofs.Ytinjeffkhjcbnaa.LineTurns
