/-
  LinkTurns: for every input the call tells true, and nothing that was there turns. No condition.
-/
import Derived.Test.YtinjeffkhjcbnaaRows
import Derived.Test.YtinjeffkhjcbnaaLaw
import Derived.Test.YtinjeffkhjcbnaaRyIn
import Derived.Test.YtinjeffkhjcbnaaRyZ
import Derived.Test.YtinjeffkhjcbnaaLkS
import Derived.Test.YtinjeffkhjcbnaaLkT
import Derived.Test.YtinjeffkhjcbnaaLkU
namespace Go.Proofs.Ytinjeffkhjcbnaa.LinkTurns
open Go Go.Proofs.Ytinjeffkhjcbnaa.Ry Go.Proofs.Ytinjeffkhjcbnaa.Law Go.Proofs.Ytinjeffkhjcbnaa.LkS Go.Proofs.Ytinjeffkhjcbnaa.LkT Go.Proofs.Ytinjeffkhjcbnaa.LkU Go.Proofs.Ytinjeffkhjcbnaa.HaR Go.Proofs.Ytinjeffkhjcbnaa.SeR Go.Proofs.Ytinjeffkhjcbnaa.SeS Go.Proofs.Ytinjeffkhjcbnaa.SeT Go.Proofs.Ytinjeffkhjcbnaa.SeU Go.Proofs.Ytinjeffkhjcbnaa.SeL Go.Proofs.Ytinjeffkhjcbnaa.SeV Go.Proofs.Ytinjeffkhjcbnaa.LiR Go.Proofs.Ytinjeffkhjcbnaa.LiQ Go.Proofs.Ytinjeffkhjcbnaa.LiS Go.Proofs.Ytinjeffkhjcbnaa.LkR Go.Proofs.Ytinjeffkhjcbnaa.LkQ Go.Proofs.Ytinjeffkhjcbnaa.LkS Go.Proofs.Ytinjeffkhjcbnaa.LkT
open Go.ChangeShapes Go.WideShapes Go.ChangeAt Go.Joins Go.RowKit
open Go.Proofs.Ytinjeffkhjcbnaa.OctR (byB)
open Go.Proofs.Ytinjeffkhjcbnaa.FrQ (rdecF)
theorem rowsK {x : E} (w : wfS (.int .i64 (.int .i64 (.int .i64 (.int .i64 (.int .i64 (.bool (.int .i64 (.int .i64 (.recs (.ints .u8 .nil) (.int .i64 (.int .i64 (.bool (.int .i64 (.int .i64 .nil)))))))))))))) x 0) : ∀ y ∈ rr x 8, ∀ n ∈ rl y 0, 0 ≤ n ∧ n ≤ 255 := fun y hy n hn => wf8 ((w.2.2.2.2.2.2.2.1 y hy).1 n hn)
set_option maxHeartbeats 4000000 in
set_option maxRecDepth 100000 in
theorem x_law (a0 : E) (a1 : List Int) (a2 : E) (w0 : ∀ y ∈ rr a0 8, ∀ n ∈ rl y 0, 0 ≤ n ∧ n ≤ 255) (w1 : ∀ x ∈ a1, 0 ≤ x ∧ x ≤ 255) (_ : sized [.agg (shCells Ar.std (.int .i64 (.int .i64 (.int .i64 (.int .i64 (.int .i64 (.bool (.int .i64 (.int .i64 (.recs (.ints .u8 .nil) (.int .i64 (.int .i64 (.bool (.int .i64 (.int .i64 .nil)))))))))))))) a0 0 14), .one (.sl none (.ints .u8 a1)), .agg (shCells Ar.std (.int .i64 (.int .i64 (.int .i64 .nil))) a2 0 3)]) : Does [(14, c_light Us.std), (52, c_knew Ts.std), (18, c_rlimit HaR.Fs.std), (51, dnil [[none, none, none, none, none, none, none, none, some (.recs (.ints .u8 .nil) []), none, none, none, none, none], [none, none, none, none, none, none, none, none, some (.recs (.ints .u8 .nil) []), none, none, none, none, none]] (c_rksame Us2.std)), (32, c_rlnew Js.std), (54, c_kpush Ts.std), (55, c_kclose Ts.std), (56, c_kweigh Ts.std), (57, c_kflush Ts.std), (48, c_rkmay Us2.std), (49, c_kbad Vs2.std), (27, c_rlflush Js.std), (23, c_rlsame Js.std), (24, dnil [[some (.recs (.int .i64 (.int .i64 (.int .i64 (.int .i64 (.ints .u8 .nil))))) []), some (.recs (.ints .u8 .nil) []), none, none], [some (.recs (.int .i64 (.int .i64 (.int .i64 (.int .i64 (.ints .u8 .nil))))) []), some (.recs (.ints .u8 .nil) []), none, none]] (c_news Js.std)), (34, c_rlpush Js.std), (58, c_rkclose Us2.std), (59, c_ksame Ts.std), (46, c_kawake Vs2.std), (53, c_rknode Us2.std)] Try.f11 [.agg (shCells Ar.std (.int .i64 (.int .i64 (.int .i64 (.int .i64 (.int .i64 (.bool (.int .i64 (.int .i64 (.recs (.ints .u8 .nil) (.int .i64 (.int .i64 (.bool (.int .i64 (.int .i64 .nil)))))))))))))) a0 0 14), .one (.sl none (.ints .u8 a1)), .agg (shCells Ar.std (.int .i64 (.int .i64 (.int .i64 .nil))) a2 0 3)] [] ⟨True, .sa (B true), [], [Any, Any, Any]⟩ := by
  intro b gv
  have hfs := (FsOk.cons ok_light (FsOk.cons ok_knew (FsOk.cons ok_rlimit (FsOk.cons (dnil_ok [[none, none, none, none, none, none, none, none, some (.recs (.ints .u8 .nil) []), none, none, none, none, none], [none, none, none, none, none, none, none, none, some (.recs (.ints .u8 .nil) []), none, none, none, none, none]] ok_rksame) (FsOk.cons ok_rlnew (FsOk.cons ok_kpush (FsOk.cons ok_kclose (FsOk.cons ok_kweigh (FsOk.cons ok_kflush (FsOk.cons ok_rkmay (FsOk.cons ok_kbad (FsOk.cons ok_rlflush (FsOk.cons ok_rlsame (FsOk.cons (dnil_ok [[some (.recs (.int .i64 (.int .i64 (.int .i64 (.int .i64 (.ints .u8 .nil))))) []), some (.recs (.ints .u8 .nil) []), none, none], [some (.recs (.int .i64 (.int .i64 (.int .i64 (.int .i64 (.ints .u8 .nil))))) []), some (.recs (.ints .u8 .nil) []), none, none]] ok_news) (FsOk.cons ok_rlpush (FsOk.cons ok_rkclose (FsOk.cons ok_ksame (FsOk.cons ok_kawake (FsOk.cons ok_rknode FsOk.nil rfl) rfl) rfl) rfl) rfl) rfl) rfl) rfl) rfl) rfl) rfl) rfl) rfl) rfl) rfl) rfl) rfl) rfl) rfl)
  generalize hF : Vs2.std = F at hfs ⊢
  generalize hG0 : Ts.std = G0 at hfs ⊢
  generalize hG1 : Us2.std = G1 at hfs ⊢
  generalize hG2 : Js.std = G2 at hfs ⊢
  generalize hG3 : Us.std = G3 at hfs ⊢
  generalize hG4 : HaR.Fs.std = G4 at hfs ⊢
  generalize hA : Ar.std = A
  generalize hL : Lp _ _ _ = L
  obtain ⟨Z, zq⟩ := z_all
  refine cd_open (lp_mono hL) zq rfl ?_
  repeat' (first
    | (refine z_open zq ?_; try dsimp only)
    | refine cd_seq zq ?_ (lp_mono hL)
    | refine cd_blk zq ?_
    | refine cd_ret ?_
    | refine cd_skip ?_
    | refine cd_exit ?_
    | refine cd_loop ?_
    | refine cd_cond rfl ?_
    | refine cd_condT rfl ?_
    | refine cd_condF rfl ?_
    | (refine Cd.mk ?_; cbv)
    | (refine Ends1.mk ?_; cbv)
    | (refine Fin1.mk ?_; cbv)
    | exact trivial
    | refine And.intro ?_ ?_
    | refine orf fun _ => ?_
    | refine ort fun _ => ?_)
  all_goals
    clear hL zq Z hfs
    subst hF hA hG0 hG1 hG2 hG3 hG4
    have hli : liW (rr a0 8) = true → (rr a0 8).length ≤ 300 := li_len
    have hq : (rr a0 8).length ≤ 300 → byS (rr a0 8) = true := fun h => decide_eq_true ⟨by omega, w0⟩
    have hkb : ∀ x : KN, kbB x = byS x.x.q := fun _ => rfl
    have hkb2 : ∀ x y : KN, kb2 x y = (byS x.x.q && byS y.x.q) := fun _ _ => rfl
    have hbb : ∀ x y, badKB x y = (byS x.x.q && nwB y) := fun _ _ => rfl
    have hz1 : badK zK zN 1 = true := rfl
    have hz2 : byS zK.x.q = true := rfl
    have hz3 : nwB zN = true := rfl
    have hz4 : nw2 zN ⟨[], [], false, 0⟩ = true := rfl
    have hz5 : nwE zN ⟨[], [], false, 0⟩ = true := rfl
    have hn2 : ∀ x y, nw2 x y = (nwB x && nwB y) := fun _ _ => rfl
    have f000 : ∀ x : LN, lbB x = byS x.q := fun _ => rfl
    have f0 : ∀ h g n, fitK h g n = (decide (1 ≤ h ∧ h ≤ 64) && (wtB g && limitB n)) := fun _ _ _ => Bool.and_assoc _ _ _
    have f00 : ∀ g, wtB g = decide (0 ≤ g ∧ g ≤ 2147483647) := fun _ => rfl
    have f1 := newK_ok (h := ri a2 0) (g := ri a2 1) (n := ri a2 2)
    have f2 := fun hl hb => pushK_ok (k := ⟨ri a0 0, ri a0 1, ⟨ri a0 2, ri a0 3, ri a0 4, rb a0 5, ri a0 6, ri a0 7, rr a0 8, ri a0 9, ri a0 10, rb a0 11⟩, ri a0 12, ri a0 13⟩) (p := a1) (n := ri a2 2) hl hb w1
    have f3 := fun h => cloK_bad (k := ⟨ri a0 0, ri a0 1, ⟨ri a0 2, ri a0 3, ri a0 4, rb a0 5, ri a0 6, ri a0 7, rr a0 8, ri a0 9, ri a0 10, rb a0 11⟩, ri a0 12, ri a0 13⟩) (n := ri a2 2) h
    have f4 := fun hb hm hl => cloK_ok (k := ⟨ri a0 0, ri a0 1, ⟨ri a0 2, ri a0 3, ri a0 4, rb a0 5, ri a0 6, ri a0 7, rr a0 8, ri a0 9, ri a0 10, rb a0 11⟩, ri a0 12, ri a0 13⟩) (n := ri a2 2) hb hm hl
    have f5 := fun h => fluK_bad (k := ⟨ri a0 0, ri a0 1, ⟨ri a0 2, ri a0 3, ri a0 4, rb a0 5, ri a0 6, ri a0 7, rr a0 8, ri a0 9, ri a0 10, rb a0 11⟩, ri a0 12, ri a0 13⟩) h
    have f6 := fun hb hm => fluK_ok (k := ⟨ri a0 0, ri a0 1, ⟨ri a0 2, ri a0 3, ri a0 4, rb a0 5, ri a0 6, ri a0 7, rr a0 8, ri a0 9, ri a0 10, rb a0 11⟩, ri a0 12, ri a0 13⟩) hb hm
    have f7 := fun h => weiK_bad (k := ⟨ri a0 0, ri a0 1, ⟨ri a0 2, ri a0 3, ri a0 4, rb a0 5, ri a0 6, ri a0 7, rr a0 8, ri a0 9, ri a0 10, rb a0 11⟩, ri a0 12, ri a0 13⟩) (x := ri a2 1) (n := ri a2 2) h
    have f8 := fun hb hm hx hl => weiK_ok (k := ⟨ri a0 0, ri a0 1, ⟨ri a0 2, ri a0 3, ri a0 4, rb a0 5, ri a0 6, ri a0 7, rr a0 8, ri a0 9, ri a0 10, rb a0 11⟩, ri a0 12, ri a0 13⟩) (x := ri a2 1) (n := ri a2 2) hb hm hx hl
    have f9 : smK zK ⟨0, 0, ⟨0, 0, 0, false, 0, 0, [], 0, 0, false⟩, 0, 0⟩ = true := rfl
    have g1 : byS [] = true := rfl
    have g2 := fun h => (may_K (k := ⟨ri a0 0, ri a0 1, ⟨ri a0 2, ri a0 3, ri a0 4, rb a0 5, ri a0 6, ri a0 7, rr a0 8, ri a0 9, ri a0 10, rb a0 11⟩, ri a0 12, ri a0 13⟩) h).2.2.2.2.1
    simp only [Vs2.std, Ts.std, Us2.std, Js.std, Us.std, HaR.Fs.std, Ar.std, eta_LN, eta_NW, eta_KN, List.nil_append] at *
    try (grind [stdCmp, AlK])
theorem walk (a0 : E) (a1 : List Int) (a2 : E) (v0 : Value) (A1 : Option Addr) (n1 c1 : Nat) (v2 : Value) (w : World) (r0 : (SA.agg (shCells Ar.std (.int .i64 (.int .i64 (.int .i64 (.int .i64 (.int .i64 (.bool (.int .i64 (.int .i64 (.recs (.ints .u8 .nil) (.int .i64 (.int .i64 (.bool (.int .i64 (.int .i64 .nil)))))))))))))) a0 0 14)).is (G0 w) v0) (w0 : wfS (.int .i64 (.int .i64 (.int .i64 (.int .i64 (.int .i64 (.bool (.int .i64 (.int .i64 (.recs (.ints .u8 .nil) (.int .i64 (.int .i64 (.bool (.int .i64 (.int .i64 .nil)))))))))))))) a0 0) (r1 : Law.Reads w w.heap.size 1 A1 n1 (a1.map (Value.int .u8))) (b1 : n1 ≤ c1 ∧ c1 ≤ maxLen) (w1 : Law.Wf .u8 a1) (_ : n1 ≤ 140737488355328) (r2 : (SA.agg (shCells Ar.std (.int .i64 (.int .i64 (.int .i64 .nil))) a2 0 3)).is (G0 w) v2) (_ : wfS (.int .i64 (.int .i64 (.int .i64 .nil))) a2 0) : Calls Try.prog 11 #[v0, .slice A1 n1 c1, v2] w (Law.Yes w) :=
  yes_of (FsOk.cons ok_light (FsOk.cons ok_knew (FsOk.cons ok_rlimit (FsOk.cons (dnil_ok [[none, none, none, none, none, none, none, none, some (.recs (.ints .u8 .nil) []), none, none, none, none, none], [none, none, none, none, none, none, none, none, some (.recs (.ints .u8 .nil) []), none, none, none, none, none]] ok_rksame) (FsOk.cons ok_rlnew (FsOk.cons ok_kpush (FsOk.cons ok_kclose (FsOk.cons ok_kweigh (FsOk.cons ok_kflush (FsOk.cons ok_rkmay (FsOk.cons ok_kbad (FsOk.cons ok_rlflush (FsOk.cons ok_rlsame (FsOk.cons (dnil_ok [[some (.recs (.int .i64 (.int .i64 (.int .i64 (.int .i64 (.ints .u8 .nil))))) []), some (.recs (.ints .u8 .nil) []), none, none], [some (.recs (.int .i64 (.int .i64 (.int .i64 (.int .i64 (.ints .u8 .nil))))) []), some (.recs (.ints .u8 .nil) []), none, none]] ok_news) (FsOk.cons ok_rlpush (FsOk.cons ok_rkclose (FsOk.cons ok_ksame (FsOk.cons ok_kawake (FsOk.cons ok_rknode FsOk.nil rfl) rfl) rfl) rfl) rfl) rfl) rfl) rfl) rfl) rfl) rfl) rfl) rfl) rfl) rfl) rfl) rfl) rfl) rfl) Try.func11 rfl (vs := [v0, .slice A1 n1 c1, v2]) (by exact ⟨r0, (ints_of r1 b1).2, r2, trivial⟩) (lee_le rfl) fun hZ => x_law a0 a1 a2 (rowsK w0) (fun x hx => wf8 (w1 x hx)) hZ
theorem own : ownKnob Try.prog.godebug = none := by kernel_rfl
theorem laidOut : laidOutB Try.prog = true := by kernel_rfl
set_option maxRecDepth 100000 in
theorem lifted (os : Os) (started : os.Started) (H : Type) (enc : TypeId × Value → H) :
    ReturnsInHanded {} Try.checked os 11 .any (Rows.linkTurnsSpec.pre6 enc Try.prog Try.f11 Rows.linkTurnsRow.domain false) (Rows.linkTurnsSpec.post enc Try.prog Try.f11 false true false false) := by
  refine returnsInHanded_of_change_sized (C := Try.checked) own started (by kernel_rfl) Try.func11
    (ChangeSpec.witness6 (enc := enc) (C := Try.checked) false ⟨#[], #[.agg #[.int .i64 0, .int .i64 0, .int .i64 0, .int .i64 0, .int .i64 0, .bool false, .int .i64 0, .int .i64 0, .slice none 0 0, .int .i64 0, .int .i64 0, .bool false, .int .i64 0, .int .i64 0], .slice none 0 0, .agg #[.int .i64 0, .int .i64 0, .int .i64 0]], []⟩ 8 (by kernel_rfl) (by kernel_rfl) (by kernel_rfl) (by kernel_rfl)) ?_
  intro W base args ds gs before hval0 hW _ hz _
  have hval : ∀ (j : Nat) t v, Try.f11.params[j]? = some t → args[j]? = some v → Value.okWide Try.prog W .any base t v := hval0
  have hW' := hW
  obtain ⟨p, q, hA0, hV, rfl, _, _⟩ := hW
  have hA : DataW.TrodAll enc Try.prog W 0 (fun _ => true) true Try.f11.params.toList args.toList ds p := hA0
  rw [Try.params11] at hA hval
  obtain ⟨v0, v1, v2, d0, d1, d2, p0, p1, p2, rfl, rfl, rfl, h0, h1, h2⟩ := trodAll_three hA
  obtain ⟨rfl, rfl⟩ := trodVars_none hV
  obtain ⟨a0, r0, w0⟩ := agg_any (s := .int .i64 (.int .i64 (.int .i64 (.int .i64 (.int .i64 (.bool (.int .i64 (.int .i64 (.recs (.ints .u8 .nil) (.int .i64 (.int .i64 (.bool (.int .i64 (.int .i64 .nil)))))))))))))) (by rw [Try.underlying89]) (by kernel_rfl) (by kernel_rfl) (hval 0 89 v0 rfl rfl) h0
  obtain ⟨A1, n1, c1, a1, rfl, b1, r1, w1⟩ := SliceIn.ints Try.underlying31 Try.underlying5 (by kernel_rfl) (hval 1 31 v1 rfl rfl) h1
  have s1 := short_of Try.underlying31 (by decide +kernel) hz (j := 1) rfl rfl h1
  obtain ⟨a2, r2, w2⟩ := agg_any (s := .int .i64 (.int .i64 (.int .i64 .nil))) (by rw [Try.underlying98]) (by kernel_rfl) (by kernel_rfl) (hval 2 98 v2 rfl rfl) h2
  refine (walk a0 a1 a2 v0 A1 n1 c1 v2 W r0 w0 r1 b1 w1 s1 r2 w2).mono fun e W' ⟨he, hb⟩ => ?_
  subst he
  exact ⟨_, rfl, law_post laidOut (by kernel_rfl) (by kernel_rfl) Try.underlying4 rfl hW' rfl hb⟩
theorem proved : Rows.LinkTurnsSaid :=
  OpenClaim.holds_of_wide 11 Try.f11 rfl rfl rfl rfl rfl rfl rfl ⟨rfl, rfl, rfl, rfl, rfl⟩ rfl rfl rfl rfl rfl (by kernel_rfl) Try.func11 (by kernel_rfl)
    (of_decide_eq_true (by kernel_rfl)) (by unfold Func.isWrapper; first | (rw [if_pos (by decide +kernel)]; kernel_rfl) | (rw [if_neg (by decide +kernel)]; exact ⟨rfl, rfl⟩))
    (fun os started H enc _ => lifted os started H enc)
end Go.Proofs.Ytinjeffkhjcbnaa.LinkTurns
