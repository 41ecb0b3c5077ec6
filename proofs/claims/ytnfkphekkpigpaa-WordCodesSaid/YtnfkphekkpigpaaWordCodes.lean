/-
  WordCodes: for every input the call tells true, and nothing that was there turns. No condition.
-/
import Derived.Test.YtnfkphekkpigpaaRows
import Derived.Test.YtnfkphekkpigpaaLaw
import Derived.Test.YtnfkphekkpigpaaRyIn
import Derived.Test.YtnfkphekkpigpaaRyZ
import Derived.Test.YtnfkphekkpigpaaWoS
namespace Go.Proofs.Ytnfkphekkpigpaa.WordCodes
open Go Go.Proofs.Ytnfkphekkpigpaa.Ry Go.Proofs.Ytnfkphekkpigpaa.Law Go.Proofs.Ytnfkphekkpigpaa.WoS Go.Proofs.Ytnfkphekkpigpaa.ViR Go.Proofs.Ytnfkphekkpigpaa.ViS Go.Proofs.Ytnfkphekkpigpaa.OctR Go.Proofs.Ytnfkphekkpigpaa.OctP Go.Proofs.Ytnfkphekkpigpaa.OctQ Go.Proofs.Ytnfkphekkpigpaa.WoR Go.Proofs.Ytnfkphekkpigpaa.WoD Go.Proofs.Ytnfkphekkpigpaa.WoQ Go.Proofs.Ytnfkphekkpigpaa.WoP Go.Proofs.Ytnfkphekkpigpaa.WoT
open Go.ChangeShapes Go.WideShapes Go.ChangeAt Go.Joins Go.RowKit
set_option maxHeartbeats 4000000 in
set_option cbv.maxSteps 4000000 in
set_option maxRecDepth 100000 in
theorem x_law (a0 : E) (_ : sized [.agg (shCells Ar.std (.int .i64 (.int .i64 (.int .i64 (.ints .i64 (.recs (.int .i64 (.int .i64 (.int .i64 (.int .i64 (.bool .nil))))) (.int .i64 (.int .i64 (.int .i64 (.int .i64 .nil))))))))) a0 0 9)]) : Does [(33, c_wlight Wz.std), (37, c_wcheck WoR.Ws.std), (35, c_wencode WoR.Ws.std), (36, c_rwmay WoR.Ws.std), (38, c_wdecode WoD.Wd.std), (39, c_rwbytes WoQ.Wq.std), (40, c_rwsame Wz.std), (34, c_wawake Wz.std)] Try.f7 [.agg (shCells Ar.std (.int .i64 (.int .i64 (.int .i64 (.ints .i64 (.recs (.int .i64 (.int .i64 (.int .i64 (.int .i64 (.bool .nil))))) (.int .i64 (.int .i64 (.int .i64 (.int .i64 .nil))))))))) a0 0 9)] [] ⟨True, .sa (B true), [], [Any]⟩ := by
  intro b gv
  have hb0 := fun h => byt_by (enc_by (w := (⟨ri a0 0, ri a0 1, ri a0 2, rl a0 3, rr a0 4, ri a0 5, ri a0 6, ri a0 7, ri a0 8⟩ : WD)) h)
  have hy0 := fun h => enc_byL (w := (⟨ri a0 0, ri a0 1, ri a0 2, rl a0 3, rr a0 4, ri a0 5, ri a0 6, ri a0 7, ri a0 8⟩ : WD)) h
  have hd0 := fun h => (dec_enc (w := (⟨ri a0 0, ri a0 1, ri a0 2, rl a0 3, rr a0 4, ri a0 5, ri a0 6, ri a0 7, ri a0 8⟩ : WD)) h).1
  have hs0 := same_cW (⟨ri a0 0, ri a0 1, ri a0 2, rl a0 3, rr a0 4, ri a0 5, ri a0 6, ri a0 7, ri a0 8⟩ : WD)
  have he0 := fun h => enc_not (w := (⟨ri a0 0, ri a0 1, ri a0 2, rl a0 3, rr a0 4, ri a0 5, ri a0 6, ri a0 7, ri a0 8⟩ : WD)) h
  have hl0 := fun h => enc_len1 (w := (⟨ri a0 0, ri a0 1, ri a0 2, rl a0 3, rr a0 4, ri a0 5, ri a0 6, ri a0 7, ri a0 8⟩ : WD)) h
  have hm0 := fun h => may_len (w := (⟨ri a0 0, ri a0 1, ri a0 2, rl a0 3, rr a0 4, ri a0 5, ri a0 6, ri a0 7, ri a0 8⟩ : WD)) h
  have hz0 := same_self (⟨ri a0 0, ri a0 1, ri a0 2, rl a0 3, rr a0 4, ri a0 5, ri a0 6, ri a0 7, ri a0 8⟩ : WD)
  have hfs := (FsOk.cons ok_wlight (FsOk.cons ok_wcheck (FsOk.cons ok_wencode (FsOk.cons ok_rwmay (FsOk.cons ok_wdecode (FsOk.cons ok_rwbytes (FsOk.cons ok_rwsame (FsOk.cons ok_wawake FsOk.nil rfl) rfl) rfl) rfl) rfl) rfl) rfl) rfl)
  generalize hF : WoS.Wz.std = F at hfs ⊢
  generalize hG0 : WoR.Ws.std = G0 at hfs ⊢
  generalize hG1 : WoD.Wd.std = G1 at hfs ⊢
  generalize hG2 : WoQ.Wq.std = G2 at hfs ⊢
  generalize hA : Ar.std = A
  generalize hL : Lp _ _ _ = L
  obtain ⟨Z, zq⟩ := z_all
  refine cd_open (lp_mono hL) zq rfl ?_
  repeat' (first
    | (refine z_open zq ?_; try dsimp only)
    | refine cd_seq zq ?_ (lp_mono hL)
    | refine cd_blk zq ?_
    | refine cd_ret ?_
    | refine cd_skip ?_
    | refine cd_exit ?_
    | refine cd_loop ?_
    | refine cd_cond rfl ?_
    | refine cd_condT rfl ?_
    | refine cd_condF rfl ?_
    | (refine Cd.mk ?_; cbv)
    | (refine Ends1.mk ?_; cbv)
    | (refine Fin1.mk ?_; cbv)
    | exact trivial
    | refine And.intro ?_ ?_
    | refine orf fun _ => ?_
    | refine ort fun _ => ?_)
  all_goals
    clear hL zq Z hfs
    subst hA hF hG0 hG1 hG2
    simp only [WoS.Wz.std, WoR.Ws.std, WoD.Wd.std, WoQ.Wq.std, Ar.std, List.nil_append] at *
    dsimp only [cW] at *
    try (grind [stdCmp, er, okS, cW])
theorem walk (a0 : E) (v0 : Value) (w : World) (r0 : (SA.agg (shCells Ar.std (.int .i64 (.int .i64 (.int .i64 (.ints .i64 (.recs (.int .i64 (.int .i64 (.int .i64 (.int .i64 (.bool .nil))))) (.int .i64 (.int .i64 (.int .i64 (.int .i64 .nil))))))))) a0 0 9)).is (G0 w) v0) (_ : wfS (.int .i64 (.int .i64 (.int .i64 (.ints .i64 (.recs (.int .i64 (.int .i64 (.int .i64 (.int .i64 (.bool .nil))))) (.int .i64 (.int .i64 (.int .i64 (.int .i64 .nil))))))))) a0 0) : Calls Try.prog 7 #[v0] w (Law.Yes w) :=
  yes_of (FsOk.cons ok_wlight (FsOk.cons ok_wcheck (FsOk.cons ok_wencode (FsOk.cons ok_rwmay (FsOk.cons ok_wdecode (FsOk.cons ok_rwbytes (FsOk.cons ok_rwsame (FsOk.cons ok_wawake FsOk.nil rfl) rfl) rfl) rfl) rfl) rfl) rfl) rfl) Try.func7 rfl (vs := [v0]) (by exact ⟨r0, trivial⟩) (lee_le rfl) fun hZ => x_law a0 hZ
theorem own : ownKnob Try.prog.godebug = none := by kernel_rfl
theorem laidOut : laidOutB Try.prog = true := by kernel_rfl
set_option maxRecDepth 100000 in
theorem lifted (os : Os) (started : os.Started) (H : Type) (enc : TypeId × Value → H) :
    ReturnsInHanded {} Try.checked os 7 .any (Rows.wordCodesSpec.pre6 enc Try.prog Try.f7 Rows.wordCodesRow.domain false) (Rows.wordCodesSpec.post enc Try.prog Try.f7 false true false false) := by
  refine returnsInHanded_of_change_sized (C := Try.checked) own started (by kernel_rfl) Try.func7
    (ChangeSpec.witness6 (enc := enc) (C := Try.checked) false ⟨#[], #[.agg #[.int .i64 0, .int .i64 0, .int .i64 0, .slice none 0 0, .slice none 0 0, .int .i64 0, .int .i64 0, .int .i64 0, .int .i64 0]], []⟩ 8 (by kernel_rfl) (by kernel_rfl) (by kernel_rfl) (by kernel_rfl)) ?_
  intro W base args ds gs before hval0 hW _ hz _
  have hval : ∀ (j : Nat) t v, Try.f7.params[j]? = some t → args[j]? = some v → Value.okWide Try.prog W .any base t v := hval0
  have hW' := hW
  obtain ⟨p, q, hA0, hV, rfl, _, _⟩ := hW
  have hA : DataW.TrodAll enc Try.prog W 0 (fun _ => true) true Try.f7.params.toList args.toList ds p := hA0
  rw [Try.params7] at hA hval
  obtain ⟨v0, d0, rfl, rfl, h0⟩ := trodAll_one hA
  obtain ⟨rfl, rfl⟩ := trodVars_none hV
  obtain ⟨a0, r0, w0⟩ := agg_any (s := .int .i64 (.int .i64 (.int .i64 (.ints .i64 (.recs (.int .i64 (.int .i64 (.int .i64 (.int .i64 (.bool .nil))))) (.int .i64 (.int .i64 (.int .i64 (.int .i64 .nil))))))))) (by rw [Try.underlying55]) (by kernel_rfl) (by kernel_rfl) (hval 0 55 v0 rfl rfl) h0
  refine (walk a0 v0 W r0 w0).mono fun e W' ⟨he, hb⟩ => ?_
  subst he
  exact ⟨_, rfl, law_post laidOut (by kernel_rfl) (by kernel_rfl) Try.underlying4 rfl hW' rfl hb⟩
theorem proved : Rows.WordCodesSaid :=
  OpenClaim.holds_of_wide 7 Try.f7 rfl rfl rfl rfl rfl rfl rfl ⟨rfl, rfl, rfl, rfl, rfl⟩ rfl rfl rfl rfl rfl (by kernel_rfl) Try.func7 (by kernel_rfl)
    (of_decide_eq_true (by kernel_rfl)) (by unfold Func.isWrapper; first | (rw [if_pos (by decide +kernel)]; kernel_rfl) | (rw [if_neg (by decide +kernel)]; exact ⟨rfl, rfl⟩))
    (fun os started H enc _ => lifted os started H enc)
end Go.Proofs.Ytnfkphekkpigpaa.WordCodes
