/-
  WordSame: for every input the call tells true, and nothing that was there turns. No condition.
-/
import Derived.Test.YtnfkphekkpigpaaRows
import Derived.Test.YtnfkphekkpigpaaLaw
import Derived.Test.YtnfkphekkpigpaaRyIn
import Derived.Test.YtnfkphekkpigpaaRyZ
import Derived.Test.YtnfkphekkpigpaaWoS
namespace Go.Proofs.Ytnfkphekkpigpaa.WordSame
open Go Go.Proofs.Ytnfkphekkpigpaa.Ry Go.Proofs.Ytnfkphekkpigpaa.Law Go.Proofs.Ytnfkphekkpigpaa.WoS Go.Proofs.Ytnfkphekkpigpaa.ViR Go.Proofs.Ytnfkphekkpigpaa.ViS Go.Proofs.Ytnfkphekkpigpaa.OctR Go.Proofs.Ytnfkphekkpigpaa.OctP Go.Proofs.Ytnfkphekkpigpaa.OctQ Go.Proofs.Ytnfkphekkpigpaa.WoR Go.Proofs.Ytnfkphekkpigpaa.WoD Go.Proofs.Ytnfkphekkpigpaa.WoQ Go.Proofs.Ytnfkphekkpigpaa.WoP Go.Proofs.Ytnfkphekkpigpaa.WoT
open Go.ChangeShapes Go.WideShapes Go.ChangeAt Go.Joins Go.RowKit
set_option maxHeartbeats 4000000 in
set_option cbv.maxSteps 4000000 in
set_option maxRecDepth 100000 in
theorem x_law (a0 : E) (a1 : E) (_ : sized [.agg (shCells Ar.std (.int .i64 (.int .i64 (.int .i64 (.ints .i64 (.recs (.int .i64 (.int .i64 (.int .i64 (.int .i64 (.bool .nil))))) (.int .i64 (.int .i64 (.int .i64 (.int .i64 .nil))))))))) a0 0 9), .agg (shCells Ar.std (.int .i64 (.int .i64 (.int .i64 (.ints .i64 (.recs (.int .i64 (.int .i64 (.int .i64 (.int .i64 (.bool .nil))))) (.int .i64 (.int .i64 (.int .i64 (.int .i64 .nil))))))))) a1 0 9)]) : Does [(33, c_wlight Wz.std), (40, c_rwsame Wz.std), (42, c_wsame Wz.std), (35, c_wencode WoR.Ws.std), (34, c_wawake Wz.std)] Try.f9 [.agg (shCells Ar.std (.int .i64 (.int .i64 (.int .i64 (.ints .i64 (.recs (.int .i64 (.int .i64 (.int .i64 (.int .i64 (.bool .nil))))) (.int .i64 (.int .i64 (.int .i64 (.int .i64 .nil))))))))) a0 0 9), .agg (shCells Ar.std (.int .i64 (.int .i64 (.int .i64 (.ints .i64 (.recs (.int .i64 (.int .i64 (.int .i64 (.int .i64 (.bool .nil))))) (.int .i64 (.int .i64 (.int .i64 (.int .i64 .nil))))))))) a1 0 9)] [] ⟨True, .sa (B true), [], [Any, Any]⟩ := by
  intro b gv
  have hb0 := fun h => byt_by (enc_by (w := (⟨ri a0 0, ri a0 1, ri a0 2, rl a0 3, rr a0 4, ri a0 5, ri a0 6, ri a0 7, ri a0 8⟩ : WD)) h)
  have hy0 := fun h => enc_byL (w := (⟨ri a0 0, ri a0 1, ri a0 2, rl a0 3, rr a0 4, ri a0 5, ri a0 6, ri a0 7, ri a0 8⟩ : WD)) h
  have hd0 := fun h => (dec_enc (w := (⟨ri a0 0, ri a0 1, ri a0 2, rl a0 3, rr a0 4, ri a0 5, ri a0 6, ri a0 7, ri a0 8⟩ : WD)) h).1
  have hs0 := same_cW (⟨ri a0 0, ri a0 1, ri a0 2, rl a0 3, rr a0 4, ri a0 5, ri a0 6, ri a0 7, ri a0 8⟩ : WD)
  have he0 := fun h => enc_not (w := (⟨ri a0 0, ri a0 1, ri a0 2, rl a0 3, rr a0 4, ri a0 5, ri a0 6, ri a0 7, ri a0 8⟩ : WD)) h
  have hl0 := fun h => enc_len1 (w := (⟨ri a0 0, ri a0 1, ri a0 2, rl a0 3, rr a0 4, ri a0 5, ri a0 6, ri a0 7, ri a0 8⟩ : WD)) h
  have hm0 := fun h => may_len (w := (⟨ri a0 0, ri a0 1, ri a0 2, rl a0 3, rr a0 4, ri a0 5, ri a0 6, ri a0 7, ri a0 8⟩ : WD)) h
  have hz0 := same_self (⟨ri a0 0, ri a0 1, ri a0 2, rl a0 3, rr a0 4, ri a0 5, ri a0 6, ri a0 7, ri a0 8⟩ : WD)
  have hb1 := fun h => byt_by (enc_by (w := (⟨ri a1 0, ri a1 1, ri a1 2, rl a1 3, rr a1 4, ri a1 5, ri a1 6, ri a1 7, ri a1 8⟩ : WD)) h)
  have hy1 := fun h => enc_byL (w := (⟨ri a1 0, ri a1 1, ri a1 2, rl a1 3, rr a1 4, ri a1 5, ri a1 6, ri a1 7, ri a1 8⟩ : WD)) h
  have hd1 := fun h => (dec_enc (w := (⟨ri a1 0, ri a1 1, ri a1 2, rl a1 3, rr a1 4, ri a1 5, ri a1 6, ri a1 7, ri a1 8⟩ : WD)) h).1
  have hs1 := same_cW (⟨ri a1 0, ri a1 1, ri a1 2, rl a1 3, rr a1 4, ri a1 5, ri a1 6, ri a1 7, ri a1 8⟩ : WD)
  have he1 := fun h => enc_not (w := (⟨ri a1 0, ri a1 1, ri a1 2, rl a1 3, rr a1 4, ri a1 5, ri a1 6, ri a1 7, ri a1 8⟩ : WD)) h
  have hl1 := fun h => enc_len1 (w := (⟨ri a1 0, ri a1 1, ri a1 2, rl a1 3, rr a1 4, ri a1 5, ri a1 6, ri a1 7, ri a1 8⟩ : WD)) h
  have hm1 := fun h => may_len (w := (⟨ri a1 0, ri a1 1, ri a1 2, rl a1 3, rr a1 4, ri a1 5, ri a1 6, ri a1 7, ri a1 8⟩ : WD)) h
  have hz1 := same_self (⟨ri a1 0, ri a1 1, ri a1 2, rl a1 3, rr a1 4, ri a1 5, ri a1 6, ri a1 7, ri a1 8⟩ : WD)
  have hq := fun h k => enc_same (w := (⟨ri a0 0, ri a0 1, ri a0 2, rl a0 3, rr a0 4, ri a0 5, ri a0 6, ri a0 7, ri a0 8⟩ : WD)) (u := (⟨ri a1 0, ri a1 1, ri a1 2, rl a1 3, rr a1 4, ri a1 5, ri a1 6, ri a1 7, ri a1 8⟩ : WD)) h k
  have hfs := (FsOk.cons ok_wlight (FsOk.cons ok_rwsame (FsOk.cons ok_wsame (FsOk.cons ok_wencode (FsOk.cons ok_wawake FsOk.nil rfl) rfl) rfl) rfl) rfl)
  generalize hF : WoS.Wz.std = F at hfs ⊢
  generalize hG0 : WoR.Ws.std = G0 at hfs ⊢
  generalize hG1 : WoD.Wd.std = G1 at hfs ⊢
  generalize hG2 : WoQ.Wq.std = G2 at hfs ⊢
  generalize hA : Ar.std = A
  generalize hL : Lp _ _ _ = L
  obtain ⟨Z, zq⟩ := z_all
  refine cd_open (lp_mono hL) zq rfl ?_
  repeat' (first
    | (refine z_open zq ?_; try dsimp only)
    | refine cd_seq zq ?_ (lp_mono hL)
    | refine cd_blk zq ?_
    | refine cd_ret ?_
    | refine cd_skip ?_
    | refine cd_exit ?_
    | refine cd_loop ?_
    | refine cd_cond rfl ?_
    | refine cd_condT rfl ?_
    | refine cd_condF rfl ?_
    | (refine Cd.mk ?_; cbv)
    | (refine Ends1.mk ?_; cbv)
    | (refine Fin1.mk ?_; cbv)
    | exact trivial
    | refine And.intro ?_ ?_
    | refine orf fun _ => ?_
    | refine ort fun _ => ?_)
  all_goals
    clear hL zq Z hfs
    subst hA hF hG0 hG1 hG2
    simp only [WoS.Wz.std, WoR.Ws.std, Ar.std] at *
    try (grind [stdCmp, er, okS])
theorem walk (a0 : E) (a1 : E) (v0 : Value) (v1 : Value) (w : World) (r0 : (SA.agg (shCells Ar.std (.int .i64 (.int .i64 (.int .i64 (.ints .i64 (.recs (.int .i64 (.int .i64 (.int .i64 (.int .i64 (.bool .nil))))) (.int .i64 (.int .i64 (.int .i64 (.int .i64 .nil))))))))) a0 0 9)).is (G0 w) v0) (_ : wfS (.int .i64 (.int .i64 (.int .i64 (.ints .i64 (.recs (.int .i64 (.int .i64 (.int .i64 (.int .i64 (.bool .nil))))) (.int .i64 (.int .i64 (.int .i64 (.int .i64 .nil))))))))) a0 0) (r1 : (SA.agg (shCells Ar.std (.int .i64 (.int .i64 (.int .i64 (.ints .i64 (.recs (.int .i64 (.int .i64 (.int .i64 (.int .i64 (.bool .nil))))) (.int .i64 (.int .i64 (.int .i64 (.int .i64 .nil))))))))) a1 0 9)).is (G0 w) v1) (_ : wfS (.int .i64 (.int .i64 (.int .i64 (.ints .i64 (.recs (.int .i64 (.int .i64 (.int .i64 (.int .i64 (.bool .nil))))) (.int .i64 (.int .i64 (.int .i64 (.int .i64 .nil))))))))) a1 0) : Calls Try.prog 9 #[v0, v1] w (Law.Yes w) :=
  yes_of (FsOk.cons ok_wlight (FsOk.cons ok_rwsame (FsOk.cons ok_wsame (FsOk.cons ok_wencode (FsOk.cons ok_wawake FsOk.nil rfl) rfl) rfl) rfl) rfl) Try.func9 rfl (vs := [v0, v1]) (by exact ⟨r0, r1, trivial⟩) (lee_le rfl) fun hZ => x_law a0 a1 hZ
theorem own : ownKnob Try.prog.godebug = none := by kernel_rfl
theorem laidOut : laidOutB Try.prog = true := by kernel_rfl
set_option maxRecDepth 100000 in
theorem lifted (os : Os) (started : os.Started) (H : Type) (enc : TypeId × Value → H) :
    ReturnsInHanded {} Try.checked os 9 .any (Rows.wordSameSpec.pre6 enc Try.prog Try.f9 Rows.wordSameRow.domain false) (Rows.wordSameSpec.post enc Try.prog Try.f9 false true false false) := by
  refine returnsInHanded_of_change_sized (C := Try.checked) own started (by kernel_rfl) Try.func9
    (ChangeSpec.witness6 (enc := enc) (C := Try.checked) false ⟨#[], #[.agg #[.int .i64 0, .int .i64 0, .int .i64 0, .slice none 0 0, .slice none 0 0, .int .i64 0, .int .i64 0, .int .i64 0, .int .i64 0], .agg #[.int .i64 0, .int .i64 0, .int .i64 0, .slice none 0 0, .slice none 0 0, .int .i64 0, .int .i64 0, .int .i64 0, .int .i64 0]], []⟩ 8 (by kernel_rfl) (by kernel_rfl) (by kernel_rfl) (by kernel_rfl)) ?_
  intro W base args ds gs before hval0 hW _ hz _
  have hval : ∀ (j : Nat) t v, Try.f9.params[j]? = some t → args[j]? = some v → Value.okWide Try.prog W .any base t v := hval0
  have hW' := hW
  obtain ⟨p, q, hA0, hV, rfl, _, _⟩ := hW
  have hA : DataW.TrodAll enc Try.prog W 0 (fun _ => true) true Try.f9.params.toList args.toList ds p := hA0
  rw [Try.params9] at hA hval
  obtain ⟨v0, v1, d0, d1, p0, p1, rfl, rfl, rfl, h0, h1⟩ := trodAll_two hA
  obtain ⟨rfl, rfl⟩ := trodVars_none hV
  obtain ⟨a0, r0, w0⟩ := agg_any (s := .int .i64 (.int .i64 (.int .i64 (.ints .i64 (.recs (.int .i64 (.int .i64 (.int .i64 (.int .i64 (.bool .nil))))) (.int .i64 (.int .i64 (.int .i64 (.int .i64 .nil))))))))) (by rw [Try.underlying55]) (by kernel_rfl) (by kernel_rfl) (hval 0 55 v0 rfl rfl) h0
  obtain ⟨a1, r1, w1⟩ := agg_any (s := .int .i64 (.int .i64 (.int .i64 (.ints .i64 (.recs (.int .i64 (.int .i64 (.int .i64 (.int .i64 (.bool .nil))))) (.int .i64 (.int .i64 (.int .i64 (.int .i64 .nil))))))))) (by rw [Try.underlying55]) (by kernel_rfl) (by kernel_rfl) (hval 1 55 v1 rfl rfl) h1
  refine (walk a0 a1 v0 v1 W r0 w0 r1 w1).mono fun e W' ⟨he, hb⟩ => ?_
  subst he
  exact ⟨_, rfl, law_post laidOut (by kernel_rfl) (by kernel_rfl) Try.underlying4 rfl hW' rfl hb⟩
theorem proved : Rows.WordSameSaid :=
  OpenClaim.holds_of_wide 9 Try.f9 rfl rfl rfl rfl rfl rfl rfl ⟨rfl, rfl, rfl, rfl, rfl⟩ rfl rfl rfl rfl rfl (by kernel_rfl) Try.func9 (by kernel_rfl)
    (of_decide_eq_true (by kernel_rfl)) (by unfold Func.isWrapper; first | (rw [if_pos (by decide +kernel)]; kernel_rfl) | (rw [if_neg (by decide +kernel)]; exact ⟨rfl, rfl⟩))
    (fun os started H enc _ => lifted os started H enc)
end Go.Proofs.Ytnfkphekkpigpaa.WordSame
