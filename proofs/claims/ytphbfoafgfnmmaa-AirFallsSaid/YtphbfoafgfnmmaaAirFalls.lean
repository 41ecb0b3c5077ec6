/-
  AirFalls: for every input the call tells true, and nothing that was there turns. No condition.
-/
import Derived.Test.YtphbfoafgfnmmaaRows
import Derived.Test.YtphbfoafgfnmmaaLaw
import Derived.Test.YtphbfoafgfnmmaaRyIn
import Derived.Test.YtphbfoafgfnmmaaRyZ
import Derived.Test.YtphbfoafgfnmmaaRyOz
import Derived.Test.YtphbfoafgfnmmaaSkI
namespace Go.Proofs.Ytphbfoafgfnmmaa.AirFalls
open Go Go.Proofs.Ytphbfoafgfnmmaa.Ry Go.Proofs.Ytphbfoafgfnmmaa.Law Go.Proofs.Ytphbfoafgfnmmaa.SkI Go.Proofs.Ytphbfoafgfnmmaa.SkR Go.Proofs.Ytphbfoafgfnmmaa.SkT Go.Proofs.Ytphbfoafgfnmmaa.SkO Go.Proofs.Ytphbfoafgfnmmaa.SkC Go.Proofs.Ytphbfoafgfnmmaa.SkD Go.Proofs.Ytphbfoafgfnmmaa.SkP Go.Proofs.Ytphbfoafgfnmmaa.SkU Go.Proofs.Ytphbfoafgfnmmaa.SkS Go.Proofs.Ytphbfoafgfnmmaa.SkQ Go.Proofs.Ytphbfoafgfnmmaa.SkN Go.Proofs.Ytphbfoafgfnmmaa.SkY Go.Proofs.Ytphbfoafgfnmmaa.SkA Go.Proofs.Ytphbfoafgfnmmaa.SkV Go.Proofs.Ytphbfoafgfnmmaa.SkW Go.Proofs.Ytphbfoafgfnmmaa.SkH Go.Proofs.Ytphbfoafgfnmmaa.SkM Go.Proofs.Ytphbfoafgfnmmaa.SkJ Go.Proofs.Ytphbfoafgfnmmaa.SkI
open Go.ChangeShapes Go.WideShapes Go.ChangeAt Go.Joins Go.RowKit
set_option maxHeartbeats 4000000 in
set_option cbv.maxSteps 4000000 in
set_option maxRecDepth 100000 in
theorem x_law (a0 : E) (a1 : E) (hlg : lgOk (rr a0 0) (rr a0 1) = true) (_hZ : sized [.agg (shCells Ar.std (.recs (.int .i64 (.int .i64 (.ints .u8 (.bool .nil)))) (.recs (.int .i64 (.int .i64 (.int .i64 .nil))) .nil)) a0 0 2), .agg (shCells Ar.std (.int .i64 (.int .i64 .nil)) a1 0 2)]) : Does [(8, c_light SkA.Sa.std), (11, c_rmay SkQ.Sq.std), (18, c_up SkU.Su.std), (20, c_on SkU.Su.std), (10, c_ado SkN.Sn.std), (14, c_rsame SkS.Ss.std), (9, c_awake SkA.Sa.std)] Try.f6 [.agg (shCells Ar.std (.recs (.int .i64 (.int .i64 (.ints .u8 (.bool .nil)))) (.recs (.int .i64 (.int .i64 (.int .i64 .nil))) .nil)) a0 0 2), .agg (shCells Ar.std (.int .i64 (.int .i64 .nil)) a1 0 2)] [] ⟨True, .sa (B true), [], [Any, Any]⟩ := by
  intro b gv
  have hli := li_sz (f := rr a0 0) (u := rr a0 1)
  have had := li_ad (f := rr a0 0) (u := rr a0 1)
  have hsm := fun h => sm_add (f := rr a0 0) h (ri a1 0) (ri a1 1)
  have hoi := on_in (rr a0 0) (ri a1 0) (ri a1 1)
  have hoj := on_in (rr a0 0) (ri a1 1) (ri a1 0)
  have hfa := fun h => fall (f := rr a0 0) (u := rr a0 1) h (ri a1 0) (ri a1 1)
  have hch := ys_may (f := rr a0 0) (u := rr a0 1)
  have hri := fun h h2 => rise (f := adF (rr a0 0) (rr a0 1) 9 (ri a1 0) (ri a1 1) 0 0) (u := adU (rr a0 0) (rr a0 1) 9 (ri a1 0) (ri a1 1) 0) h h2 (ri a1 0) (ri a1 1)
  have hao : ∀ f u : List E, f.length ≤ 1000 → u.length ≤ 1000 → totF f ≤ 9000 → adOk f u = true := fun f u h1 h2 h3 => decide_eq_true (by omega)
  have hfs := (FsOk.cons ok_light (FsOk.cons ok_rmay (FsOk.cons ok_up (FsOk.cons ok_on (FsOk.cons ok_ado (FsOk.cons ok_rsame (FsOk.cons ok_awake FsOk.nil rfl) rfl) rfl) rfl) rfl) rfl) rfl)
  generalize hF : SkA.Sa.std = F at hfs ⊢
  generalize hG0 : SkD.Sd.std = G0 at hfs ⊢
  generalize hG1 : SkS.Ss.std = G1 at hfs ⊢
  generalize hG2 : SkQ.Sq.std = G2 at hfs ⊢
  generalize hG3 : SkN.Sn.std = G3 at hfs ⊢
  generalize hG4 : SkY.Sy.std = G4 at hfs ⊢
  generalize hG5 : SkP.Sp.std = G5 at hfs ⊢
  generalize hG6 : SkU.Su.std = G6 at hfs ⊢
  generalize hA : Ar.std = A
  generalize hL : Lp _ _ _ = L
  obtain ⟨Z, zq⟩ := z_all
  refine @cd_open _ _ _ _ _ _ _ (lp_mono hL) _ _ zq rfl ?_
  repeat' (first
    | (refine z_open zq ?_; try dsimp only)
    | refine cd_seq zq ?_ (lp_mono hL)
    | refine cd_blk zq ?_
    | refine cd_ret ?_
    | refine cd_skip ?_
    | refine cd_exit ?_
    | refine cd_loop ?_
    | refine cd_cond rfl ?_
    | refine cd_condT rfl ?_
    | refine cd_condF rfl ?_
    | (refine Cd.mk ?_; cbv)
    | (refine Ends1.mk ?_; cbv)
    | (refine Fin1.mk ?_; cbv)
    | exact trivial
    | refine And.intro ?_ ?_
    | refine orf fun _ => ?_
    | refine ort fun _ => ?_)
  skip -- hfs
  all_goals first
    | (clear hL zq Z _hZ 
       (try clear hfs)
       subst hA hF hG0 hG1 hG2 hG3 hG4 hG5 hG6
       (try simp only [SkA.Sa.std, SkS.Ss.std, SkQ.Sq.std, SkN.Sn.std, SkU.Su.std, Ar.std] at *)
       by_cases hM : mayA (rr a0 0) (rr a0 1) = true
       · obtain ⟨g1, g2, g3, g4, g5, g6, g7, g8⟩ := hfa hM
         have g9 := hch hM
         have g10 := hri g6
         clear hfa hch hri
         (try simp only [g1, g3, g5, g9] at *)
         ((try simp only [hM] at *) <;> grind [stdCmp])
       · rw [Bool.not_eq_true] at hM
         clear hfa hch hri
         ((try simp only [hM] at *) <;> grind [stdCmp]))
theorem walk (a0 : E) (a1 : E) (v0 : Value) (v1 : Value) (w : World) (r0 : (SA.agg (shCells Ar.std (.recs (.int .i64 (.int .i64 (.ints .u8 (.bool .nil)))) (.recs (.int .i64 (.int .i64 (.int .i64 .nil))) .nil)) a0 0 2)).is (G0 w) v0) (w0 : wfZ (.recs (.int .i64 (.int .i64 (.ints .u8 (.bool .nil)))) (.recs (.int .i64 (.int .i64 (.int .i64 .nil))) .nil)) a0 0) (r1 : (SA.agg (shCells Ar.std (.int .i64 (.int .i64 .nil)) a1 0 2)).is (G0 w) v1) (_ : wfS (.int .i64 (.int .i64 .nil)) a1 0) : Calls Try.prog 6 #[v0, v1] w (Law.Yes w) :=
  yes_of (FsOk.cons ok_light (FsOk.cons ok_rmay (FsOk.cons ok_up (FsOk.cons ok_on (FsOk.cons ok_ado (FsOk.cons ok_rsame (FsOk.cons ok_awake FsOk.nil rfl) rfl) rfl) rfl) rfl) rfl) rfl) Try.func6 rfl (vs := [v0, v1]) (by exact ⟨r0, r1, trivial⟩) (lee_le rfl) fun _hZ => x_law a0 a1 (lg_of w0) _hZ
theorem own : ownKnob Try.prog.godebug = none := by kernel_rfl
theorem laidOut : laidOutB Try.prog = true := by kernel_rfl
set_option maxRecDepth 100000 in
theorem lifted (os : Os) (started : os.Started) (H : Type) (enc : TypeId × Value → H) :
    ReturnsInHanded {} Try.checked os 6 .any (Rows.airFallsSpec.pre6 enc Try.prog Try.f6 Rows.airFallsRow.domain false) (Rows.airFallsSpec.post enc Try.prog Try.f6 false true false false) := by
  refine returnsInHanded_of_change_sized (C := Try.checked) own started (by kernel_rfl) Try.func6
    (ChangeSpec.witness6 (enc := enc) (C := Try.checked) false ⟨#[], #[.agg #[.slice none 0 0, .slice none 0 0], .agg #[.int .i64 0, .int .i64 0]], []⟩ 8 (by kernel_rfl) (by kernel_rfl) (by kernel_rfl) (by kernel_rfl)) ?_
  intro W base args ds gs before hval0 hW _ hz _
  have hval : ∀ (j : Nat) t v, Try.f6.params[j]? = some t → args[j]? = some v → Value.okWide Try.prog W .any base t v := hval0
  have hW' := hW
  obtain ⟨p, q, hA0, hV, rfl, _, _⟩ := hW
  have hA : DataW.TrodAll enc Try.prog W 0 (fun _ => true) true Try.f6.params.toList args.toList ds p := hA0
  rw [Try.params6] at hA hval
  obtain ⟨v0, v1, d0, d1, p0, p1, rfl, rfl, rfl, h0, h1⟩ := trodAll_two hA
  obtain ⟨rfl, rfl⟩ := trodVars_none hV
  obtain ⟨a0, r0, w0⟩ := agg_anyz (s := .recs (.int .i64 (.int .i64 (.ints .u8 (.bool .nil)))) (.recs (.int .i64 (.int .i64 (.int .i64 .nil))) .nil)) (by rw [Try.underlying25]) (by kernel_rfl) (by kernel_rfl) (hval 0 25 v0 rfl rfl) h0 (weights_of hz (j := 0) rfl rfl)
  obtain ⟨a1, r1, w1⟩ := agg_any (s := .int .i64 (.int .i64 .nil)) (by rw [Try.underlying53]) (by kernel_rfl) (by kernel_rfl) (hval 1 53 v1 rfl rfl) h1
  refine (walk a0 a1 v0 v1 W r0 w0 r1 w1).mono fun e W' ⟨he, hb⟩ => ?_
  subst he
  exact ⟨_, rfl, law_post laidOut (by kernel_rfl) (by kernel_rfl) Try.underlying4 rfl hW' rfl hb⟩
theorem proved : Rows.AirFallsSaid :=
  OpenClaim.holds_of_wide 6 Try.f6 rfl rfl rfl rfl rfl rfl rfl ⟨rfl, rfl, rfl, rfl, rfl⟩ rfl rfl rfl rfl rfl (by kernel_rfl) Try.func6 (by kernel_rfl)
    (of_decide_eq_true (by kernel_rfl)) (by unfold Func.isWrapper; first | (rw [if_pos (by decide +kernel)]; kernel_rfl) | (rw [if_neg (by decide +kernel)]; exact ⟨rfl, rfl⟩))
    (fun os started H enc _ => lifted os started H enc)
end Go.Proofs.Ytphbfoafgfnmmaa.AirFalls
