/-
  AirPuts: for every input the call tells true, and nothing that was there turns. No condition.
-/
import Derived.Test.YtphbfoafgfnmmaaRows
import Derived.Test.YtphbfoafgfnmmaaLaw
import Derived.Test.YtphbfoafgfnmmaaRyIn
import Derived.Test.YtphbfoafgfnmmaaRyZ
import Derived.Test.YtphbfoafgfnmmaaRyM
import Derived.Test.YtphbfoafgfnmmaaRyOz
import Derived.Test.YtphbfoafgfnmmaaSkI
namespace Go.Proofs.Ytphbfoafgfnmmaa.AirPuts
open Go Go.Proofs.Ytphbfoafgfnmmaa.Ry Go.Proofs.Ytphbfoafgfnmmaa.Law Go.Proofs.Ytphbfoafgfnmmaa.SkI Go.Proofs.Ytphbfoafgfnmmaa.SkR Go.Proofs.Ytphbfoafgfnmmaa.SkT Go.Proofs.Ytphbfoafgfnmmaa.SkO Go.Proofs.Ytphbfoafgfnmmaa.SkC Go.Proofs.Ytphbfoafgfnmmaa.SkD Go.Proofs.Ytphbfoafgfnmmaa.SkP Go.Proofs.Ytphbfoafgfnmmaa.SkU Go.Proofs.Ytphbfoafgfnmmaa.SkS Go.Proofs.Ytphbfoafgfnmmaa.SkQ Go.Proofs.Ytphbfoafgfnmmaa.SkN Go.Proofs.Ytphbfoafgfnmmaa.SkY Go.Proofs.Ytphbfoafgfnmmaa.SkA Go.Proofs.Ytphbfoafgfnmmaa.SkV Go.Proofs.Ytphbfoafgfnmmaa.SkW Go.Proofs.Ytphbfoafgfnmmaa.SkH Go.Proofs.Ytphbfoafgfnmmaa.SkM Go.Proofs.Ytphbfoafgfnmmaa.SkJ Go.Proofs.Ytphbfoafgfnmmaa.SkI
open Go.ChangeShapes Go.WideShapes Go.ChangeAt Go.Joins Go.RowKit
noncomputable def apI (f u : List E) (p q : Int) (l : List Int) (x : Bool) (pf pu : List E) (c : Int) (y : XO) : St := stOf Try.f4.ntmps [(2, .ptr 1 0), (3, .ptr 2 0), (5, .ptr 3 0), (6, .val (.int .i64 c)), (10, .val (.int .i64 y.n)), (11, .val (.int .i64 y.i))] [(1, .cells 25 [.sl none (.recs (.int .i64 (.int .i64 (.ints .u8 (.bool .nil)))) f), .sl none (.recs (.int .i64 (.int .i64 (.int .i64 .nil))) u)]), (2, .cells 32 [.val (.int .i64 p), .val (.int .i64 q), .sl none (.ints .u8 l), .val (.bool x)]), (3, .cells 25 [.sl none (.recs (.int .i64 (.int .i64 (.ints .u8 (.bool .nil)))) pf), .sl none (.recs (.int .i64 (.int .i64 (.int .i64 .nil))) pu)])] [Any, Any]
def apR (st : St) : XO := ⟨slotI st 11, slotI st 10⟩
set_option maxHeartbeats 4000000 in
set_option cbv.maxSteps 4000000 in
set_option maxRecDepth 100000 in
theorem x_law (a0 : E) (a1 : E) (hlg : lgOk (rr a0 0) (rr a0 1) = true) (_hZ : sized [.agg (shCells Ar.std (.recs (.int .i64 (.int .i64 (.ints .u8 (.bool .nil)))) (.recs (.int .i64 (.int .i64 (.int .i64 .nil))) .nil)) a0 0 2), .agg (shCells Ar.std (.int .i64 (.int .i64 (.ints .u8 (.bool .nil)))) a1 0 4)]) : Does [(8, c_light SkA.Sa.std), (16, c_aput SkP.Sp.std), (17, c_asame SkS.Ss.std), (14, dnil [[some (.recs (.int .i64 (.int .i64 (.ints .u8 (.bool .nil)))) []), some (.recs (.int .i64 (.int .i64 (.int .i64 .nil))) [])], [some (.recs (.int .i64 (.int .i64 (.ints .u8 (.bool .nil)))) []), some (.recs (.int .i64 (.int .i64 (.int .i64 .nil))) [])]] (c_rsame SkS.Ss.std)), (11, c_rmay SkQ.Sq.std), (18, c_up SkU.Su.std), (19, c_rup SkQ.Sq.std), (20, c_on SkU.Su.std), (21, c_rput SkQ.Sq.std), (9, c_awake SkA.Sa.std)] Try.f4 [.agg (shCells Ar.std (.recs (.int .i64 (.int .i64 (.ints .u8 (.bool .nil)))) (.recs (.int .i64 (.int .i64 (.int .i64 .nil))) .nil)) a0 0 2), .agg (shCells Ar.std (.int .i64 (.int .i64 (.ints .u8 (.bool .nil)))) a1 0 4)] [] ⟨True, .sa (B true), [], [Any, Any]⟩ := by
  intro b gv
  have hli := li_sz (f := rr a0 0) (u := rr a0 1)
  have hys := fun h => ys_put (f := rr a0 0) (u := rr a0 1) h (ri a1 0) (ri a1 1) (rl a1 2) (rb a1 3)
  have hno := fun h => no_put (f := rr a0 0) (u := rr a0 1) h (ri a1 0) (ri a1 1) (rl a1 2) (rb a1 3)
  have hus := fun h => up_says ((may_V (rr a0 0) (rr a0 1)).1 h).p.1 (ri a1 0) (ri a1 1)
  have hpl := pu_len (rr a0 0) (rr a0 1) (ri a1 0) (ri a1 1) (rl a1 2) (rb a1 3)
  have hux := ux_in (rr a0 1) (ri a1 0) (ri a1 1)
  have hpk : liB (rr a0 0) (rr a0 1) = true → (rl a1 2).length ≤ 3000 → puOk (rr a0 0) (rr a0 1) (rl a1 2) = true := fun h1 h2 => by
    have := hli h1
    exact decide_eq_true (by omega)
  have hnm := no_may (f := rr a0 0) (u := rr a0 1)
  have hym := ys_may (f := rr a0 0) (u := rr a0 1)
  have hsn := sm_nil
  have hfs := (FsOk.cons ok_light (FsOk.cons ok_aput (FsOk.cons ok_asame (FsOk.cons (dnil_ok [[some (.recs (.int .i64 (.int .i64 (.ints .u8 (.bool .nil)))) []), some (.recs (.int .i64 (.int .i64 (.int .i64 .nil))) [])], [some (.recs (.int .i64 (.int .i64 (.ints .u8 (.bool .nil)))) []), some (.recs (.int .i64 (.int .i64 (.int .i64 .nil))) [])]] ok_rsame) (FsOk.cons ok_rmay (FsOk.cons ok_up (FsOk.cons ok_rup (FsOk.cons ok_on (FsOk.cons ok_rput (FsOk.cons ok_awake FsOk.nil rfl) rfl) rfl) rfl) rfl) rfl) rfl) rfl) rfl) rfl)
  generalize hF : SkA.Sa.std = F at hfs ⊢
  generalize hG0 : SkD.Sd.std = G0 at hfs ⊢
  generalize hG1 : SkS.Ss.std = G1 at hfs ⊢
  generalize hG2 : SkQ.Sq.std = G2 at hfs ⊢
  generalize hG3 : SkN.Sn.std = G3 at hfs ⊢
  generalize hG4 : SkY.Sy.std = G4 at hfs ⊢
  generalize hG5 : SkP.Sp.std = G5 at hfs ⊢
  generalize hG6 : SkU.Su.std = G6 at hfs ⊢
  generalize hA : Ar.std = A
  generalize hL : Lp _ _ _ = L
  obtain ⟨Z, zq⟩ := z_all
  refine @cd_open _ _ _ _ _ _ _ (lp_mono hL) _ _ zq rfl ?_
  repeat' (first
    | (refine z_open zq ?_; try dsimp only)
    | refine cd_seq zq ?_ (lp_mono hL)
    | refine cd_blk zq ?_
    | refine cd_ret ?_
    | refine cd_skip ?_
    | refine cd_exit ?_
    | refine cd_loop ?_
    | refine cd_cond rfl ?_
    | refine cd_condT rfl ?_
    | refine cd_condF rfl ?_
    | (refine Cd.mk ?_; cbv)
    | (refine Ends1.mk ?_; cbv)
    | (refine Fin1.mk ?_; cbv)
    | exact trivial
    | refine And.intro ?_ ?_
    | refine orf fun _ => ?_
    | refine ort fun _ => ?_)
  skip -- hfs
  all_goals first
    | (show L _ _ _; skip)
    | (clear hL zq Z _hZ 
       (try clear hfs)
       subst hA hF hG0 hG1 hG2 hG3 hG4 hG5 hG6
       (try simp only [SkA.Sa.std, SkS.Ss.std, SkQ.Sq.std, SkP.Sp.std, SkU.Su.std, Ar.std] at *)
       by_cases hM : mayA (rr a0 0) (rr a0 1) = true
       · obtain ⟨g1, g2⟩ := hys hM
         obtain ⟨g3, g4, g5⟩ := hus hM
         have g6 := hym hM
         clear hys hus hno hnm hym
         ((try simp only [hM] at *) <;> grind [stdCmp])
       · rw [Bool.not_eq_true] at hM
         obtain ⟨g1, g2⟩ := hno hM
         have g6 := hnm hM
         clear hys hus hno hnm hym
         (try simp only [g1, g2, g6] at *)
         ((try simp only [hM] at *) <;> grind [stdCmp]))
  subst hL
  refine loop_z (cx_ok hfs) (onQ (rr a0 0) (ri a1 0) (ri a1 1)) (apI (A.rr a0 0) (A.rr a0 1) (A.ri a1 0) (A.ri a1 1) (A.rl a1 2) (A.rb a1 3) (G5.p_f (A.rr a0 0) (A.rr a0 1) (A.ri a1 0) (A.ri a1 1) (A.rl a1 2) (A.rb a1 3)) (G5.p_u (A.rr a0 0) (A.rr a0 1)) (G5.p_e (A.rr a0 0) (A.rr a0 1))) (onM (rr a0 0)) apR ⟨0, 0⟩ ?_ ?_ ?_
  · exact on_zero _ _ _
  · cbv
    repeat' (first | exact trivial | exact rfl | refine And.intro ?_ ?_)
  rintro ⟨i, n⟩ hq O hO
  have hst := fun h0 h => on_step h0 hq h
  have hen := fun h => on_end hq h
  have q0 := hq.1
  have q1 := hq.2.1
  dsimp only at q0 q1
  subst hA
  generalize hA : Ar.std = A
  generalize hL : Lp _ _ _ = L
  refine cd_close zq ?_
  repeat' (first
    | (refine z_open zq ?_; try dsimp only)
    | refine cd_seq zq ?_ (lp_mono hL)
    | refine cd_blk zq ?_
    | refine cd_ret ?_
    | refine cd_skip ?_
    | refine cd_exit ?_
    | refine cd_loop ?_
    | refine cd_cond rfl ?_
    | refine cd_condT rfl ?_
    | refine cd_condF rfl ?_
    | (refine Cd.mk ?_; cbv)
    | (refine Ends1.mk ?_; cbv)
    | (refine Fin1.mk ?_; cbv)
    | exact trivial
    | refine And.intro ?_ ?_
    | refine orf fun _ => ?_
    | refine ort fun _ => ?_)
  all_goals first
    | (clear hL zq Z _hZ hq 
       (try clear hfs)
       subst hA hF hG0 hG1 hG2 hG3 hG4 hG5 hG6 hO
       (try simp only [SkA.Sa.std, SkS.Ss.std, SkQ.Sq.std, SkP.Sp.std, SkU.Su.std, Ar.std] at *)
       by_cases hM : mayA (rr a0 0) (rr a0 1) = true
       · obtain ⟨g1, g2⟩ := hys hM
         obtain ⟨g3, g4, g5⟩ := hus hM
         have g6 := hym hM
         clear hys hus hno hnm hym
         ((try simp only [hM] at *) <;> grind [stdCmp])
       · rw [Bool.not_eq_true] at hM
         obtain ⟨g1, g2⟩ := hno hM
         have g6 := hnm hM
         clear hys hus hno hnm hym
         (try simp only [g1, g2, g6] at *)
         ((try simp only [hM] at *) <;> grind [stdCmp]))
theorem walk (a0 : E) (a1 : E) (v0 : Value) (v1 : Value) (w : World) (r0 : (SA.agg (shCells Ar.std (.recs (.int .i64 (.int .i64 (.ints .u8 (.bool .nil)))) (.recs (.int .i64 (.int .i64 (.int .i64 .nil))) .nil)) a0 0 2)).is (G0 w) v0) (w0 : wfZ (.recs (.int .i64 (.int .i64 (.ints .u8 (.bool .nil)))) (.recs (.int .i64 (.int .i64 (.int .i64 .nil))) .nil)) a0 0) (r1 : (SA.agg (shCells Ar.std (.int .i64 (.int .i64 (.ints .u8 (.bool .nil)))) a1 0 4)).is (G0 w) v1) (_ : wfS (.int .i64 (.int .i64 (.ints .u8 (.bool .nil)))) a1 0) : Calls Try.prog 4 #[v0, v1] w (Law.Yes w) :=
  yes_of (FsOk.cons ok_light (FsOk.cons ok_aput (FsOk.cons ok_asame (FsOk.cons (dnil_ok [[some (.recs (.int .i64 (.int .i64 (.ints .u8 (.bool .nil)))) []), some (.recs (.int .i64 (.int .i64 (.int .i64 .nil))) [])], [some (.recs (.int .i64 (.int .i64 (.ints .u8 (.bool .nil)))) []), some (.recs (.int .i64 (.int .i64 (.int .i64 .nil))) [])]] ok_rsame) (FsOk.cons ok_rmay (FsOk.cons ok_up (FsOk.cons ok_rup (FsOk.cons ok_on (FsOk.cons ok_rput (FsOk.cons ok_awake FsOk.nil rfl) rfl) rfl) rfl) rfl) rfl) rfl) rfl) rfl) rfl) Try.func4 rfl (vs := [v0, v1]) (by exact ⟨r0, r1, trivial⟩) (lee_le rfl) fun _hZ => x_law a0 a1 (lg_of w0) _hZ
theorem own : ownKnob Try.prog.godebug = none := by kernel_rfl
theorem laidOut : laidOutB Try.prog = true := by kernel_rfl
set_option maxRecDepth 100000 in
theorem lifted (os : Os) (started : os.Started) (H : Type) (enc : TypeId × Value → H) :
    ReturnsInHanded {} Try.checked os 4 .any (Rows.airPutsSpec.pre6 enc Try.prog Try.f4 Rows.airPutsRow.domain false) (Rows.airPutsSpec.post enc Try.prog Try.f4 false true false false) := by
  refine returnsInHanded_of_change_sized (C := Try.checked) own started (by kernel_rfl) Try.func4
    (ChangeSpec.witness6 (enc := enc) (C := Try.checked) false ⟨#[], #[.agg #[.slice none 0 0, .slice none 0 0], .agg #[.int .i64 0, .int .i64 0, .slice none 0 0, .bool false]], []⟩ 8 (by kernel_rfl) (by kernel_rfl) (by kernel_rfl) (by kernel_rfl)) ?_
  intro W base args ds gs before hval0 hW _ hz _
  have hval : ∀ (j : Nat) t v, Try.f4.params[j]? = some t → args[j]? = some v → Value.okWide Try.prog W .any base t v := hval0
  have hW' := hW
  obtain ⟨p, q, hA0, hV, rfl, _, _⟩ := hW
  have hA : DataW.TrodAll enc Try.prog W 0 (fun _ => true) true Try.f4.params.toList args.toList ds p := hA0
  rw [Try.params4] at hA hval
  obtain ⟨v0, v1, d0, d1, p0, p1, rfl, rfl, rfl, h0, h1⟩ := trodAll_two hA
  obtain ⟨rfl, rfl⟩ := trodVars_none hV
  obtain ⟨a0, r0, w0⟩ := agg_anyz (s := .recs (.int .i64 (.int .i64 (.ints .u8 (.bool .nil)))) (.recs (.int .i64 (.int .i64 (.int .i64 .nil))) .nil)) (by rw [Try.underlying25]) (by kernel_rfl) (by kernel_rfl) (hval 0 25 v0 rfl rfl) h0 (weights_of hz (j := 0) rfl rfl)
  obtain ⟨a1, r1, w1⟩ := agg_any (s := .int .i64 (.int .i64 (.ints .u8 (.bool .nil)))) (by rw [Try.underlying32]) (by kernel_rfl) (by kernel_rfl) (hval 1 32 v1 rfl rfl) h1
  refine (walk a0 a1 v0 v1 W r0 w0 r1 w1).mono fun e W' ⟨he, hb⟩ => ?_
  subst he
  exact ⟨_, rfl, law_post laidOut (by kernel_rfl) (by kernel_rfl) Try.underlying4 rfl hW' rfl hb⟩
theorem proved : Rows.AirPutsSaid :=
  OpenClaim.holds_of_wide 4 Try.f4 rfl rfl rfl rfl rfl rfl rfl ⟨rfl, rfl, rfl, rfl, rfl⟩ rfl rfl rfl rfl rfl (by kernel_rfl) Try.func4 (by kernel_rfl)
    (of_decide_eq_true (by kernel_rfl)) (by unfold Func.isWrapper; first | (rw [if_pos (by decide +kernel)]; kernel_rfl) | (rw [if_neg (by decide +kernel)]; exact ⟨rfl, rfl⟩))
    (fun os started H enc _ => lifted os started H enc)
end Go.Proofs.Ytphbfoafgfnmmaa.AirPuts
