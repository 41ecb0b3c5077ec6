/-
  LineStale: for every input the call tells true, and nothing that was there turns. No condition.
-/
import Derived.Test.YtinjeffkhjcbnaaRows
import Derived.Test.YtinjeffkhjcbnaaLaw
import Derived.Test.YtinjeffkhjcbnaaRyIn
import Derived.Test.YtinjeffkhjcbnaaRyZ
import Derived.Test.YtinjeffkhjcbnaaLiS
namespace Go.Proofs.Ytinjeffkhjcbnaa.LineStale
open Go Go.Proofs.Ytinjeffkhjcbnaa.Ry Go.Proofs.Ytinjeffkhjcbnaa.Law Go.Proofs.Ytinjeffkhjcbnaa.LiS Go.Proofs.Ytinjeffkhjcbnaa.HaR Go.Proofs.Ytinjeffkhjcbnaa.SeR Go.Proofs.Ytinjeffkhjcbnaa.SeS Go.Proofs.Ytinjeffkhjcbnaa.SeT Go.Proofs.Ytinjeffkhjcbnaa.SeU Go.Proofs.Ytinjeffkhjcbnaa.SeL Go.Proofs.Ytinjeffkhjcbnaa.SeV Go.Proofs.Ytinjeffkhjcbnaa.LiR Go.Proofs.Ytinjeffkhjcbnaa.LiQ
open Go.ChangeShapes Go.WideShapes Go.ChangeAt Go.Joins Go.RowKit
theorem rowsL {x : E} (w : wfS (.int .i64 (.int .i64 (.int .i64 (.bool (.int .i64 (.int .i64 (.recs (.ints .u8 .nil) (.int .i64 (.int .i64 (.bool .nil)))))))))) x 0) : ∀ y ∈ rr x 6, ∀ n ∈ rl y 0, 0 ≤ n ∧ n ≤ 255 := fun y hy n hn => wf8 ((w.2.2.2.2.2.1 y hy).1 n hn)
theorem payF {x : E} (w : wfS (.int .i64 (.int .i64 (.int .i64 (.int .i64 (.ints .u8 .nil))))) x 0) : ∀ n ∈ rl x 4, 0 ≤ n ∧ n ≤ 255 := fun n hn => wf8 (w.2.2.2.2.1 n hn)
open Go.Proofs.Ytinjeffkhjcbnaa.FrR (mayF chF isC smF)
abbrev c_frmay := FrQ.c_rmay
theorem ok_frmay : ConOk Try.prog 19 (c_frmay FrQ.Qs.std) := FrQ.ok_rmay
structure XT where
  i : Int
def stQ (l : List E) (y : XT) : Prop := 0 ≤ y.i ∧ y.i ≤ l.length ∧ y.i ≤ 50
noncomputable def stI (A : Ar) (a : E) (l : List E) (y : XT) : St := stOf Try.f6.ntmps [(1, .sl none (.recs (.int .i64 (.int .i64 (.int .i64 (.int .i64 (.ints .u8 .nil))))) l)), (2, .ptr 1 0), (5, .val (.int .i64 y.i))] [(1, .cells 30 [.val (.int .i64 (A.ri a 0)), .val (.int .i64 (A.ri a 1)), .val (.int .i64 (A.ri a 2)), .val (.bool (A.rb a 3)), .val (.int .i64 (A.ri a 4)), .val (.int .i64 (A.ri a 5)), .sl none (.recs (.ints .u8 .nil) (A.rr a 6)), .val (.int .i64 (A.ri a 7)), .val (.int .i64 (A.ri a 8)), .val (.bool (A.rb a 9))])] [Any, Any]
def stM (y : XT) : Nat := (50 - y.i).toNat
def stR (st : St) : XT := ⟨slotI st 5⟩
theorem st_step (l : List E) (i : Int) (h0 : 0 ≤ i) (h2 : i ≤ 50) : i < l.length → i < 50 → stdBin .add .i64 i 1 = i + 1 ∧ stQ l ⟨i + 1⟩ ∧ stM ⟨i + 1⟩ < stM ⟨i⟩ := fun h3 h4 => by
  refine ⟨by rw [b_add, wr _ (by omega) (by omega)], ⟨by simp only; omega, by simp only; omega, by simp only; omega⟩, ?_⟩
  simp only [stM]
  omega
theorem stale {x : LN} {k s q a : Int} {p : List Int} (hm : mayL x = true) (hb : byS x.q = true) (hf : mayF k s q a p = true) (h1 : ¬ k = 1) (h2 : ¬ k = 2) (h3 : ¬ (0 < x.c ∧ s = x.c)) :
    (hearL x k s q a p 9).e = 0 ∧ smL (hearL x k s q a p 9).x x = true ∧ (hearL x k s q a p 9).y = zN ∧ byS (hearL x k s q a p 9).x.q = true ∧ nw2 zN ⟨[], [], false, 0⟩ = true ∧ nwE zN ⟨[], [], false, 0⟩ = true ∧ zN = ⟨[], [], false, 0⟩ := by
  have e : hearL x k s q a p 9 = ⟨cpL x, zN, 0⟩ := by
    unfold hearL
    have hc := may_c hm
    rw [if_pos ⟨hm, hf, rfl⟩, if_neg h1, if_neg h2, if_pos]
    by_cases g : opL x = true
    · have := op_ne g
      exact .inr fun w => h3 ⟨by omega, w⟩
    · exact .inl (by simpa using g)
  rw [e]
  exact ⟨rfl, sm_of rfl rfl rfl rfl rfl rfl (sm_same (pq_nq _)), rfl, by_nq hb, rfl, rfl, rfl⟩
set_option maxHeartbeats 4000000 in
set_option maxRecDepth 100000 in
theorem x_law (a0 : E) (a1 : List E) (w0 : ∀ y ∈ rr a0 6, ∀ n ∈ rl y 0, 0 ≤ n ∧ n ≤ 255) (w1 : ∀ y ∈ a1, ∀ n ∈ rl y 4, 0 ≤ n ∧ n ≤ 255) (_ : sized [.agg (shCells Ar.std (.int .i64 (.int .i64 (.int .i64 (.bool (.int .i64 (.int .i64 (.recs (.ints .u8 .nil) (.int .i64 (.int .i64 (.bool .nil)))))))))) a0 0 10), .one (.sl none (.recs (.int .i64 (.int .i64 (.int .i64 (.int .i64 (.ints .u8 .nil))))) a1))]) : Does [(14, c_light Us.std), (17, c_rlmay Js.std), (19, c_frmay FrQ.Qs.std), (16, c_lhear Ks.std), (23, c_rlsame Js.std), (24, dnil [[some (.recs (.int .i64 (.int .i64 (.int .i64 (.int .i64 (.ints .u8 .nil))))) []), some (.recs (.ints .u8 .nil) []), none, none], [some (.recs (.int .i64 (.int .i64 (.int .i64 (.int .i64 (.ints .u8 .nil))))) []), some (.recs (.ints .u8 .nil) []), none, none]] (c_news Js.std)), (15, c_awake Is.std)] Try.f6 [.agg (shCells Ar.std (.int .i64 (.int .i64 (.int .i64 (.bool (.int .i64 (.int .i64 (.recs (.ints .u8 .nil) (.int .i64 (.int .i64 (.bool .nil)))))))))) a0 0 10), .one (.sl none (.recs (.int .i64 (.int .i64 (.int .i64 (.int .i64 (.ints .u8 .nil))))) a1))] [] ⟨True, .sa (B true), [], [Any, Any]⟩ := by
  intro b gv
  have hfs := (FsOk.cons ok_light (FsOk.cons ok_rlmay (FsOk.cons ok_frmay (FsOk.cons ok_lhear (FsOk.cons ok_rlsame (FsOk.cons (dnil_ok [[some (.recs (.int .i64 (.int .i64 (.int .i64 (.int .i64 (.ints .u8 .nil))))) []), some (.recs (.ints .u8 .nil) []), none, none], [some (.recs (.int .i64 (.int .i64 (.int .i64 (.int .i64 (.ints .u8 .nil))))) []), some (.recs (.ints .u8 .nil) []), none, none]] ok_news) (FsOk.cons ok_awake FsOk.nil rfl) rfl) rfl) rfl) rfl) rfl) rfl)
  generalize hF : Is.std = F at hfs ⊢
  generalize hG0 : Ks.std = G0 at hfs ⊢
  generalize hG1 : Js.std = G1 at hfs ⊢
  generalize hG2 : Us.std = G2 at hfs ⊢
  generalize hG3 : HaR.Fs.std = G3 at hfs ⊢
  generalize hG4 : FrQ.Qs.std = G4 at hfs ⊢
  generalize hA : Ar.std = A
  generalize hL : Lp _ _ _ = L
  obtain ⟨Z, zq⟩ := z_all
  refine cd_open (lp_mono hL) zq rfl ?_
  repeat' (first
    | (refine z_open zq ?_; try dsimp only)
    | refine cd_seq zq ?_ (lp_mono hL)
    | refine cd_blk zq ?_
    | refine cd_ret ?_
    | refine cd_skip ?_
    | refine cd_exit ?_
    | refine cd_loop ?_
    | refine cd_cond rfl ?_
    | refine cd_condT rfl ?_
    | refine cd_condF rfl ?_
    | (refine Cd.mk ?_; cbv)
    | (refine Ends1.mk ?_; cbv)
    | (refine Fin1.mk ?_; cbv)
    | exact trivial
    | refine And.intro ?_ ?_
    | refine orf fun _ => ?_
    | refine ort fun _ => ?_)
  all_goals first | (show L _ _ _; skip) | (clear hL zq Z hfs; subst hF hA hG0 hG1 hG2 hG3 hG4; have hli : liW (rr a0 6) = true → (rr a0 6).length ≤ 300 := li_len; have hq : (rr a0 6).length ≤ 300 → byS (rr a0 6) = true := fun h => decide_eq_true ⟨by omega, w0⟩; have hlb : ∀ x : LN, lbB x = byS x.q := fun _ => rfl; have hbb : ∀ x y, badB x y = (byS x.q && nwB y) := fun _ _ => rfl; have hz1 : badS zL zN 1 = true := rfl; have hz2 : byS zL.q = true := rfl; have hz3 : nwB zN = true := rfl; have hn2 : ∀ x y, nw2 x y = (nwB x && nwB y) := fun _ _ => rfl; simp only [Is.std, Ks.std, Js.std, Us.std, HaR.Fs.std, FrQ.Qs.std, Ar.std, eta_LN, eta_NW] at *; grind [stdCmp]; done)
  rename_i hx
  have hm : mayL ⟨ri a0 0, ri a0 1, ri a0 2, rb a0 3, ri a0 4, ri a0 5, rr a0 6, ri a0 7, ri a0 8, rb a0 9⟩ = true ∧ byS (rr a0 6) = true ∧ (rr a0 6).length ≤ 300 := by
    clear hL zq Z hfs
    have hli : liW (rr a0 6) = true → (rr a0 6).length ≤ 300 := li_len
    have hq : (rr a0 6).length ≤ 300 → byS (rr a0 6) = true := fun h => decide_eq_true ⟨by omega, w0⟩
    subst hF hA hG0 hG1 hG2 hG3 hG4
    simp only [Is.std, Ks.std, Js.std, Us.std, HaR.Fs.std, FrQ.Qs.std, Ar.std] at *
    grind
  clear hx
  subst hL
  refine loop_z (cx_ok hfs) (stQ a1) (stI A a0 a1) stM stR ⟨0⟩ ?_ ?_ ?_
  · exact ⟨Int.le_refl 0, Int.natCast_nonneg _, show (0 : Int) ≤ 50 by decide⟩
  · cbv
    repeat' (first | exact trivial | exact rfl | refine And.intro ?_ ?_)
  rintro ⟨i⟩ hq O hO
  have q0 := hq.1
  have q1 := hq.2.1
  have q2 := hq.2.2
  dsimp only at q0 q1 q2
  have hst := st_step a1 i q0 q2
  have hmem : i < a1.length → ∀ n ∈ rl (a1.getD i.toNat []) 4, 0 ≤ n ∧ n ≤ 255 := fun h => w1 _ (pl_mem q0 h)
  have hs := fun h1 h2 h3 h4 => stale (x := ⟨ri a0 0, ri a0 1, ri a0 2, rb a0 3, ri a0 4, ri a0 5, rr a0 6, ri a0 7, ri a0 8, rb a0 9⟩) (k := ri (a1.getD i.toNat []) 0) (s := ri (a1.getD i.toNat []) 1) (q := ri (a1.getD i.toNat []) 2) (a := ri (a1.getD i.toNat []) 3) (p := rl (a1.getD i.toNat []) 4) hm.1 hm.2.1 h1 h2 h3 h4
  have hlb : lbB ⟨ri a0 0, ri a0 1, ri a0 2, rb a0 3, ri a0 4, ri a0 5, rr a0 6, ri a0 7, ri a0 8, rb a0 9⟩ = true := hm.2.1
  have hc0 := may_c hm.1
  subst hA
  generalize hA : Ar.std = A
  generalize hL : Lp _ _ _ = L
  refine cd_close zq ?_
  repeat' (first
    | (refine z_open zq ?_; try dsimp only)
    | refine cd_seq zq ?_ (lp_mono hL)
    | refine cd_blk zq ?_
    | refine cd_ret ?_
    | refine cd_skip ?_
    | refine cd_exit ?_
    | refine cd_loop ?_
    | refine cd_cond rfl ?_
    | refine cd_condT rfl ?_
    | refine cd_condF rfl ?_
    | (refine Cd.mk ?_; cbv)
    | (refine Ends1.mk ?_; cbv)
    | (refine Fin1.mk ?_; cbv)
    | exact trivial
    | refine And.intro ?_ ?_
    | refine orf fun _ => ?_
    | refine ort fun _ => ?_)
  all_goals (clear hL hfs zq Z hq; subst hA hF hG0 hG1 hG2 hG3 hG4 hO; simp only [Is.std, Ks.std, Js.std, Us.std, HaR.Fs.std, FrQ.Qs.std, Ar.std, eta_LN, eta_NW] at * <;> grind [stdCmp, Al])
theorem walk (a0 : E) (a1 : List E) (v0 : Value) (A1 : Option Addr) (n1 c1 : Nat) (w : World) (r0 : (SA.agg (shCells Ar.std (.int .i64 (.int .i64 (.int .i64 (.bool (.int .i64 (.int .i64 (.recs (.ints .u8 .nil) (.int .i64 (.int .i64 (.bool .nil)))))))))) a0 0 10)).is (G0 w) v0) (w0 : wfS (.int .i64 (.int .i64 (.int .i64 (.bool (.int .i64 (.int .i64 (.recs (.ints .u8 .nil) (.int .i64 (.int .i64 (.bool .nil)))))))))) a0 0) (r1 : (SC.sl none (.recs (.int .i64 (.int .i64 (.int .i64 (.int .i64 (.ints .u8 .nil))))) a1)).is (G0 w) (.slice A1 n1 c1)) (w1 : ∀ y ∈ a1, wfS (.int .i64 (.int .i64 (.int .i64 (.int .i64 (.ints .u8 .nil))))) y 0) (_ : a1.length ≤ 140737488355328) : Calls Try.prog 6 #[v0, .slice A1 n1 c1] w (Law.Yes w) :=
  yes_of (FsOk.cons ok_light (FsOk.cons ok_rlmay (FsOk.cons ok_frmay (FsOk.cons ok_lhear (FsOk.cons ok_rlsame (FsOk.cons (dnil_ok [[some (.recs (.int .i64 (.int .i64 (.int .i64 (.int .i64 (.ints .u8 .nil))))) []), some (.recs (.ints .u8 .nil) []), none, none], [some (.recs (.int .i64 (.int .i64 (.int .i64 (.int .i64 (.ints .u8 .nil))))) []), some (.recs (.ints .u8 .nil) []), none, none]] ok_news) (FsOk.cons ok_awake FsOk.nil rfl) rfl) rfl) rfl) rfl) rfl) rfl) Try.func6 rfl (vs := [v0, .slice A1 n1 c1]) (by exact ⟨r0, r1, trivial⟩) (lee_le rfl) fun hZ => x_law a0 a1 (rowsL w0) (fun y hy => payF (w1 y hy)) hZ
theorem own : ownKnob Try.prog.godebug = none := by kernel_rfl
theorem laidOut : laidOutB Try.prog = true := by kernel_rfl
set_option maxRecDepth 100000 in
theorem lifted (os : Os) (started : os.Started) (H : Type) (enc : TypeId × Value → H) :
    ReturnsInHanded {} Try.checked os 6 .any (Rows.lineStaleSpec.pre6 enc Try.prog Try.f6 Rows.lineStaleRow.domain false) (Rows.lineStaleSpec.post enc Try.prog Try.f6 false true false false) := by
  refine returnsInHanded_of_change_sized (C := Try.checked) own started (by kernel_rfl) Try.func6
    (ChangeSpec.witness6 (enc := enc) (C := Try.checked) false ⟨#[], #[.agg #[.int .i64 0, .int .i64 0, .int .i64 0, .bool false, .int .i64 0, .int .i64 0, .slice none 0 0, .int .i64 0, .int .i64 0, .bool false], .slice none 0 0], []⟩ 8 (by kernel_rfl) (by kernel_rfl) (by kernel_rfl) (by kernel_rfl)) ?_
  intro W base args ds gs before hval0 hW _ hz _
  have hval : ∀ (j : Nat) t v, Try.f6.params[j]? = some t → args[j]? = some v → Value.okWide Try.prog W .any base t v := hval0
  have hW' := hW
  obtain ⟨p, q, hA0, hV, rfl, _, _⟩ := hW
  have hA : DataW.TrodAll enc Try.prog W 0 (fun _ => true) true Try.f6.params.toList args.toList ds p := hA0
  rw [Try.params6] at hA hval
  obtain ⟨v0, v1, d0, d1, p0, p1, rfl, rfl, rfl, h0, h1⟩ := trodAll_two hA
  obtain ⟨rfl, rfl⟩ := trodVars_none hV
  obtain ⟨a0, r0, w0⟩ := agg_any (s := .int .i64 (.int .i64 (.int .i64 (.bool (.int .i64 (.int .i64 (.recs (.ints .u8 .nil) (.int .i64 (.int .i64 (.bool .nil)))))))))) (by rw [Try.underlying30]) (by kernel_rfl) (by kernel_rfl) (hval 0 30 v0 rfl rfl) h0
  obtain ⟨A1, n1, c1, a1, rfl, l1, r1, w1⟩ := sl_any (s := .int .i64 (.int .i64 (.int .i64 (.int .i64 (.ints .u8 .nil))))) Try.underlying36 (by kernel_rfl) (by kernel_rfl) (hval 1 36 v1 rfl rfl) h1
  have s1 : a1.length ≤ 140737488355328 := by rw [l1]; exact short_of Try.underlying36 (by decide +kernel) hz (j := 1) rfl rfl h1
  refine (walk a0 a1 v0 A1 n1 c1 W r0 w0 r1 w1 s1).mono fun e W' ⟨he, hb⟩ => ?_
  subst he
  exact ⟨_, rfl, law_post laidOut (by kernel_rfl) (by kernel_rfl) Try.underlying4 rfl hW' rfl hb⟩
theorem proved : Rows.LineStaleSaid :=
  OpenClaim.holds_of_wide 6 Try.f6 rfl rfl rfl rfl rfl rfl rfl ⟨rfl, rfl, rfl, rfl, rfl⟩ rfl rfl rfl rfl rfl (by kernel_rfl) Try.func6 (by kernel_rfl)
    (of_decide_eq_true (by kernel_rfl)) (by unfold Func.isWrapper; first | (rw [if_pos (by decide +kernel)]; kernel_rfl) | (rw [if_neg (by decide +kernel)]; exact ⟨rfl, rfl⟩))
    (fun os started H enc _ => lifted os started H enc)
end Go.Proofs.Ytinjeffkhjcbnaa.LineStale
