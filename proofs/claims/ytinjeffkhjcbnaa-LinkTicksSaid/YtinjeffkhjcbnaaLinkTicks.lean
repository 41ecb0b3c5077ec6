/-
  LinkTicks: for every input the call tells true, and nothing that was there turns. No condition.
-/
import Derived.Test.YtinjeffkhjcbnaaRows
import Derived.Test.YtinjeffkhjcbnaaLaw
import Derived.Test.YtinjeffkhjcbnaaRyIn
import Derived.Test.YtinjeffkhjcbnaaRyZ
import Derived.Test.YtinjeffkhjcbnaaLkS
import Derived.Test.YtinjeffkhjcbnaaLkT
namespace Go.Proofs.Ytinjeffkhjcbnaa.LinkTicks
open Go Go.Proofs.Ytinjeffkhjcbnaa.Ry Go.Proofs.Ytinjeffkhjcbnaa.Law Go.Proofs.Ytinjeffkhjcbnaa.LkS Go.Proofs.Ytinjeffkhjcbnaa.LkT Go.Proofs.Ytinjeffkhjcbnaa.HaR Go.Proofs.Ytinjeffkhjcbnaa.SeR Go.Proofs.Ytinjeffkhjcbnaa.SeS Go.Proofs.Ytinjeffkhjcbnaa.SeT Go.Proofs.Ytinjeffkhjcbnaa.SeU Go.Proofs.Ytinjeffkhjcbnaa.SeL Go.Proofs.Ytinjeffkhjcbnaa.SeV Go.Proofs.Ytinjeffkhjcbnaa.LiR Go.Proofs.Ytinjeffkhjcbnaa.LiQ Go.Proofs.Ytinjeffkhjcbnaa.LiS Go.Proofs.Ytinjeffkhjcbnaa.LkR Go.Proofs.Ytinjeffkhjcbnaa.LkQ Go.Proofs.Ytinjeffkhjcbnaa.LkS
open Go.ChangeShapes Go.WideShapes Go.ChangeAt Go.Joins Go.RowKit
open Go.Proofs.Ytinjeffkhjcbnaa.OctR (byB)
open Go.Proofs.Ytinjeffkhjcbnaa.FrQ (rdecF)
theorem rowsK {x : E} (w : wfS (.int .i64 (.int .i64 (.int .i64 (.int .i64 (.int .i64 (.bool (.int .i64 (.int .i64 (.recs (.ints .u8 .nil) (.int .i64 (.int .i64 (.bool (.int .i64 (.int .i64 .nil)))))))))))))) x 0) : ∀ y ∈ rr x 8, ∀ n ∈ rl y 0, 0 ≤ n ∧ n ≤ 255 := fun y hy n hn => wf8 ((w.2.2.2.2.2.2.2.1 y hy).1 n hn)
structure XT where
  i : Int
  a : KN
  c : KN
def ktQ (y : XT) : Prop := 0 ≤ y.i ∧ y.i ≤ 15 ∧ TwoK y.a y.c
noncomputable def ktI (n k : Int) (y : XT) : St := stOf Try.f10.ntmps [(1, .val (.int .i64 n)), (2, .val (.int .u8 k)), (7, .ptr 1 0), (8, .ptr 2 0), (10, .ptr 3 0), (11, .val (.int .i64 y.i))] [(1, .cells 89 [.val (.int .i64 y.a.h), .val (.int .i64 y.a.g), .val (.int .i64 y.a.x.l), .val (.int .i64 y.a.x.c), .val (.int .i64 y.a.x.p), .val (.bool y.a.x.o), .val (.int .i64 y.a.x.b), .val (.int .i64 y.a.x.s), .sl none (.recs (.ints .u8 .nil) y.a.x.q), .val (.int .i64 y.a.x.t), .val (.int .i64 y.a.x.n), .val (.bool y.a.x.w), .val (.int .i64 y.a.u), .val (.int .i64 y.a.v)]), (2, .cells 38 [.any, .any, .any, .any]), (3, .cells 89 [.val (.int .i64 y.c.h), .val (.int .i64 y.c.g), .val (.int .i64 y.c.x.l), .val (.int .i64 y.c.x.c), .val (.int .i64 y.c.x.p), .val (.bool y.c.x.o), .val (.int .i64 y.c.x.b), .val (.int .i64 y.c.x.s), .sl none (.recs (.ints .u8 .nil) y.c.x.q), .val (.int .i64 y.c.x.t), .val (.int .i64 y.c.x.n), .val (.bool y.c.x.w), .val (.int .i64 y.c.u), .val (.int .i64 y.c.v)])] [Any, Any, Any]
def ktM (y : XT) : Nat := (15 - y.i).toNat
def ktR (st : St) : XT := ⟨slotI st 11, ⟨valI (cellC st 7 0), valI (cellC st 7 1), ⟨valI (cellC st 7 2), valI (cellC st 7 3), valI (cellC st 7 4), valB (cellC st 7 5), valI (cellC st 7 6), valI (cellC st 7 7), valR st.heap (cellC st 7 8), valI (cellC st 7 9), valI (cellC st 7 10), valB (cellC st 7 11)⟩, valI (cellC st 7 12), valI (cellC st 7 13)⟩, ⟨valI (cellC st 10 0), valI (cellC st 10 1), ⟨valI (cellC st 10 2), valI (cellC st 10 3), valI (cellC st 10 4), valB (cellC st 10 5), valI (cellC st 10 6), valI (cellC st 10 7), valR st.heap (cellC st 10 8), valI (cellC st 10 9), valI (cellC st 10 10), valB (cellC st 10 11)⟩, valI (cellC st 10 12), valI (cellC st 10 13)⟩⟩
theorem lim15 (k : Int) (h : 0 ≤ k ∧ k ≤ 255) : stdBin .add .i64 1 (IntKind.i64.wrap (stdBin .rem .u8 k 15)) ≤ 15 := by
  rw [b_rem, Int.tmod_eq_emod_of_nonneg h.1, wr _ (by omega) (by omega), b_add, wr _ (by omega) (by omega)]
  omega
set_option maxHeartbeats 4000000 in
set_option maxRecDepth 100000 in
theorem x_law (a0 : E) (a1 : Int) (a2 : Int) (w0 : ∀ y ∈ rr a0 8, ∀ n ∈ rl y 0, 0 ≤ n ∧ n ≤ 255) (w2 : 0 ≤ a2 ∧ a2 ≤ 255) (_ : sized [.agg (shCells Ar.std (.int .i64 (.int .i64 (.int .i64 (.int .i64 (.int .i64 (.bool (.int .i64 (.int .i64 (.recs (.ints .u8 .nil) (.int .i64 (.int .i64 (.bool (.int .i64 (.int .i64 .nil)))))))))))))) a0 0 14), .one (.val (.int .i64 a1)), .one (.val (.int .u8 a2))]) : Does [(14, c_light Us.std), (47, c_ktick Ts.std), (48, c_rkmay Us2.std), (18, c_rlimit HaR.Fs.std), (49, c_kbad Vs2.std), (50, c_rktick Us2.std), (51, c_rksame Us2.std), (24, c_news Js.std), (46, c_kawake Vs2.std)] Try.f10 [.agg (shCells Ar.std (.int .i64 (.int .i64 (.int .i64 (.int .i64 (.int .i64 (.bool (.int .i64 (.int .i64 (.recs (.ints .u8 .nil) (.int .i64 (.int .i64 (.bool (.int .i64 (.int .i64 .nil)))))))))))))) a0 0 14), .one (.val (.int .i64 a1)), .one (.val (.int .u8 a2))] [] ⟨True, .sa (B true), [], [Any, Any, Any]⟩ := by
  intro b gv
  have hfs := (FsOk.cons ok_light (FsOk.cons ok_ktick (FsOk.cons ok_rkmay (FsOk.cons ok_rlimit (FsOk.cons ok_kbad (FsOk.cons ok_rktick (FsOk.cons ok_rksame (FsOk.cons ok_news (FsOk.cons ok_kawake FsOk.nil rfl) rfl) rfl) rfl) rfl) rfl) rfl) rfl) rfl)
  generalize hF : Vs2.std = F at hfs ⊢
  generalize hG0 : Ts.std = G0 at hfs ⊢
  generalize hG1 : Us2.std = G1 at hfs ⊢
  generalize hG2 : Js.std = G2 at hfs ⊢
  generalize hG3 : Us.std = G3 at hfs ⊢
  generalize hG4 : HaR.Fs.std = G4 at hfs ⊢
  generalize hA : Ar.std = A
  generalize hL : Lp _ _ _ = L
  obtain ⟨Z, zq⟩ := z_all
  refine cd_open (lp_mono hL) zq rfl ?_
  repeat' (first
    | (refine z_open zq ?_; try dsimp only)
    | refine cd_seq zq ?_ (lp_mono hL)
    | refine cd_blk zq ?_
    | refine cd_ret ?_
    | refine cd_skip ?_
    | refine cd_exit ?_
    | refine cd_loop ?_
    | refine cd_cond rfl ?_
    | refine cd_condT rfl ?_
    | refine cd_condF rfl ?_
    | (refine Cd.mk ?_; cbv)
    | (refine Ends1.mk ?_; cbv)
    | (refine Fin1.mk ?_; cbv)
    | exact trivial
    | refine And.intro ?_ ?_
    | refine orf fun _ => ?_
    | refine ort fun _ => ?_)
  all_goals first | (show L _ _ _; skip) | (clear hL zq Z hfs; subst hF hA hG0 hG1 hG2 hG3 hG4; have hli : liW (rr a0 8) = true → (rr a0 8).length ≤ 300 := li_len; have hq : (rr a0 8).length ≤ 300 → byS (rr a0 8) = true := fun h => decide_eq_true ⟨by omega, w0⟩; have hkb : ∀ x : KN, kbB x = byS x.x.q := fun _ => rfl; have hkb2 : ∀ x y : KN, kb2 x y = (byS x.x.q && byS y.x.q) := fun _ _ => rfl; have hbb : ∀ x y, badKB x y = (byS x.x.q && nwB y) := fun _ _ => rfl; have hz1 : badK zK zN 1 = true := rfl; have hz2 : byS zK.x.q = true := rfl; have hz3 : nwB zN = true := rfl; have hz4 : nw2 zN ⟨[], [], false, 0⟩ = true := rfl; have hz5 : nwE zN ⟨[], [], false, 0⟩ = true := rfl; have hn2 : ∀ x y, nw2 x y = (nwB x && nwB y) := fun _ _ => rfl; have h2 := fun h => tikK_bad (k := ⟨ri a0 0, ri a0 1, ⟨ri a0 2, ri a0 3, ri a0 4, rb a0 5, ri a0 6, ri a0 7, rr a0 8, ri a0 9, ri a0 10, rb a0 11⟩, ri a0 12, ri a0 13⟩) (n := a1) h; simp only [Vs2.std, Ts.std, Us2.std, Js.std, Us.std, HaR.Fs.std, Ar.std, eta_LN, eta_NW, eta_KN] at *; grind [stdCmp]; done)
  rename_i hx
  have hm : mayK ⟨ri a0 0, ri a0 1, ⟨ri a0 2, ri a0 3, ri a0 4, rb a0 5, ri a0 6, ri a0 7, rr a0 8, ri a0 9, ri a0 10, rb a0 11⟩, ri a0 12, ri a0 13⟩ = true ∧ limitB a1 = true ∧ byS (rr a0 8) = true := by
    clear hL zq Z hfs
    have hli : liW (rr a0 8) = true → (rr a0 8).length ≤ 300 := li_len
    have hq : (rr a0 8).length ≤ 300 → byS (rr a0 8) = true := fun h => decide_eq_true ⟨by omega, w0⟩
    subst hF hA hG0 hG1 hG2 hG3 hG4
    simp only [Vs2.std, Ts.std, Us2.std, Js.std, Us.std, HaR.Fs.std, Ar.std] at *
    grind
  clear hx
  have hlim := lim15 a2 w2
  subst hL
  refine loop_z (cx_ok hfs) ktQ (ktI a1 a2) ktM ktR ⟨0, ⟨A.ri a0 0, A.ri a0 1, ⟨A.ri a0 2, A.ri a0 3, A.ri a0 4, A.rb a0 5, A.ri a0 6, A.ri a0 7, A.rr a0 8, A.ri a0 9, A.ri a0 10, A.rb a0 11⟩, A.ri a0 12, A.ri a0 13⟩, ⟨A.ri a0 0, A.ri a0 1, ⟨A.ri a0 2, A.ri a0 3, A.ri a0 4, A.rb a0 5, A.ri a0 6, A.ri a0 7, A.rr a0 8, A.ri a0 9, A.ri a0 10, A.rb a0 11⟩, A.ri a0 12, A.ri a0 13⟩⟩ ?_ ?_ ?_
  · subst hA
    exact ⟨Int.le_refl 0, show (0 : Int) ≤ 15 by decide, hm.1, hm.1, smK_refl _, hm.2.2, hm.2.2⟩
  · cbv
    repeat' (first | exact trivial | exact rfl | refine And.intro ?_ ?_)
  rintro ⟨i, ⟨x1, x2, ⟨x3, x4, x5, x6, x7, x8, x9, x10, x11, x12⟩, x13, x14⟩, ⟨y1, y2, ⟨y3, y4, y5, y6, y7, y8, y9, y10, y11, y12⟩, y13, y14⟩⟩ hq O hO
  obtain ⟨q0, q1, q2⟩ := id hq
  dsimp only at q0 q1
  obtain ⟨t1, t2⟩ := tikK2 q2 hm.2.1
  have hnx : i < 15 → ktQ ⟨i + 1, (tikK ⟨x1, x2, ⟨x3, x4, x5, x6, x7, x8, x9, x10, x11, x12⟩, x13, x14⟩ a1).k, (rtikK ⟨y1, y2, ⟨y3, y4, y5, y6, y7, y8, y9, y10, y11, y12⟩, y13, y14⟩ a1).k⟩ := fun h => ⟨by simp only; omega, by simp only; omega, t2⟩
  have e1 : i < 15 → stdBin .add .i64 i 1 = i + 1 := fun h => by rw [b_add, wr _ (by omega) (by omega)]
  have t2a := t2.b1
  have t2b := t2.b2
  have k1 : kbB ⟨x1, x2, ⟨x3, x4, x5, x6, x7, x8, x9, x10, x11, x12⟩, x13, x14⟩ = true := q2.b1
  have k2 : (mayK ⟨y1, y2, ⟨y3, y4, y5, y6, y7, y8, y9, y10, y11, y12⟩, y13, y14⟩ && kbB ⟨y1, y2, ⟨y3, y4, y5, y6, y7, y8, y9, y10, y11, y12⟩, y13, y14⟩) = true := by
    rw [Bool.and_eq_true]
    exact ⟨q2.m2, q2.b2⟩
  have k3 : kb2 (tikK ⟨x1, x2, ⟨x3, x4, x5, x6, x7, x8, x9, x10, x11, x12⟩, x13, x14⟩ a1).k (rtikK ⟨y1, y2, ⟨y3, y4, y5, y6, y7, y8, y9, y10, y11, y12⟩, y13, y14⟩ a1).k = true := by
    unfold kb2
    rw [t2.b1, t2.b2]
    rfl
  have k4 : nw2 (tikK ⟨x1, x2, ⟨x3, x4, x5, x6, x7, x8, x9, x10, x11, x12⟩, x13, x14⟩ a1).y (rtikK ⟨y1, y2, ⟨y3, y4, y5, y6, y7, y8, y9, y10, y11, y12⟩, y13, y14⟩ a1).y = true := by
    unfold nw2
    rw [t1.n1, t1.n2]
    rfl
  have k5 := t1.e
  have k6 := t1.s
  have k7 := t1.n
  clear t1 t2
  subst hA
  generalize hA : Ar.std = A
  generalize hL : Lp _ _ _ = L
  refine cd_close zq ?_
  repeat' (first
    | (refine z_open zq ?_; try dsimp only)
    | refine cd_seq zq ?_ (lp_mono hL)
    | refine cd_blk zq ?_
    | refine cd_ret ?_
    | refine cd_skip ?_
    | refine cd_exit ?_
    | refine cd_loop ?_
    | refine cd_cond rfl ?_
    | refine cd_condT rfl ?_
    | refine cd_condF rfl ?_
    | (refine Cd.mk ?_; cbv)
    | (refine Ends1.mk ?_; cbv)
    | (refine Fin1.mk ?_; cbv)
    | exact trivial
    | refine And.intro ?_ ?_
    | refine orf fun _ => ?_
    | refine ort fun _ => ?_)
  all_goals (clear hL hfs zq Z hq q2; subst hA hF hG0 hG1 hG2 hG3 hG4 hO; simp only [Vs2.std, Ts.std, Us2.std, Js.std, Us.std, HaR.Fs.std, Ar.std, eta_LN, eta_NW, eta_KN] at * <;> grind [stdCmp, ktM])
theorem walk (a0 : E) (a1 : Int) (a2 : Int) (v0 : Value) (w : World) (r0 : (SA.agg (shCells Ar.std (.int .i64 (.int .i64 (.int .i64 (.int .i64 (.int .i64 (.bool (.int .i64 (.int .i64 (.recs (.ints .u8 .nil) (.int .i64 (.int .i64 (.bool (.int .i64 (.int .i64 .nil)))))))))))))) a0 0 14)).is (G0 w) v0) (w0 : wfS (.int .i64 (.int .i64 (.int .i64 (.int .i64 (.int .i64 (.bool (.int .i64 (.int .i64 (.recs (.ints .u8 .nil) (.int .i64 (.int .i64 (.bool (.int .i64 (.int .i64 .nil)))))))))))))) a0 0) (_ : (Lit.int .i64 a1).wf = true) (w2 : (Lit.int .u8 a2).wf = true) : Calls Try.prog 10 #[v0, .int .i64 a1, .int .u8 a2] w (Law.Yes w) :=
  yes_of (FsOk.cons ok_light (FsOk.cons ok_ktick (FsOk.cons ok_rkmay (FsOk.cons ok_rlimit (FsOk.cons ok_kbad (FsOk.cons ok_rktick (FsOk.cons ok_rksame (FsOk.cons ok_news (FsOk.cons ok_kawake FsOk.nil rfl) rfl) rfl) rfl) rfl) rfl) rfl) rfl) rfl) Try.func10 rfl (vs := [v0, .int .i64 a1, .int .u8 a2]) (by exact ⟨r0, rfl, rfl, trivial⟩) (lee_le rfl) fun hZ => x_law a0 a1 a2 (rowsK w0) (wf8 w2) hZ
theorem own : ownKnob Try.prog.godebug = none := by kernel_rfl
theorem laidOut : laidOutB Try.prog = true := by kernel_rfl
set_option maxRecDepth 100000 in
theorem lifted (os : Os) (started : os.Started) (H : Type) (enc : TypeId × Value → H) :
    ReturnsInHanded {} Try.checked os 10 .any (Rows.linkTicksSpec.pre6 enc Try.prog Try.f10 Rows.linkTicksRow.domain false) (Rows.linkTicksSpec.post enc Try.prog Try.f10 false true false false) := by
  refine returnsInHanded_of_change_sized (C := Try.checked) own started (by kernel_rfl) Try.func10
    (ChangeSpec.witness6 (enc := enc) (C := Try.checked) false ⟨#[], #[.agg #[.int .i64 0, .int .i64 0, .int .i64 0, .int .i64 0, .int .i64 0, .bool false, .int .i64 0, .int .i64 0, .slice none 0 0, .int .i64 0, .int .i64 0, .bool false, .int .i64 0, .int .i64 0], .int .i64 0, .int .u8 0], []⟩ 8 (by kernel_rfl) (by kernel_rfl) (by kernel_rfl) (by kernel_rfl)) ?_
  intro W base args ds gs before hval0 hW _ hz _
  have hval : ∀ (j : Nat) t v, Try.f10.params[j]? = some t → args[j]? = some v → Value.okWide Try.prog W .any base t v := hval0
  have hW' := hW
  obtain ⟨p, q, hA0, hV, rfl, _, _⟩ := hW
  have hA : DataW.TrodAll enc Try.prog W 0 (fun _ => true) true Try.f10.params.toList args.toList ds p := hA0
  rw [Try.params10] at hA hval
  obtain ⟨v0, v1, v2, d0, d1, d2, p0, p1, p2, rfl, rfl, rfl, h0, h1, h2⟩ := trodAll_three hA
  obtain ⟨rfl, rfl⟩ := trodVars_none hV
  obtain ⟨a0, r0, w0⟩ := agg_any (s := .int .i64 (.int .i64 (.int .i64 (.int .i64 (.int .i64 (.bool (.int .i64 (.int .i64 (.recs (.ints .u8 .nil) (.int .i64 (.int .i64 (.bool (.int .i64 (.int .i64 .nil)))))))))))))) (by rw [Try.underlying89]) (by kernel_rfl) (by kernel_rfl) (hval 0 89 v0 rfl rfl) h0
  obtain ⟨a1, rfl, rfl, rfl, w1⟩ := open_int Try.underlying3 (hval 1 3 v1 rfl rfl) h1
  obtain ⟨a2, rfl, rfl, rfl, w2⟩ := open_int Try.underlying5 (hval 2 5 v2 rfl rfl) h2
  refine (walk a0 a1 a2 v0 W r0 w0 w1 w2).mono fun e W' ⟨he, hb⟩ => ?_
  subst he
  exact ⟨_, rfl, law_post laidOut (by kernel_rfl) (by kernel_rfl) Try.underlying4 rfl hW' rfl hb⟩
theorem proved : Rows.LinkTicksSaid :=
  OpenClaim.holds_of_wide 10 Try.f10 rfl rfl rfl rfl rfl rfl rfl ⟨rfl, rfl, rfl, rfl, rfl⟩ rfl rfl rfl rfl rfl (by kernel_rfl) Try.func10 (by kernel_rfl)
    (of_decide_eq_true (by kernel_rfl)) (by unfold Func.isWrapper; first | (rw [if_pos (by decide +kernel)]; kernel_rfl) | (rw [if_neg (by decide +kernel)]; exact ⟨rfl, rfl⟩))
    (fun os started H enc _ => lifted os started H enc)
end Go.Proofs.Ytinjeffkhjcbnaa.LinkTicks
