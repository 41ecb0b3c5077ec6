/-
  JoinCounts: for every input the call tells true, and nothing that was there turns. No condition.
-/
import Derived.Test.YtgfficaonampbaaRows
import Derived.Test.YtgfficaonampbaaLaw
import Derived.Test.YtgfficaonampbaaRyIn
import Derived.Test.YtgfficaonampbaaRyZ
import Derived.Test.YtgfficaonampbaaJoN
namespace Go.Proofs.Ytgfficaonampbaa.JoinCounts
open Go Go.Proofs.Ytgfficaonampbaa.Ry Go.Proofs.Ytgfficaonampbaa.Law Go.Proofs.Ytgfficaonampbaa.JoN Go.Proofs.Ytgfficaonampbaa.JoS Go.Proofs.Ytgfficaonampbaa.JoR Go.Proofs.Ytgfficaonampbaa.JoW
open Go.ChangeShapes Go.WideShapes Go.ChangeAt Go.Joins Go.RowKit
structure XCt where
  i : Int
  s : Int
  u : List Int
  z : List Int
def ctQ (n : Int) (l : List E) (y : XCt) : Prop := 0 ≤ y.i ∧ y.i ≤ l.length ∧ ∃ W, W.length = (n + 1).toNat ∧ JInv W y.s y.u y.z
noncomputable def ctI (n : Int) (l : List E) (y : XCt) : St := stOf Try.f6.ntmps [(1, .sl none (.recs (.int .i64 (.int .i64 .nil)) l)), (5, .val (.int .i64 n)), (6, .ptr 1 0), (8, .val (.int .i64 y.s)), (9, .val (.int .i64 y.i))] [(1, .cells 42 [.own 2, .own 3, .val (.int .i64 y.s)]), (2, .row 3 (.ints .i64 y.u)), (3, .row 3 (.ints .i64 y.z))] [Any, Any]
def ctM (l : List E) (y : XCt) : Nat := l.length - y.i.toNat
def ctR (st : St) : XCt := ⟨slotI st 9, slotI st 8, valL st.heap (cellC st 6 0), valL st.heap (cellC st 6 1)⟩
structure XCv where
  i : Int
  t : Int
  v : List Int
def cvQ (n : Int) (W : List Int) (y : XCv) : Prop := 1 ≤ y.i ∧ y.i ≤ n + 1 ∧ Up y.v W ∧ y.t = acc W (List.range W.length) y.i.toNat
noncomputable def cvI (n s : Int) (z : List Int) (y : XCv) : St := stOf Try.f6.ntmps [(5, .val (.int .i64 n)), (6, .ptr 1 0), (10, .val (.int .i64 y.t)), (11, .val (.int .i64 y.i))] [(1, .cells 42 [.own 2, .own 3, .val (.int .i64 s)]), (2, .row 3 (.ints .i64 y.v)), (3, .row 3 (.ints .i64 z))] [Any, Any]
def cvM (n : Int) (y : XCv) : Nat := (n + 1 - y.i).toNat
def cvR (st : St) : XCv := ⟨slotI st 11, slotI st 10, valL st.heap (cellC st 6 0)⟩
theorem cv_step {n : Int} {W : List Int} {s : Int} {u z : List Int} (hn : W.length = (n + 1).toNat) (hj : JInv W s u z) (hm : 0 ≤ n ∧ n < 40) {i t : Int} {v : List Int} (hq : cvQ n W ⟨i, t, v⟩) :
    (i ≤ n → lstI v i = ix W i ∧ okZ (lstU v i) z = true ∧ (¬ ix W i = i → cvQ n W ⟨i + 1, t, lstU v i⟩) ∧ (ix W i = i → cvQ n W ⟨i + 1, stdBin .add .i64 t (szI (lstU v i) z i), lstU (lstU v i) i⟩)) := by
  obtain ⟨h1, h2, h3, h4⟩ := hq
  simp only at h1 h2 h3 h4
  intro h
  have hi : 1 ≤ i ∧ i < W.length := by omega
  obtain ⟨k1, k2⟩ := lst_w h3 i
  obtain ⟨k3, k4⟩ := lst_w k2 i
  have e : lw W i = ix W i := by unfold lw; rw [if_pos hi]
  have hlo := hj.ok.lo i hi.1 hi.2
  have ha : acc W (List.range W.length) (i + 1).toNat = acc W (List.range W.length) i.toNat + if 1 ≤ i ∧ ix W i = i then size W i else 0 := by
    have e1 : (i + 1).toNat = i.toNat + 1 := by omega
    have e2 : ((i.toNat : Nat) : Int) = i := by omega
    rw [e1]
    show acc W (List.range W.length) i.toNat + _ = _
    rw [e2]
    rfl
  refine ⟨by rw [k1, e], ?_, fun hne => ⟨by simp only; omega, by simp only; omega, k2, ?_⟩, fun he => ⟨by simp only; omega, by simp only; omega, k4, ?_⟩⟩
  · unfold okZ
    rw [up_ok k2 hj.ok (by omega), hj.zl, k2.len]
    simp
  · simp only
    rw [ha, if_neg fun q => hne q.2, h4]
    simp
  · simp only
    have hs := size_le W i
    have hb := acc_le W (List.range W.length) i.toNat
    have hb2 : i.toNat * (List.range W.length).length ≤ 41 * 41 := Nat.mul_le_mul (by omega) (by rw [List.length_range]; omega)
    have hz : szI (lstU v i) z i = size W i := by
      unfold szI
      rw [k3, e, if_neg (by omega), he]
      exact hj.z i hi.1 hi.2 he
    rw [hz, ha, if_pos ⟨hi.1, he⟩, h4, b_add, wr _ (by omega) (by omega)]
    push_cast
    rfl
theorem cv_end {n : Int} {W : List Int} {s : Int} {u z : List Int} (hn : W.length = (n + 1).toNat) (hj : JInv W s u z) (hm : 0 ≤ n ∧ n < 40) {i t : Int} {v : List Int} (hq : cvQ n W ⟨i, t, v⟩) (h : i = n + 1) : t = n := by
  obtain ⟨h1, h2, h3, h4⟩ := hq
  simp only at h1 h2 h3 h4
  have e : i.toNat = W.length := by omega
  rw [h4, e, acc_all W hj.ok]
  omega
theorem mod40 (a : Int) (h : 0 ≤ a ∧ a ≤ 255) : 0 ≤ IntKind.i64.wrap (stdBin .rem .u8 a 40) ∧ IntKind.i64.wrap (stdBin .rem .u8 a 40) < 40 := by
  rw [b_rem, Int.tmod_eq_emod_of_nonneg h.1, wr _ (by omega) (by omega)]
  omega
set_option maxHeartbeats 4000000 in
set_option cbv.maxSteps 1000000 in
set_option maxRecDepth 100000 in
theorem x_law (a0 : Int) (a1 : List E) (w0 : 0 ≤ a0 ∧ a0 ≤ 255) (_ : sized [.one (.val (.int .u8 a0)), .one (.sl none (.recs (.int .i64 (.int .i64 .nil)) a1))]) : Does [(15, c_new Ns.std), (19, c_unite Fs.std), (17, c_sets Fs.std), (keepKey 17, noCon), (18, c_least Fs.std), (24, c_sizef Fs.std), (16, c_awake Ns.std)] Try.f6 [.one (.val (.int .u8 a0)), .one (.sl none (.recs (.int .i64 (.int .i64 .nil)) a1))] [] ⟨True, .sa (B true), [], [Any, Any]⟩ := by
  intro b gv
  have hm := mod40 a0 w0
  have hfs := (FsOk.cons ok_new (FsOk.cons ok_unite (FsOk.keeps ok_sets kp_sets (FsOk.cons ok_least (FsOk.cons ok_sizef (FsOk.cons ok_awake FsOk.nil rfl) rfl) rfl)) rfl) rfl)
  generalize hF : Ns.std = F at hfs ⊢
  generalize hG0 : Fs.std = G0 at hfs ⊢
  generalize hA : Ar.std = A
  generalize hL : Lp _ _ _ = L
  obtain ⟨Z, zq⟩ := z_all
  refine cd_open (lp_mono hL) zq rfl ?_
  repeat' (first
    | (refine z_open zq ?_; try dsimp only)
    | refine cd_seq zq ?_ (lp_mono hL)
    | refine cd_blk zq ?_
    | refine cd_ret ?_
    | refine cd_skip ?_
    | refine cd_exit ?_
    | refine cd_loop ?_
    | refine cd_cond rfl ?_
    | refine cd_condT rfl ?_
    | refine cd_condF rfl ?_
    | (refine Cd.mk ?_; cbv)
    | (refine Ends1.mk ?_; cbv)
    | (refine Fin1.mk ?_; cbv)
    | exact trivial
    | refine And.intro ?_ ?_
    | refine orf fun _ => ?_
    | refine ort fun _ => ?_)
  all_goals first | (show L _ _ _; skip) | (clear hfs hL zq Z; subst hA hF hG0; simp only [Ns.std, Fs.std, Ar.std] at *; grind [stdCmp, vN]; done)
  subst hL
  refine loop_z (cx_ok hfs) (ctQ (IntKind.i64.wrap (stdBin .rem .u8 a0 40)) a1) (ctI (A.conv .i64 (A.bin .rem .u8 a0 40)) a1) (ctM a1) ctR ⟨0, A.conv .i64 (A.bin .rem .u8 a0 40), F.n_io (A.conv .i64 (A.bin .rem .u8 a0 40)), F.n_on (A.conv .i64 (A.bin .rem .u8 a0 40))⟩ ?_ ?_ ?_
  · subst hA hF
    exact ⟨Int.le_refl 0, Int.natCast_nonneg _, iota _, iota_len _, jinv_new _ hm.1⟩
  · cbv
    repeat' (first | exact trivial | exact rfl | refine And.intro ?_ ?_)
  rintro ⟨i, s, u, z⟩ ⟨q0, q1, W, q2, q3⟩ O hO
  dsimp only at q0 q1 q2 q3
  have hl1 : W.length ≤ 41 := by omega
  have hl1' : W.length ≤ 5000 := by omega
  have hun := fun a b => jinv_unite q3 (by omega) a b
  have hokz : okZ u z = true := by
    unfold okZ
    rw [up_ok q3.up q3.ok (by omega), q3.zl, q3.up.len]
    simp
  have hqn : ∀ a b, i < a1.length → ctQ (IntKind.i64.wrap (stdBin .rem .u8 a0 40)) a1 ⟨i + 1, unS u s a b, unU u a b, unZ u z a b⟩ := fun a b h => ⟨by simp only; omega, by simp only; omega, uniW W a b, by rw [uni_len]; exact q2, (hun a b).1⟩
  have hsr : ∀ a b, unS u s a b = if unB u a b = true then stdBin .sub .i64 s 1 else s := fun a b => rfl
  subst hA
  generalize hA : Ar.std = A
  generalize hL : Lp _ _ _ = L
  refine cd_close zq ?_
  repeat' (first
    | (refine z_open zq ?_; try dsimp only)
    | refine cd_seq zq ?_ (lp_mono hL)
    | refine cd_blk zq ?_
    | refine cd_ret ?_
    | refine cd_skip ?_
    | refine cd_exit ?_
    | refine cd_loop ?_
    | refine cd_cond rfl ?_
    | refine cd_condT rfl ?_
    | refine cd_condF rfl ?_
    | (refine Cd.mk ?_; cbv)
    | (refine Ends1.mk ?_; cbv)
    | (refine Fin1.mk ?_; cbv)
    | exact trivial
    | refine And.intro ?_ ?_
    | refine orf fun _ => ?_
    | refine ort fun _ => ?_)
  all_goals first | (show L _ _ _; skip) | (clear hL hfs zq Z; subst hA hF hG0 hO; simp only [Ns.std, Fs.std, Ar.std] at * <;> grind [stdCmp, b_add, wr, ctM]; done)
  rename_i hx
  have hn : W.length = ((IntKind.i64.wrap (stdBin .rem .u8 a0 40)) + 1).toNat := q2
  clear hx hun hqn hsr hokz
  subst hL
  refine loop_z (cx_ok hfs) (cvQ (IntKind.i64.wrap (stdBin .rem .u8 a0 40)) W) (cvI (A.conv .i64 (A.bin .rem .u8 a0 40)) s z) (cvM (IntKind.i64.wrap (stdBin .rem .u8 a0 40))) cvR ⟨1, 0, u⟩ ?_ ?_ ?_
  · exact ⟨Int.le_refl 1, by simp only; omega, q3.up, by simp [acc]⟩
  · cbv
    repeat' (first | exact trivial | exact rfl | refine And.intro ?_ ?_)
  clear q0 q1 hO O i
  rintro ⟨i, t, v⟩ hq O hO
  have hst := cv_step hn q3 hm hq
  have q0 := hq.1
  have q1 := hq.2.1
  have q4 := hq.2.2.1
  simp only at q0 q1 q4
  have hen : i = (IntKind.i64.wrap (stdBin .rem .u8 a0 40)) + 1 → t = IntKind.i64.wrap (stdBin .rem .u8 a0 40) := fun h => cv_end hn q3 hm hq h
  have hok : okU v = true := up_ok q4 q3.ok hl1'
  subst hA
  generalize hA : Ar.std = A
  generalize hL : Lp _ _ _ = L
  refine cd_close zq ?_
  repeat' (first
    | (refine z_open zq ?_; try dsimp only)
    | refine cd_seq zq ?_ (lp_mono hL)
    | refine cd_blk zq ?_
    | refine cd_ret ?_
    | refine cd_skip ?_
    | refine cd_exit ?_
    | refine cd_loop ?_
    | refine cd_cond rfl ?_
    | refine cd_condT rfl ?_
    | refine cd_condF rfl ?_
    | (refine Cd.mk ?_; cbv)
    | (refine Ends1.mk ?_; cbv)
    | (refine Fin1.mk ?_; cbv)
    | exact trivial
    | refine And.intro ?_ ?_
    | refine orf fun _ => ?_
    | refine ort fun _ => ?_)
  all_goals (clear hL hfs zq Z; subst hA hF hG0 hO; simp only [Ns.std, Fs.std, Ar.std] at * <;> grind [stdCmp, b_add, wr, cvM])
theorem walk (a0 : Int) (a1 : List E) (A1 : Option Addr) (n1 c1 : Nat) (w : World) (w0 : (Lit.int .u8 a0).wf = true) (r1 : (SC.sl none (.recs (.int .i64 (.int .i64 .nil)) a1)).is (G0 w) (.slice A1 n1 c1)) (_ : ∀ y ∈ a1, wfS (.int .i64 (.int .i64 .nil)) y 0) (_ : a1.length ≤ 140737488355328) : Calls Try.prog 6 #[.int .u8 a0, .slice A1 n1 c1] w (Law.Yes w) :=
  yes_of (FsOk.cons ok_new (FsOk.cons ok_unite (FsOk.keeps ok_sets kp_sets (FsOk.cons ok_least (FsOk.cons ok_sizef (FsOk.cons ok_awake FsOk.nil rfl) rfl) rfl)) rfl) rfl) Try.func6 rfl (vs := [.int .u8 a0, .slice A1 n1 c1]) (by exact ⟨rfl, r1, trivial⟩) (lee_le rfl) fun hZ => x_law a0 a1 (wf8 w0) hZ
theorem own : ownKnob Try.prog.godebug = none := by kernel_rfl
theorem laidOut : laidOutB Try.prog = true := by kernel_rfl
set_option maxRecDepth 100000 in
theorem lifted (os : Os) (started : os.Started) (H : Type) (enc : TypeId × Value → H) :
    ReturnsInHanded {} Try.checked os 6 .any (Rows.joinCountsSpec.pre6 enc Try.prog Try.f6 Rows.joinCountsRow.domain false) (Rows.joinCountsSpec.post enc Try.prog Try.f6 false true false false) := by
  refine returnsInHanded_of_change_sized (C := Try.checked) own started (by kernel_rfl) Try.func6
    (ChangeSpec.witness6 (enc := enc) (C := Try.checked) false ⟨#[], #[.int .u8 0, .slice none 0 0], []⟩ 8 (by kernel_rfl) (by kernel_rfl) (by kernel_rfl) (by kernel_rfl)) ?_
  intro W base args ds gs before hval0 hW _ hz _
  have hval : ∀ (j : Nat) t v, Try.f6.params[j]? = some t → args[j]? = some v → Value.okWide Try.prog W .any base t v := hval0
  have hW' := hW
  obtain ⟨p, q, hA0, hV, rfl, _, _⟩ := hW
  have hA : DataW.TrodAll enc Try.prog W 0 (fun _ => true) true Try.f6.params.toList args.toList ds p := hA0
  rw [Try.params6] at hA hval
  obtain ⟨v0, v1, d0, d1, p0, p1, rfl, rfl, rfl, h0, h1⟩ := trodAll_two hA
  obtain ⟨rfl, rfl⟩ := trodVars_none hV
  obtain ⟨a0, rfl, rfl, rfl, w0⟩ := open_int Try.underlying5 (hval 0 5 v0 rfl rfl) h0
  obtain ⟨A1, n1, c1, a1, rfl, l1, r1, w1⟩ := sl_any (s := .int .i64 (.int .i64 .nil)) Try.underlying22 (by kernel_rfl) (by kernel_rfl) (hval 1 22 v1 rfl rfl) h1
  have s1 : a1.length ≤ 140737488355328 := by rw [l1]; exact short_of Try.underlying22 (by decide +kernel) hz (j := 1) rfl rfl h1
  refine (walk a0 a1 A1 n1 c1 W w0 r1 w1 s1).mono fun e W' ⟨he, hb⟩ => ?_
  subst he
  exact ⟨_, rfl, law_post laidOut (by kernel_rfl) (by kernel_rfl) Try.underlying4 rfl hW' rfl hb⟩
theorem proved : Rows.JoinCountsSaid :=
  OpenClaim.holds_of_wide 6 Try.f6 rfl rfl rfl rfl rfl rfl rfl ⟨rfl, rfl, rfl, rfl, rfl⟩ rfl rfl rfl rfl rfl (by kernel_rfl) Try.func6 (by kernel_rfl)
    (of_decide_eq_true (by kernel_rfl)) (by unfold Func.isWrapper; first | (rw [if_pos (by decide +kernel)]; kernel_rfl) | (rw [if_neg (by decide +kernel)]; exact ⟨rfl, rfl⟩))
    (fun os started H enc _ => lifted os started H enc)
end Go.Proofs.Ytgfficaonampbaa.JoinCounts
