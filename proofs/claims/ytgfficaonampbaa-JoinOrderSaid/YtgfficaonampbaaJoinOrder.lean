/-
  JoinOrder: for every input the call tells true, and nothing that was there turns. No condition.
-/
import Derived.Test.YtgfficaonampbaaRows
import Derived.Test.YtgfficaonampbaaLaw
import Derived.Test.YtgfficaonampbaaRyIn
import Derived.Test.YtgfficaonampbaaRyZ
import Derived.Test.YtgfficaonampbaaJoN
import Derived.Test.YtgfficaonampbaaJoC
namespace Go.Proofs.Ytgfficaonampbaa.JoinOrder
open Go Go.Proofs.Ytgfficaonampbaa.Ry Go.Proofs.Ytgfficaonampbaa.Law Go.Proofs.Ytgfficaonampbaa.JoN Go.Proofs.Ytgfficaonampbaa.JoC Go.Proofs.Ytgfficaonampbaa.JoS Go.Proofs.Ytgfficaonampbaa.JoR Go.Proofs.Ytgfficaonampbaa.JoW
open Go.ChangeShapes Go.WideShapes Go.ChangeAt Go.Joins Go.RowKit
theorem mod40 (a : Int) (h : 0 ≤ a ∧ a ≤ 255) : 0 ≤ IntKind.i64.wrap (stdBin .rem .u8 a 40) ∧ IntKind.i64.wrap (stdBin .rem .u8 a 40) < 40 := by
  rw [b_rem, Int.tmod_eq_emod_of_nonneg h.1, wr _ (by omega) (by omega)]
  omega
def px (l : List E) (i : Int) : Int := ri (l.getD i.toNat []) 0
def py (l : List E) (i : Int) : Int := ri (l.getD i.toNat []) 1
def Vn (n x : Int) : Prop := 1 ≤ x ∧ x ≤ n
def Ra (n : Int) (l : List E) (lo hi : Int) (x y : Int) : Prop := ∃ j : Int, lo ≤ j ∧ j < hi ∧ (Vn n (px l j) ∧ Vn n (py l j)) ∧ x = px l j ∧ y = py l j
structure XO where
  i : Int
  s : Int
  u : List Int
  z : List Int
  s2 : Int
  u2 : List Int
  z2 : List Int
def joQ (n : Int) (l : List E) (k : Int) (y : XO) : Prop := 0 ≤ y.i ∧ y.i ≤ k ∧ (∃ W, W.length = (n + 1).toNat ∧ JInv W y.s y.u y.z ∧ Cl W (Ra n l 0 y.i)) ∧ ∃ W, W.length = (n + 1).toNat ∧ JInv W y.s2 y.u2 y.z2 ∧ Cl W (Ra n l (k - y.i) k)
noncomputable def joI (n : Int) (l : List E) (k : Int) (y : XO) : St := stOf Try.f4.ntmps [(1, .sl none (.recs (.int .i64 (.int .i64 .nil)) l)), (5, .val (.int .i64 n)), (6, .ptr 1 0), (8, .ptr 4 0), (10, .val (.int .i64 k)), (11, .val (.int .i64 y.i))] [(1, .cells 42 [.own 2, .own 3, .val (.int .i64 y.s)]), (2, .row 3 (.ints .i64 y.u)), (3, .row 3 (.ints .i64 y.z)), (4, .cells 42 [.own 5, .own 6, .val (.int .i64 y.s2)]), (5, .row 3 (.ints .i64 y.u2)), (6, .row 3 (.ints .i64 y.z2))] [Any, Any]
def joM (k : Int) (y : XO) : Nat := (k - y.i).toNat
def joR (st : St) : XO := ⟨slotI st 11, valI (cellC st 6 2), valL st.heap (cellC st 6 0), valL st.heap (cellC st 6 1), valI (cellC st 8 2), valL st.heap (cellC st 8 0), valL st.heap (cellC st 8 1)⟩
theorem vn_in {n : Int} {W : List Int} (h : W.length = (n + 1).toNat) (hn : 0 ≤ n) (x : Int) : In W x ↔ Vn n x := by
  unfold In Vn
  omega
theorem jo_zero (n : Int) (l : List E) (k : Int) (hn : 0 ≤ n ∧ n < 40) (hk : 0 ≤ k ∧ k ≤ 60 ∧ k ≤ l.length) : joQ n l k ⟨0, n, iota n, ones n, n, iota n, ones n⟩ := by
  refine ⟨Int.le_refl 0, hk.1, ⟨iota n, iota_len n, jinv_new n hn.1, cl_congr (cl_new n hn.1) fun x y => ⟨fun q => q.elim, fun ⟨j, q1, q2, _⟩ => ?_⟩⟩, ⟨iota n, iota_len n, jinv_new n hn.1, cl_congr (cl_new n hn.1) fun x y => ⟨fun q => q.elim, fun ⟨j, q1, q2, _⟩ => ?_⟩⟩⟩
  · simp only at q2; omega
  · simp only at q1; omega
theorem jo_step {n : Int} {l : List E} {k : Int} (hn : 0 ≤ n ∧ n < 40) (hk : 0 ≤ k ∧ k ≤ 60 ∧ k ≤ l.length) {i s : Int} {u z : List Int} {s2 : Int} {u2 z2 : List Int} (hq : joQ n l k ⟨i, s, u, z, s2, u2, z2⟩) (h : i < k) :
    stdBin .sub .i64 k 1 = k - 1 ∧ stdBin .sub .i64 (k - 1) i = k - 1 - i ∧ joQ n l k ⟨i + 1, unS u s (px l i) (py l i), unU u (px l i) (py l i), unZ u z (px l i) (py l i), unS u2 s2 (py l (k - 1 - i)) (px l (k - 1 - i)), unU u2 (py l (k - 1 - i)) (px l (k - 1 - i)), unZ u2 z2 (py l (k - 1 - i)) (px l (k - 1 - i))⟩ := by
  obtain ⟨h1, h2, ⟨W, w1, w2, w3⟩, ⟨V, v1, v2, v3⟩⟩ := hq
  simp only at h1 h2 w2 w3 v2 v3
  have c1 := cl_step w2.ok w3 (px l i) (py l i)
  have c2 := cl_step v2.ok v3 (px l (k - 1 - i)) (py l (k - 1 - i))
  rw [uni_symm] at c2
  refine ⟨by rw [b_sub, wr _ (by omega) (by omega)], by rw [b_sub, wr _ (by omega) (by omega)], by simp only; omega, by simp only; omega, ⟨_, ?_, (jinv_unite w2 (by omega) _ _).1, cl_congr c1 fun x y => ?_⟩, ⟨_, ?_, (jinv_unite v2 (by omega) _ _).1, cl_congr c2 fun x y => ?_⟩⟩
  · rw [uni_len]; exact w1
  · rw [vn_in w1 hn.1, vn_in w1 hn.1]
    simp only
    constructor
    · rintro (⟨j, q1, q2, q3⟩ | ⟨q1, q2, q3⟩)
      · exact ⟨j, q1, by omega, q3⟩
      · exact ⟨i, h1, by omega, q1, q2, q3⟩
    · rintro ⟨j, q1, q2, q3, q4, q5⟩
      by_cases e : j = i
      · subst e
        exact .inr ⟨q3, q4, q5⟩
      · exact .inl ⟨j, q1, by omega, q3, q4, q5⟩
  · rw [uni_len]; exact v1
  · rw [vn_in v1 hn.1, vn_in v1 hn.1]
    simp only
    constructor
    · rintro (⟨j, q1, q2, q3⟩ | ⟨q1, q2, q3⟩)
      · exact ⟨j, by omega, q2, q3⟩
      · exact ⟨k - 1 - i, by omega, by omega, q1, q2, q3⟩
    · rintro ⟨j, q1, q2, q3, q4, q5⟩
      by_cases e : j = k - 1 - i
      · subst e
        exact .inr ⟨q3, q4, q5⟩
      · exact .inl ⟨j, by omega, q2, q3, q4, q5⟩
theorem jo_ok {n : Int} {l : List E} {k : Int} (hn : 0 ≤ n ∧ n < 40) {i s : Int} {u z : List Int} {s2 : Int} {u2 z2 : List Int} (hq : joQ n l k ⟨i, s, u, z, s2, u2, z2⟩) : okZ u z = true ∧ okZ u2 z2 = true := by
  obtain ⟨h1, h2, ⟨W, w1, w2, w3⟩, ⟨V, v1, v2, v3⟩⟩ := hq
  simp only at w2 v2
  unfold okZ
  rw [up_ok w2.up w2.ok (by omega), up_ok v2.up v2.ok (by omega), w2.zl, w2.up.len, v2.zl, v2.up.len]
  simp
/-- Two joins of one closure. -/
structure JE (n : Int) (W V : List Int) (s : Int) (u z : List Int) (s2 : Int) (u2 z2 : List Int) : Prop where
  w : W.length = (n + 1).toNat
  v : V.length = W.length
  jw : JInv W s u z
  jv : JInv V s2 u2 z2
  eq : ∀ x, In W x → ix V x = ix W x
theorem jo_end {n : Int} {l : List E} {k : Int} (hn : 0 ≤ n ∧ n < 40) (hk : 0 ≤ k ∧ k ≤ 60 ∧ k ≤ l.length) {i s : Int} {u z : List Int} {s2 : Int} {u2 z2 : List Int} (hq : joQ n l k ⟨i, s, u, z, s2, u2, z2⟩) (h : i = k) : ∃ W V, JE n W V s u z s2 u2 z2 := by
  obtain ⟨h1, h2, ⟨W, w1, w2, w3⟩, ⟨V, v1, v2, v3⟩⟩ := hq
  simp only at h1 h2 w2 w3 v2 v3
  subst h
  have e : i - i = 0 := by omega
  rw [e] at v3
  exact ⟨W, V, w1, v1.trans w1.symm, w2, v2, fun x hx => cl_same v2.ok w2.ok (v1.trans w1.symm) v3 w3 hx⟩
structure XP where
  i : Int
  v : List Int
  v2 : List Int
def jpQ (n : Int) (W V : List Int) (y : XP) : Prop := -1 ≤ y.i ∧ y.i ≤ n + 2 ∧ Up y.v W ∧ Up y.v2 V
noncomputable def jpI (n s : Int) (z : List Int) (s2 : Int) (z2 : List Int) (y : XP) : St := stOf Try.f4.ntmps [(5, .val (.int .i64 n)), (6, .ptr 1 0), (8, .ptr 4 0), (12, .val (.int .i64 y.i))] [(1, .cells 42 [.own 2, .own 3, .val (.int .i64 s)]), (2, .row 3 (.ints .i64 y.v)), (3, .row 3 (.ints .i64 z)), (4, .cells 42 [.own 5, .own 6, .val (.int .i64 s2)]), (5, .row 3 (.ints .i64 y.v2)), (6, .row 3 (.ints .i64 z2))] [Any, Any]
def jpM (n : Int) (y : XP) : Nat := (n + 2 - y.i).toNat
def jpR (st : St) : XP := ⟨slotI st 12, valL st.heap (cellC st 6 0), valL st.heap (cellC st 8 0)⟩
theorem jp_step {n : Int} {W V : List Int} {s : Int} {u z : List Int} {s2 : Int} {u2 z2 : List Int} (hn : 0 ≤ n ∧ n < 40) (he : JE n W V s u z s2 u2 z2) {i : Int} {v v2 : List Int} (hq : jpQ n W V ⟨i, v, v2⟩) :
    okU v = true ∧ okU v2 = true ∧ okZ (lstU v i) z = true ∧ okZ (lstU v2 i) z2 = true ∧ lstI v i = lstI v2 i ∧ szI (lstU v i) z i = szI (lstU v2 i) z2 i ∧ (i ≤ n + 1 → jpQ n W V ⟨i + 1, lstU (lstU v i) i, lstU (lstU v2 i) i⟩) ∧ s = s2 := by
  obtain ⟨h1, h2, h3, h4⟩ := hq
  simp only at h1 h2 h3 h4
  obtain ⟨w, hv, jw, jv, eq⟩ := he
  obtain ⟨a1, a2⟩ := lst_w h3 i
  obtain ⟨b1, b2⟩ := lst_w h4 i
  have hl := same_lw hv eq i
  refine ⟨up_ok h3 jw.ok (by omega), up_ok h4 jv.ok (by omega), ?_, ?_, by rw [a1, b1, hl], ?_, fun h => ⟨by simp only; omega, by simp only; omega, (lst_w a2 i).2, (lst_w b2 i).2⟩, ?_⟩
  · unfold okZ
    rw [up_ok a2 jw.ok (by omega), jw.zl, a2.len]
    simp
  · unfold okZ
    rw [up_ok b2 jv.ok (by omega), jv.zl, b2.len]
    simp
  · rw [sz_w jw a2, sz_w jv b2, hl, same_size hv eq]
  · rw [jw.s, jv.s, same_sets hv eq]
set_option maxHeartbeats 8000000 in
set_option cbv.maxSteps 1000000 in
set_option maxRecDepth 100000 in
theorem x_law (a0 : Int) (a1 : List E) (w0 : 0 ≤ a0 ∧ a0 ≤ 255) (_ : sized [.one (.val (.int .u8 a0)), .one (.sl none (.recs (.int .i64 (.int .i64 .nil)) a1))]) : Does [(15, c_new Ns.std), (19, c_unite Fs.std), (17, c_sets Fs.std), (keepKey 17, noCon), (18, c_least Fs.std), (24, c_sizef Fs.std), (16, c_awake Ns.std)] Try.f4 [.one (.val (.int .u8 a0)), .one (.sl none (.recs (.int .i64 (.int .i64 .nil)) a1))] [] ⟨True, .sa (B true), [], [Any, Any]⟩ := by
  intro b gv
  have hm := mod40 a0 w0
  have hfs := (FsOk.cons ok_new (FsOk.cons ok_unite (FsOk.keeps ok_sets kp_sets (FsOk.cons ok_least (FsOk.cons ok_sizef (FsOk.cons ok_awake FsOk.nil rfl) rfl) rfl)) rfl) rfl)
  generalize hF : Ns.std = F at hfs ⊢
  generalize hG0 : Fs.std = G0 at hfs ⊢
  generalize hA : Ar.std = A
  generalize hL : Lp _ _ _ = L
  obtain ⟨Z, zq⟩ := z_all
  refine cd_open (lp_mono hL) zq rfl ?_
  repeat' (first
    | (refine z_open zq ?_; try dsimp only)
    | refine cd_seq zq ?_ (lp_mono hL)
    | refine cd_blk zq ?_
    | refine cd_ret ?_
    | refine cd_skip ?_
    | refine cd_exit ?_
    | refine cd_loop ?_
    | refine cd_cond rfl ?_
    | refine cd_condT rfl ?_
    | refine cd_condF rfl ?_
    | (refine Cd.mk ?_; cbv)
    | (refine Ends1.mk ?_; cbv)
    | (refine Fin1.mk ?_; cbv)
    | exact trivial
    | refine And.intro ?_ ?_
    | refine orf fun _ => ?_
    | refine ort fun _ => ?_)
  all_goals first | (show L _ _ _; skip) | (clear hfs hL zq Z; subst hA hF hG0; simp only [Ns.std, Fs.std, Ar.std] at *; grind [stdCmp, vN]; done)
  all_goals
    rename_i hx
    obtain ⟨k, hk0, hk⟩ : ∃ k : Int, (60 = k ∨ A.lenE a1 = k) ∧ (0 ≤ k ∧ k ≤ 60 ∧ k ≤ a1.length) ∧ (A.cmp .gtr (A.lenE a1) 60 = true → 60 = k) ∧ (A.cmp .gtr (A.lenE a1) 60 = false → A.lenE a1 = k) := by
      clear hx hfs hL zq Z
      subst hA
      simp only [Ar.std, stdCmp]
      by_cases h : (a1.length : Int) > 60
      · exact ⟨60, .inl rfl, ⟨by omega, by omega, by omega⟩, fun _ => rfl, fun q => by simp at q; omega⟩
      · exact ⟨a1.length, .inr rfl, ⟨by omega, by omega, by omega⟩, fun q => by simp at q; omega, fun _ => rfl⟩
    have hk1 : 60 = k ∨ A.lenE a1 = k := hk0
    have hkt := hk.2.1
    have hkf := hk.2.2
    have hk := hk.1
    clear hk0
    subst hL
    refine loop_z (cx_ok hfs) (joQ (IntKind.i64.wrap (stdBin .rem .u8 a0 40)) a1 k) (joI (A.conv .i64 (A.bin .rem .u8 a0 40)) a1 k) (joM k) joR ⟨0, A.conv .i64 (A.bin .rem .u8 a0 40), F.n_io (A.conv .i64 (A.bin .rem .u8 a0 40)), F.n_on (A.conv .i64 (A.bin .rem .u8 a0 40)), A.conv .i64 (A.bin .rem .u8 a0 40), F.n_io (A.conv .i64 (A.bin .rem .u8 a0 40)), F.n_on (A.conv .i64 (A.bin .rem .u8 a0 40))⟩ ?_ ?_ ?_
    · subst hA hF
      exact jo_zero _ _ _ hm hk.1
    · cbv
      repeat' (first | exact trivial | exact rfl | exact hkt hx | exact hkf hx | exact congrArg (Value.int .i64) (hkt hx) | exact congrArg (Value.int .i64) (hkf hx) | refine And.intro ?_ ?_)
    clear hk1 hkt hkf hx
    rintro ⟨i, s, u, z, s2, u2, z2⟩ hq O hO
    have hst := fun h => jo_step hm hk hq h
    have hen := fun h => jo_end hm hk hq h
    have hok := jo_ok hm hq
    have q0 := hq.1
    have q1 := hq.2.1
    simp only at q0 q1
    subst hA
    generalize hA : Ar.std = A
    generalize hL : Lp _ _ _ = L
    refine cd_close zq ?_
    repeat' (first
      | (refine z_open zq ?_; try dsimp only)
      | refine cd_seq zq ?_ (lp_mono hL)
      | refine cd_blk zq ?_
      | refine cd_ret ?_
      | refine cd_skip ?_
      | refine cd_exit ?_
      | refine cd_loop ?_
      | refine cd_cond rfl ?_
      | refine cd_condT rfl ?_
      | refine cd_condF rfl ?_
      | (refine Cd.mk ?_; cbv)
      | (refine Ends1.mk ?_; cbv)
      | (refine Fin1.mk ?_; cbv)
      | exact trivial
      | refine And.intro ?_ ?_
      | refine orf fun _ => ?_
      | refine ort fun _ => ?_)
    all_goals first | (show L _ _ _; skip) | (clear hL hfs zq Z; subst hA hF hG0 hO; simp only [Ns.std, Fs.std, Ar.std] at * <;> grind [stdCmp, b_sub, b_add, wr, joM, px, py]; done)
  all_goals
    rename_i hx
    have hi : i = k := by
      clear hfs hL zq Z hst hq hen hok
      subst hA
      simp only [Ar.std] at hx
      grind [stdCmp]
    obtain ⟨W, V, he⟩ := hen hi
    clear hx hst hen hok hq q0 q1 hO hi
    subst hL
    refine loop_z (cx_ok hfs) (jpQ (IntKind.i64.wrap (stdBin .rem .u8 a0 40)) W V) (jpI (A.conv .i64 (A.bin .rem .u8 a0 40)) s z s2 z2) (jpM (IntKind.i64.wrap (stdBin .rem .u8 a0 40))) jpR ⟨-1, u, u2⟩ ?_ ?_ ?_
    · exact ⟨Int.le_refl _, by simp only; omega, he.jw.up, he.jv.up⟩
    · cbv
      repeat' (first | exact trivial | exact rfl | refine And.intro ?_ ?_)
    rintro ⟨i, v, v2⟩ hq O hO
    have hst := jp_step hm he hq
    have q0 := hq.1
    have q1 := hq.2.1
    simp only at q0 q1
    subst hA
    generalize hA : Ar.std = A
    generalize hL : Lp _ _ _ = L
    refine cd_close zq ?_
    repeat' (first
      | (refine z_open zq ?_; try dsimp only)
      | refine cd_seq zq ?_ (lp_mono hL)
      | refine cd_blk zq ?_
      | refine cd_ret ?_
      | refine cd_skip ?_
      | refine cd_exit ?_
      | refine cd_loop ?_
      | refine cd_cond rfl ?_
      | refine cd_condT rfl ?_
      | refine cd_condF rfl ?_
      | (refine Cd.mk ?_; cbv)
      | (refine Ends1.mk ?_; cbv)
      | (refine Fin1.mk ?_; cbv)
      | exact trivial
      | refine And.intro ?_ ?_
      | refine orf fun _ => ?_
      | refine ort fun _ => ?_)
    all_goals (clear hL hfs zq Z; subst hA hF hG0 hO; simp only [Ns.std, Fs.std, Ar.std] at * <;> grind [stdCmp, b_sub, b_add, wr, jpM])
theorem walk (a0 : Int) (a1 : List E) (A1 : Option Addr) (n1 c1 : Nat) (w : World) (w0 : (Lit.int .u8 a0).wf = true) (r1 : (SC.sl none (.recs (.int .i64 (.int .i64 .nil)) a1)).is (G0 w) (.slice A1 n1 c1)) (_ : ∀ y ∈ a1, wfS (.int .i64 (.int .i64 .nil)) y 0) (_ : a1.length ≤ 140737488355328) : Calls Try.prog 4 #[.int .u8 a0, .slice A1 n1 c1] w (Law.Yes w) :=
  yes_of (FsOk.cons ok_new (FsOk.cons ok_unite (FsOk.keeps ok_sets kp_sets (FsOk.cons ok_least (FsOk.cons ok_sizef (FsOk.cons ok_awake FsOk.nil rfl) rfl) rfl)) rfl) rfl) Try.func4 rfl (vs := [.int .u8 a0, .slice A1 n1 c1]) (by exact ⟨rfl, r1, trivial⟩) (lee_le rfl) fun hZ => x_law a0 a1 (wf8 w0) hZ
theorem own : ownKnob Try.prog.godebug = none := by kernel_rfl
theorem laidOut : laidOutB Try.prog = true := by kernel_rfl
set_option maxRecDepth 100000 in
theorem lifted (os : Os) (started : os.Started) (H : Type) (enc : TypeId × Value → H) :
    ReturnsInHanded {} Try.checked os 4 .any (Rows.joinOrderSpec.pre6 enc Try.prog Try.f4 Rows.joinOrderRow.domain false) (Rows.joinOrderSpec.post enc Try.prog Try.f4 false true false false) := by
  refine returnsInHanded_of_change_sized (C := Try.checked) own started (by kernel_rfl) Try.func4
    (ChangeSpec.witness6 (enc := enc) (C := Try.checked) false ⟨#[], #[.int .u8 0, .slice none 0 0], []⟩ 8 (by kernel_rfl) (by kernel_rfl) (by kernel_rfl) (by kernel_rfl)) ?_
  intro W base args ds gs before hval0 hW _ hz _
  have hval : ∀ (j : Nat) t v, Try.f4.params[j]? = some t → args[j]? = some v → Value.okWide Try.prog W .any base t v := hval0
  have hW' := hW
  obtain ⟨p, q, hA0, hV, rfl, _, _⟩ := hW
  have hA : DataW.TrodAll enc Try.prog W 0 (fun _ => true) true Try.f4.params.toList args.toList ds p := hA0
  rw [Try.params4] at hA hval
  obtain ⟨v0, v1, d0, d1, p0, p1, rfl, rfl, rfl, h0, h1⟩ := trodAll_two hA
  obtain ⟨rfl, rfl⟩ := trodVars_none hV
  obtain ⟨a0, rfl, rfl, rfl, w0⟩ := open_int Try.underlying5 (hval 0 5 v0 rfl rfl) h0
  obtain ⟨A1, n1, c1, a1, rfl, l1, r1, w1⟩ := sl_any (s := .int .i64 (.int .i64 .nil)) Try.underlying22 (by kernel_rfl) (by kernel_rfl) (hval 1 22 v1 rfl rfl) h1
  have s1 : a1.length ≤ 140737488355328 := by rw [l1]; exact short_of Try.underlying22 (by decide +kernel) hz (j := 1) rfl rfl h1
  refine (walk a0 a1 A1 n1 c1 W w0 r1 w1 s1).mono fun e W' ⟨he, hb⟩ => ?_
  subst he
  exact ⟨_, rfl, law_post laidOut (by kernel_rfl) (by kernel_rfl) Try.underlying4 rfl hW' rfl hb⟩
theorem proved : Rows.JoinOrderSaid :=
  OpenClaim.holds_of_wide 4 Try.f4 rfl rfl rfl rfl rfl rfl rfl ⟨rfl, rfl, rfl, rfl, rfl⟩ rfl rfl rfl rfl rfl (by kernel_rfl) Try.func4 (by kernel_rfl)
    (of_decide_eq_true (by kernel_rfl)) (by unfold Func.isWrapper; first | (rw [if_pos (by decide +kernel)]; kernel_rfl) | (rw [if_neg (by decide +kernel)]; exact ⟨rfl, rfl⟩))
    (fun os started H enc _ => lifted os started H enc)
end Go.Proofs.Ytgfficaonampbaa.JoinOrder
