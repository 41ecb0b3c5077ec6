
/-
  forests over the reckoner: what tells whether an edge closes a circle. No condition.
-/
import Derived.Test.YtakebkfhigadiaaJoN
import Derived.Test.YtakebkfhigadiaaEgR
namespace Go.Proofs.Ytakebkfhigadiaa.SpR
open Go Go.Proofs.Ytakebkfhigadiaa.Ry Go.Proofs.Ytakebkfhigadiaa.So Go.Proofs.Ytakebkfhigadiaa.JoS Go.Proofs.Ytakebkfhigadiaa.JoR Go.Proofs.Ytakebkfhigadiaa.JoW Go.Proofs.Ytakebkfhigadiaa.JoN Go.Proofs.Ytakebkfhigadiaa.EgR

structure JT where
  s : Int
  u : List Int
  z : List Int
def j0 : JT := ⟨64, iota 64, ones 64⟩
def jF (J : JT) (y : E) : JT := ⟨unS J.u J.s (ri y 0) (ri y 1), unU J.u (ri y 0) (ri y 1), unZ J.u J.z (ri y 0) (ri y 1)⟩
def jJ (l : List E) : JT := l.foldl jF j0
def JOk (W : List Int) (J : JT) : Prop := W.length = 65 ∧ JInv W J.s J.u J.z
theorem j0_ok : JOk (iota 64) j0 := ⟨by decide, jinv_new 64 (by omega)⟩
theorem jF_ok {W : List Int} {J : JT} (h : JOk W J) (y : E) : JOk (uniW W (ri y 0) (ri y 1)) (jF J y) := ⟨by rw [uni_len]; exact h.1, (jinv_unite h.2 (by rw [h.1]; omega) _ _).1⟩
theorem jz_ok {W : List Int} {J : JT} (h : JOk W J) : okZ J.u J.z = true := by
  have h1 := up_ok h.2.up h.2.ok (by rw [h.1]; omega)
  unfold okZ
  rw [h1, h.2.zl, h.2.up.len]
  simp
theorem fold_ok : ∀ (l : List E) {W : List Int} {J : JT}, JOk W J → ∃ W', JOk W' (l.foldl jF J)
  | [], W, _, h => ⟨W, h⟩
  | y :: l, _, _, h => fold_ok l (jF_ok h y)
theorem jJ_ok (l : List E) : ∃ W, JOk W (jJ l) := fold_ok l j0_ok
def forF : JT → List E → Bool
  | _, [] => true
  | J, y :: l => if unB J.u (ri y 0) (ri y 1) = true then forF (jF J y) l else false
def forB (l : List E) : Bool := decide (allE l = 0) && forF j0 l
structure XS where
  i : Int
  J : JT
def sjQ (l : List E) (y : XS) : Prop := 0 ≤ y.i ∧ y.i ≤ l.length ∧ y.J = jJ (l.take y.i.toNat)
def sjM (l : List E) (y : XS) : Nat := l.length - y.i.toNat
noncomputable def sjI (A : Ar) (l : List E) (y : XS) : St := stOf Try.f22.ntmps [(0, .sl none (.recs (.int .i64 (.int .i64 (.int .i64 .nil))) l)), (3, .ptr 1 0), (11, .sl none (.recs (.int .i64 (.int .i64 (.int .i64 .nil))) l)), (12, .val (.int .i64 (A.lenE l))), (13, .val (.int .i64 y.i))] [(1, .cells 117 [.own 2, .own 3, .val (.int .i64 y.J.s)]), (2, .row 3 (.ints .i64 y.J.u)), (3, .row 3 (.ints .i64 y.J.z))] [Any]
def sjR (st : St) : XS := ⟨slotI st 13, ⟨valI (cellC st 3 2), valL st.heap (cellC st 3 0), valL st.heap (cellC st 3 1)⟩⟩
theorem sj_zero (l : List E) : sjQ l ⟨0, ⟨64, iota 64, ones 64⟩⟩ := ⟨Int.le_refl 0, Int.natCast_nonneg _, rfl⟩
theorem sj_step (l : List E) (i s : Int) (u z : List Int) (hq : sjQ l ⟨i, ⟨s, u, z⟩⟩) (h : i < l.length) (hl : l.length ≤ 1000000) :
    stdBin .add .i64 i 1 = i + 1 ∧ okZ u z = true ∧ sjQ l ⟨i + 1, ⟨unS u s (ri (l.getD i.toNat []) 0) (ri (l.getD i.toNat []) 1), unU u (ri (l.getD i.toNat []) 0) (ri (l.getD i.toNat []) 1), unZ u z (ri (l.getD i.toNat []) 0) (ri (l.getD i.toNat []) 1)⟩⟩ := by
  obtain ⟨h0, h1, h2⟩ := hq
  simp only at h0 h1 h2
  obtain ⟨W, hW⟩ := jJ_ok (l.take i.toNat)
  have hz := jz_ok hW
  rw [← h2] at hz
  refine ⟨by rw [b_add, wr _ (by omega) (by omega)], hz, by simp only; omega, by simp only; omega, ?_⟩
  simp only
  rw [take_next l i h0 h]
  unfold jJ at h2 ⊢
  rw [List.foldl_append, ← h2]
  rfl
theorem sj_end (l : List E) (i s : Int) (u z : List Int) (hq : sjQ l ⟨i, ⟨s, u, z⟩⟩) (h : ¬ i < l.length) : s = (jJ l).s ∧ u = (jJ l).u ∧ z = (jJ l).z := by
  obtain ⟨h0, h1, h2⟩ := hq
  simp only at h0 h1 h2
  have e : i = l.length := by omega
  rw [e, Int.toNat_natCast, List.take_length] at h2
  rw [← h2]
  exact ⟨rfl, rfl, rfl⟩
def foQ (l : List E) (y : XS) : Prop := 0 ≤ y.i ∧ y.i ≤ l.length ∧ (∃ W, JOk W y.J) ∧ forF j0 l = forF y.J (l.drop y.i.toNat)
def foM (l : List E) (y : XS) : Nat := l.length - y.i.toNat
noncomputable def foI (A : Ar) (l : List E) (y : XS) : St := stOf Try.f18.ntmps [(0, .sl none (.recs (.int .i64 (.int .i64 (.int .i64 .nil))) l)), (3, .fn 61 1), (10, .sl none (.recs (.int .i64 (.int .i64 (.int .i64 .nil))) l)), (11, .val (.int .i64 (A.lenE l))), (12, .val (.int .i64 y.i))] [(1, .cells 70 [.ptr 2 0]), (2, .cells 117 [.own 3, .own 4, .val (.int .i64 y.J.s)]), (3, .row 3 (.ints .i64 y.J.u)), (4, .row 3 (.ints .i64 y.J.z))] [Any]
def nmC : SC → Nat
  | .ptr n _ | .fn _ n | .own n => n
  | _ => 0
def cellN (h : H) (n j : Nat) : SC := match hget h n with
  | some (.cells _ cs) => cs.getD j .any
  | _ => .any
def foR (st : St) : XS := let n := nmC (cellN st.heap (nmC (slotC st 3)) 0); ⟨slotI st 12, ⟨valI (cellN st.heap n 2), valL st.heap (cellN st.heap n 0), valL st.heap (cellN st.heap n 1)⟩⟩
theorem fo_zero (l : List E) : foQ l ⟨0, ⟨64, iota 64, ones 64⟩⟩ := ⟨Int.le_refl 0, Int.natCast_nonneg _, ⟨_, j0_ok⟩, rfl⟩
theorem fo_step (l : List E) (i s : Int) (u z : List Int) (hq : foQ l ⟨i, ⟨s, u, z⟩⟩) (h : i < l.length) (hl : l.length ≤ 1000000) :
    stdBin .add .i64 i 1 = i + 1 ∧ okZ u z = true ∧ (unB u (ri (l.getD i.toNat []) 0) (ri (l.getD i.toNat []) 1) = true → foQ l ⟨i + 1, ⟨unS u s (ri (l.getD i.toNat []) 0) (ri (l.getD i.toNat []) 1), unU u (ri (l.getD i.toNat []) 0) (ri (l.getD i.toNat []) 1), unZ u z (ri (l.getD i.toNat []) 0) (ri (l.getD i.toNat []) 1)⟩⟩) ∧
    (unB u (ri (l.getD i.toNat []) 0) (ri (l.getD i.toNat []) 1) = false → forF j0 l = false) := by
  obtain ⟨h0, h1, ⟨W, h2⟩, h3⟩ := hq
  simp only at h0 h1 h2 h3
  have hi : i.toNat < l.length := by omega
  have e : (i + 1).toNat = i.toNat + 1 := by omega
  have eg : l.getD i.toNat [] = l[i.toNat] := by rw [List.getD_eq_getElem?_getD, List.getElem?_eq_getElem hi]; rfl
  rw [List.drop_eq_getElem_cons hi, ← eg] at h3
  refine ⟨by rw [b_add, wr _ (by omega) (by omega)], jz_ok h2, fun g => ⟨by simp only; omega, by simp only; omega, ⟨_, jF_ok h2 (l.getD i.toNat [])⟩, ?_⟩, fun g => ?_⟩
  · rw [h3]
    simp only [forF]
    rw [if_pos g, e]
    rfl
  · rw [h3]
    simp only [forF]
    rw [g]
    rfl
theorem fo_end (l : List E) (i s : Int) (u z : List Int) (hq : foQ l ⟨i, ⟨s, u, z⟩⟩) (h : ¬ i < l.length) : forF j0 l = true := by
  obtain ⟨h0, h1, h2, h3⟩ := hq
  simp only at h0 h1 h2 h3
  rw [h3, List.drop_eq_nil_of_le (by omega)]
  rfl
def sameB (u : List Int) (a d : Int) : Bool := decide (¬ lstI u a = 0 ∧ lstI u a = lstI (lstU u a) d)
def sameU (u : List Int) (a d : Int) : List Int := if lstI u a = 0 then lstU u a else lstU (lstU u a) d
def lkB (l : List E) (a b : Int) : Bool := decide (allE l = 0) && sameB (jJ l).u a b
theorem jJ_u (l : List E) : okU (jJ l).u = true := by
  obtain ⟨W, h⟩ := jJ_ok l
  exact up_ok h.2.up h.2.ok (by rw [h.1]; omega)
def wtF (n : Int) (y : E) : Int := stdBin .add .i64 n (ri y 2)
def wtL (l : List E) : Int := l.foldl wtF 0
def wtB (l : List E) : Int := if allE l = 0 then wtL l else 0
structure XW where
  i : Int
  n : Int
def wtQ (l : List E) (y : XW) : Prop := 0 ≤ y.i ∧ y.i ≤ l.length ∧ y.n = wtL (l.take y.i.toNat)
def wtM (l : List E) (y : XW) : Nat := l.length - y.i.toNat
def wtR (st : St) : XW := ⟨slotI st 11, slotI st 3⟩
def rwR (st : St) : XW := ⟨slotI st 4, slotI st 3⟩
theorem wt_step (l : List E) (i n : Int) (hq : wtQ l ⟨i, n⟩) (h : i < l.length) (hl : l.length ≤ 1000000) : stdBin .add .i64 i 1 = i + 1 ∧ wtQ l ⟨i + 1, stdBin .add .i64 n (ri (l.getD i.toNat []) 2)⟩ := by
  obtain ⟨h0, h1, h2⟩ := hq
  simp only at h0 h1 h2
  refine ⟨by rw [b_add, wr _ (by omega) (by omega)], by simp only; omega, by simp only; omega, ?_⟩
  simp only
  rw [take_next l i h0 h]
  unfold wtL at h2 ⊢
  rw [List.foldl_append, ← h2]
  rfl
theorem wt_end (l : List E) (i n : Int) (hq : wtQ l ⟨i, n⟩) (h : ¬ i < l.length) : n = wtL l := by
  obtain ⟨h0, h1, h2⟩ := hq
  simp only at h0 h1 h2
  have e : i = l.length := by omega
  rw [e, Int.toNat_natCast, List.take_length] at h2
  exact h2
def lsF : JT → List E → List E
  | _, [] => []
  | J, y :: l => if unB J.u (ri y 0) (ri y 1) = true then [D.int (ri y 0), D.int (ri y 1), D.int (ri y 2)] :: lsF (jF J y) l else lsF (jF J y) l
def lstB (l : List E) : List E := if allE l = 0 then lsF j0 (srtE l) else []
structure XO where
  i : Int
  o : List E
  J : JT
def loQ (l : List E) (y : XO) : Prop := 0 ≤ y.i ∧ y.i ≤ l.length ∧ y.o.length ≤ y.i ∧ (∃ W, JOk W y.J) ∧ lsF j0 l = y.o ++ lsF y.J (l.drop y.i.toNat)
def loM (l : List E) (y : XO) : Nat := l.length - y.i.toNat
noncomputable def loI (A : Ar) (l : List E) (y : XO) : St := stOf Try.f16.ntmps [(6, .fn 61 2), (7, .sl (some (1, 63)) (.recs (.int .i64 (.int .i64 (.int .i64 .nil))) y.o)), (19, .sl none (.recs (.int .i64 (.int .i64 (.int .i64 .nil))) l)), (20, .val (.int .i64 (A.lenE l))), (21, .val (.int .i64 y.i))] ((1, .tok) :: [(2, .cells 70 [.ptr 3 0]), (3, .cells 117 [.own 4, .own 5, .val (.int .i64 y.J.s)]), (4, .row 3 (.ints .i64 y.J.u)), (5, .row 3 (.ints .i64 y.J.z))]) [Any]
def loR (st : St) : XO := let n := nmC (cellN st.heap (nmC (slotC st 6)) 0); ⟨slotI st 21, ctR (match slotC st 7 with | .sl _ c => c | _ => .recs .nil []), ⟨valI (cellN st.heap n 2), valL st.heap (cellN st.heap n 0), valL st.heap (cellN st.heap n 1)⟩⟩
theorem lo_zero (l : List E) : loQ l ⟨0, [], ⟨64, iota 64, ones 64⟩⟩ := ⟨Int.le_refl 0, Int.natCast_nonneg _, Int.le_refl 0, ⟨_, j0_ok⟩, rfl⟩
theorem lo_step (l : List E) (i s : Int) (o : List E) (u z : List Int) (hq : loQ l ⟨i, o, ⟨s, u, z⟩⟩) (h : i < l.length) (hl : l.length ≤ 1000000) :
    stdBin .add .i64 i 1 = i + 1 ∧ okZ u z = true ∧ o.length ≤ 1000000 ∧ (unB u (ri (l.getD i.toNat []) 0) (ri (l.getD i.toNat []) 1) = true → loQ l ⟨i + 1, o ++ [[D.int (ri (l.getD i.toNat []) 0), D.int (ri (l.getD i.toNat []) 1), D.int (ri (l.getD i.toNat []) 2)]], ⟨unS u s (ri (l.getD i.toNat []) 0) (ri (l.getD i.toNat []) 1), unU u (ri (l.getD i.toNat []) 0) (ri (l.getD i.toNat []) 1), unZ u z (ri (l.getD i.toNat []) 0) (ri (l.getD i.toNat []) 1)⟩⟩) ∧
    (unB u (ri (l.getD i.toNat []) 0) (ri (l.getD i.toNat []) 1) = false → loQ l ⟨i + 1, o, ⟨unS u s (ri (l.getD i.toNat []) 0) (ri (l.getD i.toNat []) 1), unU u (ri (l.getD i.toNat []) 0) (ri (l.getD i.toNat []) 1), unZ u z (ri (l.getD i.toNat []) 0) (ri (l.getD i.toNat []) 1)⟩⟩) := by
  obtain ⟨h0, h1, h4, ⟨W, h2⟩, h3⟩ := hq
  simp only at h0 h1 h2 h3 h4
  have hi : i.toNat < l.length := by omega
  have e : (i + 1).toNat = i.toNat + 1 := by omega
  have eg : l.getD i.toNat [] = l[i.toNat] := by rw [List.getD_eq_getElem?_getD, List.getElem?_eq_getElem hi]; rfl
  rw [List.drop_eq_getElem_cons hi, ← eg] at h3
  refine ⟨by rw [b_add, wr _ (by omega) (by omega)], jz_ok h2, by omega, fun g => ⟨by simp only; omega, by simp only; omega, by simp only [List.length_append, List.length_cons, List.length_nil]; omega, ⟨_, jF_ok h2 (l.getD i.toNat [])⟩, ?_⟩, fun g => ⟨by simp only; omega, by simp only; omega, by simp only; omega, ⟨_, jF_ok h2 (l.getD i.toNat [])⟩, ?_⟩⟩
  · rw [h3]
    simp only [lsF]
    rw [if_pos g, e, List.append_assoc]
    rfl
  · rw [h3]
    simp only [lsF]
    rw [if_neg (by rw [g]; decide), e]
    rfl
theorem lo_end (l : List E) (i s : Int) (o : List E) (u z : List Int) (hq : loQ l ⟨i, o, ⟨s, u, z⟩⟩) (h : ¬ i < l.length) : o = lsF j0 l := by
  obtain ⟨h0, h1, h4, h2, h3⟩ := hq
  simp only at h0 h1 h2 h3
  rw [h3, List.drop_eq_nil_of_le (by omega)]
  simp [lsF]

structure Sp where
  s_j : List E → JT
  s_B : List Int → Int → Int → Bool
  s_U : List Int → Int → Int → List Int
  s_Z : List Int → List Int → Int → Int → List Int
  s_S : List Int → Int → Int → Int → Int
  s_okz : List Int → List Int → Bool
  s_io : List Int
  s_on : List Int
  s_for : List E → Bool
  s_wt : List E → Int
  s_e : List E → Int
  s_rw : List E → Int
  s_l : List E → List E
  s_okU : List Int → Bool
  s_sm : List Int → Int → Int → Bool
  s_smU : List Int → Int → Int → List Int
  s_lk : List E → Int → Int → Bool
  s_ok : List E → Bool
def Sp.std : Sp := ⟨jJ, unB, unU, unZ, unS, okZ, iota 64, ones 64, forB, wtB, allE, wtL, lstB, okU, sameB, sameU, lkB, fun l => decide (l.length ≤ 1000000)⟩

def c_closes (F : Sp) : Con := fun xs h => match xs, h with
  | [.agg [.val (.int .i64 e_a), .val (.int .i64 e_b), .val (.int .i64 _)], .one (.ptr 0 0)], [(0, .cells 70 [.ptr 1 0]), (1, .cells 117 [.own 2, .own 3, .val (.int .i64 s)]), (2, .row 3 (.ints .i64 u)), (3, .row 3 (.ints .i64 z))] => some ⟨F.s_okz u z = true, .sa (B (!(F.s_B u e_a e_b))), [(0, .cells 70 [.ptr 1 0]), (1, .cells 117 [.own 2, .own 3, .val (.int .i64 (F.s_S u s e_a e_b))]), (2, .row 3 (.ints .i64 (F.s_U u e_a e_b))), (3, .row 3 (.ints .i64 (F.s_Z u z e_a e_b)))], [Any, .one (.ptr 0 0)]⟩
  | _, _ => none
set_option maxHeartbeats 2000000 in
set_option maxRecDepth 100000 in
theorem x_closes (e_a : Int) (e_b : Int) (e_w : Int) (s : Int) (u : List Int) (z : List Int) (hC : Sp.std.s_okz u z = true) : Does [(41, c_unite JoR.Fs.std)] Try.f61 [.agg [.val (.int .i64 e_a), .val (.int .i64 e_b), .val (.int .i64 e_w)], .one (.ptr 0 0)] [(0, .cells 70 [.ptr 1 0]), (1, .cells 117 [.own 2, .own 3, .val (.int .i64 s)]), (2, .row 3 (.ints .i64 u)), (3, .row 3 (.ints .i64 z))] ⟨Sp.std.s_okz u z = true, .sa (B (!(Sp.std.s_B u e_a e_b))), [(0, .cells 70 [.ptr 1 0]), (1, .cells 117 [.own 2, .own 3, .val (.int .i64 (Sp.std.s_S u s e_a e_b))]), (2, .row 3 (.ints .i64 (Sp.std.s_U u e_a e_b))), (3, .row 3 (.ints .i64 (Sp.std.s_Z u z e_a e_b)))], [Any, .one (.ptr 0 0)]⟩ := by
  intro b gv
  have hk : okZ u z = true := hC
  have hfs := (FsOk.cons ok_unite FsOk.nil rfl)
  generalize hF : Sp.std = F at hC hfs ⊢
  generalize hG0 : JoR.Fs.std = G0 at hC hfs ⊢
  generalize hG1 : JoN.Ns.std = G1 at hC hfs ⊢
  generalize hG2 : EgR.Fs.std = G2 at hC hfs ⊢
  generalize hA : Ar.std = A
  generalize hL : Lp _ _ _ = L
  obtain ⟨Z, zq⟩ := z_all
  refine @cd_open _ _ _ _ _ _ _ (lp_mono hL) _ _ zq rfl ?_
  repeat' (first
    | (refine z_open zq ?_; try dsimp only)
    | refine cd_seq zq ?_ (lp_mono hL)
    | refine cd_blk zq ?_
    | refine cd_ret ?_
    | refine cd_skip ?_
    | refine cd_exit ?_
    | refine cd_loop ?_
    | refine cd_cond rfl ?_
    | refine cd_condT rfl ?_
    | refine cd_condF rfl ?_
    | (refine Cd.mk ?_; cbv)
    | (refine Ends1.mk ?_; cbv)
    | (refine Fin1.mk ?_; cbv)
    | exact trivial
    | refine And.intro ?_ ?_
    | refine orf fun _ => ?_
    | refine ort fun _ => ?_)
  all_goals
    clear hL zq Z hfs
    subst hA hF hG0 hG1 hG2
    simp only [Sp.std, JoR.Fs.std, Ar.std] at *
    try (grind [stdCmp])
theorem ok_closes : ConOk Try.prog 61 (c_closes Sp.std) := by
  refine con_of (FsOk.cons ok_unite FsOk.nil rfl) Try.func61 rfl rfl fun xs h p hp => ?_
  unfold c_closes at hp
  split at hp
  · cases hp
    exact ⟨lee_le rfl, fun hC _ => @x_closes _ _ _ _ _ _ hC⟩
  · cases hp

def c_joined (F : Sp) : Con := fun xs h => match xs, h with
  | [.one (.sl none (.recs (.int .i64 (.int .i64 (.int .i64 .nil))) l))], [] => some ⟨F.s_ok l = true, .sa (.one (.ptr 0 0)), [(0, .cells 117 [.own 1, .own 2, .val (.int .i64 (F.s_j l).s)]), (1, .row 3 (.ints .i64 (F.s_j l).u)), (2, .row 3 (.ints .i64 (F.s_j l).z))], [Any]⟩
  | _, _ => none
set_option maxHeartbeats 2000000 in
set_option maxRecDepth 100000 in
theorem x_joined (l : List E) (hC : Sp.std.s_ok l = true) : Does [(40, c_new JoN.Ns.std), (41, c_unite JoR.Fs.std)] Try.f22 [.one (.sl none (.recs (.int .i64 (.int .i64 (.int .i64 .nil))) l))] [] ⟨Sp.std.s_ok l = true, .sa (.one (.ptr 0 0)), [(0, .cells 117 [.own 1, .own 2, .val (.int .i64 (Sp.std.s_j l).s)]), (1, .row 3 (.ints .i64 (Sp.std.s_j l).u)), (2, .row 3 (.ints .i64 (Sp.std.s_j l).z))], [Any]⟩ := by
  intro b gv
  have hk : l.length ≤ 1000000 := of_decide_eq_true (show decide (l.length ≤ 1000000) = true from hC)
  have hfs := (FsOk.cons ok_new (FsOk.cons ok_unite FsOk.nil rfl) rfl)
  generalize hF : Sp.std = F at hC hfs ⊢
  generalize hG0 : JoR.Fs.std = G0 at hC hfs ⊢
  generalize hG1 : JoN.Ns.std = G1 at hC hfs ⊢
  generalize hG2 : EgR.Fs.std = G2 at hC hfs ⊢
  generalize hA : Ar.std = A
  generalize hL : Lp _ _ _ = L
  obtain ⟨Z, zq⟩ := z_all
  refine @cd_open _ _ _ _ _ _ _ (lp_mono hL) _ _ zq rfl ?_
  repeat' (first
    | (refine z_open zq ?_; try dsimp only)
    | refine cd_seq zq ?_ (lp_mono hL)
    | refine cd_blk zq ?_
    | refine cd_ret ?_
    | refine cd_skip ?_
    | refine cd_exit ?_
    | refine cd_loop ?_
    | refine cd_cond rfl ?_
    | refine cd_condT rfl ?_
    | refine cd_condF rfl ?_
    | (refine Cd.mk ?_; cbv)
    | (refine Ends1.mk ?_; cbv)
    | (refine Fin1.mk ?_; cbv)
    | exact trivial
    | refine And.intro ?_ ?_
    | refine orf fun _ => ?_
    | refine ort fun _ => ?_)
  all_goals first | (show L _ _ _; skip) | (clear hfs hL zq Z; subst hA hF hG0 hG1 hG2; simp only [Sp.std, JoR.Fs.std, JoN.Ns.std] at * <;> grind [stdCmp, vN]; done)
  subst hL
  refine loop_z (cx_ok hfs) (sjQ l) (sjI A l) (sjM l) sjR ⟨0, ⟨64, G1.n_io 64, G1.n_on 64⟩⟩ ?_ ?_ ?_
  · exact (by subst hG1; exact sj_zero l)
  · cbv
    repeat' (first | exact trivial | exact rfl | refine And.intro ?_ ?_)
  rintro ⟨i, ⟨s, u, z⟩⟩ hq O hO
  have hst := fun h => sj_step l i s u z hq h hk
  have hen := sj_end l i s u z hq
  have q0 := hq.1
  have q1 := hq.2.1
  dsimp only at q0 q1
  subst hA
  generalize hA : Ar.std = A
  generalize hL : Lp _ _ _ = L
  refine cd_close zq ?_
  repeat' (first
    | (refine z_open zq ?_; try dsimp only)
    | refine cd_seq zq ?_ (lp_mono hL)
    | refine cd_blk zq ?_
    | refine cd_ret ?_
    | refine cd_skip ?_
    | refine cd_exit ?_
    | refine cd_loop ?_
    | refine cd_cond rfl ?_
    | refine cd_condT rfl ?_
    | refine cd_condF rfl ?_
    | (refine Cd.mk ?_; cbv)
    | (refine Ends1.mk ?_; cbv)
    | (refine Fin1.mk ?_; cbv)
    | exact trivial
    | refine And.intro ?_ ?_
    | refine orf fun _ => ?_
    | refine ort fun _ => ?_)
  all_goals (clear hL hfs zq Z hq; subst hA hF hG0 hG1 hG2 hO; simp only [Sp.std, JoR.Fs.std, Ar.std] at * <;> grind [stdCmp, sjM])
theorem ok_joined : ConOk Try.prog 22 (c_joined Sp.std) := by
  refine con_of (FsOk.cons ok_new (FsOk.cons ok_unite FsOk.nil rfl) rfl) Try.func22 rfl rfl fun xs h p hp => ?_
  unfold c_joined at hp
  split at hp
  · cases hp
    exact ⟨lee_le rfl, fun hC _ => @x_joined _ hC⟩
  · cases hp

def c_closer (F : Sp) : Con := fun xs h => match xs, h with
  | [], [] => some ⟨True, .sa (.one (.fn 61 0)), [(0, .cells 70 [.ptr 1 0]), (1, .cells 117 [.own 2, .own 3, .val (.int .i64 64)]), (2, .row 3 (.ints .i64 F.s_io)), (3, .row 3 (.ints .i64 F.s_on))], []⟩
  | _, _ => none
set_option maxHeartbeats 2000000 in
set_option maxRecDepth 100000 in
theorem x_closer  : Does [(22, denil [some (.recs (.int .i64 (.int .i64 (.int .i64 .nil))) [])] (c_joined Sp.std))] Try.f36 [] [] ⟨True, .sa (.one (.fn 61 0)), [(0, .cells 70 [.ptr 1 0]), (1, .cells 117 [.own 2, .own 3, .val (.int .i64 64)]), (2, .row 3 (.ints .i64 Sp.std.s_io)), (3, .row 3 (.ints .i64 Sp.std.s_on))], []⟩ := by
  intro b gv
  have hfs := (FsOk.cons (denil_ok [some (.recs (.int .i64 (.int .i64 (.int .i64 .nil))) [])] ok_joined) FsOk.nil rfl)
  generalize hF : Sp.std = F at hfs ⊢
  generalize hG0 : JoR.Fs.std = G0 at hfs ⊢
  generalize hG1 : JoN.Ns.std = G1 at hfs ⊢
  generalize hG2 : EgR.Fs.std = G2 at hfs ⊢
  generalize hA : Ar.std = A
  generalize hL : Lp _ _ _ = L
  obtain ⟨Z, zq⟩ := z_all
  refine @cd_open _ _ _ _ _ _ _ (lp_mono hL) _ _ zq rfl ?_
  repeat' (first
    | (refine z_open zq ?_; try dsimp only)
    | refine cd_seq zq ?_ (lp_mono hL)
    | refine cd_blk zq ?_
    | refine cd_ret ?_
    | refine cd_skip ?_
    | refine cd_exit ?_
    | refine cd_loop ?_
    | refine cd_cond rfl ?_
    | refine cd_condT rfl ?_
    | refine cd_condF rfl ?_
    | (refine Cd.mk ?_; cbv)
    | (refine Ends1.mk ?_; cbv)
    | (refine Fin1.mk ?_; cbv)
    | exact trivial
    | refine And.intro ?_ ?_
    | refine orf fun _ => ?_
    | refine ort fun _ => ?_)
  all_goals
    clear hL zq Z hfs
    subst hA hF hG0 hG1 hG2
    simp only [Sp.std] at *
    try (grind [stdCmp, jJ, j0])
theorem ok_closer : ConOk Try.prog 36 (c_closer Sp.std) := by
  refine con_of (FsOk.cons (denil_ok [some (.recs (.int .i64 (.int .i64 (.int .i64 .nil))) [])] ok_joined) FsOk.nil rfl) Try.func36 rfl rfl fun xs h p hp => ?_
  unfold c_closer at hp
  split at hp
  · cases hp
    exact ⟨lee_le rfl, fun _ _ => @x_closer ⟩
  · cases hp

def c_forest (F : Sp) : Con := fun xs h => match xs, h with
  | [.one (.sl none (.recs (.int .i64 (.int .i64 (.int .i64 .nil))) l))], [] => some ⟨F.s_ok l = true, .sa (B (F.s_for l)), [], [Any]⟩
  | _, _ => none
set_option maxHeartbeats 2000000 in
set_option maxRecDepth 100000 in
theorem x_forest (l : List E) (hC : Sp.std.s_ok l = true) : Does [(20, c_echeckall EgR.Fs.std), (36, c_closer Sp.std), (61, c_closes Sp.std)] Try.f18 [.one (.sl none (.recs (.int .i64 (.int .i64 (.int .i64 .nil))) l))] [] ⟨Sp.std.s_ok l = true, .sa (B (Sp.std.s_for l)), [], [Any]⟩ := by
  intro b gv
  have hk : l.length ≤ 1000000 := of_decide_eq_true (show decide (l.length ≤ 1000000) = true from hC)
  have hfs := (FsOk.cons ok_echeckall (FsOk.cons ok_closer (FsOk.cons ok_closes FsOk.nil rfl) rfl) rfl)
  generalize hF : Sp.std = F at hC hfs ⊢
  generalize hG0 : JoR.Fs.std = G0 at hC hfs ⊢
  generalize hG1 : JoN.Ns.std = G1 at hC hfs ⊢
  generalize hG2 : EgR.Fs.std = G2 at hC hfs ⊢
  generalize hA : Ar.std = A
  generalize hL : Lp _ _ _ = L
  obtain ⟨Z, zq⟩ := z_all
  refine @cd_open _ _ _ _ _ _ _ (lp_mono hL) _ _ zq rfl ?_
  repeat' (first
    | (refine z_open zq ?_; try dsimp only)
    | refine cd_seq zq ?_ (lp_mono hL)
    | refine cd_blk zq ?_
    | refine cd_ret ?_
    | refine cd_skip ?_
    | refine cd_exit ?_
    | refine cd_loop ?_
    | refine cd_cond rfl ?_
    | refine cd_condT rfl ?_
    | refine cd_condF rfl ?_
    | (refine Cd.mk ?_; cbv)
    | (refine Ends1.mk ?_; cbv)
    | (refine Fin1.mk ?_; cbv)
    | exact trivial
    | refine And.intro ?_ ?_
    | refine orf fun _ => ?_
    | refine ort fun _ => ?_)
  all_goals first | (show L _ _ _; skip) | (clear hfs hL zq Z; subst hA hF hG0 hG1 hG2; simp only [Sp.std, EgR.Fs.std, Ar.std] at * <;> grind [stdCmp, forB]; done)
  rename_i hx
  subst hL
  refine loop_z (cx_ok hfs) (foQ l) (foI A l) (foM l) foR ⟨0, ⟨64, F.s_io, F.s_on⟩⟩ ?_ ?_ ?_
  · exact (by subst hF; exact fo_zero l)
  · cbv
    repeat' (first | exact trivial | exact rfl | refine And.intro ?_ ?_)
  rintro ⟨i, ⟨s, u, z⟩⟩ hq O hO
  have hst := fun h => fo_step l i s u z hq h hk
  have hen := fo_end l i s u z hq
  have q0 := hq.1
  have q1 := hq.2.1
  dsimp only at q0 q1
  subst hA
  generalize hA : Ar.std = A
  generalize hL : Lp _ _ _ = L
  refine cd_close zq ?_
  repeat' (first
    | (refine z_open zq ?_; try dsimp only)
    | refine cd_seq zq ?_ (lp_mono hL)
    | refine cd_blk zq ?_
    | refine cd_ret ?_
    | refine cd_skip ?_
    | refine cd_exit ?_
    | refine cd_loop ?_
    | refine cd_cond rfl ?_
    | refine cd_condT rfl ?_
    | refine cd_condF rfl ?_
    | (refine Cd.mk ?_; cbv)
    | (refine Ends1.mk ?_; cbv)
    | (refine Fin1.mk ?_; cbv)
    | exact trivial
    | refine And.intro ?_ ?_
    | refine orf fun _ => ?_
    | refine ort fun _ => ?_)
  all_goals (clear hL hfs zq Z hq; subst hA hF hG0 hG1 hG2 hO; simp only [Sp.std, EgR.Fs.std, Ar.std] at * <;> grind [stdCmp, foM, forB])
theorem ok_forest : ConOk Try.prog 18 (c_forest Sp.std) := by
  refine con_of (FsOk.cons ok_echeckall (FsOk.cons ok_closer (FsOk.cons ok_closes FsOk.nil rfl) rfl) rfl) Try.func18 rfl rfl fun xs h p hp => ?_
  unfold c_forest at hp
  split at hp
  · cases hp
    exact ⟨lee_le rfl, fun hC _ => @x_forest _ hC⟩
  · cases hp

def c_weight (F : Sp) : Con := fun xs h => match xs, h with
  | [.one (.sl none (.recs (.int .i64 (.int .i64 (.int .i64 .nil))) l))], [] => some ⟨F.s_ok l = true, .sa (I (F.s_wt l)), [], [Any]⟩
  | _, _ => none
def c_rweight (F : Sp) : Con := fun xs h => match xs, h with
  | [.one (.sl none (.recs (.int .i64 (.int .i64 (.int .i64 .nil))) l))], [] => some ⟨F.s_ok l = true, .sa (I (F.s_rw l)), [], [Any]⟩
  | _, _ => none
def c_sleast (F : Sp) : Con := fun xs h => match xs, h with
  | [.one (.sl none (.recs (.int .i64 (.int .i64 (.int .i64 .nil))) l))], [] => some ⟨F.s_ok l = true, .tup [.one (.sl none (.recs (.int .i64 (.int .i64 (.int .i64 .nil))) (F.s_l l))), I ((F.s_e l))], [], [Any]⟩
  | _, _ => none
set_option maxHeartbeats 2000000 in
set_option maxRecDepth 100000 in
theorem x_sleast (l : List E) (hC : Sp.std.s_ok l = true) : Does [(35, c_esort EgR.Fs.std), (36, c_closer Sp.std), (61, c_closes Sp.std)] Try.f16 [.one (.sl none (.recs (.int .i64 (.int .i64 (.int .i64 .nil))) l))] [] ⟨Sp.std.s_ok l = true, .tup [.one (.sl none (.recs (.int .i64 (.int .i64 (.int .i64 .nil))) (Sp.std.s_l l))), I ((Sp.std.s_e l))], [], [Any]⟩ := by
  intro b gv
  have hk : l.length ≤ 1000000 := of_decide_eq_true (show decide (l.length ≤ 1000000) = true from hC)
  have hsl := (srt_all l).1
  have hfs := (FsOk.cons ok_esort (FsOk.cons ok_closer (FsOk.cons ok_closes FsOk.nil rfl) rfl) rfl)
  generalize hF : Sp.std = F at hC hfs ⊢
  generalize hG0 : JoR.Fs.std = G0 at hC hfs ⊢
  generalize hG1 : JoN.Ns.std = G1 at hC hfs ⊢
  generalize hG2 : EgR.Fs.std = G2 at hC hfs ⊢
  generalize hA : Ar.std = A
  generalize hL : Lp _ _ _ = L
  obtain ⟨Z, zq⟩ := z_all
  refine @cd_open _ _ _ _ _ _ _ (lp_mono hL) _ _ zq rfl ?_
  repeat' (first
    | (refine z_open zq ?_; try dsimp only)
    | refine cd_seq zq ?_ (lp_mono hL)
    | refine cd_blk zq ?_
    | refine cd_ret ?_
    | refine cd_skip ?_
    | refine cd_exit ?_
    | refine cd_loop ?_
    | refine cd_cond rfl ?_
    | refine cd_condT rfl ?_
    | refine cd_condF rfl ?_
    | (refine Cd.mk ?_; cbv)
    | (refine Ends1.mk ?_; cbv)
    | (refine Fin1.mk ?_; cbv)
    | exact trivial
    | refine And.intro ?_ ?_
    | refine orf fun _ => ?_
    | refine ort fun _ => ?_)
  all_goals first | (show L _ _ _; skip) | (clear hfs hL zq Z; subst hA hF hG0 hG1 hG2; simp only [Sp.std, EgR.Fs.std, Ar.std] at * <;> grind [stdCmp, lstB]; done)
  rename_i hx
  have hz0 : allE l = 0 := by
    clear hfs hL zq Z
    subst hA hF hG0 hG1 hG2
    simp only [Sp.std, EgR.Fs.std, Ar.std] at *
    grind [stdCmp]
  have he : G2.e_srt l = srtE l := by
    rw [← hG2]
    show srtX l = srtE l
    unfold srtX
    rw [if_pos hz0]
  have hk2 : (G2.e_srt l).length ≤ 1000000 := by
    rw [he]
    omega
  subst hL
  refine loop_z (cx_ok hfs) (loQ (G2.e_srt l)) (loI A (G2.e_srt l)) (loM (G2.e_srt l)) loR ⟨0, [], ⟨64, F.s_io, F.s_on⟩⟩ ?_ ?_ ?_
  · exact (by subst hF; exact lo_zero _)
  · cbv
    repeat' (first | exact trivial | exact rfl | refine And.intro ?_ ?_)
  rintro ⟨i, o, ⟨s, u, z⟩⟩ hq O hO
  have hst := fun h => lo_step (G2.e_srt l) i s o u z hq h hk2
  have hen := lo_end (G2.e_srt l) i s o u z hq
  have q0 := hq.1
  have q1 := hq.2.1
  dsimp only at q0 q1
  subst hA
  generalize hA : Ar.std = A
  generalize hL : Lp _ _ _ = L
  refine cd_close zq ?_
  repeat' (first
    | (refine z_open zq ?_; try dsimp only)
    | refine cd_seq zq ?_ (lp_mono hL)
    | refine cd_blk zq ?_
    | refine cd_ret ?_
    | refine cd_skip ?_
    | refine cd_exit ?_
    | refine cd_loop ?_
    | refine cd_cond rfl ?_
    | refine cd_condT rfl ?_
    | refine cd_condF rfl ?_
    | (refine Cd.mk ?_; cbv)
    | (refine Ends1.mk ?_; cbv)
    | (refine Fin1.mk ?_; cbv)
    | exact trivial
    | refine And.intro ?_ ?_
    | refine orf fun _ => ?_
    | refine ort fun _ => ?_)
  all_goals (clear hL hfs zq Z hq; subst hA hF hG0 hG1 hG2 hO; simp only [Sp.std, EgR.Fs.std, Ar.std] at * <;> grind [stdCmp, loM, lstB, srtX])
theorem ok_sleast : ConOk Try.prog 16 (c_sleast Sp.std) := by
  refine con_of (FsOk.cons ok_esort (FsOk.cons ok_closer (FsOk.cons ok_closes FsOk.nil rfl) rfl) rfl) Try.func16 rfl rfl fun xs h p hp => ?_
  unfold c_sleast at hp
  split at hp
  · cases hp
    exact ⟨lee_le rfl, fun hC _ => @x_sleast _ hC⟩
  · cases hp

def c_jsame (F : Sp) : Con := fun xs h => match xs, h with
  | [.one (.ptr 0 0), .one (.val (.int .i64 a)), .one (.val (.int .i64 d))], [(0, .cells 117 [.own 1, .own 2, .val (.int .i64 s)]), (1, .row 3 (.ints .i64 u)), (2, .row 3 (.ints .i64 z))] => some ⟨F.s_okU u = true, .sa (B (F.s_sm u a d)), [(0, .cells 117 [.own 1, .own 2, .val (.int .i64 s)]), (1, .row 3 (.ints .i64 (F.s_smU u a d))), (2, .row 3 (.ints .i64 z))], [.one (.ptr 0 0), Any, Any]⟩
  | _, _ => none
set_option maxHeartbeats 2000000 in
set_option maxRecDepth 100000 in
theorem x_jsame (a : Int) (d : Int) (s : Int) (u : List Int) (z : List Int) (hC : Sp.std.s_okU u = true) : Does [(39, c_least JoR.Fs.std)] Try.f24 [.one (.ptr 0 0), .one (.val (.int .i64 a)), .one (.val (.int .i64 d))] [(0, .cells 117 [.own 1, .own 2, .val (.int .i64 s)]), (1, .row 3 (.ints .i64 u)), (2, .row 3 (.ints .i64 z))] ⟨Sp.std.s_okU u = true, .sa (B (Sp.std.s_sm u a d)), [(0, .cells 117 [.own 1, .own 2, .val (.int .i64 s)]), (1, .row 3 (.ints .i64 (Sp.std.s_smU u a d))), (2, .row 3 (.ints .i64 z))], [.one (.ptr 0 0), Any, Any]⟩ := by
  intro b gv
  have k1 := lst_ok a (show okU u = true from hC)
  have hfs := (FsOk.cons ok_least FsOk.nil rfl)
  generalize hF : Sp.std = F at hC hfs ⊢
  generalize hG0 : JoR.Fs.std = G0 at hC hfs ⊢
  generalize hG1 : JoN.Ns.std = G1 at hC hfs ⊢
  generalize hG2 : EgR.Fs.std = G2 at hC hfs ⊢
  generalize hA : Ar.std = A
  generalize hL : Lp _ _ _ = L
  obtain ⟨Z, zq⟩ := z_all
  refine @cd_open _ _ _ _ _ _ _ (lp_mono hL) _ _ zq rfl ?_
  repeat' (first
    | (refine z_open zq ?_; try dsimp only)
    | refine cd_seq zq ?_ (lp_mono hL)
    | refine cd_blk zq ?_
    | refine cd_ret ?_
    | refine cd_skip ?_
    | refine cd_exit ?_
    | refine cd_loop ?_
    | refine cd_cond rfl ?_
    | refine cd_condT rfl ?_
    | refine cd_condF rfl ?_
    | (refine Cd.mk ?_; cbv)
    | (refine Ends1.mk ?_; cbv)
    | (refine Fin1.mk ?_; cbv)
    | exact trivial
    | refine And.intro ?_ ?_
    | refine orf fun _ => ?_
    | refine ort fun _ => ?_)
  all_goals
    clear hL zq Z hfs
    subst hA hF hG0 hG1 hG2
    simp only [Sp.std, JoR.Fs.std, Ar.std] at *
    try (grind [stdCmp, sameB, sameU])
theorem ok_jsame : ConOk Try.prog 24 (c_jsame Sp.std) := by
  refine con_of (FsOk.cons ok_least FsOk.nil rfl) Try.func24 rfl rfl fun xs h p hp => ?_
  unfold c_jsame at hp
  split at hp
  · cases hp
    exact ⟨lee_le rfl, fun hC _ => @x_jsame _ _ _ _ _ hC⟩
  · cases hp

def c_linked (F : Sp) : Con := fun xs h => match xs, h with
  | [.one (.sl none (.recs (.int .i64 (.int .i64 (.int .i64 .nil))) l)), .one (.val (.int .i64 a)), .one (.val (.int .i64 d))], [] => some ⟨F.s_ok l = true, .sa (B (F.s_lk l a d)), [], [Any, Any, Any]⟩
  | _, _ => none
set_option maxHeartbeats 2000000 in
set_option maxRecDepth 100000 in
theorem x_linked (l : List E) (a : Int) (d : Int) (hC : Sp.std.s_ok l = true) : Does [(20, c_echeckall EgR.Fs.std), (22, c_joined Sp.std), (24, c_jsame Sp.std)] Try.f8 [.one (.sl none (.recs (.int .i64 (.int .i64 (.int .i64 .nil))) l)), .one (.val (.int .i64 a)), .one (.val (.int .i64 d))] [] ⟨Sp.std.s_ok l = true, .sa (B (Sp.std.s_lk l a d)), [], [Any, Any, Any]⟩ := by
  intro b gv
  have hk : l.length ≤ 1000000 := of_decide_eq_true (show decide (l.length ≤ 1000000) = true from hC)
  have hu := jJ_u l
  have hfs := (FsOk.cons ok_echeckall (FsOk.cons ok_joined (FsOk.cons ok_jsame FsOk.nil rfl) rfl) rfl)
  generalize hF : Sp.std = F at hC hfs ⊢
  generalize hG0 : JoR.Fs.std = G0 at hC hfs ⊢
  generalize hG1 : JoN.Ns.std = G1 at hC hfs ⊢
  generalize hG2 : EgR.Fs.std = G2 at hC hfs ⊢
  generalize hA : Ar.std = A
  generalize hL : Lp _ _ _ = L
  obtain ⟨Z, zq⟩ := z_all
  refine @cd_open _ _ _ _ _ _ _ (lp_mono hL) _ _ zq rfl ?_
  repeat' (first
    | (refine z_open zq ?_; try dsimp only)
    | refine cd_seq zq ?_ (lp_mono hL)
    | refine cd_blk zq ?_
    | refine cd_ret ?_
    | refine cd_skip ?_
    | refine cd_exit ?_
    | refine cd_loop ?_
    | refine cd_cond rfl ?_
    | refine cd_condT rfl ?_
    | refine cd_condF rfl ?_
    | (refine Cd.mk ?_; cbv)
    | (refine Ends1.mk ?_; cbv)
    | (refine Fin1.mk ?_; cbv)
    | exact trivial
    | refine And.intro ?_ ?_
    | refine orf fun _ => ?_
    | refine ort fun _ => ?_)
  all_goals
    clear hL zq Z hfs
    subst hA hF hG0 hG1 hG2
    simp only [Sp.std, EgR.Fs.std, Ar.std] at *
    try (grind [stdCmp, lkB])
theorem ok_linked : ConOk Try.prog 8 (c_linked Sp.std) := by
  refine con_of (FsOk.cons ok_echeckall (FsOk.cons ok_joined (FsOk.cons ok_jsame FsOk.nil rfl) rfl) rfl) Try.func8 rfl rfl fun xs h p hp => ?_
  unfold c_linked at hp
  split at hp
  · cases hp
    exact ⟨lee_le rfl, fun hC _ => @x_linked _ _ _ hC⟩
  · cases hp
end Go.Proofs.Ytakebkfhigadiaa.SpR
