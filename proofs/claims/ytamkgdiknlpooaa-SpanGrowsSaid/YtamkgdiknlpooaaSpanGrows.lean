/-
  SpanGrows: for every input the call tells true, and nothing that was there turns. No condition.
-/
import Derived.Test.YtamkgdiknlpooaaRows
import Derived.Test.YtamkgdiknlpooaaLaw
import Derived.Test.YtamkgdiknlpooaaRyIn
import Derived.Test.YtamkgdiknlpooaaRyZ
import Derived.Test.YtamkgdiknlpooaaSpM
import Derived.Test.YtamkgdiknlpooaaSpN
namespace Go.Proofs.Ytamkgdiknlpooaa.SpanGrows
open Go Go.Proofs.Ytamkgdiknlpooaa.Ry Go.Proofs.Ytamkgdiknlpooaa.Law Go.Proofs.Ytamkgdiknlpooaa.SpM Go.Proofs.Ytamkgdiknlpooaa.SpN Go.Proofs.Ytamkgdiknlpooaa.So Go.Proofs.Ytamkgdiknlpooaa.JoS Go.Proofs.Ytamkgdiknlpooaa.EgR Go.Proofs.Ytamkgdiknlpooaa.EgL Go.Proofs.Ytamkgdiknlpooaa.SpR Go.Proofs.Ytamkgdiknlpooaa.SpQ Go.Proofs.Ytamkgdiknlpooaa.SpK Go.Proofs.Ytamkgdiknlpooaa.SpT Go.Proofs.Ytamkgdiknlpooaa.SpO Go.Proofs.Ytamkgdiknlpooaa.SpL Go.Proofs.Ytamkgdiknlpooaa.SpN
open Go.ChangeShapes Go.WideShapes Go.ChangeAt Go.Joins Go.RowKit
structure XG where
  i : Int
def gM (l : List E) (y : XG) : Nat := l.length - y.i.toNat
def gQ (l : List E) (y : XG) : Prop := 0 ≤ y.i ∧ y.i ≤ l.length
def gR (n : Nat) (st : St) : XG := ⟨slotI st n⟩
structure XB where
  k : Int
  b : Bool
def hQ (f : List E) (x : T) (y : XB) : Prop := 0 ≤ y.k ∧ y.k ≤ f.length ∧ (y.b = true ↔ hasT (f.take y.k.toNat) x)
def hM (f : List E) (y : XB) : Nat := f.length - y.k.toNat
def slotB (st : St) (n : Nat) : Bool := match slotC st n with | .val (.bool b) => b | .tf b => b | _ => false
def hR (n m : Nat) (st : St) : XB := ⟨slotI st n, slotB st m⟩
theorem h_zero (f : List E) (x : T) : hQ f x ⟨0, false⟩ := ⟨Int.le_refl 0, Int.natCast_nonneg _, by
  constructor
  · intro h
    cases h
  · rintro ⟨y, hy, _⟩
    cases hy⟩
theorem h_step {f : List E} {x : T} (hl : f.length ≤ 1000000) {k : Int} {b : Bool} (hq : hQ f x ⟨k, b⟩) (h : k < f.length) : stdBin .add .i64 k 1 = k + 1 ∧ (∀ c, hM f ⟨k + 1, c⟩ < hM f ⟨k, b⟩) ∧ (b = true → hQ f x ⟨k + 1, true⟩) ∧ (b = false → ∀ c : Bool, (c = true ↔ ri (f.getD k.toNat []) 0 = x.1 ∧ ri (f.getD k.toNat []) 1 = x.2.1 ∧ ri (f.getD k.toNat []) 2 = x.2.2) → hQ f x ⟨k + 1, c⟩) := by
  obtain ⟨h0, h1, h2⟩ := hq
  simp only at h0 h1 h2
  have hx : hasT (f.take (k + 1).toNat) x ↔ hasT (f.take k.toNat) x ∨ trE (f.getD k.toNat []) = x := by
    rw [take_next f k h0 h]
    unfold hasT
    simp only [List.mem_append, List.mem_singleton]
    constructor
    · rintro ⟨y, hy | rfl, e⟩
      · exact .inl ⟨y, hy, e⟩
      · exact .inr e
    · rintro (⟨y, hy, e⟩ | e)
      · exact ⟨y, .inl hy, e⟩
      · exact ⟨_, .inr rfl, e⟩
  refine ⟨by rw [b_add, wr _ (by omega) (by omega)], fun c => by simp only [hM]; omega, fun g => ⟨by simp only; omega, by simp only; omega, ?_⟩, fun g c hc => ⟨by simp only; omega, by simp only; omega, ?_⟩⟩
  · simp only
    rw [hx]
    exact ⟨fun _ => .inl (h2.1 g), fun _ => by first | rfl | trivial⟩
  · simp only
    rw [hx, hc]
    constructor
    · rintro ⟨e1, e2, e3⟩
      right
      unfold trE
      rw [e1, e2, e3]
    · rintro (e | e)
      · rw [h2.2 e] at g
        cases g
      · unfold trE at e
        rw [← e]
        exact ⟨rfl, rfl, rfl⟩
theorem h_end {f : List E} {x : T} {k : Int} {b : Bool} (hq : hQ f x ⟨k, b⟩) (h : ¬ k < f.length) : b = true ↔ hasT f x := by
  obtain ⟨h0, h1, h2⟩ := hq
  simp only at h0 h1 h2
  have e : k = f.length := by omega
  rw [e, Int.toNat_natCast, List.take_length] at h2
  exact h2
theorem g_step {l : List E} (hl : l.length ≤ 1000000) {i : Int} (hq : gQ l ⟨i⟩) (h : i < l.length) : stdBin .add .i64 i 1 = i + 1 ∧ gQ l ⟨i + 1⟩ ∧ gM l ⟨i + 1⟩ < gM l ⟨i⟩ := by
  obtain ⟨h0, h1⟩ := hq
  simp only at h0 h1
  exact ⟨by rw [b_add, wr _ (by omega) (by omega)], ⟨by simp only; omega, by simp only; omega⟩, by simp only [gM]; omega⟩
noncomputable def grI (l f : List E) (y : XG) : St := stOf Try.f8.ntmps [(0, .sl none (.recs (.int .i64 (.int .i64 (.int .i64 .nil))) l)), (5, .sl none (.recs (.int .i64 (.int .i64 (.int .i64 .nil))) f)), (11, .val (.int .i64 y.i))] [] [Any, Any]
noncomputable def inI (l f : List E) (i : Int) (y : XB) : St := stOf Try.f8.ntmps [(0, .sl none (.recs (.int .i64 (.int .i64 (.int .i64 .nil))) l)), (5, .sl none (.recs (.int .i64 (.int .i64 (.int .i64 .nil))) f)), (11, .val (.int .i64 i)), (12, .val (.bool y.b)), (13, .val (.int .i64 y.k))] [] [Any, Any]
/-- One edge less, as the code says it. -/
theorem less_ok {l : List E} (h : allE l = 0) (hl : l.length ≤ 1000000) {i : Int} (hq : gQ l ⟨i⟩) (hi : i < l.length) : ∀ r, r = List.drop (Int.toNat 0) (List.take i.toNat l) ++ List.drop (stdBin .add .i64 i 1).toNat (List.take (Int.toNat l.length) l) → r.length ≤ l.length ∧ allE r = 0 ∧ (¬ hasT (lstB l) (trE (l.getD i.toNat [])) → sameE (lstB r) (lstB l) = true) := by
  intro r hr
  have hb := (g_step hl hq hi).1
  have h0 := hq.1
  simp only at h0
  have e1 : (i + 1).toNat = i.toNat + 1 := by omega
  have hi2 : i.toNat < l.length := by omega
  have eg : l.getD i.toNat [] = l[i.toNat] := by rw [List.getD_eq_getElem?_getD, List.getElem?_eq_getElem hi2]; rfl
  have e : r = l.take i.toNat ++ l.drop (i.toNat + 1) := by
    rw [hr, hb, e1, Int.toNat_natCast, List.take_length]
    rfl
  rw [e, eg]
  obtain ⟨a, b⟩ := drop_ok h i.toNat hi2
  exact ⟨by rw [List.length_append, List.length_take, List.length_drop]; omega, a, b⟩
set_option maxHeartbeats 4000000 in
set_option maxRecDepth 100000 in
theorem x_law (a0 : List E) (a1 : E) (_ : sized [.one (.sl none (.recs (.int .i64 (.int .i64 (.int .i64 .nil))) a0)), .agg (shCells Ar.std (.int .i64 (.int .i64 (.int .i64 .nil))) a1 0 3)]) : Does [(26, c_sleast SpR.Sp.std), (17, c_rcheck EgR.Fs.std), (22, c_esame EgR.Fs.std), (25, c_sawake Sm.std)] Try.f8 [.one (.sl none (.recs (.int .i64 (.int .i64 (.int .i64 .nil))) a0)), .agg (shCells Ar.std (.int .i64 (.int .i64 (.int .i64 .nil))) a1 0 3)] [] ⟨True, .sa (B true), [], [Any, Any]⟩ := by
  intro b gv
  have f1 := lst_len a0
  have f0 : allE (a0 ++ [[D.int (ri a1 0), D.int (ri a1 1), D.int (ri a1 2)]]) = 0 → allE a0 = 0 ∧ allE (lstB a0 ++ [[D.int (ri a1 0), D.int (ri a1 1), D.int (ri a1 2)]]) = 0 ∧ sameE (lstB (a0 ++ [[D.int (ri a1 0), D.int (ri a1 1), D.int (ri a1 2)]])) (lstB (lstB a0 ++ [[D.int (ri a1 0), D.int (ri a1 1), D.int (ri a1 2)]])) = true := fun h => grow_ok (e := e3 a1) h
  have f2 := lst_len (a0 ++ [[D.int (ri a1 0), D.int (ri a1 1), D.int (ri a1 2)]])
  have f3 := lst_len (lstB a0 ++ [[D.int (ri a1 0), D.int (ri a1 1), D.int (ri a1 2)]])
  rw [List.length_append, List.length_singleton] at f2 f3
  have hfs := (FsOk.cons ok_sleast (FsOk.cons ok_rcheck (FsOk.cons ok_esame (FsOk.cons ok_sawake FsOk.nil rfl) rfl) rfl) rfl)
  generalize hF : SpR.Sp.std = F at hfs ⊢
  generalize hG0 : EgR.Fs.std = G0 at hfs ⊢
  generalize hG1 : SpQ.Sq.std = G1 at hfs ⊢
  generalize hG2 : SpO.Sv.std = G2 at hfs ⊢
  generalize hG3 : SpM.Sm.std = G3 at hfs ⊢
  generalize hA : Ar.std = A
  generalize hL : Lp _ _ _ = L
  obtain ⟨Z, zq⟩ := z_all
  refine cd_open (lp_mono hL) zq rfl ?_
  repeat' (first
    | (refine z_open zq ?_; try dsimp only)
    | refine cd_seq zq ?_ (lp_mono hL)
    | refine cd_blk zq ?_
    | refine cd_ret ?_
    | refine cd_skip ?_
    | refine cd_exit ?_
    | refine cd_loop ?_
    | refine cd_cond rfl ?_
    | refine cd_condT rfl ?_
    | refine cd_condF rfl ?_
    | (refine Cd.mk ?_; cbv)
    | (refine Ends1.mk ?_; cbv)
    | (refine Fin1.mk ?_; cbv)
    | exact trivial
    | refine And.intro ?_ ?_
    | refine orf fun _ => ?_
    | refine ort fun _ => ?_)
  all_goals first | (show L _ _ _; skip) | (clear hL hfs zq Z; subst hA hF hG0 hG1 hG2 hG3; simp only [SpR.Sp.std, EgR.Fs.std, SpQ.Sq.std, SpO.Sv.std, Ar.std, List.nil_append] at * <;> grind [stdCmp, List.length_append, List.length_singleton]; done)
  rename_i hx
  have hin : a0.length ≤ 40 ∧ allE a0 = 0 := by
    clear hL hfs zq Z
    subst hA hF hG0 hG1 hG2 hG3
    simp only [SpR.Sp.std, EgR.Fs.std, SpQ.Sq.std, SpO.Sv.std, Ar.std, List.nil_append] at *
    grind [stdCmp]
  clear hx f0 f2 f3
  subst hL
  refine loop_z (cx_ok hfs) (gQ a0) (grI a0 (F.s_l a0)) (gM a0) (gR 11) ⟨0⟩ ?_ ?_ ?_
  · exact ⟨Int.le_refl 0, Int.natCast_nonneg _⟩
  · cbv
    repeat' (first | exact trivial | exact rfl | refine And.intro ?_ ?_)
  rintro ⟨i⟩ hq O hO
  have hst := fun h => g_step (by omega) hq h
  have hle := fun h => less_ok hin.2 (by omega) hq h
  have q0 := hq.1
  have q1 := hq.2
  dsimp only at q0 q1
  subst hA
  generalize hA : Ar.std = A
  generalize hL : Lp _ _ _ = L
  refine cd_close zq ?_
  repeat' (first
    | (refine z_open zq ?_; try dsimp only)
    | refine cd_seq zq ?_ (lp_mono hL)
    | refine cd_blk zq ?_
    | refine cd_ret ?_
    | refine cd_skip ?_
    | refine cd_exit ?_
    | refine cd_loop ?_
    | refine cd_cond rfl ?_
    | refine cd_condT rfl ?_
    | refine cd_condF rfl ?_
    | (refine Cd.mk ?_; cbv)
    | (refine Ends1.mk ?_; cbv)
    | (refine Fin1.mk ?_; cbv)
    | exact trivial
    | refine And.intro ?_ ?_
    | refine orf fun _ => ?_
    | refine ort fun _ => ?_)
  all_goals first | (show L _ _ _; skip) | (clear hL hfs zq Z hq; subst hA hF hG0 hG1 hG2 hG3 hO; simp only [SpR.Sp.std, EgR.Fs.std, SpQ.Sq.std, SpO.Sv.std, Ar.std, List.nil_append] at * <;> grind [stdCmp]; done)
  rename_i hx
  have hi : i < a0.length := by
    clear hL hfs zq Z hO
    subst hA hF hG0 hG1 hG2 hG3
    simp only [SpR.Sp.std, EgR.Fs.std, SpQ.Sq.std, SpO.Sv.std, Ar.std, List.nil_append] at *
    grind [stdCmp]
  clear hx
  have hle := hle hi
  have hst := hst hi
  subst hL
  refine loop_z (cx_ok hfs) (hQ (lstB a0) (trE (a0.getD i.toNat []))) (inI a0 (F.s_l a0) i) (hM (lstB a0)) (hR 13 12) ⟨0, false⟩ ?_ ?_ ?_
  · exact h_zero _ _
  · cbv
    repeat' (first | exact trivial | exact rfl | refine And.intro ?_ ?_)
  rintro ⟨k, c⟩ hq2 O2 hO2
  have hs2 := fun h => h_step (by omega) hq2 h
  have he2 := fun h => h_end hq2 h
  have k0 := hq2.1
  have k1 := hq2.2.1
  dsimp only at k0 k1
  have hrl := hle _ rfl
  have l1 := lst_len (List.drop (Int.toNat 0) (List.take i.toNat a0) ++ List.drop (stdBin .add .i64 i 1).toNat (List.take (Int.toNat a0.length) a0))
  subst hA
  generalize hA : Ar.std = A
  generalize hL : Lp _ _ _ = L
  refine cd_close zq ?_
  repeat' (first
    | (refine z_open zq ?_; try dsimp only)
    | refine cd_seq zq ?_ (lp_mono hL)
    | refine cd_blk zq ?_
    | refine cd_ret ?_
    | refine cd_skip ?_
    | refine cd_exit ?_
    | refine cd_loop ?_
    | refine cd_cond rfl ?_
    | refine cd_condT rfl ?_
    | refine cd_condF rfl ?_
    | (refine Cd.mk ?_; cbv)
    | (refine Ends1.mk ?_; cbv)
    | (refine Fin1.mk ?_; cbv)
    | exact trivial
    | refine And.intro ?_ ?_
    | refine orf fun _ => ?_
    | refine ort fun _ => ?_)
  all_goals (clear hL hfs zq Z hq hq2; subst hA hF hG0 hG1 hG2 hG3 hO hO2; simp only [SpR.Sp.std, EgR.Fs.std, SpQ.Sq.std, SpO.Sv.std, Ar.std, List.nil_append] at * <;> grind [stdCmp, trE])
theorem walk (a0 : List E) (a1 : E) (A0 : Option Addr) (n0 c0 : Nat) (v1 : Value) (w : World) (r0 : (SC.sl none (.recs (.int .i64 (.int .i64 (.int .i64 .nil))) a0)).is (G0 w) (.slice A0 n0 c0)) (_ : ∀ y ∈ a0, wfS (.int .i64 (.int .i64 (.int .i64 .nil))) y 0) (_ : a0.length ≤ 140737488355328) (r1 : (SA.agg (shCells Ar.std (.int .i64 (.int .i64 (.int .i64 .nil))) a1 0 3)).is (G0 w) v1) (_ : wfS (.int .i64 (.int .i64 (.int .i64 .nil))) a1 0) : Calls Try.prog 8 #[.slice A0 n0 c0, v1] w (Law.Yes w) :=
  yes_of (FsOk.cons ok_sleast (FsOk.cons ok_rcheck (FsOk.cons ok_esame (FsOk.cons ok_sawake FsOk.nil rfl) rfl) rfl) rfl) Try.func8 rfl (vs := [.slice A0 n0 c0, v1]) (by exact ⟨r0, r1, trivial⟩) (lee_le rfl) fun hZ => x_law a0 a1 hZ
theorem own : ownKnob Try.prog.godebug = none := by kernel_rfl
theorem laidOut : laidOutB Try.prog = true := by kernel_rfl
set_option maxRecDepth 100000 in
theorem lifted (os : Os) (started : os.Started) (H : Type) (enc : TypeId × Value → H) :
    ReturnsInHanded {} Try.checked os 8 .any (Rows.spanGrowsSpec.pre6 enc Try.prog Try.f8 Rows.spanGrowsRow.domain false) (Rows.spanGrowsSpec.post enc Try.prog Try.f8 false true false false) := by
  refine returnsInHanded_of_change_sized (C := Try.checked) own started (by kernel_rfl) Try.func8
    (ChangeSpec.witness6 (enc := enc) (C := Try.checked) false ⟨#[], #[.slice none 0 0, .agg #[.int .i64 0, .int .i64 0, .int .i64 0]], []⟩ 8 (by kernel_rfl) (by kernel_rfl) (by kernel_rfl) (by kernel_rfl)) ?_
  intro W base args ds gs before hval0 hW _ hz _
  have hval : ∀ (j : Nat) t v, Try.f8.params[j]? = some t → args[j]? = some v → Value.okWide Try.prog W .any base t v := hval0
  have hW' := hW
  obtain ⟨p, q, hA0, hV, rfl, _, _⟩ := hW
  have hA : DataW.TrodAll enc Try.prog W 0 (fun _ => true) true Try.f8.params.toList args.toList ds p := hA0
  rw [Try.params8] at hA hval
  obtain ⟨v0, v1, d0, d1, p0, p1, rfl, rfl, rfl, h0, h1⟩ := trodAll_two hA
  obtain ⟨rfl, rfl⟩ := trodVars_none hV
  obtain ⟨A0, n0, c0, a0, rfl, l0, r0, w0⟩ := sl_any (s := .int .i64 (.int .i64 (.int .i64 .nil))) Try.underlying22 (by kernel_rfl) (by kernel_rfl) (hval 0 22 v0 rfl rfl) h0
  have s0 : a0.length ≤ 140737488355328 := by rw [l0]; exact short_of Try.underlying22 (by decide +kernel) hz (j := 0) rfl rfl h0
  obtain ⟨a1, r1, w1⟩ := agg_any (s := .int .i64 (.int .i64 (.int .i64 .nil))) (by rw [Try.underlying36]) (by kernel_rfl) (by kernel_rfl) (hval 1 36 v1 rfl rfl) h1
  refine (walk a0 a1 A0 n0 c0 v1 W r0 w0 s0 r1 w1).mono fun e W' ⟨he, hb⟩ => ?_
  subst he
  exact ⟨_, rfl, law_post laidOut (by kernel_rfl) (by kernel_rfl) Try.underlying4 rfl hW' rfl hb⟩
theorem proved : Rows.SpanGrowsSaid :=
  OpenClaim.holds_of_wide 8 Try.f8 rfl rfl rfl rfl rfl rfl rfl ⟨rfl, rfl, rfl, rfl, rfl⟩ rfl rfl rfl rfl rfl (by kernel_rfl) Try.func8 (by kernel_rfl)
    (of_decide_eq_true (by kernel_rfl)) (by unfold Func.isWrapper; first | (rw [if_pos (by decide +kernel)]; kernel_rfl) | (rw [if_neg (by decide +kernel)]; exact ⟨rfl, rfl⟩))
    (fun os started H enc _ => lifted os started H enc)
end Go.Proofs.Ytamkgdiknlpooaa.SpanGrows
