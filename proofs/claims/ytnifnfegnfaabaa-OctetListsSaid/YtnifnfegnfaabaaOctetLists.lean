/-
  OctetLists: for every input the call tells true, and nothing that was there turns. No condition.
-/
import Derived.Test.YtnifnfegnfaabaaRows
import Derived.Test.YtnifnfegnfaabaaLaw
import Derived.Test.YtnifnfegnfaabaaRyIn
import Derived.Test.YtnifnfegnfaabaaRyZ
import Derived.Test.YtnifnfegnfaabaaOctR
import Derived.Test.YtnifnfegnfaabaaOctP
import Derived.Test.YtnifnfegnfaabaaOctQ
import Derived.Test.YtnifnfegnfaabaaOctL
namespace Go.Proofs.Ytnifnfegnfaabaa.OctetLists
open Go Go.Proofs.Ytnifnfegnfaabaa.Ry Go.Proofs.Ytnifnfegnfaabaa.Law Go.Proofs.Ytnifnfegnfaabaa.OctR Go.Proofs.Ytnifnfegnfaabaa.OctP Go.Proofs.Ytnifnfegnfaabaa.OctQ Go.Proofs.Ytnifnfegnfaabaa.OctL
open Go.ChangeShapes Go.WideShapes Go.ChangeAt Go.Joins Go.RowKit
set_option maxHeartbeats 4000000 in
set_option cbv.maxSteps 1000000 in
set_option maxRecDepth 100000 in
theorem x_law (a0 : List E) (a1 : List Int) (w0 : ∀ y ∈ a0, ∀ n ∈ rl y 0, 0 ≤ n ∧ n ≤ 255) (hz1 : a1.length ≤ 140737488355328) (_ : sized [.one (.sl none (.recs (.ints .u8 .nil) a0)), .one (.sl none (.ints .u8 a1))]) : Does [(26, c_plist Hs.std), (28, c_new Fs.std), (29, c_list Gs.std), (35, c_end Fs.std), (keepKey 35, noCon), (22, c_awake Fs.std)] Try.f12 [.one (.sl none (.recs (.ints .u8 .nil) a0)), .one (.sl none (.ints .u8 a1))] [] ⟨True, .sa (B true), [], [Any, Any]⟩ := by
  intro b gv
  have hfs := (FsOk.cons ok_plist (FsOk.cons ok_new (FsOk.cons ok_list (FsOk.keeps ok_end kp_end (FsOk.cons ok_awake FsOk.nil rfl)) rfl) rfl) rfl)
  generalize hF : Hs.std = F at hfs ⊢
  generalize hG0 : Fs.std = G0 at hfs ⊢
  generalize hG1 : Gs.std = G1 at hfs ⊢
  generalize hA : Ar.std = A
  generalize hL : Lp _ _ _ = L
  obtain ⟨Z, zq⟩ := z_all
  refine cd_open (lp_mono hL) zq rfl ?_
  repeat' (first
    | (refine z_open zq ?_; try dsimp only)
    | refine cd_seq zq ?_ (lp_mono hL)
    | refine cd_blk zq ?_
    | refine cd_ret ?_
    | refine cd_skip ?_
    | refine cd_exit ?_
    | refine cd_loop ?_
    | refine cd_cond rfl ?_
    | refine cd_condT rfl ?_
    | refine cd_condF rfl ?_
    | (refine Cd.mk ?_; cbv)
    | (refine Ends1.mk ?_; cbv)
    | (refine Fin1.mk ?_; cbv)
    | exact trivial
    | refine And.intro ?_ ?_
    | refine orf fun _ => ?_
    | refine ort fun _ => ?_)
  subst hL
  refine loop_z (cx_ok hfs) (l1Q a0 a1) (l1I a0 a1) (l1M a0) l1R ⟨0, A.lenI a1⟩ ?_ ?_ ?_
  · subst hA
    exact ⟨Int.le_refl 0, Int.natCast_nonneg _, show (0 : Int) ≤ 100 by decide, by simp [tot, Ar.std], .inl rfl⟩
  · cbv
    repeat' (first | exact trivial | exact rfl | refine And.intro ?_ ?_)
  rintro ⟨i, n⟩ hq O hO
  have hst := l1_step hz1 hq
  have hen := l1_end hq
  have q0 := hq.1
  have q1 := hq.2.1
  simp only at q0 q1
  subst hA
  generalize hA : Ar.std = A
  generalize hL : Lp _ _ _ = L
  refine cd_close zq ?_
  repeat' (first
    | (refine z_open zq ?_; try dsimp only)
    | refine cd_seq zq ?_ (lp_mono hL)
    | refine cd_blk zq ?_
    | refine cd_ret ?_
    | refine cd_skip ?_
    | refine cd_exit ?_
    | refine cd_loop ?_
    | refine cd_cond rfl ?_
    | refine cd_condT rfl ?_
    | refine cd_condF rfl ?_
    | (refine Cd.mk ?_; cbv)
    | (refine Ends1.mk ?_; cbv)
    | (refine Fin1.mk ?_; cbv)
    | exact trivial
    | refine And.intro ?_ ?_
    | refine orf fun _ => ?_
    | refine ort fun _ => ?_)
  all_goals first | (show L _ _ _; skip) | (clear hfs hL zq Z; subst hA hF hG0 hG1 hO; simp only [Hs.std, Gs.std, Fs.std, Ar.std, List.nil_append] at * <;> grind [stdCmp, b_add, wr, shB, sh2, l1M, l2M, l3M, g]; done)
  rename_i hx1 hx2
  have ht : a1.length + tot a0 ≤ 3000 ∧ a0.length ≤ 100 := by
    clear hfs hL zq Z hst hq
    subst hA
    simp only [Ar.std] at hx1 hx2 hen
    grind [stdCmp]
  clear hst hen hq hx1 hx2 q0 q1 hO
  subst hL
  refine loop_z (cx_ok hfs) (l2Q a0 a1) (l2I a0 a1) (l2M a0) l2R ⟨0, A.appI [] a1⟩ ?_ ?_ ?_
  · subst hA
    exact ⟨Int.le_refl 0, Int.natCast_nonneg _, by simp [enc, Ar.std]⟩
  · cbv
    repeat' (first | exact trivial | exact rfl | refine And.intro ?_ ?_)
  rintro ⟨i, b⟩ hq O hO
  have hst := l2_step ht.1 ht.2 hq
  have hen := fun h => l2_end hq h
  have hel := enc_len a0
  have hdr : (a1 ++ enc a0).drop a1.length = enc a0 := by simp
  have q0 := hq.1
  have q1 := hq.2.1
  simp only at q0 q1
  subst hA
  generalize hA : Ar.std = A
  generalize hL : Lp _ _ _ = L
  refine cd_close zq ?_
  repeat' (first
    | (refine z_open zq ?_; try dsimp only)
    | refine cd_seq zq ?_ (lp_mono hL)
    | refine cd_blk zq ?_
    | refine cd_ret ?_
    | refine cd_skip ?_
    | refine cd_exit ?_
    | refine cd_loop ?_
    | refine cd_cond rfl ?_
    | refine cd_condT rfl ?_
    | refine cd_condF rfl ?_
    | (refine Cd.mk ?_; cbv)
    | (refine Ends1.mk ?_; cbv)
    | (refine Fin1.mk ?_; cbv)
    | exact trivial
    | refine And.intro ?_ ?_
    | refine orf fun _ => ?_
    | refine ort fun _ => ?_)
  all_goals first | (show L _ _ _; skip) | (clear hfs hL zq Z; subst hA hF hG0 hG1 hO; simp only [Hs.std, Gs.std, Fs.std, Ar.std, List.nil_append] at * <;> grind [stdCmp, b_add, wr, shB, sh2, l1M, l2M, l3M, g]; done)
  rename_i hx1 hx2
  have hi : i = a0.length := by
    clear hfs hL zq Z hst hq hen
    subst hA
    simp only [Ar.std] at hx1
    grind [stdCmp]
  have hb := hen hi
  clear hx1 hx2 hst hen hq q0 q1 hO hel hi
  subst hL
  refine loop_z (cx_ok hfs) (l3Q a0) (l3I a0) (l3M a0) l3R ⟨0, A.cutI b (A.lenI a1) (A.lenI b), 0⟩ ?_ ?_ ?_
  · subst hA
    refine ⟨Int.le_refl 0, Int.natCast_nonneg _, ?_, rfl⟩
    show List.drop ((a1.length : Int)).toNat (List.take ((b.length : Int)).toNat b) = enc (List.drop ((0 : Int)).toNat a0)
    rw [Int.toNat_natCast, Int.toNat_natCast, List.take_length, hb, hdr]
    rfl
  · cbv
    repeat' (first | exact trivial | exact rfl | refine And.intro ?_ ?_)
  clear hb hdr
  rintro ⟨i, r, e⟩ hq O hO
  have hst := l3_step (show tot a0 ≤ 3000 by omega) hq
  have hen := fun h => l3_end hq h
  have hok : okR r = true := by
    have hr : r = enc (a0.drop i.toNat) := hq.2.2.1
    rw [hr]
    exact enc_ok a0 _ w0 (by omega) ht.2
  have q0 := hq.1
  have q1 := hq.2.1
  simp only at q0 q1
  subst hA
  generalize hA : Ar.std = A
  generalize hL : Lp _ _ _ = L
  refine cd_close zq ?_
  repeat' (first
    | (refine z_open zq ?_; try dsimp only)
    | refine cd_seq zq ?_ (lp_mono hL)
    | refine cd_blk zq ?_
    | refine cd_ret ?_
    | refine cd_skip ?_
    | refine cd_exit ?_
    | refine cd_loop ?_
    | refine cd_cond rfl ?_
    | refine cd_condT rfl ?_
    | refine cd_condF rfl ?_
    | (refine Cd.mk ?_; cbv)
    | (refine Ends1.mk ?_; cbv)
    | (refine Fin1.mk ?_; cbv)
    | exact trivial
    | refine And.intro ?_ ?_
    | refine orf fun _ => ?_
    | refine ort fun _ => ?_)
  all_goals (clear hfs hL zq Z; subst hA hF hG0 hG1 hO; simp only [Hs.std, Gs.std, Fs.std, Ar.std, List.nil_append] at * <;> grind [stdCmp, b_add, wr, shB, sh2, l1M, l2M, l3M, g])
theorem walk (a0 : List E) (a1 : List Int) (A0 : Option Addr) (n0 c0 : Nat) (A1 : Option Addr) (n1 c1 : Nat) (w : World) (r0 : (SC.sl none (.recs (.ints .u8 .nil) a0)).is (G0 w) (.slice A0 n0 c0)) (w0 : ∀ y ∈ a0, wfS (.ints .u8 .nil) y 0) (_ : a0.length ≤ 140737488355328) (r1 : Law.Reads w w.heap.size 1 A1 n1 (a1.map (Value.int .u8))) (b1 : n1 ≤ c1 ∧ c1 ≤ maxLen) (_ : Law.Wf .u8 a1) (_ : n1 ≤ 140737488355328) : Calls Try.prog 12 #[.slice A0 n0 c0, .slice A1 n1 c1] w (Law.Yes w) :=
  yes_of (FsOk.cons ok_plist (FsOk.cons ok_new (FsOk.cons ok_list (FsOk.keeps ok_end kp_end (FsOk.cons ok_awake FsOk.nil rfl)) rfl) rfl) rfl) Try.func12 rfl (vs := [.slice A0 n0 c0, .slice A1 n1 c1]) (by exact ⟨r0, (ints_of r1 b1).2, trivial⟩) (lee_le rfl) fun hZ => x_law a0 a1 (fun y hy n hn => wf8 ((w0 y hy).1 n hn)) (by have := (ints_of r1 b1).1; omega) hZ
theorem own : ownKnob Try.prog.godebug = none := by kernel_rfl
theorem laidOut : laidOutB Try.prog = true := by kernel_rfl
set_option maxRecDepth 100000 in
theorem lifted (os : Os) (started : os.Started) (H : Type) (enc : TypeId × Value → H) :
    ReturnsInHanded {} Try.checked os 12 .any (Rows.octetListsSpec.pre6 enc Try.prog Try.f12 Rows.octetListsRow.domain false) (Rows.octetListsSpec.post enc Try.prog Try.f12 false true false false) := by
  refine returnsInHanded_of_change_sized (C := Try.checked) own started (by kernel_rfl) Try.func12
    (ChangeSpec.witness6 (enc := enc) (C := Try.checked) false ⟨#[], #[.slice none 0 0, .slice none 0 0], []⟩ 8 (by kernel_rfl) (by kernel_rfl) (by kernel_rfl) (by kernel_rfl)) ?_
  intro W base args ds gs before hval0 hW _ hz _
  have hval : ∀ (j : Nat) t v, Try.f12.params[j]? = some t → args[j]? = some v → Value.okWide Try.prog W .any base t v := hval0
  have hW' := hW
  obtain ⟨p, q, hA0, hV, rfl, _, _⟩ := hW
  have hA : DataW.TrodAll enc Try.prog W 0 (fun _ => true) true Try.f12.params.toList args.toList ds p := hA0
  rw [Try.params12] at hA hval
  obtain ⟨v0, v1, d0, d1, p0, p1, rfl, rfl, rfl, h0, h1⟩ := trodAll_two hA
  obtain ⟨rfl, rfl⟩ := trodVars_none hV
  obtain ⟨A0, n0, c0, a0, rfl, l0, r0, w0⟩ := sl_any (s := .ints .u8 .nil) Try.underlying57 (by kernel_rfl) (by kernel_rfl) (hval 0 57 v0 rfl rfl) h0
  have s0 : a0.length ≤ 140737488355328 := by rw [l0]; exact short_of Try.underlying57 (by decide +kernel) hz (j := 0) rfl rfl h0
  obtain ⟨A1, n1, c1, a1, rfl, b1, r1, w1⟩ := SliceIn.ints Try.underlying22 Try.underlying5 (by kernel_rfl) (hval 1 22 v1 rfl rfl) h1
  have s1 := short_of Try.underlying22 (by decide +kernel) hz (j := 1) rfl rfl h1
  refine (walk a0 a1 A0 n0 c0 A1 n1 c1 W r0 w0 s0 r1 b1 w1 s1).mono fun e W' ⟨he, hb⟩ => ?_
  subst he
  exact ⟨_, rfl, law_post laidOut (by kernel_rfl) (by kernel_rfl) Try.underlying4 rfl hW' rfl hb⟩
theorem proved : Rows.OctetListsSaid :=
  OpenClaim.holds_of_wide 12 Try.f12 rfl rfl rfl rfl rfl rfl rfl ⟨rfl, rfl, rfl, rfl, rfl⟩ rfl rfl rfl rfl rfl (by kernel_rfl) Try.func12 (by kernel_rfl)
    (of_decide_eq_true (by kernel_rfl)) (by unfold Func.isWrapper; first | (rw [if_pos (by decide +kernel)]; kernel_rfl) | (rw [if_neg (by decide +kernel)]; exact ⟨rfl, rfl⟩))
    (fun os started H enc _ => lifted os started H enc)
end Go.Proofs.Ytnifnfegnfaabaa.OctetLists
