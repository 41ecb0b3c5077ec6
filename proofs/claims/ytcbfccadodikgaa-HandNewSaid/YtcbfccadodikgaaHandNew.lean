/-
  HandNew: for every last, limit and end the call tells true, and nothing that was there turns. No condition.
-/
import Derived.Test.YtcbfccadodikgaaRows
import Derived.Test.YtcbfccadodikgaaHn
namespace Go.Proofs.Ytcbfccadodikgaa.HandNew
open Go Go.Proofs.Ytcbfccadodikgaa.Sx Go.Proofs.Ytcbfccadodikgaa.Hn Go.Proofs.Ytcbfccadodikgaa.Law

open Go.ChangeShapes Go.WideShapes Go.ChangeAt Go.Joins Go.RowKit

theorem new_may (last limit : Int) (h1 : 0 ≤ last) (h2 : last ≤ 2147483647) (h3 : limitB limit = true) : mayH (newH last limit).l (newH last limit).c (newH last limit).p (newH last limit).o = true := by
  grind [newH, mayH, limitB, openB, openingB, overB]
theorem new_e (last limit : Int) : (newH last limit).e = 0 := by grind [newH]
theorem close_e (l c p : Int) (o : Bool) (limit : Int) : (closeH l c p o limit).e = 0 := by grind [closeH, newH]
theorem may_cnt (l c p : Int) (o : Bool) (h : mayH l c p o = true) : cntB l = true := by grind [mayH, cntB]

set_option maxRecDepth 100000 in
theorem x_law (last : Int) (limit : Int) (h_l : Int) (h_c : Int) (h_p : Int) (h_o : Bool) : Does [(39, c_new Fs.std), (40, c_close Fs.std), (41, c_check Fs.std), (42, c_may Fs.std), (53, c_limit Fs.std), (43, c_rlimit Fs.std), (44, c_rnew Fs.std), (46, c_rclose Fs.std), (45, c_awake Fs.std)] Try.f12 [.one (.val (.int .i64 last)), .one (.val (.int .i64 limit)), .agg [.val (.int .i64 h_l), .val (.int .i64 h_c), .val (.int .i64 h_p), .val (.bool h_o)]] (hands (.sa (.one (B true)))) := by
  intro W
  generalize hF : Fs.std = F
  generalize hA : Ar.std = A
  generalize Lp _ _ = L
  cbv
  subst hF hA
  simp only [Fs.std, Ar.std]
  grind (splits := 30) [stdCmp, stdBin, wr, newF, closeF, chkH, cntB, new_may, new_e, close_e, may_cnt]
theorem walk (last : Int) (limit : Int) (h_l : Int) (h_c : Int) (h_p : Int) (h_o : Bool) (w : World) : Calls Try.prog 12 #[.int .i64 last, .int .i64 limit, .agg #[.int .i64 h_l, .int .i64 h_c, .int .i64 h_p, .bool h_o]] w (Law.Yes w) :=
  yes_of (FsOk.cons ok_new (FsOk.cons ok_close (FsOk.cons ok_check (FsOk.cons ok_may (FsOk.cons ok_limit (FsOk.cons ok_rlimit (FsOk.cons ok_rnew (FsOk.cons ok_rclose (FsOk.cons ok_awake FsOk.nil))))))))) Try.func12 rfl (vs := [.int .i64 last, .int .i64 limit, .agg #[.int .i64 h_l, .int .i64 h_c, .int .i64 h_p, .bool h_o]]) (by exact ⟨rfl, rfl, ⟨_, rfl, ⟨⟨rfl, rfl⟩, ⟨⟨rfl, rfl⟩, ⟨⟨rfl, rfl⟩, ⟨⟨rfl, rfl⟩, trivial⟩⟩⟩⟩⟩, trivial⟩) (Nat.le_of_ble_eq_true rfl) (x_law last limit h_l h_c h_p h_o)


theorem own : ownKnob Try.prog.godebug = none := by kernel_rfl
theorem laidOut : laidOutB Try.prog = true := by kernel_rfl

set_option maxRecDepth 100000 in
theorem lifted (os : Os) (started : os.Started) (H : Type) (enc : TypeId × Value → H) :
    ReturnsInHanded {} Try.checked os 12 .any (Rows.handNewSpec.pre6 enc Try.prog Try.f12 Rows.handNewRow.domain false) (Rows.handNewSpec.post enc Try.prog Try.f12 false true false false) := by
  refine returnsInHanded_of_change (C := Try.checked) own started (by kernel_rfl) Try.func12
    (ChangeSpec.witness6 (enc := enc) (C := Try.checked) false ⟨#[], #[.int .i64 0, .int .i64 0, .agg #[.int .i64 0, .int .i64 0, .int .i64 0, .bool false]], []⟩ 8 (by kernel_rfl) (by kernel_rfl) (by kernel_rfl) (by kernel_rfl)) ?_
  intro W base args ds gs before hval0 hW _ _
  have hval : ∀ (j : Nat) t v, Try.f12.params[j]? = some t → args[j]? = some v → Value.okWide Try.prog W .any base t v := hval0
  have hW' := hW
  obtain ⟨p, q, hA0, hV, rfl, _, _⟩ := hW
  have hA : DataW.TrodAll enc Try.prog W 0 (fun _ => true) true Try.f12.params.toList args.toList ds p := hA0
  rw [Try.params12] at hA hval
  obtain ⟨v0, v1, v2, d0, d1, d2, p0, p1, p2, rfl, rfl, rfl, h0, h1, h2⟩ := trodAll_three hA
  obtain ⟨rfl, rfl⟩ := trodVars_none hV
  obtain ⟨a0, rfl, rfl, rfl, w0⟩ := open_int Try.underlying3 (hval 0 3 v0 rfl rfl) h0
  obtain ⟨a1, rfl, rfl, rfl, w1⟩ := open_int Try.underlying3 (hval 1 3 v1 rfl rfl) h1
  obtain ⟨c2x0, c2x1, c2x2, c2x3, y2x0, y2x1, y2x2, y2x3, m2, rfl, rfl, rfl, hy2x0, hy2x1, hy2x2, hy2x3⟩ := open_agg4 Try.underlying67 (by kernel_rfl) (by kernel_rfl) (hval 2 67 v2 rfl rfl) h2
  obtain ⟨a2x0, e2x0, rfl, w2x0⟩ := DataW.trod_int Try.underlying3 hy2x0
  obtain ⟨a2x1, e2x1, rfl, w2x1⟩ := DataW.trod_int Try.underlying3 hy2x1
  obtain ⟨a2x2, e2x2, rfl, w2x2⟩ := DataW.trod_int Try.underlying3 hy2x2
  obtain ⟨a2x3, e2x3, rfl⟩ := DataW.trod_bool Try.underlying4 hy2x3
  simp at e2x0 e2x1 e2x2 e2x3
  subst e2x0 e2x1 e2x2 e2x3
  refine (walk a0 a1 a2x0 a2x1 a2x2 a2x3 W).mono fun e W' ⟨he, hb⟩ => ?_
  subst he
  exact ⟨_, rfl, law_post laidOut (by kernel_rfl) (by kernel_rfl) Try.underlying4 rfl hW' rfl hb⟩

theorem proved : Rows.HandNewSaid :=
  OpenClaim.holds_of_wide 12 Try.f12 rfl rfl rfl rfl rfl rfl rfl ⟨rfl, rfl, rfl, rfl, rfl⟩ rfl rfl rfl rfl rfl (by kernel_rfl) Try.func12 (by kernel_rfl)
    (of_decide_eq_true (by kernel_rfl)) (by unfold Func.isWrapper; first | (rw [if_pos (by decide +kernel)]; kernel_rfl) | (rw [if_neg (by decide +kernel)]; exact ⟨rfl, rfl⟩))
    (fun os started H enc _ => lifted os started H enc)
end Go.Proofs.Ytcbfccadodikgaa.HandNew
