/-
  HandOver: for every limit and every list of truths the call tells true, and nothing that was there turns. No condition.
-/
import Derived.Test.YtcbfccadodikgaaRows
import Derived.Test.YtcbfccadodikgaaHnR
namespace Go.Proofs.Ytcbfccadodikgaa.HandOver
open Go Go.Proofs.Ytcbfccadodikgaa.Rx Go.Proofs.Ytcbfccadodikgaa.HnR Go.Proofs.Ytcbfccadodikgaa.Law

open Go.ChangeShapes Go.WideShapes Go.ChangeAt Go.Joins Go.RowKit
def fs (F : Fs) : List (Nat × Con) := [(39, c_new F), (48, c_wel F), (40, c_close F), (45, c_awake F)]
theorem fs_ok : FsOk (fs Fs.std) := FsOk.cons ok_new (FsOk.cons ok_wel (FsOk.cons ok_close (FsOk.cons ok_awake FsOk.nil)))
structure X where
  l : Int
  c : Int
  p : Int
  o : Bool
  d : Int
  i : Int
def QB (n : Int) (x : X) : Prop := 0 ≤ x.i ∧ x.i ≤ 60 ∧ ((x.o = false ∧ x.l = x.d ∧ x.c = 0 ∧ x.p = x.d + 1 ∧ 0 ≤ x.d ∧ x.d < n) ∨ (x.o = false ∧ x.l = x.d ∧ x.c = x.d ∧ x.p = 0 ∧ 0 < x.d ∧ x.d ≤ n) ∨ (x.o = true ∧ x.c = 0 ∧ x.p = 0 ∧ x.l = x.d ∧ x.d = n))
def nn (A : Ar) (limit : Int) : Int := A.bin .add .i64 1 (A.conv .i64 (A.bin .rem .u8 limit 9))
noncomputable def inv (ll : List E) (n : Int) (x : X) : St := stOf Try.f14.ntmps [(1, .sa (.one (.sl none (.recs (.bool .nil) ll)))), (4, .sa (.one (B false))), (5, .sa (.one (I n))), (6, .sa (.one (.ptr 6 0))), (7, .sa (.one (I 0))), (8, .sa (.one (I x.d))), (9, .sa (.one (I x.i)))]
  [(6, 67, [I x.l, I x.c, I x.p, B x.o])]
def mu (ll : List E) (x : X) : Nat := ll.length - x.i.toNat
def rd (st : St) : X := ⟨valI (blkC st 6 0), valI (blkC st 6 1), valI (blkC st 6 2), valB (blkC st 6 3), valI (slotC st 8), valI (slotC st 9)⟩
theorem nn_ok (limit : Int) (h : 0 ≤ limit) : 1 ≤ nn Ar.std limit ∧ nn Ar.std limit ≤ 9 := by
  simp only [nn, Ar.std, stdBin]
  rw [Int.tmod_eq_emod_of_nonneg h, wr (limit % 9) (by omega) (by omega), wr _ (by omega) (by omega)]
  omega
set_option maxRecDepth 100000 in
theorem x_law (limit : Int) (l : List Bool) (hw : 0 ≤ limit) : Does (fs Fs.std) Try.f14 [.one (.val (.int .u8 limit)), .one (.sl none (.recs (.bool .nil) (l.map fun b => [D.bool b])))] (hands (.sa (.one (B true)))) := by
  intro W S
  have hfs := fs_ok
  have hn := nn_ok limit hw
  generalize hl : (l.map fun b => [D.bool b]) = ll
  generalize hF : Fs.std = F at hfs ⊢
  generalize hA : Ar.std = A at hn ⊢
  generalize hL : Lp _ _ _ = L
  cbv
  repeat' (first | exact trivial | refine ⟨?_, ?_⟩ | refine orf fun _ => ?_ | refine ort fun _ => ?_)
  · subst hA hF
    simp [Ar.std, stdCmp]
  subst hL
  refine loop_rd (cx_ok hfs) (QB (nn A limit)) (inv ll (nn A limit)) (mu ll) rd ⟨0, 0, 1, false, 0, 0⟩ ?_ ?_ ?_
  · unfold QB
    grind
  · cbv
    subst hA hF
    simp only [Fs.std]
    grind [stdCmp, stdBin, wr, newF, newH, limitB, nn]
  rintro ⟨l, c, p, o, d, i⟩ hQ O hO
  generalize hn' : nn A limit = n at hQ hn hO ⊢
  subst hA
  generalize hA : Ar.std = A
  generalize hL : Lp _ _ _ = L
  cbv
  repeat' (first | exact trivial | refine ⟨?_, ?_⟩ | refine orf fun _ => ?_ | refine ort fun _ => ?_)
  all_goals (clear hn' hL hl; subst hA hF hO; simp only [Fs.std, Ar.std] at *; grind (splits := 30) [stdCmp, stdBin, wr, QB, mu, welF, welH, closeF, closeH, newF, newH, mayH, openB, openingB, overB, limitB])
theorem walk (limit : Int) (A : Option Addr) (n c : Nat) (l : List Bool) (w : World) (hr : Reads w w.heap.size 1 A n (l.map Value.bool)) (hb : n ≤ c ∧ c ≤ maxLen) (hw : 0 ≤ limit) : Calls Try.prog 14 #[.int .u8 limit, .slice A n c] w (Law.Yes w) :=
  yes_of fs_ok Try.func14 rfl (vs := [.int .u8 limit, .slice A n c]) rfl (by exact ⟨rfl, (bools_of hr hb).2, trivial⟩) (Nat.le_of_ble_eq_true rfl) (x_law limit l hw)

theorem own : ownKnob Try.prog.godebug = none := by kernel_rfl
theorem laidOut : laidOutB Try.prog = true := by kernel_rfl

set_option maxRecDepth 100000 in
theorem lifted (os : Os) (started : os.Started) (H : Type) (enc : TypeId × Value → H) :
    ReturnsInHanded {} Try.checked os 14 .any (Rows.handOverSpec.pre6 enc Try.prog Try.f14 Rows.handOverRow.domain false) (Rows.handOverSpec.post enc Try.prog Try.f14 false true false false) := by
  refine returnsInHanded_of_change (C := Try.checked) own started (by kernel_rfl) Try.func14
    (ChangeSpec.witness6 (enc := enc) (C := Try.checked) false ⟨#[], #[.int .u8 0, .slice none 0 0], []⟩ 8 (by kernel_rfl) (by kernel_rfl) (by kernel_rfl) (by kernel_rfl)) ?_
  intro W base args ds gs before hval0 hW _ _
  have hval : ∀ (j : Nat) t v, Try.f14.params[j]? = some t → args[j]? = some v → Value.okWide Try.prog W .any base t v := hval0
  have hW' := hW
  obtain ⟨p, q, hA0, hV, rfl, _, _⟩ := hW
  have hA : DataW.TrodAll enc Try.prog W 0 (fun _ => true) true Try.f14.params.toList args.toList ds p := hA0
  rw [Try.params14] at hA hval
  obtain ⟨v0, v1, d0, d1, p0, p1, rfl, rfl, rfl, h0, h1⟩ := trodAll_two hA
  obtain ⟨rfl, rfl⟩ := trodVars_none hV
  obtain ⟨a0, rfl, rfl, rfl, w0⟩ := open_int Try.underlying5 (hval 0 5 v0 rfl rfl) h0
  obtain ⟨A1, n1, c1, l1, rfl, sb1, rd1⟩ := SliceIn.slb Try.underlying59 Try.underlying4 (by kernel_rfl) (hval 1 59 v1 rfl rfl) h1
  refine (walk a0 A1 n1 c1 l1 W rd1 sb1 (wf8 w0).1).mono fun e W' ⟨he, hb⟩ => ?_
  subst he
  exact ⟨_, rfl, law_post laidOut (by kernel_rfl) (by kernel_rfl) Try.underlying4 rfl hW' rfl hb⟩

theorem proved : Rows.HandOverSaid :=
  OpenClaim.holds_of_wide 14 Try.f14 rfl rfl rfl rfl rfl rfl rfl ⟨rfl, rfl, rfl, rfl, rfl⟩ rfl rfl rfl rfl rfl (by kernel_rfl) Try.func14 (by kernel_rfl)
    (of_decide_eq_true (by kernel_rfl)) (by unfold Func.isWrapper; first | (rw [if_pos (by decide +kernel)]; kernel_rfl) | (rw [if_neg (by decide +kernel)]; exact ⟨rfl, rfl⟩))
    (fun os started H enc _ => lifted os started H enc)
end Go.Proofs.Ytcbfccadodikgaa.HandOver

