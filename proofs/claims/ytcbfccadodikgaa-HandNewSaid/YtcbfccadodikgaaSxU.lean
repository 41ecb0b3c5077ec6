/-
  The reckoner over the seat's program: short words. No condition.
-/
import Derived.Test.YtcbfccadodikgaaSxOk
import Derived.Test.YtcbfccadodikgaaTt
import Derived.IntWalk
namespace Go.Proofs.Ytcbfccadodikgaa.Sx
open Go

theorem look_of {l : List (Nat × TI)} (h : l.map (fun p => tiOf Try.prog p.1) = l.map (fun p => some p.2)) : ∀ t ti, look l t = some ti → tiOf Try.prog t = some ti := by
  induction l with
  | nil => intro t ti h; cases h
  | cons p l ih =>
    intro t ti hl
    simp only [List.map_cons, List.cons.injEq] at h
    obtain ⟨k, a⟩ := p
    simp only [look] at hl
    split at hl
    · rename_i hk
      cases hl
      rw [← Nat.eq_of_beq_eq_true hk]
      exact h.1
    · exact ih h.2 t ti hl
def FsOk (l : List (Nat × Con)) : Prop := ∀ f con, look l f = some con → ConOk Try.prog f con
theorem FsOk.nil : FsOk [] := fun _ _ h => by cases h
theorem FsOk.cons {f : Nat} {con : Con} {l : List (Nat × Con)} (h : ConOk Try.prog f con) (hl : FsOk l) : FsOk ((f, con) :: l) := by
  intro g c hg
  simp only [look] at hg
  split at hg
  · rename_i hk
    cases hg
    rw [← Nat.eq_of_beq_eq_true hk]
    exact h
  · exact hl g c hg
theorem cx_ok {l : List (Nat × Con)} (h : FsOk l) : CxOk Try.prog ⟨tt, l⟩ := ⟨look_of tt_ok, h, by rfl⟩
def bodyOf (f : Func) : Code := f.body.getD .skip
/-- What is to be shown of a function's code. -/
def Does (l : List (Nat × Con)) (fn : Func) (args : List SA) (R : List SA → Prop) : Prop := ∀ W, ex Ar.std ⟨tt, l⟩ (Lp Try.prog W) (bodyOf fn) (start fn.ntmps args) (fin ⟨tt, l⟩ fn.results.toList R)
abbrev I (n : Int) : SC := .val (.int .i64 n)
abbrev B (b : Bool) : SC := .val (.bool b)
theorem con_of {l : List (Nat × Con)} (hl : FsOk l) {f : FuncId} {fn : Func} (hf : Try.prog.funcs[f]? = some fn) (hb : fn.body = some (bodyOf fn)) (hnm : (fn.name == "runtime.NumGoroutine") = false) {con : Con}
    (h : ∀ xs C r, con xs = some (C, r) → (xs.all SA.pure = true ∧ r.pure = true ∧ xs.length ≤ fn.ntmps) ∧ (C → Does l fn xs (hands r))) : ConOk Try.prog f con :=
  con_ok (cx_ok hl) hf hb hnm fun xs C r hc => ⟨(h xs C r hc).1, fun hC W => (h xs C r hc).2 hC W⟩
theorem yes_of {l : List (Nat × Con)} (hl : FsOk l) {f : FuncId} {fn : Func} (hf : Try.prog.funcs[f]? = some fn) (hb : fn.body = some (bodyOf fn)) {args : List SA} {vs : List Value} {W : World} (hargs : sasIs (fun _ => 0) (List.replicate fn.ntmps none) args vs)
    (hn : args.length ≤ fn.ntmps) (h : Does l fn args (hands (.sa (.one (B true))))) : Calls Try.prog f vs.toArray W (Law.Yes W) :=
  yes_ok (cx_ok hl) hf hb hargs hn (h W)
/-- A number that fits. -/
theorem wr (a : Int) (h1 : -9223372036854775808 ≤ a) (h2 : a ≤ 9223372036854775807) : IntKind.i64.wrap a = a := IntWalk.i64_in a (by omega)
end Go.Proofs.Ytcbfccadodikgaa.Sx
