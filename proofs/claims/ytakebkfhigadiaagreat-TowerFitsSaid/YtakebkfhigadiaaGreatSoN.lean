/-
  The library's sorts of nothing: nothing turns. No condition.
-/
import Derived.Shelf.SlSortCmp.NoneTotal
import Derived.Shelf.Slices.In.SortNone
import Derived.Test.YtakebkfhigadiaaGreatSoK
import Derived.Test.YtakebkfhigadiaaGreatSoI
import Derived.Test.YtakebkfhigadiaaGreatRyOr
namespace Go.Proofs.YtakebkfhigadiaaGreat.SoN
open Go Go.Shelf Go.RowKit Go.Lib Go.Sort Go.Proofs Go.Proofs.YtakebkfhigadiaaGreat.Ry

structure On where
  i0 : List Int → Bool
  k0 : List E → Bool
  si : List Int → List Int
  oi : List Int → Bool
  sk : List E → List E
  ok : List E → Bool
def On.std : On := ⟨fun l => decide (l.length = 0), fun l => decide (l.length = 0), SoI.Oi.std.srt, SoI.Oi.std.ok, SoK.Ok.std.srt, SoK.Ok.std.ok⟩
def c_sorti0 (F : On) : Con := fun xs h => match xs, h with
  | [.one (.sl none (.ints .i64 l))], [] => some ⟨F.i0 l = true, .tup [], [], [Any]⟩
  | _, _ => none
def c_sortv0 (F : On) : Con := fun xs h => match xs, h with
  | [.one (.sl none (.recs (.int .i64 (.int .i64 (.int .i64 (.int .i64 (.bool .nil))))) l)), .one (.val (.func (.func 209) ⟨[]⟩ ⟨[]⟩))], [] => some ⟨F.k0 l = true, .tup [], [], [Any, Any]⟩
  | _, _ => none
theorem ok_sorti0 : ConOk Tryz.prog 220 (c_sorti0 On.std) := by
  refine ⟨⟨_, Tryz.func220, rfl, by kernel_rfl⟩, ?_⟩
  intro args h p hp hC G vs hh hbs hm hv
  unfold c_sorti0 at hp
  split at hp
  · rename_i l
    cases hp
    have hk : l.length = 0 := of_decide_eq_true hC
    match vs, hv with
    | [v0], ⟨⟨⟨A, c, hv0, _⟩, _⟩, _⟩ =>
      subst hv0
      rw [hk]
      refine (Any.slices_Sort_int_none Sh.sortI A c G.w).mono fun e w' ⟨he, hw⟩ => ?_
      subst hw
      exact ⟨_, G, he, rfl, rfl, hh, hm, ⟨[], rfl, trivial⟩, trivial, trivial⟩
  · cases hp
theorem ok_sortv0 : ConOk Tryz.prog 221 (c_sortv0 On.std) := by
  refine ⟨⟨_, Tryz.func221, rfl, by kernel_rfl⟩, ?_⟩
  intro args h p hp hC G vs hh hbs hm hv
  unfold c_sortv0 at hp
  split at hp
  · rename_i l
    cases hp
    have hk : l.length = 0 := of_decide_eq_true hC
    match vs, hv with
    | [v0, v1], ⟨⟨⟨A, c, hv0, _⟩, _⟩, _⟩ =>
      subst hv0
      rw [hk]
      refine (AnyF.slices_SortFunc_none Sl.sortK A c v1 G.w).mono fun e w' ⟨he, hw⟩ => ?_
      subst hw
      exact ⟨_, G, he, rfl, rfl, hh, hm, ⟨[], rfl, trivial⟩, trivial, trivial, trivial⟩
  · cases hp
/-- Sorts of a row of one's own, or of nothing. -/
def c_sorti (F : On) : Con := orCon (SoI.c_sorti ⟨F.si, F.oi⟩) (c_sorti0 F)
theorem ok_sorti : ConOk Tryz.prog 220 (c_sorti On.std) := or_ok SoI.ok_sorti ok_sorti0
def c_sortv (F : On) : Con := orCon (SoK.c_sortv ⟨F.sk, F.ok⟩) (c_sortv0 F)
theorem ok_sortv : ConOk Tryz.prog 221 (c_sortv On.std) := or_ok SoK.ok_sortv ok_sortv0
end Go.Proofs.YtakebkfhigadiaaGreat.SoN
