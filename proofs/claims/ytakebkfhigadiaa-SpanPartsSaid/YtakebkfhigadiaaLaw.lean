/-
  The last step of a law's row, alike for every law: the call tells true, and below the heap's old size nothing has turned: so the arguments read as they did. No condition.
-/
import Derived.ProofKit
import Derived.WalkKit
import Derived.Carry
import Derived.WideKeyArgs
import Derived.Lib.SmallJoins
import Derived.Lib.Hide
import Derived.Laws.OwnMore
import Derived.Deep.AppendLies
import Derived.Deep.Draws
import Derived.Deep.Slices
namespace Go.Proofs.Ytakebkfhigadiaa.Law
open Go.ChangeShapes Go.WideShapes Go.ChangeAt Go.RowKit Go.WideElems

section
variable {H : Type} {enc : TypeId × Value → H} {P : Program}

theorem sameAt_below {W W' : World} (hb : Below W.heap.size W W') {p : MemPlace} (hp : p.block < W.heap.size) : W.sameAt W' p := hb.same hp

theorem trodAll_stays (hl : laidOutB P = true) {W W' : World} (hb : Below W.heap.size W W') {sp : Nat → Bool} :
    ∀ {ts : List TypeId} {vs : List Value} {ds : List (DataW H)} {ps : List MemPlace}, ts.all (fun t => P.readableRec t && decide (t < P.types.size)) = true →
      DataW.TrodAll enc P W 0 (fun _ => true) true ts vs ds ps → (∀ p ∈ ps, p.block < W.heap.size) → (∀ p ∈ ps, sp p.block = true) → DataW.TrodAll enc P W' 0 sp true ts vs ds ps
  | [], _, _, _, _, h, _, _ => by
    obtain ⟨rfl, rfl, rfl⟩ := trodAll_nil h
    exact rfl
  | t :: ts, _, _, _, hr, h, hlt, hsp => by
    obtain ⟨v, vs', d, ds', p, q, rfl, rfl, rfl, h0, h1⟩ := trodAll_cons h
    simp only [List.all_cons, Bool.and_eq_true, decide_eq_true_eq] at hr
    exact ⟨p, q, Trod_stays hl hr.1.1 hr.1.2 h0 (fun x hx => hb.same (hlt x (List.mem_append.2 (.inl hx)))) (fun x hx => hsp x (List.mem_append.2 (.inl hx))),
      trodAll_stays hl hb hr.2 h1 (fun x hx => hlt x (List.mem_append.2 (.inr hx))) (fun x hx => hsp x (List.mem_append.2 (.inr hx))), rfl⟩

theorem post_of_below {f : Func} {s : ChangeSpec} {apart fresh handsOn again : Bool} {W W' : World} {args : Array Value} {v : Value} {ds gs : List (DataW H)} {before pa pv : List MemPlace}
    (hW : DataW.Whole enc P f.params.toList s.vars apart W args.toList ds gs before)
    (hres : ∀ (b : Nat) (sp : Nat → Bool) (hd : Bool), DataW.TrodAll enc P W' b sp hd f.resultTypes.toList (v.resultList f.resultTypes.size) (s.fn H (ds ++ gs)).results [])
    (hargs : ∀ sp : Nat → Bool, (∀ p ∈ before, sp p.block = true) → DataW.TrodAll enc P W' 0 sp true f.params.toList args.toList (s.fn H (ds ++ gs)).args pa)
    (hvars : ∀ sp : Nat → Bool, (∀ p ∈ before, sp p.block = true) → DataW.TrodVars enc P W' sp s.vars (s.fn H (ds ++ gs)).vars pv)
    (hps : before = pa ++ pv) (hb : Below W.heap.size W W')
    (hok : ∀ (j : Nat) (t : TypeId) (r : Value), f.resultTypes[j]? = some t → (v.resultList f.resultTypes.size)[j]? = some r → Value.okWide P W' .any 0 t r) :
    s.post enc P f apart fresh handsOn again W args v W' := by
  have hlt : ∀ p ∈ before, p.block < W.heap.size := fun p hp => hW.lt p hp
  have hold : ∀ p ∈ before, (fun b => decide (b < W.heap.size)) p.block = true := fun p hp => by simpa using hlt p hp
  refine ⟨ds, gs, before, [], pa, pv, hW, hres _ _ _, hargs _ hold, hvars _ hold, World.keptBut_mono (fun p hp => ⟨hp, ?_⟩) (hb.frame (· ∈ before)), fun _ => ?_⟩
  · rw [hps, List.mem_append] at hp
    exact Or.inr hp
  · obtain ⟨_, _, _, _, _, hz, hn⟩ := hW
    refine ⟨hok, _, _, ([] ++ pa) ++ pv, ⟨[] ++ pa, pv, trodAll_append (hargs _ (fun _ _ => rfl)) (hres _ _ _), hvars _ (fun _ _ => rfl), rfl, ?_, ?_⟩, ?_⟩
    · intro b off hp
      have hin : MemPlace.cell b off ∈ before := by rw [hps]; simpa using hp
      rw [hb.frozen (hlt _ hin)]
      exact hz b off hin
    · intro ha
      have := hn ha
      rw [hps] at this
      simpa using this
    · intro p hp _
      rw [hps]
      simpa using hp

/-- A law's last step: 'true', and below the heap's old size nothing has turned. -/
theorem law_post {f : Func} {s : ChangeSpec} {apart fresh handsOn again : Bool} {W W' : World} {args : Array Value} {ds gs : List (DataW H)} {before : List MemPlace} {tb : TypeId}
    (hl : laidOutB P = true) (hr : f.params.toList.all (fun t => P.readableRec t && decide (t < P.types.size)) = true) (hres : f.resultTypes = #[tb]) (htb : P.underlying tb = some .bool)
    (hv : s.vars = []) (hW : DataW.Whole enc P f.params.toList s.vars apart W args.toList ds gs before)
    (hfn : s.fn H (ds ++ gs) = { results := [.lit (.bool true)], args := ds }) (hb : Below W.heap.size W W') :
    s.post enc P f apart fresh handsOn again W args (.bool true) W' := by
  obtain ⟨p, q, hA, hV, hps, hfz, hnd⟩ := hW
  have hW : DataW.Whole enc P f.params.toList s.vars apart W args.toList ds gs before := ⟨p, q, hA, hV, hps, hfz, hnd⟩
  rw [hv] at hV
  obtain ⟨rfl, rfl⟩ := trodVars_none hV
  have hlt : ∀ x ∈ before, x.block < W.heap.size := fun x hx => hW.lt x hx
  refine post_of_below (pa := p) (pv := []) hW ?_ ?_ ?_ (by rw [hps]) hb ?_
  · intro b sp hd
    rw [hfn, hres]
    exact trodAll_mk1 (shut_bool htb _)
  · intro sp hsp
    rw [hfn]
    refine trodAll_stays hl hb hr hA (fun x hx => hlt x (by rw [hps]; simpa using hx)) (fun x hx => hsp x (by rw [hps]; simpa using hx))
  · intro sp _
    rw [hv, hfn]
    exact rfl
  · exact ok_one hres rfl (okWide_bool_mk htb _)
end

/-- Below, the steps that a walk leaves. -/
theorem below_drewN {B : Nat} {a w : World} (h : Below B a w) (n : Nat) : Below B a (w.drewN n) := ⟨h.os, h.tape, h.output, h.size, h.block⟩

theorem hide {p : Prop} (h : p) : Hid p := h

/-- What a law's walk tells: true, and nothing that was there has turned. -/
def Yes (w : World) (e : Ending) (w' : World) : Prop := e = .returned (.bool true) ∧ Below w.heap.size w w'
/-- A function that makes memory and turns none that was there tells v. -/
def Makes (v : Value) (w : World) (e : Ending) (w' : World) : Prop := e = .returned v ∧ Below w.heap.size w w'

theorem bcell {W w1 : World} (hb : Below W.heap.size W w1) : (∀ b o, b < W.heap.size → w1.cell? ⟨b, o, none⟩ = W.cell? ⟨b, o, none⟩) ∧ (∀ b o, b < W.heap.size → w1.frozen? ⟨b, o, none⟩ = W.frozen? ⟨b, o, none⟩) :=
  ⟨fun b o h => hb.cell (p := ⟨b, o, none⟩) h, fun b o h => hb.frozen (p := ⟨b, o, none⟩) h⟩
theorem block_of_add (a : Addr) (n : Nat) : (a.add n).block = a.block := by unfold Addr.add; split <;> rfl
theorem add_of_add (a : Addr) (i j : Nat) : (a.add i).add j = a.add (i + j) := by
  unfold Addr.add
  by_cases hi : i = 0 <;> by_cases hj : j = 0 <;> simp [hi, hj, Nat.add_assoc]

def Reads (w : World) (B size : Nat) (A : Option Addr) (n : Nat) (xs : List Value) : Prop :=
  xs.length = n * size ∧ (0 < n → ∃ ad, A = some ad ∧ ad.block < B ∧ ∀ j u, xs[j]? = some u → w.cell? (ad.add j) = some u)

section
variable {w w' : World} {B B' size n : Nat} {A : Option Addr} {xs : List Value}
theorem Reads.none_ : Reads w B size A 0 [] := ⟨by simp, fun h => absurd h (by omega)⟩
theorem Reads.at_ {k : Nat} (h : Reads w B 1 A n xs) (hk : k < n) : ∃ ad u, A = some ad ∧ ad.block < B ∧ xs[k]? = some u ∧ w.cell? (ad.add k) = some u := by
  obtain ⟨ad, e, hb, hc⟩ := h.2 (by omega)
  have hl : k < xs.length := by have := h.1; omega
  exact ⟨ad, xs[k], e, hb, List.getElem?_eq_getElem hl, hc k _ (List.getElem?_eq_getElem hl)⟩
theorem Reads.keep (h : Reads w B size A n xs) (hk : ∀ p : Addr, p.block < B → w'.cell? p = w.cell? p) : Reads w' B size A n xs :=
  ⟨h.1, fun hn => by
    obtain ⟨ad, e, hb, hc⟩ := h.2 hn
    exact ⟨ad, e, hb, fun j u hu => (hk _ (by rw [block_of_add]; exact hb)).trans (hc j u hu)⟩⟩
theorem Reads.more (h : Reads w B size A n xs) (hB : B ≤ B') : Reads w B' size A n xs :=
  ⟨h.1, fun hn => by
    obtain ⟨ad, e, hb, hc⟩ := h.2 hn
    exact ⟨ad, e, by omega, hc⟩⟩
theorem Reads.below (h : Reads w B size A n xs) (hb : Below B w w') : Reads w' B size A n xs := h.keep fun _ hp => hb.cell hp
theorem Reads.drew (h : Reads w B size A n xs) : Reads w.drew B size A n xs := h
theorem Reads.drewN (h : Reads w B size A n xs) (k : Nat) : Reads (w.drewN k) B size A n xs := h
theorem Reads.alloc (h : Reads w B size A n xs) (hB : B ≤ w.heap.size) (o : Obj) : Reads (w.alloc o) B size A n xs := h.keep fun p hp => World.cell?_alloc_lt w o p (by omega)
theorem Reads.setCell (h : Reads w B size A n xs) {p : Addr} (hB : B ≤ p.block) (u : Value) : Reads (w.setCell p u) B size A n xs :=
  h.keep fun q hq => World.cell?_setCell_other w p q u (fun e => by subst e; omega)
theorem Reads.grown (h : Reads w B size A n xs) {row : Option Nat} (hg : w.grownBy w' row) (hB : B ≤ w.heap.size) (hr : ∀ g, row = some g → B ≤ g) : Reads w' B size A n xs :=
  h.keep fun p hp => World.cell?_of_block (hg.block p.block (by omega) (fun e => by have := hr _ e.symm; omega))
theorem Reads.cut (h : Reads w B size A n xs) {k cap : Nat} (hk : k ≤ n) (hc : n ≤ cap) :
    Reads w B size (if cap = k then A else A.map (·.add (k * size))) (n - k) (xs.drop (k * size)) := by
  refine ⟨by rw [List.length_drop, h.1, Nat.sub_mul], fun hn => ?_⟩
  obtain ⟨ad, rfl, hb, hcell⟩ := h.2 (by omega)
  rw [if_neg (by omega)]
  refine ⟨ad.add (k * size), rfl, by rw [block_of_add]; exact hb, fun j u hu => ?_⟩
  rw [add_of_add]
  exact hcell _ u (by rw [← hu, List.getElem?_drop])
theorem Reads.of_own {base : Nat} {e : TypeId} {c : Nat} (h : w.ownsRow base e size (.slice A n c) n xs) : Reads w w.heap.size size A n xs := by
  refine ⟨h.1, fun hn => ?_⟩
  obtain ⟨g, cap, hv, _, hlt⟩ := h.form hn
  have hA : A = some ⟨g, 0, none⟩ := by injection hv
  subst hA
  exact ⟨_, rfl, hlt, h.cells (g := g) rfl⟩
end

theorem ret_bool {a b : Bool} (h : a = b) : Ending.returned (.bool a) = .returned (.bool b) := by rw [h]
theorem ret_int {k : IntKind} {a b : Int} (h : a = b) : Ending.returned (.int k a) = .returned (.int k b) := by rw [h]
theorem wf64 {a : Int} (h : (Lit.int .i64 a).wf = true) : -9223372036854775808 ≤ a ∧ a ≤ 9223372036854775807 := by
  simpa [Lit.wf, IntKind.min, IntKind.max, IntKind.signed, IntKind.bits] using h
theorem wf8 {a : Int} (h : (Lit.int .u8 a).wf = true) : 0 ≤ a ∧ a ≤ 255 := by
  simpa [Lit.wf, IntKind.min, IntKind.max, IntKind.signed, IntKind.bits] using h


/-! Cells that are kept: block, place, value; below the first world nothing has turned. -/
def Kept (w0 : World) (L : List (Nat × Nat × Value)) (w' : World) : Prop := Below w0.heap.size w0 w' ∧ ∀ x ∈ L, x.1 < w'.heap.size ∧ w'.cell? ⟨x.1, x.2.1, none⟩ = some x.2.2
section
variable {w0 w' w2 : World} {L : List (Nat × Nat × Value)}
theorem Kept.start (w : World) : Kept w [] w := ⟨Below.refl _ _, fun x hx => by cases hx⟩
theorem Kept.size (h : Kept w0 L w') : w0.heap.size ≤ w'.heap.size := h.1.size
theorem Kept.drew (h : Kept w0 L w') : Kept w0 L w'.drew := ⟨h.1.drew, h.2⟩
theorem Kept.drewN (h : Kept w0 L w') (k : Nat) : Kept w0 L (w'.drewN k) := ⟨below_drewN h.1 k, h.2⟩
theorem Kept.call (h : Kept w0 L w') (hb : Below w'.heap.size w' w2) : Kept w0 L w2 :=
  ⟨h.1.trans (hb.mono h.1.size), fun x hx => ⟨Nat.lt_of_lt_of_le (h.2 x hx).1 hb.size, ((bcell hb).1 _ _ (h.2 x hx).1).trans (h.2 x hx).2⟩⟩
theorem Kept.alloc (h : Kept w0 L w') (o : Obj) : Kept w0 L (w'.alloc o) :=
  ⟨h.1.alloc h.1.size o, fun x hx => ⟨by have := (h.2 x hx).1; simp; omega, (World.cell?_alloc_lt w' o _ (h.2 x hx).1).trans (h.2 x hx).2⟩⟩
theorem Kept.add (h : Kept w0 L w') {b o : Nat} {v : Value} (hb : b < w'.heap.size) (hc : w'.cell? ⟨b, o, none⟩ = some v) : Kept w0 ((b, o, v) :: L) w' :=
  ⟨h.1, fun x hx => by
    rcases List.mem_cons.1 hx with rfl | hx
    · exact ⟨hb, hc⟩
    · exact h.2 x hx⟩
theorem Kept.new1 (h : Kept w0 L w') (t : TypeId) (a : Value) : Kept w0 ((w'.heap.size, 0, a) :: L) (w'.alloc (.cells #[a] t)) :=
  (h.alloc _).add (by simp) (by go_simp)
theorem Kept.new2 (h : Kept w0 L w') (t : TypeId) (a b : Value) : Kept w0 ((w'.heap.size, 0, a) :: (w'.heap.size, 1, b) :: L) (w'.alloc (.cells #[a, b] t)) :=
  ((h.alloc _).add (by simp) (by go_simp)).add (by simp) (by go_simp)
theorem Kept.new3 (h : Kept w0 L w') (t : TypeId) (a b c : Value) : Kept w0 ((w'.heap.size, 0, a) :: (w'.heap.size, 1, b) :: (w'.heap.size, 2, c) :: L) (w'.alloc (.cells #[a, b, c] t)) :=
  (((h.alloc _).add (by simp) (by go_simp)).add (by simp) (by go_simp)).add (by simp) (by go_simp)
theorem Kept.new4 (h : Kept w0 L w') (t : TypeId) (a b c d : Value) : Kept w0 ((w'.heap.size, 0, a) :: (w'.heap.size, 1, b) :: (w'.heap.size, 2, c) :: (w'.heap.size, 3, d) :: L) (w'.alloc (.cells #[a, b, c, d] t)) :=
  ((((h.alloc _).add (by simp) (by go_simp)).add (by simp) (by go_simp)).add (by simp) (by go_simp)).add (by simp) (by go_simp)
theorem Kept.head {b o : Nat} {v : Value} (h : Kept w0 ((b, o, v) :: L) w') : (b < w'.heap.size ∧ w'.cell? ⟨b, o, none⟩ = some v) ∧ Kept w0 L w' :=
  ⟨h.2 _ (List.mem_cons_self ..), h.1, fun x hx => h.2 x (List.mem_cons_of_mem _ hx)⟩
end


/-! Slices that come in, opened. -/
theorem map_of_all {α : Type} {f : α → Value} : ∀ (xs : List Value), (∀ u ∈ xs, ∃ a, u = f a) → ∃ l : List α, xs = l.map f
  | [], _ => ⟨[], rfl⟩
  | x :: xs, h => by
    obtain ⟨a, rfl⟩ := h x (List.mem_cons_self ..)
    obtain ⟨l, rfl⟩ := map_of_all xs fun u hu => h u (List.mem_cons_of_mem _ hu)
    exact ⟨a :: l, rfl⟩
section
variable {H : Type} {enc : TypeId × Value → H} {P : Program} {W : World}
theorem SliceIn.one {r : Reach} {b0 : Nat} {t e : TypeId} {v : Value} {d : DataW H} {p : List MemPlace} (ht : P.underlying t = some (.slice e)) (hc : P.cellsOf e = 1) (hv : Value.okWide P W r b0 t v)
    (h : DataW.Trod enc P W 0 (fun _ => true) true t v d p) :
    ∃ (A : Option Addr) (n c : Nat) (xs : List Value), v = .slice A n c ∧ (n ≤ c ∧ c ≤ maxLen) ∧ Reads W W.heap.size 1 A n xs ∧ ∀ u ∈ xs, ∃ (fuel : Nat) (x : DataW H × List MemPlace), DataW.trod enc P W 0 (fun _ => true) true fuel e [u] = some x := by
  obtain ⟨A, n, c, rfl⟩ := okWide_slice ht hv
  obtain ⟨fuel, hf⟩ := h
  rcases Go.Deep.open_slice1 ht hc hf with ⟨h0, _⟩ | ⟨a, len, cap, m, n', V, D, Pl, h0, _, hl, hm, hmm, _, hx⟩
  · simp only [Value.cells, List.cons.injEq, Value.slice.injEq, and_true] at h0
    obtain ⟨rfl, rfl, rfl⟩ := h0
    exact ⟨none, 0, 0, [], rfl, ⟨Nat.le_refl _, by unfold maxLen; omega⟩, Reads.none_, fun u hu => by cases hu⟩
  · simp only [Value.cells, List.cons.injEq, Value.slice.injEq, and_true] at h0
    obtain ⟨rfl, rfl, rfl⟩ := h0
    have hmc : m = c := by simpa using hmm
    subst hmc
    refine ⟨some a, n, m, (List.range n).map V, rfl, ⟨hl, hm⟩, ⟨by simp, fun hn => ⟨a, rfl, World.block_lt_of_cell? W _ (hx 0 (by omega)).1 |> fun h => by simpa [block_of_add] using h, fun j u hu => ?_⟩⟩, fun u hu => ?_⟩
    · rw [List.getElem?_map] at hu
      rcases Nat.lt_or_ge j n with hj | hj
      · rw [List.getElem?_range hj] at hu
        simp only [Option.map_some, Option.some.injEq] at hu
        rw [← hu]
        exact (hx j (by omega)).1
      · rw [List.getElem?_eq_none (by simpa using hj)] at hu
        cases hu
    · obtain ⟨i, hi, rfl⟩ := List.mem_map.1 hu
      have := (hx i (by have := List.mem_range.1 hi; omega)).2
      exact ⟨_, _, this⟩
theorem SliceIn.slb {r : Reach} {b0 : Nat} {t e : TypeId} {v : Value} {d : DataW H} {p : List MemPlace} (ht : P.underlying t = some (.slice e)) (he : P.underlying e = some .bool) (hc : P.cellsOf e = 1) (hv : Value.okWide P W r b0 t v)
    (h : DataW.Trod enc P W 0 (fun _ => true) true t v d p) : ∃ (A : Option Addr) (n c : Nat) (l : List Bool), v = .slice A n c ∧ (n ≤ c ∧ c ≤ maxLen) ∧ Reads W W.heap.size 1 A n (l.map Value.bool) := by
  obtain ⟨A, n, c, xs, rfl, hb, hr, hx⟩ := SliceIn.one ht hc hv h
  obtain ⟨l, rfl⟩ := map_of_all (f := Value.bool) xs fun u hu => by
    obtain ⟨_, _, h⟩ := hx u hu
    obtain ⟨b, h, _⟩ := DataW.trod_bool he h
    exact ⟨b, by simpa using h⟩
  exact ⟨A, n, c, l, rfl, hb, hr⟩
/-- Numbers of a kind, each in its range. -/
def Wf (k : IntKind) (l : List Int) : Prop := ∀ a ∈ l, (Lit.int k a).wf = true
theorem SliceIn.ints {k : IntKind} {r : Reach} {b0 : Nat} {t e : TypeId} {v : Value} {d : DataW H} {p : List MemPlace} (ht : P.underlying t = some (.slice e)) (he : P.underlying e = some (.int k)) (hc : P.cellsOf e = 1) (hv : Value.okWide P W r b0 t v)
    (h : DataW.Trod enc P W 0 (fun _ => true) true t v d p) : ∃ (A : Option Addr) (n c : Nat) (l : List Int), v = .slice A n c ∧ (n ≤ c ∧ c ≤ maxLen) ∧ Reads W W.heap.size 1 A n (l.map (Value.int k)) ∧ Wf k l := by
  obtain ⟨A, n, c, xs, rfl, hb, hr, hx⟩ := SliceIn.one ht hc hv h
  have hx' : ∀ u ∈ xs, ∃ a, u = .int k a ∧ (Lit.int k a).wf = true := fun u hu => by
    obtain ⟨_, _, h⟩ := hx u hu
    obtain ⟨b, h, _, hw⟩ := DataW.trod_int he h
    exact ⟨b, by simpa using h, hw⟩
  obtain ⟨l, rfl⟩ := map_of_all (f := Value.int k) xs fun u hu => by
    obtain ⟨a, h, _⟩ := hx' u hu
    exact ⟨a, h⟩
  refine ⟨A, n, c, l, rfl, hb, hr, fun a ha => ?_⟩
  obtain ⟨b, h, hw⟩ := hx' _ (List.mem_map.2 ⟨a, ha, rfl⟩)
  injection h with _ h
  subst h
  exact hw
end
end Go.Proofs.Ytakebkfhigadiaa.Law
