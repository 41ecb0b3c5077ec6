/-
  SpanBest: for every input the call tells true, and nothing that was there turns. No condition.
-/
import Derived.Test.YtamkgdiknlpooaaRows
import Derived.Test.YtamkgdiknlpooaaLaw
import Derived.Test.YtamkgdiknlpooaaRyIn
import Derived.Test.YtamkgdiknlpooaaRyZ
import Derived.Test.YtamkgdiknlpooaaSpM
import Derived.Test.YtamkgdiknlpooaaSpN
namespace Go.Proofs.Ytamkgdiknlpooaa.SpanBest
open Go Go.Proofs.Ytamkgdiknlpooaa.Ry Go.Proofs.Ytamkgdiknlpooaa.Law Go.Proofs.Ytamkgdiknlpooaa.SpM Go.Proofs.Ytamkgdiknlpooaa.SpN Go.Proofs.Ytamkgdiknlpooaa.So Go.Proofs.Ytamkgdiknlpooaa.JoS Go.Proofs.Ytamkgdiknlpooaa.EgR Go.Proofs.Ytamkgdiknlpooaa.EgL Go.Proofs.Ytamkgdiknlpooaa.SpR Go.Proofs.Ytamkgdiknlpooaa.SpQ Go.Proofs.Ytamkgdiknlpooaa.SpK Go.Proofs.Ytamkgdiknlpooaa.SpT Go.Proofs.Ytamkgdiknlpooaa.SpO Go.Proofs.Ytamkgdiknlpooaa.SpL Go.Proofs.Ytamkgdiknlpooaa.SpN
open Go.ChangeShapes Go.WideShapes Go.ChangeAt Go.Joins Go.RowKit
structure XG where
  i : Int
def gM (l : List E) (y : XG) : Nat := l.length - y.i.toNat
def gQ (l : List E) (y : XG) : Prop := 0 ≤ y.i ∧ y.i ≤ l.length
def gR (n : Nat) (st : St) : XG := ⟨slotI st n⟩
structure XB where
  k : Int
  b : Bool
def hQ (f : List E) (x : T) (y : XB) : Prop := 0 ≤ y.k ∧ y.k ≤ f.length ∧ (y.b = true ↔ hasT (f.take y.k.toNat) x)
def hM (f : List E) (y : XB) : Nat := f.length - y.k.toNat
def slotB (st : St) (n : Nat) : Bool := match slotC st n with | .val (.bool b) => b | .tf b => b | _ => false
def hR (n m : Nat) (st : St) : XB := ⟨slotI st n, slotB st m⟩
theorem h_zero (f : List E) (x : T) : hQ f x ⟨0, false⟩ := ⟨Int.le_refl 0, Int.natCast_nonneg _, by
  constructor
  · intro h
    cases h
  · rintro ⟨y, hy, _⟩
    cases hy⟩
theorem h_step {f : List E} {x : T} (hl : f.length ≤ 1000000) {k : Int} {b : Bool} (hq : hQ f x ⟨k, b⟩) (h : k < f.length) : stdBin .add .i64 k 1 = k + 1 ∧ (∀ c, hM f ⟨k + 1, c⟩ < hM f ⟨k, b⟩) ∧ (b = true → hQ f x ⟨k + 1, true⟩) ∧ (b = false → ∀ c : Bool, (c = true ↔ ri (f.getD k.toNat []) 0 = x.1 ∧ ri (f.getD k.toNat []) 1 = x.2.1 ∧ ri (f.getD k.toNat []) 2 = x.2.2) → hQ f x ⟨k + 1, c⟩) := by
  obtain ⟨h0, h1, h2⟩ := hq
  simp only at h0 h1 h2
  have hx : hasT (f.take (k + 1).toNat) x ↔ hasT (f.take k.toNat) x ∨ trE (f.getD k.toNat []) = x := by
    rw [take_next f k h0 h]
    unfold hasT
    simp only [List.mem_append, List.mem_singleton]
    constructor
    · rintro ⟨y, hy | rfl, e⟩
      · exact .inl ⟨y, hy, e⟩
      · exact .inr e
    · rintro (⟨y, hy, e⟩ | e)
      · exact ⟨y, .inl hy, e⟩
      · exact ⟨_, .inr rfl, e⟩
  refine ⟨by rw [b_add, wr _ (by omega) (by omega)], fun c => by simp only [hM]; omega, fun g => ⟨by simp only; omega, by simp only; omega, ?_⟩, fun g c hc => ⟨by simp only; omega, by simp only; omega, ?_⟩⟩
  · simp only
    rw [hx]
    exact ⟨fun _ => .inl (h2.1 g), fun _ => by first | rfl | trivial⟩
  · simp only
    rw [hx, hc]
    constructor
    · rintro ⟨e1, e2, e3⟩
      right
      unfold trE
      rw [e1, e2, e3]
    · rintro (e | e)
      · rw [h2.2 e] at g
        cases g
      · unfold trE at e
        rw [← e]
        exact ⟨rfl, rfl, rfl⟩
theorem h_end {f : List E} {x : T} {k : Int} {b : Bool} (hq : hQ f x ⟨k, b⟩) (h : ¬ k < f.length) : b = true ↔ hasT f x := by
  obtain ⟨h0, h1, h2⟩ := hq
  simp only at h0 h1 h2
  have e : k = f.length := by omega
  rw [e, Int.toNat_natCast, List.take_length] at h2
  exact h2
theorem g_step {l : List E} (hl : l.length ≤ 1000000) {i : Int} (hq : gQ l ⟨i⟩) (h : i < l.length) : stdBin .add .i64 i 1 = i + 1 ∧ gQ l ⟨i + 1⟩ ∧ gM l ⟨i + 1⟩ < gM l ⟨i⟩ := by
  obtain ⟨h0, h1⟩ := hq
  simp only at h0 h1
  exact ⟨by rw [b_add, wr _ (by omega) (by omega)], ⟨by simp only; omega, by simp only; omega⟩, by simp only [gM]; omega⟩
structure XO2 where
  i : Int
  o : List E
def pQ (l : List E) (y : XO2) : Prop := 0 ≤ y.i ∧ y.i ≤ l.length ∧ Oth l y.o ∧ y.o.length ≤ y.i
def pM (l : List E) (y : XO2) : Nat := l.length - y.i.toNat
def pR (n m : Nat) (st : St) : XO2 := ⟨slotI st n, ctR (match slotC st m with | .sl _ c => c | _ => .recs .nil [])⟩
noncomputable def p1I (l f : List E) (pk : List Int) (y : XO2) : St := stOf Try.f7.ntmps [(0, .sl none (.recs (.int .i64 (.int .i64 (.int .i64 .nil))) l)), (1, .sl none (.ints .u8 pk)), (5, .sl none (.recs (.int .i64 (.int .i64 (.int .i64 .nil))) f)), (7, .sl (some (1, 36)) (.recs (.int .i64 (.int .i64 (.int .i64 .nil))) y.o)), (8, .val (.int .i64 y.i))] [(1, .tok)] [Any, Any]
def sQ (l : List E) (y : XO2) : Prop := 0 ≤ y.i ∧ y.i ≤ l.length ∧ Oth l y.o ∧ y.o.length ≤ l.length + y.i ∧ ∀ z ∈ l.take y.i.toNat, Cn (y.o.map trE) (ri z 0) (ri z 1)
noncomputable def p2I (l f : List E) (y : XO2) : St := stOf Try.f7.ntmps [(0, .sl none (.recs (.int .i64 (.int .i64 (.int .i64 .nil))) l)), (5, .sl none (.recs (.int .i64 (.int .i64 (.int .i64 .nil))) f)), (7, .sl (some (1, 36)) (.recs (.int .i64 (.int .i64 (.int .i64 .nil))) y.o)), (10, .val (.int .i64 y.i))] [(1, .tok)] [Any, Any]
noncomputable def p3I (l f : List E) (y : XG) : St := stOf Try.f7.ntmps [(0, .sl none (.recs (.int .i64 (.int .i64 (.int .i64 .nil))) l)), (5, .sl none (.recs (.int .i64 (.int .i64 (.int .i64 .nil))) f)), (11, .val (.int .i64 y.i))] [] [Any, Any]
structure XA where
  k : Int
  b : Bool
  o : List E
def aQ (f : List E) (x : E) (y : XA) : Prop := hQ f (trE x) ⟨y.k, y.b⟩ ∧ y.o = ahF (f.take y.k.toNat) x
def aM (f : List E) (y : XA) : Nat := f.length - y.k.toNat
def aR (st : St) : XA := ⟨slotI st 14, slotB st 13, ctR (match slotC st 12 with | .sl _ c => c | _ => .recs .nil [])⟩
noncomputable def p4I (l f : List E) (i : Int) (y : XA) : St := stOf Try.f7.ntmps [(0, .sl none (.recs (.int .i64 (.int .i64 (.int .i64 .nil))) l)), (5, .sl none (.recs (.int .i64 (.int .i64 (.int .i64 .nil))) f)), (11, .val (.int .i64 i)), (12, .sl (some (1, 36)) (.recs (.int .i64 (.int .i64 (.int .i64 .nil))) y.o)), (13, .val (.bool y.b)), (14, .val (.int .i64 y.k))] [(1, .tok)] [Any, Any]
theorem e3_of (y : E) : [D.int (ri y 0), D.int (ri y 1), D.int (ri y 2)] = e3 y := rfl
theorem p_step {l : List E} (h : allE l = 0) (hl : l.length ≤ 1000000) {i : Int} {o : List E} (hq : pQ l ⟨i, o⟩) (hi : i < l.length) : stdBin .add .i64 i 1 = i + 1 ∧ inR o = true ∧ o.length ≤ 1000000 ∧ (∀ p, pM l ⟨i + 1, p⟩ < pM l ⟨i, o⟩) ∧
    ∀ k : Int, 0 ≤ k → k < l.length → (lkR o (ri (l.getD k.toNat []) 0) (ri (l.getD k.toNat []) 1) = true → pQ l ⟨i + 1, o⟩) ∧ (lkR o (ri (l.getD k.toNat []) 0) (ri (l.getD k.toNat []) 1) = false → pQ l ⟨i + 1, o ++ [[D.int (ri (l.getD k.toNat []) 0), D.int (ri (l.getD k.toNat []) 1), D.int (ri (l.getD k.toNat []) 2)]]⟩) := by
  obtain ⟨h0, h1, h2, h3⟩ := hq
  simp only at h0 h1 h2 h3
  refine ⟨by rw [b_add, wr _ (by omega) (by omega)], oth_in h h2 (by omega), by omega, fun p => by simp only [pM]; omega, fun k k0 k1 => ⟨fun g => ⟨by simp only; omega, by simp only; omega, h2, by simp only; omega⟩, fun g => ⟨by simp only; omega, by simp only; omega, oth_more h h2 (pl_mem k0 k1) g, by simp only [List.length_append, List.length_singleton]; omega⟩⟩⟩
theorem p_mod {l : List E} (hl : l.length ≤ 40) {a : Int} (ha : 0 ≤ a ∧ a ≤ 255) (hp : 0 < l.length) : 0 ≤ stdBin .rem .i64 (IntKind.i64.wrap a) l.length ∧ stdBin .rem .i64 (IntKind.i64.wrap a) l.length < l.length ∧ (l.length : Int) ≠ 0 := by
  rw [wr _ (by omega) (by omega), b_rem, Int.tmod_eq_emod_of_nonneg ha.1]
  exact ⟨Int.emod_nonneg _ (by omega), Int.emod_lt_of_pos _ (by omega), by omega⟩
theorem s_zero {l o : List E} {i : Int} (hq : pQ l ⟨i, o⟩) (h : ¬ i < l.length) : sQ l ⟨0, o⟩ := by
  obtain ⟨h0, h1, h2, h3⟩ := hq
  simp only at h0 h1 h2 h3
  exact ⟨Int.le_refl 0, Int.natCast_nonneg _, h2, by simp only; omega, fun z hz => by cases hz⟩
theorem s_step {l : List E} (h : allE l = 0) (hl : l.length ≤ 40) {i : Int} {o : List E} (hq : sQ l ⟨i, o⟩) (hi : i < l.length) : stdBin .add .i64 i 1 = i + 1 ∧ inR o = true ∧ o.length ≤ 1000000 ∧ (∀ p, pM l ⟨i + 1, p⟩ < pM l ⟨i, o⟩) ∧
    (lkR o (ri (l.getD i.toNat []) 0) (ri (l.getD i.toNat []) 1) = true → sQ l ⟨i + 1, o⟩) ∧ (lkR o (ri (l.getD i.toNat []) 0) (ri (l.getD i.toNat []) 1) = false → sQ l ⟨i + 1, o ++ [[D.int (ri (l.getD i.toNat []) 0), D.int (ri (l.getD i.toNat []) 1), D.int (ri (l.getD i.toNat []) 2)]]⟩) := by
  obtain ⟨h0, h1, h2, h3, h4⟩ := hq
  simp only at h0 h1 h2 h3 h4
  refine ⟨by rw [b_add, wr _ (by omega) (by omega)], oth_in h h2 (by omega), by omega, fun p => by simp only [pM]; omega, fun g => ⟨by simp only; omega, by simp only; omega, h2, by simp only; omega, ?_⟩, fun g => ⟨by simp only; omega, by simp only; omega, oth_more h h2 (pl_mem h0 hi) g, by simp only [List.length_append, List.length_singleton]; omega, ?_⟩⟩
  · simp only
    rw [take_next l i h0 hi]
    intro z hz
    rcases List.mem_append.1 hz with hz | hz
    · exact h4 z hz
    · rw [List.mem_singleton.1 hz]
      exact oth_lk h h2 g
  · simp only
    rw [take_next l i h0 hi, e3_of, List.map_append]
    intro z hz
    rcases List.mem_append.1 hz with hz | hz
    · exact cn_mono (fun w hw => List.mem_append_left _ hw) (h4 z hz)
    · rw [List.mem_singleton.1 hz]
      exact cn_edge (y := trE (l.getD i.toNat [])) (List.mem_append_right _ (List.mem_singleton.2 rfl))
theorem s_end {l : List E} (h : allE l = 0) (hl : l.length ≤ 40) {i : Int} {o : List E} (hq : sQ l ⟨i, o⟩) (hi : ¬ i < l.length) : wtL (lstB l) ≤ wtL o ∧ o.length ≤ 1000000 := by
  obtain ⟨h0, h1, h2, h3, h4⟩ := hq
  simp only at h0 h1 h2 h3 h4
  have e : i = l.length := by omega
  rw [e, Int.toNat_natCast, List.take_length] at h4
  exact ⟨best_ok h hl h2 (by omega) h4, by omega⟩
theorem a_zero (f : List E) (x : E) : aQ f x ⟨0, false, []⟩ := ⟨h_zero f _, rfl⟩
theorem a_step {f : List E} {x : E} (hl : f.length ≤ 1000000) {k : Int} {b : Bool} {o : List E} (hq : aQ f x ⟨k, b, o⟩) (h : k < f.length) : stdBin .add .i64 k 1 = k + 1 ∧ o.length ≤ 1000000 ∧ (∀ c p, aM f ⟨k + 1, c, p⟩ < aM f ⟨k, b, o⟩) ∧
    ∀ c : Bool, (b = true → c = true) → (b = false → (c = true ↔ ri (f.getD k.toNat []) 0 = ri x 0 ∧ ri (f.getD k.toNat []) 1 = ri x 1 ∧ ri (f.getD k.toNat []) 2 = ri x 2)) →
      (lsW (ri (f.getD k.toNat []) 0) (ri (f.getD k.toNat []) 1) (ri (f.getD k.toNat []) 2) (ri x 0) (ri x 1) (ri x 2) = false → aQ f x ⟨k + 1, c, o⟩) ∧
      (lsW (ri (f.getD k.toNat []) 0) (ri (f.getD k.toNat []) 1) (ri (f.getD k.toNat []) 2) (ri x 0) (ri x 1) (ri x 2) = true → aQ f x ⟨k + 1, c, o ++ [[D.int (ri (f.getD k.toNat []) 0), D.int (ri (f.getD k.toNat []) 1), D.int (ri (f.getD k.toNat []) 2)]]⟩) := by
  obtain ⟨hh, h1⟩ := hq
  simp only at hh h1
  obtain ⟨s1, s2, s3, s4⟩ := h_step hl hh h
  have h0 := hh.1
  simp only at h0
  have hc : ∀ c : Bool, (b = true → c = true) → (b = false → (c = true ↔ ri (f.getD k.toNat []) 0 = ri x 0 ∧ ri (f.getD k.toNat []) 1 = ri x 1 ∧ ri (f.getD k.toNat []) 2 = ri x 2)) → hQ f (trE x) ⟨k + 1, c⟩ := by
    intro c c1 c2
    cases hb : b with
    | true =>
      rw [c1 hb]
      exact s3 hb
    | false => exact s4 hb c (c2 hb)
  have ht : (f.take (k + 1).toNat) = f.take k.toNat ++ [f.getD k.toNat []] := take_next f k h0 h
  have hlo : o.length ≤ 1000000 := by
    rw [h1]
    unfold ahF
    rw [List.length_map]
    have := List.length_filter_le (fun z => lsY z x) (f.take k.toNat)
    rw [List.length_take] at this
    omega
  refine ⟨s1, hlo, fun c p => by simp only [aM]; omega, fun c c1 c2 => ⟨fun g => ⟨hc c c1 c2, ?_⟩, fun g => ⟨hc c c1 c2, ?_⟩⟩⟩
  · simp only
    rw [ht, h1]
    unfold ahF
    rw [List.filter_append, List.filter_cons, if_neg (by show ¬ lsY (f.getD k.toNat []) x = true; unfold lsY; rw [g]; decide)]
    simp
  · simp only
    rw [ht, h1]
    unfold ahF
    rw [List.filter_append, List.filter_cons, if_pos (show lsY (f.getD k.toNat []) x = true from g), List.map_append]
    rfl
theorem a_end {l : List E} (h : allE l = 0) (hl : l.length ≤ 1000000) {x : E} (hx : x ∈ l) {k : Int} {b : Bool} {o : List E} (hq : aQ (lstB l) x ⟨k, b, o⟩) (hk : ¬ k < (lstB l).length) : (b = false → lkR o (ri x 0) (ri x 1) = true) ∧ inR o = true := by
  obtain ⟨hh, h1⟩ := hq
  have he : b = true ↔ hasT (lstB l) (trE x) := h_end hh hk
  obtain ⟨h0, h2, _⟩ := hh
  simp only at h0 h2 h1
  have hin := ah_in h x k.toNat hl
  have e : k = (lstB l).length := by omega
  rw [e, Int.toNat_natCast, List.take_length] at h1
  rw [e, Int.toNat_natCast, List.take_length] at hin
  rw [h1]
  refine ⟨fun g => ah_ok h hx fun w => ?_, hin⟩
  rw [he.2 w] at g
  cases g
set_option maxHeartbeats 4000000 in
set_option maxRecDepth 100000 in
theorem x_law (a0 : List E) (a1 : List Int) (w1 : ∀ x ∈ a1, 0 ≤ x ∧ x ≤ 255) (_ : sized [.one (.sl none (.recs (.int .i64 (.int .i64 (.int .i64 .nil))) a0)), .one (.sl none (.ints .u8 a1))]) : Does [(26, c_sleast SpR.Sp.std), (17, c_rcheck EgR.Fs.std), (34, c_rlinked SpQ.Sq.std), (30, c_rforest SpQ.Sq.std), (31, c_rweight SpR.Sp.std), (37, c_rless SpQ.Sq.std), (25, c_sawake Sm.std)] Try.f7 [.one (.sl none (.recs (.int .i64 (.int .i64 (.int .i64 .nil))) a0)), .one (.sl none (.ints .u8 a1))] [] ⟨True, .sa (B true), [], [Any, Any]⟩ := by
  intro b gv
  have f1 := lst_len a0
  have f2 := fun h => lst_for (l := a0) h
  have f3 := fun h k => oth_in h (lst_oth (l := a0) h) k
  have hfs := (FsOk.cons ok_sleast (FsOk.cons ok_rcheck (FsOk.cons ok_rlinked (FsOk.cons ok_rforest (FsOk.cons ok_rweight (FsOk.cons ok_rless (FsOk.cons ok_sawake FsOk.nil rfl) rfl) rfl) rfl) rfl) rfl) rfl)
  generalize hF : SpR.Sp.std = F at hfs ⊢
  generalize hG0 : EgR.Fs.std = G0 at hfs ⊢
  generalize hG1 : SpQ.Sq.std = G1 at hfs ⊢
  generalize hG2 : SpO.Sv.std = G2 at hfs ⊢
  generalize hG3 : SpM.Sm.std = G3 at hfs ⊢
  generalize hA : Ar.std = A
  generalize hL : Lp _ _ _ = L
  obtain ⟨Z, zq⟩ := z_all
  refine cd_open (lp_mono hL) zq rfl ?_
  repeat' (first
    | (refine z_open zq ?_; try dsimp only)
    | refine cd_seq zq ?_ (lp_mono hL)
    | refine cd_blk zq ?_
    | refine cd_ret ?_
    | refine cd_skip ?_
    | refine cd_exit ?_
    | refine cd_loop ?_
    | refine cd_cond rfl ?_
    | refine cd_condT rfl ?_
    | refine cd_condF rfl ?_
    | (refine Cd.mk ?_; cbv)
    | (refine Ends1.mk ?_; cbv)
    | (refine Fin1.mk ?_; cbv)
    | exact trivial
    | refine And.intro ?_ ?_
    | refine orf fun _ => ?_
    | refine ort fun _ => ?_)
  all_goals first | (show L _ _ _; skip) | (clear hL hfs zq Z; subst hA hF hG0 hG1 hG2 hG3; simp only [SpR.Sp.std, EgR.Fs.std, SpQ.Sq.std, SpO.Sv.std, Ar.std, List.nil_append] at * <;> grind [stdCmp]; done)
  rename_i hx
  have hin : a0.length ≤ 40 ∧ allE a0 = 0 := by
    clear hL hfs zq Z
    subst hA hF hG0 hG1 hG2 hG3
    simp only [SpR.Sp.std, EgR.Fs.std, SpQ.Sq.std, SpO.Sv.std, Ar.std, List.nil_append] at *
    grind [stdCmp]
  clear hx f2 f3
  subst hL
  refine loop_z (cx_ok hfs) (pQ a0) (p1I a0 (F.s_l a0) a1) (pM a0) (pR 8 7) ⟨0, []⟩ ?_ ?_ ?_
  · exact ⟨Int.le_refl 0, Int.natCast_nonneg _, oth_0 _, Int.le_refl 0⟩
  · cbv
    repeat' (first | exact trivial | exact rfl | refine And.intro ?_ ?_)
  rintro ⟨i, o⟩ hq O hO
  have hst := fun h => p_step hin.2 (by omega) hq h
  have hz := fun h => s_zero hq h
  have hp := fun h => p_mod (a := a1.getD i.toNat 0) hin.1 h
  have q0 := hq.1
  have q1 := hq.2.1
  have hu : ∀ k : Int, 0 ≤ k → k < a1.length → 0 ≤ a1.getD k.toNat 0 ∧ a1.getD k.toNat 0 ≤ 255 := fun k k0 k1 => w1 _ (by have hk : k.toNat < a1.length := (by omega); rw [List.getD_eq_getElem?_getD, List.getElem?_eq_getElem hk]; exact List.getElem_mem hk)
  dsimp only at q0 q1
  subst hA
  generalize hA : Ar.std = A
  generalize hL : Lp _ _ _ = L
  refine cd_close zq ?_
  repeat' (first
    | (refine z_open zq ?_; try dsimp only)
    | refine cd_seq zq ?_ (lp_mono hL)
    | refine cd_blk zq ?_
    | refine cd_ret ?_
    | refine cd_skip ?_
    | refine cd_exit ?_
    | refine cd_loop ?_
    | refine cd_cond rfl ?_
    | refine cd_condT rfl ?_
    | refine cd_condF rfl ?_
    | (refine Cd.mk ?_; cbv)
    | (refine Ends1.mk ?_; cbv)
    | (refine Fin1.mk ?_; cbv)
    | exact trivial
    | refine And.intro ?_ ?_
    | refine orf fun _ => ?_
    | refine ort fun _ => ?_)
  all_goals first | (show L _ _ _; skip) | (clear hL hfs zq Z hq; subst hA hF hG0 hG1 hG2 hG3 hO; simp only [SpR.Sp.std, EgR.Fs.std, SpQ.Sq.std, SpO.Sv.std, Ar.std, List.nil_append] at * <;> grind [stdCmp]; done)
  rename_i hx
  have hi : ¬ i < a0.length := by
    clear hL hfs zq Z hO hst hp
    subst hA hF hG0 hG1 hG2 hG3
    simp only [SpR.Sp.std, EgR.Fs.std, SpQ.Sq.std, SpO.Sv.std, Ar.std, List.nil_append] at *
    grind [stdCmp]
  clear hx hst hp
  subst hL
  refine loop_z (cx_ok hfs) (sQ a0) (p2I a0 (F.s_l a0)) (pM a0) (pR 10 7) ⟨0, o⟩ ?_ ?_ ?_
  · exact hz hi
  · cbv
    repeat' (first | exact trivial | exact rfl | refine And.intro ?_ ?_)
  rintro ⟨j, p⟩ hq2 O2 hO2
  have hst := fun h => s_step hin.2 hin.1 hq2 h
  have hen := fun h => s_end hin.2 hin.1 hq2 h
  have k0 := hq2.1
  have k1 := hq2.2.1
  dsimp only at k0 k1
  subst hA
  generalize hA : Ar.std = A
  generalize hL : Lp _ _ _ = L
  refine cd_close zq ?_
  repeat' (first
    | (refine z_open zq ?_; try dsimp only)
    | refine cd_seq zq ?_ (lp_mono hL)
    | refine cd_blk zq ?_
    | refine cd_ret ?_
    | refine cd_skip ?_
    | refine cd_exit ?_
    | refine cd_loop ?_
    | refine cd_cond rfl ?_
    | refine cd_condT rfl ?_
    | refine cd_condF rfl ?_
    | (refine Cd.mk ?_; cbv)
    | (refine Ends1.mk ?_; cbv)
    | (refine Fin1.mk ?_; cbv)
    | exact trivial
    | refine And.intro ?_ ?_
    | refine orf fun _ => ?_
    | refine ort fun _ => ?_)
  all_goals first | (show L _ _ _; skip) | (clear hL hfs zq Z hq hq2; subst hA hF hG0 hG1 hG2 hG3 hO hO2; simp only [SpR.Sp.std, EgR.Fs.std, SpQ.Sq.std, SpO.Sv.std, Ar.std, List.nil_append] at * <;> grind [stdCmp]; done)
  clear hst hz hq hq2 hen
  subst hL
  refine loop_z (cx_ok hfs) (gQ a0) (p3I a0 (F.s_l a0)) (gM a0) (gR 11) ⟨0⟩ ?_ ?_ ?_
  · exact ⟨Int.le_refl 0, Int.natCast_nonneg _⟩
  · cbv
    repeat' (first | exact trivial | exact rfl | refine And.intro ?_ ?_)
  rintro ⟨n⟩ hq3 O3 hO3
  have hst := fun h => g_step (by omega) hq3 h
  have n0 := hq3.1
  have n1 := hq3.2
  dsimp only at n0 n1
  subst hA
  generalize hA : Ar.std = A
  generalize hL : Lp _ _ _ = L
  refine cd_close zq ?_
  repeat' (first
    | (refine z_open zq ?_; try dsimp only)
    | refine cd_seq zq ?_ (lp_mono hL)
    | refine cd_blk zq ?_
    | refine cd_ret ?_
    | refine cd_skip ?_
    | refine cd_exit ?_
    | refine cd_loop ?_
    | refine cd_cond rfl ?_
    | refine cd_condT rfl ?_
    | refine cd_condF rfl ?_
    | (refine Cd.mk ?_; cbv)
    | (refine Ends1.mk ?_; cbv)
    | (refine Fin1.mk ?_; cbv)
    | exact trivial
    | refine And.intro ?_ ?_
    | refine orf fun _ => ?_
    | refine ort fun _ => ?_)
  all_goals first | (show L _ _ _; skip) | (clear hL hfs zq Z hq3; subst hA hF hG0 hG1 hG2 hG3 hO hO2 hO3; simp only [SpR.Sp.std, EgR.Fs.std, SpQ.Sq.std, SpO.Sv.std, Ar.std, List.nil_append] at * <;> grind [stdCmp]; done)
  rename_i hx
  have hn : n < a0.length := by
    clear hL hfs zq Z hO hO2 hO3
    subst hA hF hG0 hG1 hG2 hG3
    simp only [SpR.Sp.std, EgR.Fs.std, SpQ.Sq.std, SpO.Sv.std, Ar.std, List.nil_append] at *
    grind [stdCmp]
  clear hx
  have hst := hst hn
  have hmm := pl_mem n0 hn
  subst hL
  refine loop_z (cx_ok hfs) (aQ (lstB a0) (a0.getD n.toNat [])) (p4I a0 (F.s_l a0) n) (aM (lstB a0)) aR ⟨0, false, []⟩ ?_ ?_ ?_
  · exact a_zero _ _
  · cbv
    repeat' (first | exact trivial | exact rfl | refine And.intro ?_ ?_)
  rintro ⟨k, c, q⟩ hq4 O4 hO4
  have hs2 := fun h => a_step (by omega) hq4 h
  have he2 := fun h => a_end hin.2 (by omega) hmm hq4 h
  have m0 := hq4.1.1
  have m1 := hq4.1.2.1
  dsimp only at m0 m1
  subst hA
  generalize hA : Ar.std = A
  generalize hL : Lp _ _ _ = L
  refine cd_close zq ?_
  repeat' (first
    | (refine z_open zq ?_; try dsimp only)
    | refine cd_seq zq ?_ (lp_mono hL)
    | refine cd_blk zq ?_
    | refine cd_ret ?_
    | refine cd_skip ?_
    | refine cd_exit ?_
    | refine cd_loop ?_
    | refine cd_cond rfl ?_
    | refine cd_condT rfl ?_
    | refine cd_condF rfl ?_
    | (refine Cd.mk ?_; cbv)
    | (refine Ends1.mk ?_; cbv)
    | (refine Fin1.mk ?_; cbv)
    | exact trivial
    | refine And.intro ?_ ?_
    | refine orf fun _ => ?_
    | refine ort fun _ => ?_)
  all_goals (clear hL hfs zq Z hq3 hq4; subst hA hF hG0 hG1 hG2 hG3 hO hO2 hO3 hO4; simp only [SpR.Sp.std, EgR.Fs.std, SpQ.Sq.std, SpO.Sv.std, Ar.std, List.nil_append] at * <;> grind [stdCmp])
theorem walk (a0 : List E) (a1 : List Int) (A0 : Option Addr) (n0 c0 : Nat) (A1 : Option Addr) (n1 c1 : Nat) (w : World) (r0 : (SC.sl none (.recs (.int .i64 (.int .i64 (.int .i64 .nil))) a0)).is (G0 w) (.slice A0 n0 c0)) (_ : ∀ y ∈ a0, wfS (.int .i64 (.int .i64 (.int .i64 .nil))) y 0) (_ : a0.length ≤ 140737488355328) (r1 : Law.Reads w w.heap.size 1 A1 n1 (a1.map (Value.int .u8))) (b1 : n1 ≤ c1 ∧ c1 ≤ maxLen) (w1 : Law.Wf .u8 a1) (_ : n1 ≤ 140737488355328) : Calls Try.prog 7 #[.slice A0 n0 c0, .slice A1 n1 c1] w (Law.Yes w) :=
  yes_of (FsOk.cons ok_sleast (FsOk.cons ok_rcheck (FsOk.cons ok_rlinked (FsOk.cons ok_rforest (FsOk.cons ok_rweight (FsOk.cons ok_rless (FsOk.cons ok_sawake FsOk.nil rfl) rfl) rfl) rfl) rfl) rfl) rfl) Try.func7 rfl (vs := [.slice A0 n0 c0, .slice A1 n1 c1]) (by exact ⟨r0, (ints_of r1 b1).2, trivial⟩) (lee_le rfl) fun hZ => x_law a0 a1 (fun x hx => wf8 (w1 x hx)) hZ
theorem own : ownKnob Try.prog.godebug = none := by kernel_rfl
theorem laidOut : laidOutB Try.prog = true := by kernel_rfl
set_option maxRecDepth 100000 in
theorem lifted (os : Os) (started : os.Started) (H : Type) (enc : TypeId × Value → H) :
    ReturnsInHanded {} Try.checked os 7 .any (Rows.spanBestSpec.pre6 enc Try.prog Try.f7 Rows.spanBestRow.domain false) (Rows.spanBestSpec.post enc Try.prog Try.f7 false true false false) := by
  refine returnsInHanded_of_change_sized (C := Try.checked) own started (by kernel_rfl) Try.func7
    (ChangeSpec.witness6 (enc := enc) (C := Try.checked) false ⟨#[], #[.slice none 0 0, .slice none 0 0], []⟩ 8 (by kernel_rfl) (by kernel_rfl) (by kernel_rfl) (by kernel_rfl)) ?_
  intro W base args ds gs before hval0 hW _ hz _
  have hval : ∀ (j : Nat) t v, Try.f7.params[j]? = some t → args[j]? = some v → Value.okWide Try.prog W .any base t v := hval0
  have hW' := hW
  obtain ⟨p, q, hA0, hV, rfl, _, _⟩ := hW
  have hA : DataW.TrodAll enc Try.prog W 0 (fun _ => true) true Try.f7.params.toList args.toList ds p := hA0
  rw [Try.params7] at hA hval
  obtain ⟨v0, v1, d0, d1, p0, p1, rfl, rfl, rfl, h0, h1⟩ := trodAll_two hA
  obtain ⟨rfl, rfl⟩ := trodVars_none hV
  obtain ⟨A0, n0, c0, a0, rfl, l0, r0, w0⟩ := sl_any (s := .int .i64 (.int .i64 (.int .i64 .nil))) Try.underlying22 (by kernel_rfl) (by kernel_rfl) (hval 0 22 v0 rfl rfl) h0
  have s0 : a0.length ≤ 140737488355328 := by rw [l0]; exact short_of Try.underlying22 (by decide +kernel) hz (j := 0) rfl rfl h0
  obtain ⟨A1, n1, c1, a1, rfl, b1, r1, w1⟩ := SliceIn.ints Try.underlying34 Try.underlying5 (by kernel_rfl) (hval 1 34 v1 rfl rfl) h1
  have s1 := short_of Try.underlying34 (by decide +kernel) hz (j := 1) rfl rfl h1
  refine (walk a0 a1 A0 n0 c0 A1 n1 c1 W r0 w0 s0 r1 b1 w1 s1).mono fun e W' ⟨he, hb⟩ => ?_
  subst he
  exact ⟨_, rfl, law_post laidOut (by kernel_rfl) (by kernel_rfl) Try.underlying4 rfl hW' rfl hb⟩
theorem proved : Rows.SpanBestSaid :=
  OpenClaim.holds_of_wide 7 Try.f7 rfl rfl rfl rfl rfl rfl rfl ⟨rfl, rfl, rfl, rfl, rfl⟩ rfl rfl rfl rfl rfl (by kernel_rfl) Try.func7 (by kernel_rfl)
    (of_decide_eq_true (by kernel_rfl)) (by unfold Func.isWrapper; first | (rw [if_pos (by decide +kernel)]; kernel_rfl) | (rw [if_neg (by decide +kernel)]; exact ⟨rfl, rfl⟩))
    (fun os started H enc _ => lifted os started H enc)
end Go.Proofs.Ytamkgdiknlpooaa.SpanBest
