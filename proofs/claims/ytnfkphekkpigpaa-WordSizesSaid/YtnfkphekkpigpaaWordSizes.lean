/-
  WordSizes: for every input the call tells true, and nothing that was there turns. No condition.
-/
import Derived.Test.YtnfkphekkpigpaaRows
import Derived.Test.YtnfkphekkpigpaaLaw
import Derived.Test.YtnfkphekkpigpaaRyIn
import Derived.Test.YtnfkphekkpigpaaRyZ
import Derived.Test.YtnfkphekkpigpaaWoS
namespace Go.Proofs.Ytnfkphekkpigpaa.WordSizes
open Go Go.Proofs.Ytnfkphekkpigpaa.Ry Go.Proofs.Ytnfkphekkpigpaa.Law Go.Proofs.Ytnfkphekkpigpaa.WoS Go.Proofs.Ytnfkphekkpigpaa.ViR Go.Proofs.Ytnfkphekkpigpaa.ViS Go.Proofs.Ytnfkphekkpigpaa.OctR Go.Proofs.Ytnfkphekkpigpaa.OctP Go.Proofs.Ytnfkphekkpigpaa.OctQ Go.Proofs.Ytnfkphekkpigpaa.WoR Go.Proofs.Ytnfkphekkpigpaa.WoD Go.Proofs.Ytnfkphekkpigpaa.WoQ Go.Proofs.Ytnfkphekkpigpaa.WoP Go.Proofs.Ytnfkphekkpigpaa.WoT
open Go.ChangeShapes Go.WideShapes Go.ChangeAt Go.Joins Go.RowKit
structure YZ where
  i : Int
  p : Int
  n : List Int
  l : List E
def up (k : Nat) : List Int := (List.range k).map fun j : Nat => (j : Int) + 1
def good (i p : Int) (l : List E) : Prop := (l.Pairwise fun y z => kcm (ri y 0) (ri y 1) (ri z 0) (ri z 1) < 0) ∧ ∀ y ∈ l, mb1 y = true ∧ ri y 0 ≤ i ∧ (ri y 0 < i ∨ ri y 1 < p)
def z1Q (N : Int) (y : YZ) : Prop := 1 ≤ y.i ∧ y.i ≤ N + 1 ∧ y.n = up (y.i - 1).toNat ∧ y.l.length ≤ 1100 ∧ good y.i 1 y.l
def z1M (N : Int) (y : YZ) : Nat := (N + 1 - y.i).toNat
noncomputable def z1I (b N : Int) (y : YZ) : St := stOf Try.f10.ntmps [(1, .val (.int .u16 b)), (5, .ptr 1 0), (6, .val (.int .i64 N)), (7, .val (.int .i64 y.i))] [(1, .cells 55 [.val (.int .i64 2), .val (.int .i64 1), .val (.int .i64 1), .sl (some (2, 3)) (.ints .i64 y.n), .sl (some (3, 44)) (.recs (.int .i64 (.int .i64 (.int .i64 (.int .i64 (.bool .nil))))) y.l), .val (.int .i64 0), .val (.int .i64 0), .val (.int .i64 0), .val (.int .i64 0)]), (2, .tok), (3, .tok)] [Any, Any]
def lstC (st : St) (k : Nat) : List Int := match cellC st 5 k with | .sl _ (.ints _ l) => l | _ => []
def recC (st : St) (k : Nat) : List E := match cellC st 5 k with | .sl _ (.recs _ l) => l | _ => []
def z1R (st : St) : YZ := ⟨slotI st 7, 0, lstC st 3, recC st 4⟩
def z2Q (_ i : Int) (y : YZ) : Prop := y.i = i ∧ 1 ≤ y.p ∧ y.p ≤ 65 ∧ y.n = up i.toNat ∧ y.l.length ≤ 1100 ∧ good i y.p y.l
def z2M (y : YZ) : Nat := (65 - y.p).toNat
noncomputable def z2I (b N : Int) (y : YZ) : St := stOf Try.f10.ntmps [(1, .val (.int .u16 b)), (5, .ptr 1 0), (6, .val (.int .i64 N)), (7, .val (.int .i64 y.i)), (8, .val (.int .i64 y.p))] [(1, .cells 55 [.val (.int .i64 2), .val (.int .i64 1), .val (.int .i64 1), .sl (some (2, 3)) (.ints .i64 y.n), .sl (some (3, 44)) (.recs (.int .i64 (.int .i64 (.int .i64 (.int .i64 (.bool .nil))))) y.l), .val (.int .i64 0), .val (.int .i64 0), .val (.int .i64 0), .val (.int .i64 0)]), (2, .tok), (3, .tok)] [Any, Any]
def z2R (st : St) : YZ := ⟨slotI st 7, slotI st 8, lstC st 3, recC st 4⟩
theorem up_len (k : Nat) : (up k).length = k := by simp [up]
theorem up_next (i : Int) (h : 1 ≤ i) : up (i - 1).toNat ++ [i] = up i.toNat := by
  have e : i.toNat = (i - 1).toNat + 1 := by omega
  rw [e]
  unfold up
  rw [List.range_succ, List.map_append]
  congr 1
  simp
  omega
theorem up_at (k j : Nat) (h : j < k) : (up k).getD j 0 = j + 1 := by
  unfold up
  rw [List.getD_eq_getElem?_getD, List.getElem?_map, List.getElem?_range h]
  rfl
theorem up_rise (k : Nat) (h : k ≤ 64) : riseN (up k) = true := by
  rw [rise_iff]
  intro i hi
  rw [up_len] at hi
  rw [up_at k i hi]
  refine ⟨decide_eq_true (by omega), fun h0 => ?_⟩
  rw [up_at k (i - 1) (by omega)]
  omega
theorem up_mem {k : Nat} {x : Int} (h : 1 ≤ x) (h2 : x ≤ k) : (up k).contains x = true := by
  rw [List.contains_iff_mem]
  unfold up
  exact List.mem_map.2 ⟨(x - 1).toNat, List.mem_range.2 (by omega), by omega⟩
theorem good_more {i p : Int} {l : List E} (h : good i p l) (hi : 1 ≤ i ∧ i ≤ 64) (hp : 1 ≤ p ∧ p ≤ 64) (hne : p ≠ i) : good i (p + 1) (l ++ [[D.int i, D.int p, D.int 2147483647, D.int 1, D.bool true]]) := by
  obtain ⟨h1, h2⟩ := h
  constructor
  · rw [List.pairwise_append]
    refine ⟨h1, by simp, fun y hy z hz => ?_⟩
    rw [List.mem_singleton.1 hz]
    obtain ⟨_, a, b⟩ := h2 y hy
    show kcm (ri y 0) (ri y 1) i p < 0
    rw [kcm_lt]
    omega
  · intro y hy
    rcases List.mem_append.1 hy with hy | hy
    · obtain ⟨a, b, c⟩ := h2 y hy
      exact ⟨a, b, by omega⟩
    · rw [List.mem_singleton.1 hy]
      refine ⟨?_, ?_, ?_⟩
      · show mbB i p 2147483647 1 = true
        refine decide_eq_true ⟨decide_eq_true hi, decide_eq_true hp, fun e => hne e.symm, by decide, by decide, by decide, by decide⟩
      · exact Int.le_refl i
      · right
        show p < p + 1
        omega
theorem good_skip {i p : Int} {l : List E} (h : good i p l) : good i (p + 1) l := ⟨h.1, fun y hy => by
  obtain ⟨a, b, c⟩ := h.2 y hy
  exact ⟨a, b, by omega⟩⟩
theorem good_next {i p : Int} {l : List E} (h : good i p l) : good (i + 1) 1 l := ⟨h.1, fun y hy => by
  obtain ⟨a, b, c⟩ := h.2 y hy
  exact ⟨a, by omega, by omega⟩⟩
theorem good_may {k : Nat} {p : Int} {l : List E} (hk : 1 ≤ k ∧ k ≤ 64) (h : good (k + 1) p l) (hp : p ≤ 1) : mayW ⟨2, 1, 1, up k, l, 0, 0, 0, 0⟩ = decide (l.length ≤ 1024) := by
  have hv : mayV (up k) l = true := by
    unfold mayV
    rw [up_rise k hk.2, Bool.true_and, all_iff]
    intro i hi
    have hm := h.2 l[i] (List.getElem_mem hi)
    have hmb : nodB (ri l[i] 0) = true ∧ nodB (ri l[i] 1) = true ∧ ri l[i] 0 ≠ ri l[i] 1 ∧ 0 ≤ ri l[i] 2 ∧ ri l[i] 2 ≤ 2147483647 ∧ 1 ≤ ri l[i] 3 ∧ ri l[i] 3 ≤ 2147483647 := of_decide_eq_true hm.1
    have n0 : 1 ≤ ri l[i] 0 ∧ ri l[i] 0 ≤ 64 := of_decide_eq_true hmb.1
    have n1 : 1 ≤ ri l[i] 1 ∧ ri l[i] 1 ≤ 64 := of_decide_eq_true hmb.2.1
    unfold okL
    rw [decide_eq_true_eq, at_rec _ _ hi]
    refine ⟨hm.1, up_mem n0.1 (by omega), fun h0 => ?_⟩
    rw [at_rec _ _ (show i - 1 < l.length by omega)]
    exact (List.pairwise_iff_getElem.1 h.1) (i - 1) i (by omega) hi (by omega)
  unfold mayW okV
  have e1 : full ⟨2, 1, 1, up k, l, 0, 0, 0, 0⟩ = true := by rfl
  have e2 : okE ⟨2, 1, 1, up k, l, 0, 0, 0, 0⟩ = true := by rfl
  have e3 : okC ⟨2, 1, 1, up k, l, 0, 0, 0, 0⟩ = true := by rfl
  rw [e1, e2, e3, if_pos rfl, hv, Bool.and_true, Bool.and_true, Bool.true_and]
  show (decide (1 ≤ (2 : Int) ∧ (2 : Int) < 8) && decide (0 < (up k).length ∧ l.length ≤ 1024)) = _
  rw [up_len]
  have : decide (1 ≤ (2 : Int) ∧ (2 : Int) < 8) = true := by decide
  rw [this, Bool.true_and, decide_eq_decide]
  omega
theorem enc_size {w : WD} (h : mayW w = true) : (encW w).length = 16 + w.n.length + 11 * w.l.length := by
  have f := may_fit h
  have e : encW w = encP w := if_pos h
  rw [e, enc_flat f]
  have hn : ∀ n : List Int, (nN n).length = n.length := by
    intro n
    induction n with
    | nil => rfl
    | cons x n ih =>
      have : nN (x :: n) = numL x 1 ++ nN n := by simp [nN]
      rw [this, List.length_append, ih, num_len, List.length_cons]
      show 1 + n.length = _
      omega
  have hl : ∀ l : List E, (lL l).length = 11 * l.length := by
    intro l
    induction l with
    | nil => rfl
    | cons y l ih =>
      have : lL (y :: l) = lk1 y ++ lL l := by simp [lL]
      have h1 : (lk1 y).length = 11 := by
        unfold lk1
        simp only [List.length_append, num_len]
        rfl
      rw [this, List.length_append, ih, h1, List.length_cons]
      omega
  unfold flat
  simp only [List.length_append, num_len, hn, hl]
  have t1 : (1 : Int).toNat = 1 := rfl
  have t2 : (2 : Int).toNat = 2 := rfl
  have t4 : (4 : Int).toNat = 4 := rfl
  rw [t1, t2, t4]
  omega
theorem z_N (a : Int) (h : 0 ≤ a ∧ a ≤ 255) : 1 ≤ stdBin .add .i64 1 (IntKind.i64.wrap (stdBin .rem .u8 a 64)) ∧ stdBin .add .i64 1 (IntKind.i64.wrap (stdBin .rem .u8 a 64)) ≤ 64 := by
  rw [b_rem, Int.tmod_eq_emod_of_nonneg h.1, wr (a % 64) (by omega) (by omega), b_add, wr _ (by omega) (by omega)]
  omega
theorem wf16 {a : Int} (h : (Lit.int .u16 a).wf = true) : 0 ≤ a ∧ a ≤ 65535 := by
  simpa [Lit.wf, IntKind.min, IntKind.max, IntKind.signed, IntKind.bits] using h
theorem z_B (b : Int) (h : 0 ≤ b ∧ b ≤ 65535) : IntKind.i64.wrap (stdBin .rem .u16 b 1100) ≤ 1100 := by
  rw [b_rem, Int.tmod_eq_emod_of_nonneg h.1, wr (b % 1100) (by omega) (by omega)]
  omega
theorem z1_step {N i p : Int} {n : List Int} {l : List E} (hN : N ≤ 64) (hq : z1Q N ⟨i, p, n, l⟩) (h : i ≤ N) : n.length ≤ 64 ∧ l.length ≤ 1100 ∧ z2Q N i ⟨i, 1, n ++ [i], l⟩ := by
  obtain ⟨h1, h2, h3, h4, h5⟩ := hq
  simp only at h1 h2 h3 h4 h5
  refine ⟨by rw [h3, up_len]; omega, h4, rfl, Int.le_refl 1, by show (1 : Int) ≤ 65; decide, ?_, h4, h5⟩
  simp only
  rw [h3, up_next i h1]
theorem z1_end {N i p : Int} {n : List Int} {l : List E} (h0 : 1 ≤ N ∧ N ≤ 64) (hq : z1Q N ⟨i, p, n, l⟩) (h : ¬ i ≤ N) : okS ⟨2, 1, 1, n, l, 0, 0, 0, 0⟩ = true ∧ mayW ⟨2, 1, 1, n, l, 0, 0, 0, 0⟩ = decide (l.length ≤ 1024) ∧ (l.length ≤ 1024 → stdBin .add .i64 (stdBin .add .i64 16 N) (stdBin .mul .i64 11 l.length) = ((encW ⟨2, 1, 1, n, l, 0, 0, 0, 0⟩).length : Int) ∧ ((encW ⟨2, 1, 1, n, l, 0, 0, 0, 0⟩).length : Int) ≤ 16384) ∧ (¬ l.length ≤ 1024 → encW ⟨2, 1, 1, n, l, 0, 0, 0, 0⟩ = []) ∧ l.length ≤ 1100 := by
  obtain ⟨h1, h2, h3, h4, h5⟩ := hq
  simp only at h1 h2 h3 h4 h5
  have e : i = N + 1 := by omega
  have ek : (i - 1).toNat = N.toNat := by omega
  have ek2 : ((N.toNat : Nat) : Int) + 1 = i := by omega
  rw [ek] at h3
  have hm := good_may (k := N.toNat) (p := 1) (l := l) (by omega) (by rw [ek2]; exact h5) (Int.le_refl 1)
  rw [h3]
  refine ⟨decide_eq_true (by simp only [up_len]; omega), hm, fun g => ?_, fun g => ?_, h4⟩
  · have a1 : stdBin .mul .i64 11 l.length = 11 * l.length := by rw [b_mul, wr _ (by omega) (by omega)]
    have a2 : stdBin .add .i64 16 N = 16 + N := by rw [b_add, wr _ (by omega) (by omega)]
    have a3 : stdBin .add .i64 (16 + N) (11 * l.length) = 16 + N + 11 * l.length := by rw [b_add, wr _ (by omega) (by omega)]
    rw [enc_size (by rw [hm]; exact decide_eq_true g), a1, a2, a3]
    simp only [up_len]
    omega
  · unfold encW
    rw [hm, decide_eq_false g]
    rfl
theorem z2_step {N i p : Int} {n : List Int} {l : List E} (hi : 1 ≤ i ∧ i ≤ 64) (hq : z2Q N i ⟨i, p, n, l⟩) (h : p ≤ 64) : stdBin .add .i64 p 1 = p + 1 ∧ n.length ≤ 64 ∧ l.length ≤ 1100 ∧ (∀ a b c, z2M ⟨a, p + 1, b, c⟩ < z2M ⟨i, p, n, l⟩) ∧ (p = i → z2Q N i ⟨i, p + 1, n, l⟩) ∧ (¬ p = i → l.length < 1100 → z2Q N i ⟨i, p + 1, n, l ++ [[D.int i, D.int p, D.int 2147483647, D.int 1, D.bool true]]⟩) := by
  obtain ⟨h1, h2, h3, h4, h5, h6⟩ := hq
  simp only at h1 h2 h3 h4 h5 h6
  refine ⟨by rw [b_add, wr _ (by omega) (by omega)], by rw [h4, up_len]; omega, h5, fun a b c => by simp only [z2M]; omega, fun g => ⟨rfl, by simp only; omega, by simp only; omega, h4, h5, good_skip h6⟩, fun g k => ⟨rfl, by simp only; omega, by simp only; omega, h4, by simp only [List.length_append, List.length_singleton]; omega, good_more h6 hi ⟨h2, h⟩ g⟩⟩
theorem z2_end {N i p : Int} {n : List Int} {l : List E} (hN : N ≤ 64) (hi : 1 ≤ i ∧ i ≤ N) (hq : z2Q N i ⟨i, p, n, l⟩) : stdBin .add .i64 i 1 = i + 1 ∧ z1Q N ⟨i + 1, 0, n, l⟩ ∧ ∀ p' a b, z1M N ⟨i + 1, p', a, b⟩ < z1M N ⟨i, p, n, l⟩ := by
  obtain ⟨h1, h2, h3, h4, h5, h6⟩ := hq
  simp only at h1 h2 h3 h4 h5 h6
  have e : (i + 1 - 1).toNat = i.toNat := by omega
  refine ⟨by rw [b_add, wr _ (by omega) (by omega)], ⟨by simp only; omega, by simp only; omega, by simp only; rw [e]; exact h4, h5, good_next h6⟩, fun p' a b => by simp only [z1M]; omega⟩
set_option maxHeartbeats 4000000 in
set_option cbv.maxSteps 4000000 in
set_option maxRecDepth 100000 in
theorem x_law (a0 : Int) (a1 : Int) (w0 : (Lit.int .u8 a0).wf = true) (w1 : (Lit.int .u16 a1).wf = true) (_ : sized [.one (.val (.int .u8 a0)), .one (.val (.int .u16 a1))]) : Does [(35, dnil [[none, none, none, some (.ints .i64 []), some (.recs (.int .i64 (.int .i64 (.int .i64 (.int .i64 (.bool .nil))))) []), none, none, none, none]] (c_wencode WoR.Ws.std)), (34, c_wawake Wz.std)] Try.f10 [.one (.val (.int .u8 a0)), .one (.val (.int .u16 a1))] [] ⟨True, .sa (B true), [], [Any, Any]⟩ := by
  intro b gv
  have hN := z_N a0 (wf8 w0)
  have hB := z_B a1 (wf16 w1)
  have hfs := (FsOk.cons (dnil_ok [[none, none, none, some (.ints .i64 []), some (.recs (.int .i64 (.int .i64 (.int .i64 (.int .i64 (.bool .nil))))) []), none, none, none, none]] ok_wencode) (FsOk.cons ok_wawake FsOk.nil rfl) rfl)
  generalize hF : WoS.Wz.std = F at hfs ⊢
  generalize hG0 : WoR.Ws.std = G0 at hfs ⊢
  generalize hA : Ar.std = A
  generalize hL : Lp _ _ _ = L
  obtain ⟨Z, zq⟩ := z_all
  refine cd_open (lp_mono hL) zq rfl ?_
  repeat' (first
    | (refine z_open zq ?_; try dsimp only)
    | refine cd_seq zq ?_ (lp_mono hL)
    | refine cd_blk zq ?_
    | refine cd_ret ?_
    | refine cd_skip ?_
    | refine cd_exit ?_
    | refine cd_loop ?_
    | refine cd_cond rfl ?_
    | refine cd_condT rfl ?_
    | refine cd_condF rfl ?_
    | (refine Cd.mk ?_; cbv)
    | (refine Ends1.mk ?_; cbv)
    | (refine Fin1.mk ?_; cbv)
    | exact trivial
    | refine And.intro ?_ ?_
    | refine orf fun _ => ?_
    | refine ort fun _ => ?_)
  all_goals first | (show L _ _ _; skip) | (clear hL hfs zq Z; subst hA; subst hF hG0; simp only [WoS.Wz.std, WoR.Ws.std, Ar.std, List.nil_append] at * <;> grind [stdCmp, er]; done)
  subst hL
  refine loop_z (cx_ok hfs) (z1Q (stdBin .add .i64 1 (IntKind.i64.wrap (stdBin .rem .u8 a0 64)))) (z1I a1 (A.bin .add .i64 1 (A.conv .i64 (A.bin .rem .u8 a0 64)))) (z1M (stdBin .add .i64 1 (IntKind.i64.wrap (stdBin .rem .u8 a0 64)))) z1R ⟨1, 0, [], []⟩ ?_ ?_ ?_
  · exact ⟨Int.le_refl 1, by show (1 : Int) ≤ _ + 1; omega, rfl, by decide, ⟨List.Pairwise.nil, fun _ h => by cases h⟩⟩
  · cbv
    repeat' (first | exact trivial | exact rfl | refine And.intro ?_ ?_)
  rintro ⟨i, p, n, l⟩ hq O hO
  have hst := fun h => z1_step hN.2 hq h
  have hen := fun h => z1_end hN hq h
  have q0 := hq.1
  dsimp only at q0
  subst hA
  generalize hA : Ar.std = A
  generalize hL : Lp _ _ _ = L
  refine cd_close zq ?_
  repeat' (first
    | (refine z_open zq ?_; try dsimp only)
    | refine cd_seq zq ?_ (lp_mono hL)
    | refine cd_blk zq ?_
    | refine cd_ret ?_
    | refine cd_skip ?_
    | refine cd_exit ?_
    | refine cd_loop ?_
    | refine cd_cond rfl ?_
    | refine cd_condT rfl ?_
    | refine cd_condF rfl ?_
    | (refine Cd.mk ?_; cbv)
    | (refine Ends1.mk ?_; cbv)
    | (refine Fin1.mk ?_; cbv)
    | exact trivial
    | refine And.intro ?_ ?_
    | refine orf fun _ => ?_
    | refine ort fun _ => ?_)
  all_goals first | (show L _ _ _; skip) | (clear hL hfs zq Z hq; subst hA; subst hF hG0 hO; simp only [WoR.Ws.std, Ar.std] at * <;> grind [stdCmp, er]; done)
  rename_i hx
  have hi : i ≤ (stdBin .add .i64 1 (IntKind.i64.wrap (stdBin .rem .u8 a0 64))) := by
    clear hL hfs zq Z hst hen
    subst hA; subst hF hG0 hO
    simp only [Ar.std] at hx
    grind [stdCmp]
  obtain ⟨l1, l2, l3⟩ := hst hi
  clear hx hst hen hq
  subst hL
  refine loop_z (cx_ok hfs) (z2Q (stdBin .add .i64 1 (IntKind.i64.wrap (stdBin .rem .u8 a0 64))) i) (z2I a1 (A.bin .add .i64 1 (A.conv .i64 (A.bin .rem .u8 a0 64)))) (z2M) z2R ⟨i, 1, A.appI n [i], l⟩ ?_ ?_ ?_
  · (subst hA; exact l3)
  · cbv
    repeat' (first | exact trivial | exact rfl | refine And.intro ?_ ?_)
  rintro ⟨i2, p2, n2, r⟩ hq2 O2 hO2
  have hei : i2 = i := hq2.1
  subst hei
  have hs2 := fun h => z2_step (by omega) hq2 h
  have he2 := z2_end (by omega) (by omega) hq2
  have k0 := hq2.2.1
  have k1 := hq2.2.2.1
  have k2 := hq2.2.2.2.2.1
  have k3 := hq2.2.2.2.1
  dsimp only at k0 k1 k2 k3
  subst hA
  generalize hA : Ar.std = A
  generalize hL : Lp _ _ _ = L
  refine cd_close zq ?_
  repeat' (first
    | (refine z_open zq ?_; try dsimp only)
    | refine cd_seq zq ?_ (lp_mono hL)
    | refine cd_blk zq ?_
    | refine cd_ret ?_
    | refine cd_skip ?_
    | refine cd_exit ?_
    | refine cd_loop ?_
    | refine cd_cond rfl ?_
    | refine cd_condT rfl ?_
    | refine cd_condF rfl ?_
    | (refine Cd.mk ?_; cbv)
    | (refine Ends1.mk ?_; cbv)
    | (refine Fin1.mk ?_; cbv)
    | exact trivial
    | refine And.intro ?_ ?_
    | refine orf fun _ => ?_
    | refine ort fun _ => ?_)
  all_goals (clear hL hfs zq Z hq2 l3; subst hA; subst hF hG0 hO hO2; simp only [Ar.std] at * <;> grind [stdCmp, z1M])
theorem walk (a0 : Int) (a1 : Int) (w : World) (w0 : (Lit.int .u8 a0).wf = true) (w1 : (Lit.int .u16 a1).wf = true) : Calls Try.prog 10 #[.int .u8 a0, .int .u16 a1] w (Law.Yes w) :=
  yes_of (FsOk.cons (dnil_ok [[none, none, none, some (.ints .i64 []), some (.recs (.int .i64 (.int .i64 (.int .i64 (.int .i64 (.bool .nil))))) []), none, none, none, none]] ok_wencode) (FsOk.cons ok_wawake FsOk.nil rfl) rfl) Try.func10 rfl (vs := [.int .u8 a0, .int .u16 a1]) (by exact ⟨rfl, rfl, trivial⟩) (lee_le rfl) fun hZ => x_law a0 a1 w0 w1 hZ
theorem own : ownKnob Try.prog.godebug = none := by kernel_rfl
theorem laidOut : laidOutB Try.prog = true := by kernel_rfl
set_option maxRecDepth 100000 in
theorem lifted (os : Os) (started : os.Started) (H : Type) (enc : TypeId × Value → H) :
    ReturnsInHanded {} Try.checked os 10 .any (Rows.wordSizesSpec.pre6 enc Try.prog Try.f10 Rows.wordSizesRow.domain false) (Rows.wordSizesSpec.post enc Try.prog Try.f10 false true false false) := by
  refine returnsInHanded_of_change_sized (C := Try.checked) own started (by kernel_rfl) Try.func10
    (ChangeSpec.witness6 (enc := enc) (C := Try.checked) false ⟨#[], #[.int .u8 0, .int .u16 0], []⟩ 8 (by kernel_rfl) (by kernel_rfl) (by kernel_rfl) (by kernel_rfl)) ?_
  intro W base args ds gs before hval0 hW _ hz _
  have hval : ∀ (j : Nat) t v, Try.f10.params[j]? = some t → args[j]? = some v → Value.okWide Try.prog W .any base t v := hval0
  have hW' := hW
  obtain ⟨p, q, hA0, hV, rfl, _, _⟩ := hW
  have hA : DataW.TrodAll enc Try.prog W 0 (fun _ => true) true Try.f10.params.toList args.toList ds p := hA0
  rw [Try.params10] at hA hval
  obtain ⟨v0, v1, d0, d1, p0, p1, rfl, rfl, rfl, h0, h1⟩ := trodAll_two hA
  obtain ⟨rfl, rfl⟩ := trodVars_none hV
  obtain ⟨a0, rfl, rfl, rfl, w0⟩ := open_int Try.underlying5 (hval 0 5 v0 rfl rfl) h0
  obtain ⟨a1, rfl, rfl, rfl, w1⟩ := open_int Try.underlying68 (hval 1 68 v1 rfl rfl) h1
  refine (walk a0 a1 W w0 w1).mono fun e W' ⟨he, hb⟩ => ?_
  subst he
  exact ⟨_, rfl, law_post laidOut (by kernel_rfl) (by kernel_rfl) Try.underlying4 rfl hW' rfl hb⟩
theorem proved : Rows.WordSizesSaid :=
  OpenClaim.holds_of_wide 10 Try.f10 rfl rfl rfl rfl rfl rfl rfl ⟨rfl, rfl, rfl, rfl, rfl⟩ rfl rfl rfl rfl rfl (by kernel_rfl) Try.func10 (by kernel_rfl)
    (of_decide_eq_true (by kernel_rfl)) (by unfold Func.isWrapper; first | (rw [if_pos (by decide +kernel)]; kernel_rfl) | (rw [if_neg (by decide +kernel)]; exact ⟨rfl, rfl⟩))
    (fun os started H enc _ => lifted os started H enc)
end Go.Proofs.Ytnfkphekkpigpaa.WordSizes
