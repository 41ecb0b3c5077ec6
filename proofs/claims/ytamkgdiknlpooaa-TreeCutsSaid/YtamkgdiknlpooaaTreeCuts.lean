/-
  TreeCuts: for every input the call tells true, and nothing that was there turns. No condition.
-/
import Derived.Test.YtamkgdiknlpooaaRows
import Derived.Test.YtamkgdiknlpooaaLaw
import Derived.Test.YtamkgdiknlpooaaRyIn
import Derived.Test.YtamkgdiknlpooaaRyZ
import Derived.Test.YtamkgdiknlpooaaRyOp
import Derived.Test.YtamkgdiknlpooaaTrE
namespace Go.Proofs.Ytamkgdiknlpooaa.TreeCuts
open Go Go.Proofs.Ytamkgdiknlpooaa.Ry Go.Proofs.Ytamkgdiknlpooaa.Law Go.Proofs.Ytamkgdiknlpooaa.TrE Go.Proofs.Ytamkgdiknlpooaa.So Go.Proofs.Ytamkgdiknlpooaa.JoS Go.Proofs.Ytamkgdiknlpooaa.EcX Go.Proofs.Ytamkgdiknlpooaa.EgR Go.Proofs.Ytamkgdiknlpooaa.EgL Go.Proofs.Ytamkgdiknlpooaa.SpR Go.Proofs.Ytamkgdiknlpooaa.SpQ Go.Proofs.Ytamkgdiknlpooaa.SpK Go.Proofs.Ytamkgdiknlpooaa.SpT Go.Proofs.Ytamkgdiknlpooaa.SpL Go.Proofs.Ytamkgdiknlpooaa.SpN Go.Proofs.Ytamkgdiknlpooaa.TrK Go.Proofs.Ytamkgdiknlpooaa.TrB Go.Proofs.Ytamkgdiknlpooaa.TrR Go.Proofs.Ytamkgdiknlpooaa.TrC Go.Proofs.Ytamkgdiknlpooaa.TrQ Go.Proofs.Ytamkgdiknlpooaa.TrX Go.Proofs.Ytamkgdiknlpooaa.TrD Go.Proofs.Ytamkgdiknlpooaa.TrE
open Go.ChangeShapes Go.WideShapes Go.ChangeAt Go.Joins Go.RowKit
def inc (M : List Int) (x : Int) : List Int := M.set x.toNat (M.getD x.toNat 0 + 1)
theorem inc_len (M : List Int) (x : Int) : (inc M x).length = M.length := by
  unfold inc
  rw [List.length_set]
theorem fold_len : ∀ (q M : List Int), (q.foldl inc M).length = M.length
  | [], _ => rfl
  | x :: q, M => by rw [List.foldl_cons, fold_len q, inc_len]
theorem inc_at {M : List Int} {x y : Int} (hM : M.length = 65) (hx : nod x) (hy : nod y) : (inc M x).getD y.toNat 0 = M.getD y.toNat 0 + if x = y then 1 else 0 := by
  unfold nod at hx hy
  unfold inc
  have h := ix_set M y x (M.getD x.toNat 0 + 1) (by omega) (by omega) (by omega)
  unfold ix at h
  rw [h]
  by_cases e : x = y
  · rw [if_pos e.symm, if_pos e, e]
  · rw [if_neg (fun q => e q.symm), if_neg e]
    omega
theorem fold_at : ∀ (q : List Int) {M : List Int} {y : Int}, M.length = 65 → (∀ x ∈ q, nod x) → nod y → (q.foldl inc M).getD y.toNat 0 = M.getD y.toNat 0 + (q.count y : Int)
  | [], _, _, _, _, _ => by simp
  | x :: q, M, y, hM, hq, hy => by
    have hx := hq x (List.mem_cons_self ..)
    rw [List.foldl_cons, fold_at q (by rw [inc_len]; exact hM) (fun z hz => hq z (List.mem_cons_of_mem _ hz)) hy, inc_at hM hx hy, List.count_cons]
    by_cases e : x = y
    · rw [if_pos e, if_pos (by simp [e])]
      push_cast
      omega
    · rw [if_neg e, if_neg (by simp [e])]
      push_cast
      omega
structure XC3 where
  i : Int
  M : List Int
def cQ (q M0 : List Int) (y : XC3) : Prop := 0 ≤ y.i ∧ y.i ≤ q.length ∧ y.M = (q.take y.i.toNat).foldl inc M0
def cM (q : List Int) (y : XC3) : Nat := q.length - y.i.toNat
def cR (n : Nat) (st : St) : XC3 := ⟨slotI st n, rdI st 11⟩
theorem c_step {q M0 : List Int} (hM : M0.length = 65) (hb : ∀ j : Int, nod j → 0 ≤ M0.getD j.toNat 0 ∧ M0.getD j.toNat 0 ≤ 65) (hl : q.length ≤ 65) (hn : ∀ x ∈ q, nod x) {i : Int} {M : List Int} (hq : cQ q M0 ⟨i, M⟩) : 0 ≤ i ∧ i ≤ q.length ∧ M.length = 65 ∧ (i < q.length → stdBin .add .i64 i 1 = i + 1 ∧ nodB (q.getD i.toNat 0) = true ∧ 0 ≤ q.getD i.toNat 0 ∧ q.getD i.toNat 0 < 65 ∧ stdBin .add .i64 (M.getD (q.getD i.toNat 0).toNat 0) 1 = M.getD (q.getD i.toNat 0).toNat 0 + 1 ∧ (∀ N, cM q ⟨i + 1, N⟩ < cM q ⟨i, M⟩) ∧ cQ q M0 ⟨i + 1, M.set (q.getD i.toNat 0).toNat (M.getD (q.getD i.toNat 0).toNat 0 + 1)⟩) ∧ (¬ i < q.length → M = q.foldl inc M0) := by
  obtain ⟨h0, h1, h2⟩ := hq
  simp only at h0 h1 h2
  refine ⟨h0, h1, by rw [h2, fold_len, hM], fun k => ?_, fun k => ?_⟩
  · have hi : i.toNat < q.length := by omega
    have nx := hn _ (gd_mem hi)
    have n2 := nx
    unfold nod at n2
    have ct := fold_at (q.take i.toNat) hM (fun x hx => hn x (List.mem_of_mem_take hx)) nx
    rw [← h2] at ct
    have c1 := List.count_le_length (a := q.getD i.toNat 0) (l := q.take i.toNat)
    rw [List.length_take] at c1
    have hb1 := hb (q.getD i.toNat 0) nx
    refine ⟨by rw [b_add, wr _ (by omega) (by omega)], (node_iff _).2 nx, by omega, by omega, by rw [b_add, wr _ (by omega) (by omega)], fun N => by simp only [cM]; omega, by simp only; omega, by simp only; omega, ?_⟩
    simp only
    rw [tki q i h0 k, List.foldl_append, ← h2]
    rfl
  · have e : i = q.length := by omega
    rw [e, Int.toNat_natCast, List.take_length] at h2
    exact h2
structure XK3 where
  i : Int
def kQ (n : Nat) (y : XK3) : Prop := 0 ≤ y.i ∧ y.i ≤ n
def kM (n : Nat) (y : XK3) : Nat := n - y.i.toNat
def kR (st : St) : XK3 := ⟨slotI st 14⟩
theorem k_step {w N : List Int} (v : ∀ x ∈ w, nod x ∧ N.getD x.toNat 0 = 1) (hl : w.length ≤ 65) {i : Int} (hq : kQ w.length ⟨i⟩) : 0 ≤ i ∧ i ≤ w.length ∧ (i < w.length → stdBin .add .i64 i 1 = i + 1 ∧ kQ w.length ⟨i + 1⟩ ∧ kM w.length ⟨i + 1⟩ < kM w.length ⟨i⟩ ∧ 0 ≤ w.getD i.toNat 0 ∧ w.getD i.toNat 0 < 65 ∧ N.getD (w.getD i.toNat 0).toNat 0 = 1) := by
  obtain ⟨h0, h1⟩ := hq
  simp only at h0 h1
  refine ⟨h0, h1, fun k => ?_⟩
  obtain ⟨n1, n2⟩ := v _ (gd_mem (m := w) (i := i.toNat) (by omega))
  unfold nod at n1
  exact ⟨by rw [b_add, wr _ (by omega) (by omega)], ⟨by simp only; omega, by simp only; omega⟩, by simp only [kM]; omega, by omega, by omega, n2⟩
/-- Both sides of an edge: together all, with no node in common. -/
theorem cuts_ok {l : List E} {e : E} (h : ckF l 1 1 = 0) (he : e ∈ l) : sdE l (ri e 0, ri e 1, ri e 2) (ri e 0) = 0 ∧ sdE l (ri e 0, ri e 1, ri e 2) (ri e 1) = 0 ∧ inR l = true ∧
    (sdF l (ri e 0, ri e 1, ri e 2) (ri e 0)).length ≤ 65 ∧ (sdF l (ri e 0, ri e 1, ri e 2) (ri e 1)).length ≤ 65 ∧ (lnR l (ri e 0)).length ≤ 65 ∧
    (sdF l (ri e 0, ri e 1, ri e 2) (ri e 0)).length + (sdF l (ri e 0, ri e 1, ri e 2) (ri e 1)).length = (lnR l (ri e 0)).length ∧
    (∀ x ∈ sdF l (ri e 0, ri e 1, ri e 2) (ri e 0), nod x) ∧ (∀ x ∈ sdF l (ri e 0, ri e 1, ri e 2) (ri e 1), nod x) ∧
    (∀ x ∈ lnR l (ri e 0), nod x ∧ (sdF l (ri e 0, ri e 1, ri e 2) (ri e 0)).count x + (sdF l (ri e 0, ri e 1, ri e 2) (ri e 1)).count x = 1) ∧ (sdF l (ri e 0, ri e 1, ri e 2) (ri e 0)).Nodup := by
  obtain ⟨c1, c2, c3⟩ := ck_0 h
  obtain ⟨f1, f2, f3⟩ := for_fo c3
  have hm : trE e ∈ l.map trE := List.mem_map_of_mem he
  have me := may_T (f2.good.1 _ hm)
  have nA : nod (ri e 0) := me.1
  have nB : nod (ri e 1) := me.2.1
  have ck : ∀ {a}, nod a → ckF l a a = 0 := fun {a} ha => by
    unfold ckF
    rw [if_pos ⟨(node_iff a).2 ha, (node_iff a).2 ha, c3⟩]
  have sd : ∀ {a}, nod a → sdE l (trE e) a = 0 := fun {a} ha => by
    unfold sdE
    rw [if_pos (ck ha), if_neg fun q => ix_in.1 q hm]
  have eA : sdF l (trE e) (ri e 0) = lkF (twH (butF l (trE e)) (ri e 0)) 65 := (sd_ln (sd nA)).2
  have eB : sdF l (trE e) (ri e 1) = lkF (twH (butF l (trE e)) (ri e 1)) 65 := (sd_ln (sd nB)).2
  obtain ⟨g1, g2⟩ := but_fo f2 (trE e)
  have eL := ln_lk f2 nA
  have ndk : ∀ h k, (lkF h k).Nodup := fun h k => by
    unfold lkF
    refine List.pairwise_map.2 ((List.nodup_range.sublist List.filter_sublist).imp fun {x y} q z => q ?_)
    omega
  have mk : ∀ {k : List E}, Fo (k.map trE) → ∀ {a : Int}, nod a → ∀ n, n ∈ lkF (twH k a) 65 ↔ nod n ∧ Cn (k.map trE) a n := fun {k} f {a} ha n => by
    rw [lk_mem]
    have z := (tw_ok f ha).1.z0
    constructor
    · rintro ⟨h0, h1, h2⟩
      have n0 : nod n := by
        unfold nod
        by_cases q : n = 0
        · rw [q] at h2
          exact absurd z h2
        · omega
      exact ⟨n0, (hop_iff f ha n0).1 h2⟩
    · rintro ⟨h0, h1⟩
      have := (hop_iff f ha h0).2 h1
      unfold nod at h0
      exact ⟨by omega, by omega, this⟩
  have mA := mk g1 nA
  have mB := mk g1 nB
  have mL := mk f2 nA
  rw [g2] at mA mB
  have cut := f2.cut hm
  have split : ∀ x, Cn (l.map trE) (ri e 0) x ↔ Cn (wo (l.map trE) (trE e)) (ri e 0) x ∨ Cn (wo (l.map trE) (trE e)) (ri e 1) x := fun x => by
    have same : Cn (l.map trE) (ri e 0) x ↔ Cn (trE e :: wo (l.map trE) (trE e)) (ri e 0) x := cn_same (fun y => by
      rw [List.mem_cons, mem_wo]
      constructor
      · intro q
        by_cases z : y = trE e
        · exact .inl z
        · exact .inr ⟨q, z⟩
      · rintro (rfl | q)
        · exact hm
        · exact q.1) _ _
    rw [same, cn_cons]
    constructor
    · rintro (q | ⟨_, q⟩ | ⟨q1, _⟩)
      · exact .inl q
      · exact .inr q
      · exact absurd q1 cut
    · rintro (q | q)
      · exact .inl q
      · exact .inr (.inl ⟨.refl, q⟩)
  have dis : ∀ x, Cn (wo (l.map trE) (trE e)) (ri e 0) x → Cn (wo (l.map trE) (trE e)) (ri e 1) x → False := fun x q1 q2 => cut (cn_trans q1 (cn_symm q2))
  show sdE l (trE e) (ri e 0) = 0 ∧ sdE l (trE e) (ri e 1) = 0 ∧ inR l = true ∧ (sdF l (trE e) (ri e 0)).length ≤ 65 ∧ (sdF l (trE e) (ri e 1)).length ≤ 65 ∧ (lnR l (ri e 0)).length ≤ 65 ∧ (sdF l (trE e) (ri e 0)).length + (sdF l (trE e) (ri e 1)).length = (lnR l (ri e 0)).length ∧ (∀ x ∈ sdF l (trE e) (ri e 0), nod x) ∧ (∀ x ∈ sdF l (trE e) (ri e 1), nod x) ∧ (∀ x ∈ lnR l (ri e 0), nod x ∧ (sdF l (trE e) (ri e 0)).count x + (sdF l (trE e) (ri e 1)).count x = 1) ∧ (sdF l (trE e) (ri e 0)).Nodup
  rw [eA, eB, eL]
  have nd1 := ndk (twH (butF l (trE e)) (ri e 0)) 65
  have nd2 := ndk (twH (butF l (trE e)) (ri e 1)) 65
  have nd3 := ndk (twH l (ri e 0)) 65
  generalize lkF (twH (butF l (trE e)) (ri e 0)) 65 = P at *
  generalize lkF (twH (butF l (trE e)) (ri e 1)) 65 = Q at *
  have l3 := lk_len (twH l (ri e 0)) 65
  generalize lkF (twH l (ri e 0)) 65 = W at *
  have pm : (P ++ Q).Perm W := by
    refine (List.perm_ext_iff_of_nodup ?_ nd3).2 fun x => ?_
    · rw [List.nodup_append]
      exact ⟨nd1, nd2, fun x hx y hy z => dis x ((mA x).1 hx).2 (by rw [z]; exact ((mB y).1 hy).2)⟩
    · rw [List.mem_append, mA, mB, mL, split]
      constructor
      · rintro (⟨a, b⟩ | ⟨a, b⟩)
        · exact ⟨a, .inl b⟩
        · exact ⟨a, .inr b⟩
      · rintro ⟨a, b | b⟩
        · exact .inl ⟨a, b⟩
        · exact .inr ⟨a, b⟩
  have pl := pm.length_eq
  rw [List.length_append] at pl
  refine ⟨sd nA, sd nB, in_R (all_good f1) (by omega), by omega, by omega, l3, pl, fun x hx => ((mA x).1 hx).1, fun x hx => ((mB x).1 hx).1, fun x hx => ⟨((mL x).1 hx).1, ?_⟩, nd1⟩
  rw [← List.count_append, pm.count_eq, nd3.count, if_pos hx]
theorem p_mod {n : Nat} (hl : n ≤ 60) {a : Int} (ha : 0 ≤ a ∧ a ≤ 255) (hp : 0 < n) : 0 ≤ stdBin .rem .i64 (IntKind.i64.wrap a) n ∧ stdBin .rem .i64 (IntKind.i64.wrap a) n < n ∧ (n : Int) ≠ 0 := by
  rw [wr _ (by omega) (by omega), b_rem, Int.tmod_eq_emod_of_nonneg ha.1]
  exact ⟨Int.emod_nonneg _ (by omega), Int.emod_lt_of_pos _ (by omega), by omega⟩
noncomputable def c1I (p q w : List Int) (y : XC3) : St := stOf Try.f14.ntmps [(6, .sl none (.ints .i64 p)), (8, .sl none (.ints .i64 q)), (10, .sl none (.ints .i64 w)), (11, .ptr 1 0), (12, .val (.int .i64 y.i))] [(1, .row 66 (.ints .i64 y.M))] [Any, Any]
noncomputable def c2I (q w : List Int) (y : XC3) : St := stOf Try.f14.ntmps [(8, .sl none (.ints .i64 q)), (10, .sl none (.ints .i64 w)), (11, .ptr 1 0), (13, .val (.int .i64 y.i))] [(1, .row 66 (.ints .i64 y.M))] [Any, Any]
noncomputable def c3I (w M : List Int) (y : XK3) : St := stOf Try.f14.ntmps [(10, .sl none (.ints .i64 w)), (11, .ptr 1 0), (14, .val (.int .i64 y.i))] [(1, .row 66 (.ints .i64 M))] [Any, Any]
set_option maxHeartbeats 4000000 in
set_option cbv.maxSteps 4000000 in
set_option maxRecDepth 100000 in
theorem x_law (a0 : List E) (a1 : Int) (w1 : (Lit.int .u8 a1).wf = true) (_ : sized [.one (.sl none (.recs (.int .i64 (.int .i64 (.int .i64 .nil))) a0)), .one (.val (.int .u8 a1))]) : Does [(46, c_side TrE.Te.std), (42, c_rmay TrQ.Tq.std), (52, c_rlnk TrD.Td.std), (49, c_rnode EgR.Fs.std), (38, c_tawake Tx.std)] Try.f14 [.one (.sl none (.recs (.int .i64 (.int .i64 (.int .i64 .nil))) a0)), .one (.val (.int .u8 a1))] [] ⟨True, .sa (B true), [], [Any, Any]⟩ := by
  intro b gv
  have f1 : mayR a0 1 1 = true ↔ ckF a0 1 1 = 0 := may_ck
  have f2 := fun h k => p_mod (n := a0.length) (a := a1) h (wf8 w1) k
  have f3 := fun h => pl_mem (q := a0) (i := stdBin .rem .i64 (IntKind.i64.wrap a1) a0.length) h
  have f4 := fun h k => cuts_ok (l := a0) (e := (a0.getD (stdBin .rem .i64 (IntKind.i64.wrap a1) a0.length).toNat [])) h k
  have f5 : ckF a0 1 1 = 0 → (a0.getD (stdBin .rem .i64 (IntKind.i64.wrap a1) a0.length).toNat []) ∈ a0 → stdBin .add .i64 (sdF a0 ((ri (a0.getD (stdBin .rem .i64 (IntKind.i64.wrap a1) a0.length).toNat []) 0), (ri (a0.getD (stdBin .rem .i64 (IntKind.i64.wrap a1) a0.length).toNat []) 1), (ri (a0.getD (stdBin .rem .i64 (IntKind.i64.wrap a1) a0.length).toNat []) 2)) (ri (a0.getD (stdBin .rem .i64 (IntKind.i64.wrap a1) a0.length).toNat []) 0)).length (sdF a0 ((ri (a0.getD (stdBin .rem .i64 (IntKind.i64.wrap a1) a0.length).toNat []) 0), (ri (a0.getD (stdBin .rem .i64 (IntKind.i64.wrap a1) a0.length).toNat []) 1), (ri (a0.getD (stdBin .rem .i64 (IntKind.i64.wrap a1) a0.length).toNat []) 2)) (ri (a0.getD (stdBin .rem .i64 (IntKind.i64.wrap a1) a0.length).toNat []) 1)).length = (lnR a0 (ri (a0.getD (stdBin .rem .i64 (IntKind.i64.wrap a1) a0.length).toNat []) 0)).length := fun h k => by
    obtain ⟨_, _, _, q1, q2, q3, q4, _⟩ := f4 h k
    rw [b_add, wr _ (by omega) (by omega)]
    omega
  have hfs := (FsOk.cons ok_side (FsOk.cons ok_rmay (FsOk.cons ok_rlnk (FsOk.cons ok_rnode (FsOk.cons ok_tawake FsOk.nil rfl) rfl) rfl) rfl) rfl)
  generalize hF : TrX.Tx.std = F at hfs ⊢
  generalize hG0 : TrQ.Tq.std = G0 at hfs ⊢
  generalize hG1 : TrD.Td.std = G1 at hfs ⊢
  generalize hG2 : TrE.Te.std = G2 at hfs ⊢
  generalize hG3 : SpQ.Sq.std = G3 at hfs ⊢
  generalize hG4 : EgR.Fs.std = G4 at hfs ⊢
  generalize hA : Ar.std = A
  generalize hL : Lp _ _ _ = L
  obtain ⟨Z, zq⟩ := z_all
  refine cd_open (lp_mono hL) zq rfl ?_
  repeat' (first
    | (refine z_open zq ?_; try dsimp only)
    | refine cd_seq zq ?_ (lp_mono hL)
    | refine cd_blk zq ?_
    | refine cd_ret ?_
    | refine cd_skip ?_
    | refine cd_exit ?_
    | refine cd_loop ?_
    | refine cd_cond rfl ?_
    | refine cd_condT rfl ?_
    | refine cd_condF rfl ?_
    | (refine Cd.mk ?_; cbv)
    | (refine Ends1.mk ?_; cbv)
    | (refine Fin1.mk ?_; cbv)
    | exact trivial
    | refine And.intro ?_ ?_
    | refine orf fun _ => ?_
    | refine ort fun _ => ?_)
  all_goals first | (show L _ _ _; skip) | (clear hL hfs zq Z; subst hA hF hG0 hG1 hG2 hG3 hG4; simp only [TrQ.Tq.std, TrD.Td.std, TrE.Te.std, Ar.std] at * <;> grind [stdCmp]; done)
  rename_i hx1 hx2
  have hr : a0.length ≤ 60 ∧ 0 < a0.length ∧ ckF a0 1 1 = 0 := by
    clear hL hfs zq Z f2 f3 f4 f5
    subst hA hF hG0 hG1 hG2 hG3 hG4
    simp only [TrQ.Tq.std, TrD.Td.std, TrE.Te.std, Ar.std] at *
    grind [stdCmp]
  clear hx1 hx2
  obtain ⟨m1, m2, m3⟩ := f2 hr.1 hr.2.1
  have hm := f3 m1 m2
  obtain ⟨k1, k2, k3, k4, k5, k6, k7, k8, k9, k10, k11⟩ := f4 hr.2.2 hm
  clear f1 f2 f3 f4 f5
  have z1 : (List.replicate 65 (0 : Int)).length = 65 := List.length_replicate
  have z3 : ∀ j : Nat, (List.replicate 65 (0 : Int)).getD j 0 = 0 := fun j => by
    rw [List.getD_eq_getElem?_getD, List.getElem?_replicate]
    split <;> rfl
  have z2 : ∀ j : Int, nod j → 0 ≤ (List.replicate 65 (0 : Int)).getD j.toNat 0 ∧ (List.replicate 65 (0 : Int)).getD j.toNat 0 ≤ 65 := fun j _ => by
    rw [z3]
    omega
  subst hL
  refine loop_z (cx_ok hfs) (cQ (sdF a0 ((ri (a0.getD (stdBin .rem .i64 (IntKind.i64.wrap a1) a0.length).toNat []) 0), (ri (a0.getD (stdBin .rem .i64 (IntKind.i64.wrap a1) a0.length).toNat []) 1), (ri (a0.getD (stdBin .rem .i64 (IntKind.i64.wrap a1) a0.length).toNat []) 2)) (ri (a0.getD (stdBin .rem .i64 (IntKind.i64.wrap a1) a0.length).toNat []) 0)) (List.replicate 65 0)) (c1I (G2.e_sd a0 (A.ri (A.atE a0 (A.bin .rem .i64 (A.conv .i64 a1) (A.lenE a0))) 0) (A.ri (A.atE a0 (A.bin .rem .i64 (A.conv .i64 a1) (A.lenE a0))) 1) (A.ri (A.atE a0 (A.bin .rem .i64 (A.conv .i64 a1) (A.lenE a0))) 2) (A.ri (A.atE a0 (A.bin .rem .i64 (A.conv .i64 a1) (A.lenE a0))) 0)) (G2.e_sd a0 (A.ri (A.atE a0 (A.bin .rem .i64 (A.conv .i64 a1) (A.lenE a0))) 0) (A.ri (A.atE a0 (A.bin .rem .i64 (A.conv .i64 a1) (A.lenE a0))) 1) (A.ri (A.atE a0 (A.bin .rem .i64 (A.conv .i64 a1) (A.lenE a0))) 2) (A.ri (A.atE a0 (A.bin .rem .i64 (A.conv .i64 a1) (A.lenE a0))) 1)) (G1.d_ln a0 (A.ri (A.atE a0 (A.bin .rem .i64 (A.conv .i64 a1) (A.lenE a0))) 0))) (cM (sdF a0 ((ri (a0.getD (stdBin .rem .i64 (IntKind.i64.wrap a1) a0.length).toNat []) 0), (ri (a0.getD (stdBin .rem .i64 (IntKind.i64.wrap a1) a0.length).toNat []) 1), (ri (a0.getD (stdBin .rem .i64 (IntKind.i64.wrap a1) a0.length).toNat []) 2)) (ri (a0.getD (stdBin .rem .i64 (IntKind.i64.wrap a1) a0.length).toNat []) 0))) (cR 12) ⟨0, A.repI 65⟩ ?_ ?_ ?_
  · (subst hA; exact ⟨Int.le_refl 0, Int.natCast_nonneg _, rfl⟩)
  · cbv
    repeat' (first | exact trivial | exact rfl | refine And.intro ?_ ?_)
  rintro ⟨i, M⟩ hq O hO
  have hst := c_step z1 z2 k4 k8 hq
  subst hA
  generalize hA : Ar.std = A
  generalize hL : Lp _ _ _ = L
  refine cd_close zq ?_
  repeat' (first
    | (refine z_open zq ?_; try dsimp only)
    | refine cd_seq zq ?_ (lp_mono hL)
    | refine cd_blk zq ?_
    | refine cd_ret ?_
    | refine cd_skip ?_
    | refine cd_exit ?_
    | refine cd_loop ?_
    | refine cd_cond rfl ?_
    | refine cd_condT rfl ?_
    | refine cd_condF rfl ?_
    | (refine Cd.mk ?_; cbv)
    | (refine Ends1.mk ?_; cbv)
    | (refine Fin1.mk ?_; cbv)
    | exact trivial
    | refine And.intro ?_ ?_
    | refine orf fun _ => ?_
    | refine ort fun _ => ?_)
  all_goals first | (show L _ _ _; skip) | (clear hL hfs zq Z hq k8 k9 k10 z2; subst hA hF hG0 hG1 hG2 hG3 hG4 hO; simp only [TrE.Te.std, EgR.Fs.std, Ar.std] at * <;> grind [stdCmp]; done)
  rename_i hx
  have hi : M = (sdF a0 ((ri (a0.getD (stdBin .rem .i64 (IntKind.i64.wrap a1) a0.length).toNat []) 0), (ri (a0.getD (stdBin .rem .i64 (IntKind.i64.wrap a1) a0.length).toNat []) 1), (ri (a0.getD (stdBin .rem .i64 (IntKind.i64.wrap a1) a0.length).toNat []) 2)) (ri (a0.getD (stdBin .rem .i64 (IntKind.i64.wrap a1) a0.length).toNat []) 0)).foldl inc (List.replicate 65 0) := by
    clear hL hfs zq Z hO hq k8 k9 k10 z2
    subst hA hF hG0 hG1 hG2 hG3 hG4
    simp only [TrE.Te.std, Ar.std] at *
    grind [stdCmp]
  clear hx hst
  have y1 : M.length = 65 := by rw [hi, fold_len, z1]
  have y3 : ∀ j : Int, nod j → M.getD j.toNat 0 = ((sdF a0 ((ri (a0.getD (stdBin .rem .i64 (IntKind.i64.wrap a1) a0.length).toNat []) 0), (ri (a0.getD (stdBin .rem .i64 (IntKind.i64.wrap a1) a0.length).toNat []) 1), (ri (a0.getD (stdBin .rem .i64 (IntKind.i64.wrap a1) a0.length).toNat []) 2)) (ri (a0.getD (stdBin .rem .i64 (IntKind.i64.wrap a1) a0.length).toNat []) 0)).count j : Int) := fun j nj => by
    rw [hi, fold_at _ z1 k8 nj, z3]
    exact Int.zero_add _
  have y2 : ∀ j : Int, nod j → 0 ≤ M.getD j.toNat 0 ∧ M.getD j.toNat 0 ≤ 65 := fun j nj => by
    have := List.count_le_length (a := j) (l := (sdF a0 ((ri (a0.getD (stdBin .rem .i64 (IntKind.i64.wrap a1) a0.length).toNat []) 0), (ri (a0.getD (stdBin .rem .i64 (IntKind.i64.wrap a1) a0.length).toNat []) 1), (ri (a0.getD (stdBin .rem .i64 (IntKind.i64.wrap a1) a0.length).toNat []) 2)) (ri (a0.getD (stdBin .rem .i64 (IntKind.i64.wrap a1) a0.length).toNat []) 0)))
    rw [y3 j nj]
    exact ⟨Int.natCast_nonneg _, (@Int.ofNat_le _ 65).2 (Nat.le_trans this k4)⟩
  clear hi z1 z2 z3 hq
  subst hL
  refine loop_z (cx_ok hfs) (cQ (sdF a0 ((ri (a0.getD (stdBin .rem .i64 (IntKind.i64.wrap a1) a0.length).toNat []) 0), (ri (a0.getD (stdBin .rem .i64 (IntKind.i64.wrap a1) a0.length).toNat []) 1), (ri (a0.getD (stdBin .rem .i64 (IntKind.i64.wrap a1) a0.length).toNat []) 2)) (ri (a0.getD (stdBin .rem .i64 (IntKind.i64.wrap a1) a0.length).toNat []) 1)) M) (c2I (G2.e_sd a0 (A.ri (A.atE a0 (A.bin .rem .i64 (A.conv .i64 a1) (A.lenE a0))) 0) (A.ri (A.atE a0 (A.bin .rem .i64 (A.conv .i64 a1) (A.lenE a0))) 1) (A.ri (A.atE a0 (A.bin .rem .i64 (A.conv .i64 a1) (A.lenE a0))) 2) (A.ri (A.atE a0 (A.bin .rem .i64 (A.conv .i64 a1) (A.lenE a0))) 1)) (G1.d_ln a0 (A.ri (A.atE a0 (A.bin .rem .i64 (A.conv .i64 a1) (A.lenE a0))) 0))) (cM (sdF a0 ((ri (a0.getD (stdBin .rem .i64 (IntKind.i64.wrap a1) a0.length).toNat []) 0), (ri (a0.getD (stdBin .rem .i64 (IntKind.i64.wrap a1) a0.length).toNat []) 1), (ri (a0.getD (stdBin .rem .i64 (IntKind.i64.wrap a1) a0.length).toNat []) 2)) (ri (a0.getD (stdBin .rem .i64 (IntKind.i64.wrap a1) a0.length).toNat []) 1))) (cR 13) ⟨0, M⟩ ?_ ?_ ?_
  · exact ⟨Int.le_refl 0, Int.natCast_nonneg _, rfl⟩
  · cbv
    repeat' (first | exact trivial | exact rfl | refine And.intro ?_ ?_)
  rintro ⟨j, N⟩ hq2 O2 hO2
  have hst := c_step y1 y2 k5 k9 hq2
  subst hA
  generalize hA : Ar.std = A
  generalize hL : Lp _ _ _ = L
  refine cd_close zq ?_
  repeat' (first
    | (refine z_open zq ?_; try dsimp only)
    | refine cd_seq zq ?_ (lp_mono hL)
    | refine cd_blk zq ?_
    | refine cd_ret ?_
    | refine cd_skip ?_
    | refine cd_exit ?_
    | refine cd_loop ?_
    | refine cd_cond rfl ?_
    | refine cd_condT rfl ?_
    | refine cd_condF rfl ?_
    | (refine Cd.mk ?_; cbv)
    | (refine Ends1.mk ?_; cbv)
    | (refine Fin1.mk ?_; cbv)
    | exact trivial
    | refine And.intro ?_ ?_
    | refine orf fun _ => ?_
    | refine ort fun _ => ?_)
  all_goals first | (show L _ _ _; skip) | (clear hL hfs zq Z hq2 k8 k9 k10 y2 y3; subst hA hF hG0 hG1 hG2 hG3 hG4 hO hO2; simp only [TrE.Te.std, EgR.Fs.std, Ar.std] at * <;> grind [stdCmp]; done)
  rename_i hx
  have hj : N = (sdF a0 ((ri (a0.getD (stdBin .rem .i64 (IntKind.i64.wrap a1) a0.length).toNat []) 0), (ri (a0.getD (stdBin .rem .i64 (IntKind.i64.wrap a1) a0.length).toNat []) 1), (ri (a0.getD (stdBin .rem .i64 (IntKind.i64.wrap a1) a0.length).toNat []) 2)) (ri (a0.getD (stdBin .rem .i64 (IntKind.i64.wrap a1) a0.length).toNat []) 1)).foldl inc M := by
    clear hL hfs zq Z hO hO2 hq2 k8 k9 k10 y2 y3
    subst hA hF hG0 hG1 hG2 hG3 hG4
    simp only [TrE.Te.std, Ar.std] at *
    grind [stdCmp]
  clear hx hst
  have v1 : ∀ x ∈ (lnR a0 (ri (a0.getD (stdBin .rem .i64 (IntKind.i64.wrap a1) a0.length).toNat []) 0)), nod x ∧ N.getD x.toNat 0 = 1 := fun x hx => by
    obtain ⟨nx, e⟩ := k10 x hx
    refine ⟨nx, ?_⟩
    rw [hj, fold_at _ y1 k9 nx, y3 x nx]
    exact (Int.natCast_add _ _).symm.trans (congrArg (fun n : Nat => (n : Int)) e)
  have v2 : N.length = 65 := by rw [hj, fold_len, y1]
  clear hj y1 y2 y3 hq2 k8 k9 k10
  subst hL
  refine loop_z (cx_ok hfs) (kQ (lnR a0 (ri (a0.getD (stdBin .rem .i64 (IntKind.i64.wrap a1) a0.length).toNat []) 0)).length) (c3I (G1.d_ln a0 (A.ri (A.atE a0 (A.bin .rem .i64 (A.conv .i64 a1) (A.lenE a0))) 0)) N) (kM (lnR a0 (ri (a0.getD (stdBin .rem .i64 (IntKind.i64.wrap a1) a0.length).toNat []) 0)).length) kR ⟨0⟩ ?_ ?_ ?_
  · exact ⟨Int.le_refl 0, Int.natCast_nonneg _⟩
  · cbv
    repeat' (first | exact trivial | exact rfl | refine And.intro ?_ ?_)
  rintro ⟨k⟩ hq3 O3 hO3
  have hs3 := k_step v1 k6 hq3
  subst hA
  generalize hA : Ar.std = A
  generalize hL : Lp _ _ _ = L
  refine cd_close zq ?_
  repeat' (first
    | (refine z_open zq ?_; try dsimp only)
    | refine cd_seq zq ?_ (lp_mono hL)
    | refine cd_blk zq ?_
    | refine cd_ret ?_
    | refine cd_skip ?_
    | refine cd_exit ?_
    | refine cd_loop ?_
    | refine cd_cond rfl ?_
    | refine cd_condT rfl ?_
    | refine cd_condF rfl ?_
    | (refine Cd.mk ?_; cbv)
    | (refine Ends1.mk ?_; cbv)
    | (refine Fin1.mk ?_; cbv)
    | exact trivial
    | refine And.intro ?_ ?_
    | refine orf fun _ => ?_
    | refine ort fun _ => ?_)
  all_goals (clear hL hfs zq Z hq3 v1; subst hA hF hG0 hG1 hG2 hG3 hG4 hO hO2 hO3; simp only [TrD.Td.std, Ar.std] at * <;> grind [stdCmp])
theorem walk (a0 : List E) (a1 : Int) (A0 : Option Addr) (n0 c0 : Nat) (w : World) (r0 : (SC.sl none (.recs (.int .i64 (.int .i64 (.int .i64 .nil))) a0)).is (G0 w) (.slice A0 n0 c0)) (_ : ∀ y ∈ a0, wfS (.int .i64 (.int .i64 (.int .i64 .nil))) y 0) (_ : a0.length ≤ 140737488355328) (w1 : (Lit.int .u8 a1).wf = true) : Calls Try.prog 14 #[.slice A0 n0 c0, .int .u8 a1] w (Law.Yes w) :=
  yes_of (FsOk.cons ok_side (FsOk.cons ok_rmay (FsOk.cons ok_rlnk (FsOk.cons ok_rnode (FsOk.cons ok_tawake FsOk.nil rfl) rfl) rfl) rfl) rfl) Try.func14 rfl (vs := [.slice A0 n0 c0, .int .u8 a1]) (by exact ⟨r0, rfl, trivial⟩) (lee_le rfl) fun hZ => x_law a0 a1 w1 hZ
theorem own : ownKnob Try.prog.godebug = none := by kernel_rfl
theorem laidOut : laidOutB Try.prog = true := by kernel_rfl
set_option maxRecDepth 100000 in
theorem lifted (os : Os) (started : os.Started) (H : Type) (enc : TypeId × Value → H) :
    ReturnsInHanded {} Try.checked os 14 .any (Rows.treeCutsSpec.pre6 enc Try.prog Try.f14 Rows.treeCutsRow.domain false) (Rows.treeCutsSpec.post enc Try.prog Try.f14 false true false false) := by
  refine returnsInHanded_of_change_sized (C := Try.checked) own started (by kernel_rfl) Try.func14
    (ChangeSpec.witness6 (enc := enc) (C := Try.checked) false ⟨#[], #[.slice none 0 0, .int .u8 0], []⟩ 8 (by kernel_rfl) (by kernel_rfl) (by kernel_rfl) (by kernel_rfl)) ?_
  intro W base args ds gs before hval0 hW _ hz _
  have hval : ∀ (j : Nat) t v, Try.f14.params[j]? = some t → args[j]? = some v → Value.okWide Try.prog W .any base t v := hval0
  have hW' := hW
  obtain ⟨p, q, hA0, hV, rfl, _, _⟩ := hW
  have hA : DataW.TrodAll enc Try.prog W 0 (fun _ => true) true Try.f14.params.toList args.toList ds p := hA0
  rw [Try.params14] at hA hval
  obtain ⟨v0, v1, d0, d1, p0, p1, rfl, rfl, rfl, h0, h1⟩ := trodAll_two hA
  obtain ⟨rfl, rfl⟩ := trodVars_none hV
  obtain ⟨A0, n0, c0, a0, rfl, l0, r0, w0⟩ := sl_any (s := .int .i64 (.int .i64 (.int .i64 .nil))) Try.underlying22 (by kernel_rfl) (by kernel_rfl) (hval 0 22 v0 rfl rfl) h0
  have s0 : a0.length ≤ 140737488355328 := by rw [l0]; exact short_of Try.underlying22 (by decide +kernel) hz (j := 0) rfl rfl h0
  obtain ⟨a1, rfl, rfl, rfl, w1⟩ := open_int Try.underlying5 (hval 1 5 v1 rfl rfl) h1
  refine (walk a0 a1 A0 n0 c0 W r0 w0 s0 w1).mono fun e W' ⟨he, hb⟩ => ?_
  subst he
  exact ⟨_, rfl, law_post laidOut (by kernel_rfl) (by kernel_rfl) Try.underlying4 rfl hW' rfl hb⟩
theorem proved : Rows.TreeCutsSaid :=
  OpenClaim.holds_of_wide 14 Try.f14 rfl rfl rfl rfl rfl rfl rfl ⟨rfl, rfl, rfl, rfl, rfl⟩ rfl rfl rfl rfl rfl (by kernel_rfl) Try.func14 (by kernel_rfl)
    (of_decide_eq_true (by kernel_rfl)) (by unfold Func.isWrapper; first | (rw [if_pos (by decide +kernel)]; kernel_rfl) | (rw [if_neg (by decide +kernel)]; exact ⟨rfl, rfl⟩))
    (fun os started H enc _ => lifted os started H enc)
end Go.Proofs.Ytamkgdiknlpooaa.TreeCuts
