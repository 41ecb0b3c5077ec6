/-
  AirBends: for every input the call tells true, and nothing that was there turns. No condition.
-/
import Derived.Test.YtphbfoafgfnmmaaRows
import Derived.Test.YtphbfoafgfnmmaaLaw
import Derived.Test.YtphbfoafgfnmmaaRyIn
import Derived.Test.YtphbfoafgfnmmaaRyZ
import Derived.Test.YtphbfoafgfnmmaaRyM
import Derived.Test.YtphbfoafgfnmmaaRyOz
import Derived.Test.YtphbfoafgfnmmaaSkM2
namespace Go.Proofs.Ytphbfoafgfnmmaa.AirBends
open Go Go.Proofs.Ytphbfoafgfnmmaa.Ry Go.Proofs.Ytphbfoafgfnmmaa.Law Go.Proofs.Ytphbfoafgfnmmaa.SkZ Go.Proofs.Ytphbfoafgfnmmaa.SkR Go.Proofs.Ytphbfoafgfnmmaa.SkT Go.Proofs.Ytphbfoafgfnmmaa.SkO Go.Proofs.Ytphbfoafgfnmmaa.SkC Go.Proofs.Ytphbfoafgfnmmaa.SkD Go.Proofs.Ytphbfoafgfnmmaa.SkP Go.Proofs.Ytphbfoafgfnmmaa.SkU Go.Proofs.Ytphbfoafgfnmmaa.SkN Go.Proofs.Ytphbfoafgfnmmaa.SkY Go.Proofs.Ytphbfoafgfnmmaa.SkA Go.Proofs.Ytphbfoafgfnmmaa.SkV Go.Proofs.Ytphbfoafgfnmmaa.SkW Go.Proofs.Ytphbfoafgfnmmaa.SkH Go.Proofs.Ytphbfoafgfnmmaa.SkM Go.Proofs.Ytphbfoafgfnmmaa.SkJ Go.Proofs.Ytphbfoafgfnmmaa.SkI Go.Proofs.Ytphbfoafgfnmmaa.FrR Go.Proofs.Ytphbfoafgfnmmaa.FrQ Go.Proofs.Ytphbfoafgfnmmaa.CrcR
open Go.ChangeShapes Go.WideShapes Go.ChangeAt Go.Joins Go.RowKit
open Go.Proofs.Ytphbfoafgfnmmaa.SkX (cellR)
open Go.Proofs.Ytphbfoafgfnmmaa.SkK (T1 t1Q t1M t1_zero t1_step)
theorem pays {l : List E} (w : ∀ y ∈ l, wfS (.int .i64 (.int .i64 (.int .i64 (.int .i64 (.ints .u8 .nil))))) y 0) : ∀ y ∈ l, ∀ n ∈ rl y 4, 0 ≤ n ∧ n ≤ 255 := fun y hy n hn => wf8 ((w y hy).2.2.2.2.1 n hn)
theorem pay_at {l : List E} (w : ∀ y ∈ l, ∀ n ∈ rl y 4, 0 ≤ n ∧ n ≤ 255) (i : Nat) : ∀ n ∈ rl (l.getD i []) 4, 0 ≤ n ∧ n ≤ 255 := by
  by_cases h : i < l.length
  · rw [SkV.getD_at h]
    exact w _ (List.getElem_mem h)
  · rw [List.getD_eq_getElem?_getD, List.getElem?_eq_none (by omega)]
    intro n hn
    cases hn
theorem rm_in {i : Int} (n : Int) (h0 : 0 ≤ i) (h : 0 < n) : 0 ≤ stdBin .rem .i64 i n ∧ stdBin .rem .i64 i n < n := by
  rw [b_rem, Int.tmod_eq_emod_of_nonneg h0]
  exact ⟨Int.emod_nonneg _ (by omega), Int.emod_lt_of_pos _ h⟩
noncomputable def t1I (l0 l1 l2 : List E) (y : T1) : St := stOf Try.f7.ntmps [(0, .sl none (.recs (.int .i64 (.int .i64 (.int .i64 .nil))) l0)), (1, .sl none (.recs (.int .i64 (.int .i64 (.int .i64 (.int .i64 (.ints .u8 .nil))))) l1)), (2, .sl none (.recs (.int .i64 (.int .i64 (.int .i64 (.int .i64 (.int .i64 .nil))))) l2)), (7, .ptr 1 0), (8, .val (.int .i64 y.e)), (9, .val (.int .i64 y.i))] [(1, .cells 25 [.sl none (.recs (.int .i64 (.int .i64 (.ints .u8 (.bool .nil)))) y.f), .sl none (.recs (.int .i64 (.int .i64 (.int .i64 .nil))) y.u)])] [Any, Any, Any]
def t1R (st : St) : T1 := ⟨slotI st 9, slotI st 8, cellR st 1 0, cellR st 1 1⟩
noncomputable def t2I (l0 l1 l2 : List E) (y : T2) : St := stOf Try.f7.ntmps [(0, .sl none (.recs (.int .i64 (.int .i64 (.int .i64 .nil))) l0)), (1, .sl none (.recs (.int .i64 (.int .i64 (.int .i64 (.int .i64 (.ints .u8 .nil))))) l1)), (2, .sl none (.recs (.int .i64 (.int .i64 (.int .i64 (.int .i64 (.int .i64 .nil))))) l2)), (7, .ptr 1 0), (8, .val (.int .i64 y.e)), (10, .sl (some (2, 9)) (.recs (.str .nil) y.p)), (11, .val (.int .i64 y.i))] [(1, .cells 25 [.sl none (.recs (.int .i64 (.int .i64 (.ints .u8 (.bool .nil)))) y.f), .sl none (.recs (.int .i64 (.int .i64 (.int .i64 .nil))) y.u)]), (2, .tok)] [Any, Any, Any]
def t2R (st : St) : T2 := ⟨slotI st 11, slotI st 8, cellR st 1 0, cellR st 1 1, slotR st 10⟩
noncomputable def t3I (l0 l1 l2 : List E) (e i : Int) (f u p : List E) (g : FF) (y : T3) : St := stOf Try.f7.ntmps [(0, .sl none (.recs (.int .i64 (.int .i64 (.int .i64 .nil))) l0)), (1, .sl none (.recs (.int .i64 (.int .i64 (.int .i64 (.int .i64 (.ints .u8 .nil))))) l1)), (2, .sl none (.recs (.int .i64 (.int .i64 (.int .i64 (.int .i64 (.int .i64 .nil))))) l2)), (7, .ptr 1 0), (8, .val (.int .i64 e)), (10, .sl (some (2, 9)) (.recs (.str .nil) p)), (11, .val (.int .i64 i)), (13, .ptr 3 0), (17, .val (.bool y.s)), (18, .val (.int .i64 y.j))] [(1, .cells 25 [.sl none (.recs (.int .i64 (.int .i64 (.ints .u8 (.bool .nil)))) f), .sl none (.recs (.int .i64 (.int .i64 (.int .i64 .nil))) u)]), (2, .tok), (3, .cells 32 [.val (.int .i64 g.a), .val (.int .i64 g.b), .sl none (.ints .u8 g.l), .val (.bool g.x)])] [Any, Any, Any]
def t3R (st : St) : T3 := ⟨slotI st 18, slotB st 17⟩
set_option maxHeartbeats 4000000 in
set_option cbv.maxSteps 4000000 in
set_option maxRecDepth 100000 in
theorem x_law (a0 : List E) (a1 : List E) (a2 : List E) (w1 : ∀ y ∈ a1, ∀ n ∈ rl y 4, 0 ≤ n ∧ n ≤ 255) (_hZ : sized [.one (.sl none (.recs (.int .i64 (.int .i64 (.int .i64 .nil))) a0)), .one (.sl none (.recs (.int .i64 (.int .i64 (.int .i64 (.int .i64 (.ints .u8 .nil))))) a1)), .one (.sl none (.recs (.int .i64 (.int .i64 (.int .i64 (.int .i64 (.int .i64 .nil))))) a2))]) : Does [(10, dnil [[some (.recs (.int .i64 (.int .i64 (.ints .u8 (.bool .nil)))) []), some (.recs (.int .i64 (.int .i64 (.int .i64 .nil))) [])], [none, none, none, none, none]] (c_ado SkN.Sn.std)), (16, c_aput SkP.Sp.std), (22, c_rmay Qs.std), (23, c_rbytes Qs.std), (24, c_rdecode Qs.std), (9, c_awake SkA.Sa.std)] Try.f7 [.one (.sl none (.recs (.int .i64 (.int .i64 (.int .i64 .nil))) a0)), .one (.sl none (.recs (.int .i64 (.int .i64 (.int .i64 (.int .i64 (.ints .u8 .nil))))) a1)), .one (.sl none (.recs (.int .i64 (.int .i64 (.int .i64 (.int .i64 (.int .i64 .nil))))) a2))] [] ⟨True, .sa (B true), [], [Any, Any, Any]⟩ := by
  intro b gv
  have hfs := (FsOk.cons (dnil_ok [[some (.recs (.int .i64 (.int .i64 (.ints .u8 (.bool .nil)))) []), some (.recs (.int .i64 (.int .i64 (.int .i64 .nil))) [])], [none, none, none, none, none]] ok_ado) (FsOk.cons ok_aput (FsOk.cons ok_rmay (FsOk.cons ok_rbytes (FsOk.cons ok_rdecode (FsOk.cons ok_awake FsOk.nil rfl) rfl) rfl) rfl) rfl) rfl)
  generalize hF : SkA.Sa.std = F at hfs ⊢
  generalize hG0 : SkD.Sd.std = G0 at hfs ⊢
  generalize hG1 : SkS.Ss.std = G1 at hfs ⊢
  generalize hG2 : SkQ.Sq.std = G2 at hfs ⊢
  generalize hG3 : SkN.Sn.std = G3 at hfs ⊢
  generalize hG4 : SkY.Sy.std = G4 at hfs ⊢
  generalize hG5 : SkP.Sp.std = G5 at hfs ⊢
  generalize hG6 : SkU.Su.std = G6 at hfs ⊢
  generalize hG7 : Qs.std = G7 at hfs ⊢
  generalize hA : Ar.std = A
  generalize hL : Lp _ _ _ = L
  obtain ⟨Z, zq⟩ := z_all
  refine @cd_open _ _ _ _ _ _ _ (lp_mono hL) _ _ zq rfl ?_
  repeat' (first
    | (refine z_open zq ?_; try dsimp only)
    | refine cd_seq zq ?_ (lp_mono hL)
    | refine cd_blk zq ?_
    | refine cd_ret ?_
    | refine cd_skip ?_
    | refine cd_exit ?_
    | refine cd_loop ?_
    | refine cd_cond rfl ?_
    | refine cd_condT rfl ?_
    | refine cd_condF rfl ?_
    | (refine Cd.mk ?_; cbv)
    | (refine Ends1.mk ?_; cbv)
    | (refine Fin1.mk ?_; cbv)
    | exact trivial
    | refine And.intro ?_ ?_
    | refine orf fun _ => ?_
    | refine ort fun _ => ?_)
  skip -- hfs
  all_goals first | (show L _ _ _; skip) | (clear hL zq Z _hZ; (try clear hfs); subst hA hF hG0 hG1 hG2 hG3 hG4 hG5 hG6 hG7; (try simp only [Ar.std] at *) <;> grind [stdCmp]; done)
  rename_i hx
  have hsz : a0.length ≤ 20 ∧ a1.length ≤ 40 ∧ a2.length ≤ 150 := by
    clear hL zq Z _hZ hfs
    subst hA
    simp only [Ar.std] at hx
    grind [stdCmp]
  subst hL
  refine loop_z (cx_ok hfs) (t1Q a0) (t1I a0 a1 a2) (t1M a0) t1R ⟨0, 0, [], []⟩ ?_ ?_ ?_
  · exact t1_zero _
  · cbv
    repeat' (first | exact trivial | exact rfl | refine And.intro ?_ ?_)
  rintro ⟨i, e, f, u⟩ hq O hO
  have hst := fun h => t1_step (show a0.length ≤ 1000000 by omega) hq h (ri (a0.getD i.toNat []) 0) (ri (a0.getD i.toNat []) 1) (ri (a0.getD i.toNat []) 2)
  have hen := t2_zero (os := a2.length) hq
  have q0 := hq.1
  have q1 := hq.2.1
  dsimp only at q0 q1
  subst hA
  generalize hA : Ar.std = A
  generalize hL : Lp _ _ _ = L
  refine cd_close zq ?_
  repeat' (first
    | (refine z_open zq ?_; try dsimp only)
    | refine cd_seq zq ?_ (lp_mono hL)
    | refine cd_blk zq ?_
    | refine cd_ret ?_
    | refine cd_skip ?_
    | refine cd_exit ?_
    | refine cd_loop ?_
    | refine cd_cond rfl ?_
    | refine cd_condT rfl ?_
    | refine cd_condF rfl ?_
    | (refine Cd.mk ?_; cbv)
    | (refine Ends1.mk ?_; cbv)
    | (refine Fin1.mk ?_; cbv)
    | exact trivial
    | refine And.intro ?_ ?_
    | refine orf fun _ => ?_
    | refine ort fun _ => ?_)
  all_goals first | (show L _ _ _; skip) | (clear hL zq Z _hZ hq; (try clear hfs); subst hA hF hG0 hG1 hG2 hG3 hG4 hG5 hG6 hG7 hO; (try simp only [SkN.Sn.std, Ar.std] at *) <;> grind [stdCmp]; done)
  subst hL
  refine loop_z (cx_ok hfs) (t2Q a2.length) (t2I a0 a1 a2) (t2M a2.length) t2R ⟨0, e, f, u, []⟩ ?_ ?_ ?_
  · exact hen.2
  · cbv
    repeat' (first | exact trivial | exact rfl | refine And.intro ?_ ?_)
  rintro ⟨i2, e2, f2, u2, p2⟩ hq2 O2 hO2
  have hin := fun h => t2_in hsz.2.2 hq2 h
  have hrm := fun h0 h => rm_in (i := i2) a0.length h0 h
  have hpu := fun h hm hl => t2_put hsz.2.2 hq2 h (ri (a0.getD (stdBin .rem .i64 i2 a0.length).toNat []) 0) (ri (a0.getD (stdBin .rem .i64 i2 a0.length).toNat []) 1) (k := (ri (a1.getD i2.toNat []) 0)) (s := (ri (a1.getD i2.toNat []) 1)) (q := (ri (a1.getD i2.toNat []) 2)) (c := (ri (a1.getD i2.toNat []) 3)) (pl := (rl (a1.getD i2.toNat []) 4)) hm (pay_at w1 i2.toNat) hl
  have hdA := fun h => t2_do hsz.2.2 (t2_in hsz.2.2 hq2 h).2.2.2 (ri (a2.getD i2.toNat []) 0) (ri (a2.getD i2.toNat []) 1) (ri (a2.getD i2.toNat []) 2) (ri (a2.getD i2.toNat []) 3) (ri (a2.getD i2.toNat []) 4)
  have hdB := fun h hm hl => t2_do hsz.2.2 (hpu h hm hl).2.2.2 (ri (a2.getD i2.toNat []) 0) (ri (a2.getD i2.toNat []) 1) (ri (a2.getD i2.toNat []) 2) (ri (a2.getD i2.toNat []) 3) (ri (a2.getD i2.toNat []) 4)
  have hmA := fun n f u p => (show ∀ h : i2 < a2.length, t2M a2.length ⟨i2 + 1, n, f, u, p⟩ < t2M a2.length ⟨i2, e2, f2, u2, p2⟩ from fun h => by have := hq2.1; simp only [t2M] at this ⊢; omega)
  have hp2 : p2.length ≤ 151 := by have h1 := hq2.2.1; have h2 := hq2.2.2.2.2; simp only at h1 h2; omega
  have r0 := hq2.1
  have r1 := hq2.2.1
  have r2 : e2 = 0 := hq2.2.2.1
  dsimp only at r0 r1
  subst hA
  generalize hA : Ar.std = A
  generalize hL : Lp _ _ _ = L
  refine cd_close zq ?_
  repeat' (first
    | (refine z_open zq ?_; try dsimp only)
    | refine cd_seq zq ?_ (lp_mono hL)
    | refine cd_blk zq ?_
    | refine cd_ret ?_
    | refine cd_skip ?_
    | refine cd_exit ?_
    | refine cd_loop ?_
    | refine cd_cond rfl ?_
    | refine cd_condT rfl ?_
    | refine cd_condF rfl ?_
    | (refine Cd.mk ?_; cbv)
    | (refine Ends1.mk ?_; cbv)
    | (refine Fin1.mk ?_; cbv)
    | exact trivial
    | refine And.intro ?_ ?_
    | refine orf fun _ => ?_
    | refine ort fun _ => ?_)
  all_goals first | (show L _ _ _; skip) | (clear hL zq Z _hZ hq hq2; (try clear hfs); subst hA hF hG0 hG1 hG2 hG3 hG4 hG5 hG6 hG7 hO hO2; (try simp only [SkN.Sn.std, SkP.Sp.std, Qs.std, Ar.std] at *) <;> grind [stdCmp]; done)
  · skip
    subst hL
    refine loop_z (cx_ok hfs) (t3Q (p2 ++ [[.str ((CrcR.sealI (bodyF (ri (a1.getD i2.toNat []) 0) (ri (a1.getD i2.toNat []) 1) (ri (a1.getD i2.toNat []) 2) (ri (a1.getD i2.toNat []) 3) (rl (a1.getD i2.toNat []) 4))).map (fun n => ((UInt8.ofNat n.toNat).toNat : Int)))]]) ((adG (puF f2 u2 (ri (a0.getD (stdBin .rem .i64 i2 a0.length).toNat []) 0) (ri (a0.getD (stdBin .rem .i64 i2 a0.length).toNat []) 1) (CrcR.sealI (bodyF (ri (a1.getD i2.toNat []) 0) (ri (a1.getD i2.toNat []) 1) (ri (a1.getD i2.toNat []) 2) (ri (a1.getD i2.toNat []) 3) (rl (a1.getD i2.toNat []) 4))) false) (puU f2 u2) (ri (a2.getD i2.toNat []) 0) (ri (a2.getD i2.toNat []) 1) (ri (a2.getD i2.toNat []) 2) (ri (a2.getD i2.toNat []) 3)).l.map (fun n => ((UInt8.ofNat n.toNat).toNat : Int)))) (t3I a0 a1 a2 (G3.n_e (G5.p_f f2 u2 (A.ri (A.atE a0 (A.bin .rem .i64 i2 (A.lenE a0))) 0) (A.ri (A.atE a0 (A.bin .rem .i64 i2 (A.lenE a0))) 1) (G7.q_seal (A.ri (A.atE a1 i2) 0) (A.ri (A.atE a1 i2) 1) (A.ri (A.atE a1 i2) 2) (A.ri (A.atE a1 i2) 3) (A.rl (A.atE a1 i2) 4)) false) (G5.p_u f2 u2)) i2 (G3.n_f (G5.p_f f2 u2 (A.ri (A.atE a0 (A.bin .rem .i64 i2 (A.lenE a0))) 0) (A.ri (A.atE a0 (A.bin .rem .i64 i2 (A.lenE a0))) 1) (G7.q_seal (A.ri (A.atE a1 i2) 0) (A.ri (A.atE a1 i2) 1) (A.ri (A.atE a1 i2) 2) (A.ri (A.atE a1 i2) 3) (A.rl (A.atE a1 i2) 4)) false) (G5.p_u f2 u2) (A.ri (A.atE a2 i2) 0) (A.ri (A.atE a2 i2) 1) (A.ri (A.atE a2 i2) 2) (A.ri (A.atE a2 i2) 3) (A.ri (A.atE a2 i2) 4)) (G3.n_u (G5.p_f f2 u2 (A.ri (A.atE a0 (A.bin .rem .i64 i2 (A.lenE a0))) 0) (A.ri (A.atE a0 (A.bin .rem .i64 i2 (A.lenE a0))) 1) (G7.q_seal (A.ri (A.atE a1 i2) 0) (A.ri (A.atE a1 i2) 1) (A.ri (A.atE a1 i2) 2) (A.ri (A.atE a1 i2) 3) (A.rl (A.atE a1 i2) 4)) false) (G5.p_u f2 u2) (A.ri (A.atE a2 i2) 0) (A.ri (A.atE a2 i2) 1) (A.ri (A.atE a2 i2) 2) (A.ri (A.atE a2 i2) 4)) (A.appE p2 [[.str (A.byt (G7.q_seal (A.ri (A.atE a1 i2) 0) (A.ri (A.atE a1 i2) 1) (A.ri (A.atE a1 i2) 2) (A.ri (A.atE a1 i2) 3) (A.rl (A.atE a1 i2) 4)))]]) (G3.n_g (G5.p_f f2 u2 (A.ri (A.atE a0 (A.bin .rem .i64 i2 (A.lenE a0))) 0) (A.ri (A.atE a0 (A.bin .rem .i64 i2 (A.lenE a0))) 1) (G7.q_seal (A.ri (A.atE a1 i2) 0) (A.ri (A.atE a1 i2) 1) (A.ri (A.atE a1 i2) 2) (A.ri (A.atE a1 i2) 3) (A.rl (A.atE a1 i2) 4)) false) (G5.p_u f2 u2) (A.ri (A.atE a2 i2) 0) (A.ri (A.atE a2 i2) 1) (A.ri (A.atE a2 i2) 2) (A.ri (A.atE a2 i2) 3))) (t3M (p2 ++ [[.str ((CrcR.sealI (bodyF (ri (a1.getD i2.toNat []) 0) (ri (a1.getD i2.toNat []) 1) (ri (a1.getD i2.toNat []) 2) (ri (a1.getD i2.toNat []) 3) (rl (a1.getD i2.toNat []) 4))).map (fun n => ((UInt8.ofNat n.toNat).toNat : Int)))]])) t3R ⟨0, false⟩ ?_ ?_ ?_
    · exact t3_zero _ _
    · cbv
      repeat' (first | exact trivial | exact rfl | refine And.intro ?_ ?_)
    rintro ⟨j, s⟩ hq3 O3 hO3
    have hst3 := fun hp h => t3_step (p := (p2 ++ [[.str ((CrcR.sealI (bodyF (ri (a1.getD i2.toNat []) 0) (ri (a1.getD i2.toNat []) 1) (ri (a1.getD i2.toNat []) 2) (ri (a1.getD i2.toNat []) 3) (rl (a1.getD i2.toNat []) 4))).map (fun n => ((UInt8.ofNat n.toNat).toNat : Int)))]])) hp hq3 h
    have hen3 := fun h hg => t3_end (p := (p2 ++ [[.str ((CrcR.sealI (bodyF (ri (a1.getD i2.toNat []) 0) (ri (a1.getD i2.toNat []) 1) (ri (a1.getD i2.toNat []) 2) (ri (a1.getD i2.toNat []) 3) (rl (a1.getD i2.toNat []) 4))).map (fun n => ((UInt8.ofNat n.toNat).toNat : Int)))]])) hq3 h hg
    have s0 := hq3.1
    have s1 := hq3.2.1
    dsimp only at s0 s1
    subst hA
    generalize hA : Ar.std = A
    generalize hL : Lp _ _ _ = L
    refine cd_close zq ?_
    repeat' (first
      | (refine z_open zq ?_; try dsimp only)
      | refine cd_seq zq ?_ (lp_mono hL)
      | refine cd_blk zq ?_
      | refine cd_ret ?_
      | refine cd_skip ?_
      | refine cd_exit ?_
      | refine cd_loop ?_
      | refine cd_cond rfl ?_
      | refine cd_condT rfl ?_
      | refine cd_condF rfl ?_
      | (refine Cd.mk ?_; cbv)
      | (refine Ends1.mk ?_; cbv)
      | (refine Fin1.mk ?_; cbv)
      | exact trivial
      | refine And.intro ?_ ?_
      | refine orf fun _ => ?_
      | refine ort fun _ => ?_)
    all_goals (clear hL zq Z _hZ hq hq2 hq3; (try clear hfs); subst hA hF hG0 hG1 hG2 hG3 hG4 hG5 hG6 hG7 hO hO2 hO3; (try simp only [SkN.Sn.std, SkP.Sp.std, Qs.std, Ar.std] at *) <;> grind [stdCmp]; done)
  · skip
    subst hL
    refine loop_z (cx_ok hfs) (t3Q p2 ((adG f2 u2 (ri (a2.getD i2.toNat []) 0) (ri (a2.getD i2.toNat []) 1) (ri (a2.getD i2.toNat []) 2) (ri (a2.getD i2.toNat []) 3)).l.map (fun n => ((UInt8.ofNat n.toNat).toNat : Int)))) (t3I a0 a1 a2 (G3.n_e f2 u2) i2 (G3.n_f f2 u2 (A.ri (A.atE a2 i2) 0) (A.ri (A.atE a2 i2) 1) (A.ri (A.atE a2 i2) 2) (A.ri (A.atE a2 i2) 3) (A.ri (A.atE a2 i2) 4)) (G3.n_u f2 u2 (A.ri (A.atE a2 i2) 0) (A.ri (A.atE a2 i2) 1) (A.ri (A.atE a2 i2) 2) (A.ri (A.atE a2 i2) 4)) p2 (G3.n_g f2 u2 (A.ri (A.atE a2 i2) 0) (A.ri (A.atE a2 i2) 1) (A.ri (A.atE a2 i2) 2) (A.ri (A.atE a2 i2) 3))) (t3M p2) t3R ⟨0, false⟩ ?_ ?_ ?_
    · exact t3_zero _ _
    · cbv
      repeat' (first | exact trivial | exact rfl | refine And.intro ?_ ?_)
    rintro ⟨j, s⟩ hq3 O3 hO3
    have hst3 := fun hp h => t3_step (p := p2) hp hq3 h
    have hen3 := fun h hg => t3_end (p := p2) hq3 h hg
    have s0 := hq3.1
    have s1 := hq3.2.1
    dsimp only at s0 s1
    subst hA
    generalize hA : Ar.std = A
    generalize hL : Lp _ _ _ = L
    refine cd_close zq ?_
    repeat' (first
      | (refine z_open zq ?_; try dsimp only)
      | refine cd_seq zq ?_ (lp_mono hL)
      | refine cd_blk zq ?_
      | refine cd_ret ?_
      | refine cd_skip ?_
      | refine cd_exit ?_
      | refine cd_loop ?_
      | refine cd_cond rfl ?_
      | refine cd_condT rfl ?_
      | refine cd_condF rfl ?_
      | (refine Cd.mk ?_; cbv)
      | (refine Ends1.mk ?_; cbv)
      | (refine Fin1.mk ?_; cbv)
      | exact trivial
      | refine And.intro ?_ ?_
      | refine orf fun _ => ?_
      | refine ort fun _ => ?_)
    all_goals (clear hL zq Z _hZ hq hq2 hq3; (try clear hfs); subst hA hF hG0 hG1 hG2 hG3 hG4 hG5 hG6 hG7 hO hO2 hO3; (try simp only [SkN.Sn.std, Qs.std, Ar.std] at *) <;> grind [stdCmp]; done)
theorem walk (a0 : List E) (a1 : List E) (a2 : List E) (A0 : Option Addr) (n0 c0 : Nat) (A1 : Option Addr) (n1 c1 : Nat) (A2 : Option Addr) (n2 c2 : Nat) (w : World) (r0 : (SC.sl none (.recs (.int .i64 (.int .i64 (.int .i64 .nil))) a0)).is (G0 w) (.slice A0 n0 c0)) (_ : ∀ y ∈ a0, wfS (.int .i64 (.int .i64 (.int .i64 .nil))) y 0) (_ : a0.length ≤ 140737488355328) (r1 : (SC.sl none (.recs (.int .i64 (.int .i64 (.int .i64 (.int .i64 (.ints .u8 .nil))))) a1)).is (G0 w) (.slice A1 n1 c1)) (w1 : ∀ y ∈ a1, wfS (.int .i64 (.int .i64 (.int .i64 (.int .i64 (.ints .u8 .nil))))) y 0) (_ : a1.length ≤ 140737488355328) (r2 : (SC.sl none (.recs (.int .i64 (.int .i64 (.int .i64 (.int .i64 (.int .i64 .nil))))) a2)).is (G0 w) (.slice A2 n2 c2)) (_ : ∀ y ∈ a2, wfS (.int .i64 (.int .i64 (.int .i64 (.int .i64 (.int .i64 .nil))))) y 0) (_ : a2.length ≤ 140737488355328) : Calls Try.prog 7 #[.slice A0 n0 c0, .slice A1 n1 c1, .slice A2 n2 c2] w (Law.Yes w) :=
  yes_of (FsOk.cons (dnil_ok [[some (.recs (.int .i64 (.int .i64 (.ints .u8 (.bool .nil)))) []), some (.recs (.int .i64 (.int .i64 (.int .i64 .nil))) [])], [none, none, none, none, none]] ok_ado) (FsOk.cons ok_aput (FsOk.cons ok_rmay (FsOk.cons ok_rbytes (FsOk.cons ok_rdecode (FsOk.cons ok_awake FsOk.nil rfl) rfl) rfl) rfl) rfl) rfl) Try.func7 rfl (vs := [.slice A0 n0 c0, .slice A1 n1 c1, .slice A2 n2 c2]) (by exact ⟨r0, r1, r2, trivial⟩) (lee_le rfl) fun hZ => x_law a0 a1 a2 (pays w1) hZ
theorem own : ownKnob Try.prog.godebug = none := by kernel_rfl
theorem laidOut : laidOutB Try.prog = true := by kernel_rfl
set_option maxRecDepth 100000 in
theorem lifted (os : Os) (started : os.Started) (H : Type) (enc : TypeId × Value → H) :
    ReturnsInHanded {} Try.checked os 7 .any (Rows.airBendsSpec.pre6 enc Try.prog Try.f7 Rows.airBendsRow.domain false) (Rows.airBendsSpec.post enc Try.prog Try.f7 false true false false) := by
  refine returnsInHanded_of_change_sized (C := Try.checked) own started (by kernel_rfl) Try.func7
    (ChangeSpec.witness6 (enc := enc) (C := Try.checked) false ⟨#[], #[.slice none 0 0, .slice none 0 0, .slice none 0 0], []⟩ 8 (by kernel_rfl) (by kernel_rfl) (by kernel_rfl) (by kernel_rfl)) ?_
  intro W base args ds gs before hval0 hW _ hz _
  have hval : ∀ (j : Nat) t v, Try.f7.params[j]? = some t → args[j]? = some v → Value.okWide Try.prog W .any base t v := hval0
  have hW' := hW
  obtain ⟨p, q, hA0, hV, rfl, _, _⟩ := hW
  have hA : DataW.TrodAll enc Try.prog W 0 (fun _ => true) true Try.f7.params.toList args.toList ds p := hA0
  rw [Try.params7] at hA hval
  obtain ⟨v0, v1, v2, d0, d1, d2, p0, p1, p2, rfl, rfl, rfl, h0, h1, h2⟩ := trodAll_three hA
  obtain ⟨rfl, rfl⟩ := trodVars_none hV
  obtain ⟨A0, n0, c0, a0, rfl, l0, r0, w0⟩ := sl_any (s := .int .i64 (.int .i64 (.int .i64 .nil))) Try.underlying23 (by kernel_rfl) (by kernel_rfl) (hval 0 23 v0 rfl rfl) h0
  have s0 : a0.length ≤ 140737488355328 := by rw [l0]; exact short_of Try.underlying23 (by decide +kernel) hz (j := 0) rfl rfl h0
  obtain ⟨A1, n1, c1, a1, rfl, l1, r1, w1⟩ := sl_any (s := .int .i64 (.int .i64 (.int .i64 (.int .i64 (.ints .u8 .nil))))) Try.underlying55 (by kernel_rfl) (by kernel_rfl) (hval 1 55 v1 rfl rfl) h1
  have s1 : a1.length ≤ 140737488355328 := by rw [l1]; exact short_of Try.underlying55 (by decide +kernel) hz (j := 1) rfl rfl h1
  obtain ⟨A2, n2, c2, a2, rfl, l2, r2, w2⟩ := sl_any (s := .int .i64 (.int .i64 (.int .i64 (.int .i64 (.int .i64 .nil))))) Try.underlying51 (by kernel_rfl) (by kernel_rfl) (hval 2 51 v2 rfl rfl) h2
  have s2 : a2.length ≤ 140737488355328 := by rw [l2]; exact short_of Try.underlying51 (by decide +kernel) hz (j := 2) rfl rfl h2
  refine (walk a0 a1 a2 A0 n0 c0 A1 n1 c1 A2 n2 c2 W r0 w0 s0 r1 w1 s1 r2 w2 s2).mono fun e W' ⟨he, hb⟩ => ?_
  subst he
  exact ⟨_, rfl, law_post laidOut (by kernel_rfl) (by kernel_rfl) Try.underlying4 rfl hW' rfl hb⟩
theorem proved : Rows.AirBendsSaid :=
  OpenClaim.holds_of_wide 7 Try.f7 rfl rfl rfl rfl rfl rfl rfl ⟨rfl, rfl, rfl, rfl, rfl⟩ rfl rfl rfl rfl rfl (by kernel_rfl) Try.func7 (by kernel_rfl)
    (of_decide_eq_true (by kernel_rfl)) (by unfold Func.isWrapper; first | (rw [if_pos (by decide +kernel)]; kernel_rfl) | (rw [if_neg (by decide +kernel)]; exact ⟨rfl, rfl⟩))
    (fun os started H enc _ => lifted os started H enc)
end Go.Proofs.Ytphbfoafgfnmmaa.AirBends
