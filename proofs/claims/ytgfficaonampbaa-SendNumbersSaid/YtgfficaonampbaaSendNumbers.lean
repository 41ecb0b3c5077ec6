/-
  SendNumbers: for every input the call tells true, and nothing that was there turns. No condition.
-/
import Derived.Test.YtgfficaonampbaaRows
import Derived.Test.YtgfficaonampbaaLaw
import Derived.Test.YtgfficaonampbaaRyIn
import Derived.Test.YtgfficaonampbaaRyZ
import Derived.Test.YtgfficaonampbaaSeW
namespace Go.Proofs.Ytgfficaonampbaa.SendNumbers
open Go Go.Proofs.Ytgfficaonampbaa.Ry Go.Proofs.Ytgfficaonampbaa.Law Go.Proofs.Ytgfficaonampbaa.SeW Go.Proofs.Ytgfficaonampbaa.SeR Go.Proofs.Ytgfficaonampbaa.SeS Go.Proofs.Ytgfficaonampbaa.SeT Go.Proofs.Ytgfficaonampbaa.SeU Go.Proofs.Ytgfficaonampbaa.SeL Go.Proofs.Ytgfficaonampbaa.SeV
open Go.ChangeShapes Go.WideShapes Go.ChangeAt Go.Joins Go.RowKit
theorem rows {x : E} (w : wfS (.int .i64 (.int .i64 (.recs (.ints .u8 .nil) (.int .i64 .nil)))) x 0) : ∀ y ∈ rr x 2, ∀ n ∈ rl y 0, 0 ≤ n ∧ n ≤ 255 := fun y hy n hn => wf8 ((w.2.2.1 y hy).1 n hn)
noncomputable def soI (a : List Int) (y : XO) : St := stOf Try.f14.ntmps [(1, .sl none (.ints .i64 a)), (2, .ptr 1 0), (5, .val (.int .i64 y.f)), (6, .val (.int .i64 y.i))] [(1, .cells 73 [.val (.int .i64 y.b), .val (.int .i64 y.s), .sl none (.recs (.ints .u8 .nil) y.q), .val (.int .i64 y.c)])] [Any, Any]
def soR (st : St) : XO := ⟨slotI st 6, slotI st 5, valI (cellC st 2 0), valI (cellC st 2 1), valR st.heap (cellC st 2 2), valI (cellC st 2 3)⟩
noncomputable def siI (a : List Int) (i f B S : Int) (Q : List E) (C : Int) (l : List E) (y : XJ) : St := stOf Try.f14.ntmps [(1, .sl none (.ints .i64 a)), (2, .ptr 1 0), (5, .val (.int .i64 f)), (6, .val (.int .i64 i)), (7, .sl none (.recs (.int .i64 (.ints .u8 .nil)) l)), (13, .val (.int .i64 y.k))] [(1, .cells 73 [.val (.int .i64 B), .val (.int .i64 S), .sl none (.recs (.ints .u8 .nil) Q), .val (.int .i64 C)])] [Any, Any]
def siR (st : St) : XJ := ⟨slotI st 13⟩
set_option maxHeartbeats 4000000 in
set_option maxRecDepth 100000 in
theorem x_law (a0 : E) (a1 : List Int) (w0 : ∀ y ∈ rr a0 2, ∀ n ∈ rl y 0, 0 ≤ n ∧ n ≤ 255) (_ : sized [.agg (shCells Ar.std (.int .i64 (.int .i64 (.recs (.ints .u8 .nil) (.int .i64 .nil)))) a0 0 4), .one (.sl none (.ints .i64 a1))]) : Does [(41, c_light Us.std), (49, c_ready Gs.std), (46, c_rmay Fs.std), (43, c_push Gs.std), (54, c_ack Gs.std), (42, c_awake Gs.std), (50, c_tick Vs.std)] Try.f14 [.agg (shCells Ar.std (.int .i64 (.int .i64 (.recs (.ints .u8 .nil) (.int .i64 .nil)))) a0 0 4), .one (.sl none (.ints .i64 a1))] [] ⟨True, .sa (B true), [], [Any, Any]⟩ := by
  intro b gv
  have hfs := (FsOk.cons ok_light (FsOk.cons ok_ready (FsOk.cons ok_rmay (FsOk.cons ok_push (FsOk.cons ok_ack (FsOk.cons ok_awake (FsOk.cons ok_tick FsOk.nil rfl) rfl) rfl) rfl) rfl) rfl) rfl)
  generalize hF : Vs.std = F at hfs ⊢
  generalize hG0 : Fs.std = G0 at hfs ⊢
  generalize hG1 : Gs.std = G1 at hfs ⊢
  generalize hG2 : Hs.std = G2 at hfs ⊢
  generalize hG3 : Us.std = G3 at hfs ⊢
  generalize hG4 : Ls.std = G4 at hfs ⊢
  generalize hA : Ar.std = A
  generalize hL : Lp _ _ _ = L
  obtain ⟨Z, zq⟩ := z_all
  refine cd_open (lp_mono hL) zq rfl ?_
  repeat' (first
    | (refine z_open zq ?_; try dsimp only)
    | refine cd_seq zq ?_ (lp_mono hL)
    | refine cd_blk zq ?_
    | refine cd_ret ?_
    | refine cd_skip ?_
    | refine cd_exit ?_
    | refine cd_loop ?_
    | refine cd_cond rfl ?_
    | refine cd_condT rfl ?_
    | refine cd_condF rfl ?_
    | (refine Cd.mk ?_; cbv)
    | (refine Ends1.mk ?_; cbv)
    | (refine Fin1.mk ?_; cbv)
    | exact trivial
    | refine And.intro ?_ ?_
    | refine orf fun _ => ?_
    | refine ort fun _ => ?_)
  all_goals first | (show L _ _ _; skip) | (clear hL zq Z hfs; subst hF hA hG0 hG1 hG2 hG3 hG4; simp only [Us.std, Fs.std, Ar.std] at *; grind [stdCmp, li_len]; done)
  rename_i hx
  have hin : maySn (ri a0 0) (ri a0 1) (rr a0 2) (ri a0 3) = true ∧ (rr a0 2).length ≤ 300 ∧ ri a0 0 ≤ 1000000 := by
    clear hL zq Z hfs
    have hl := li_len (q := rr a0 2)
    subst hF hA hG0 hG1 hG2 hG3 hG4
    simp only [Us.std, Fs.std, Ar.std] at hx
    grind [stdCmp]
  clear hx
  subst hL
  refine loop_z (cx_ok hfs) (soQ a1) (soI a1) soM soR ⟨0, A.lenE (A.rr a0 2), A.ri a0 0, A.ri a0 1, A.rr a0 2, A.ri a0 3⟩ ?_ ?_ ?_
  · subst hA
    exact ⟨Int.le_refl 0, Int.natCast_nonneg _, show (0 : Int) ≤ 60 by decide, hin.1, decide_eq_true ⟨show (rr a0 2).length ≤ 100000 by have := hin.2.1; omega, w0⟩, rfl, show ri a0 0 ≤ 1000000 + 20 * 0 by have := hin.2.2; omega⟩
  · cbv
    repeat' (first | exact trivial | exact rfl | refine And.intro ?_ ?_)
  clear hin
  rintro ⟨i, f, b1, s1, q1, c1⟩ hq O hO
  obtain ⟨i0, i1, i2, hm, hy, hf, hb⟩ := id hq
  dsimp only at i0 i1 i2 hm hy hf hb
  have hm2 := may_ok hm
  have hb0 : 0 ≤ b1 := hm2.2.2.1
  have hb2 : b1 ≤ 2000000 := by omega
  have hq1 := hm2.2.1
  have f1 := sn_ready hm hy
  have f2 := sn_tick hm hy
  have f3 := sn_push hm hy hb2
  have f4 := fun h => sn_ack hm hy hb2 (ack_in b1 (a1.getD i.toNat 0) hb0 hb2 h)
  have g1 := nx_out f1
  have g2 := nx_out f2
  have g3 := fun h => nx_out (f3.1 h)
  have g3' := f3.2
  have g4 := fun h => nx_out (f4 h)
  have hlq : q1.length ≤ 100000 := by omega
  subst hA
  generalize hA : Ar.std = A
  generalize hL : Lp _ _ _ = L
  refine cd_close zq ?_
  repeat' (first
    | (refine z_open zq ?_; try dsimp only)
    | refine cd_seq zq ?_ (lp_mono hL)
    | refine cd_blk zq ?_
    | refine cd_ret ?_
    | refine cd_skip ?_
    | refine cd_exit ?_
    | refine cd_loop ?_
    | refine cd_cond rfl ?_
    | refine cd_condT rfl ?_
    | refine cd_condF rfl ?_
    | (refine Cd.mk ?_; cbv)
    | (refine Ends1.mk ?_; cbv)
    | (refine Fin1.mk ?_; cbv)
    | exact trivial
    | refine And.intro ?_ ?_
    | refine orf fun _ => ?_
    | refine ort fun _ => ?_)
  all_goals first | (show L _ _ _; skip) | (clear hL zq Z hfs hq f1 f2 f3 f4; subst hF hA hG0 hG1 hG2 hG3 hG4 hO; simp only [Vs.std, Gs.std, Ar.std] at *; grind [stdCmp, b_add, b_sub, wr]; done)
  · rename_i hchk
    clear hchk
    have hn : Nx b1 q1.length 0 (G1.g_rdy b1 s1 q1 c1) (G1.g_rdyN b1 s1 q1 c1) := by
      subst hF hG1 hA
      exact f1
    have hi : i < a1.length ∧ i < 60 := by
      clear hL zq Z hfs hq f1 f2 f3 f4 g1 g2 g3 g4 hn
      subst hF hA hG0 hG1 hG2 hG3 hG4 hO
      simp only [Vs.std, Gs.std, Ar.std] at *
      grind [stdCmp]
    have ei : stdBin .add .i64 i 1 = i + 1 := by rw [b_add, wr _ (by omega) (by omega)]
    clear f1 f2 f3 f4 g1 g2 g3 g4
    subst hL
    refine loop_z (cx_ok hfs) (skQ (G1.g_rdyN b1 s1 q1 c1)) (siI a1 i (A.lenE (G1.g_rdy b1 s1 q1 c1).q) (G1.g_rdy b1 s1 q1 c1).b (G1.g_rdy b1 s1 q1 c1).s (G1.g_rdy b1 s1 q1 c1).q (G1.g_rdy b1 s1 q1 c1).c (G1.g_rdyN b1 s1 q1 c1)) (skM (G1.g_rdyN b1 s1 q1 c1)) siR ⟨0⟩ ?_ ?_ ?_
    · exact sk_zero _
    · cbv
      repeat' (first | exact trivial | exact rfl | refine And.intro ?_ ?_)
    rintro ⟨k⟩ hq2 U hU
    have hgo := fun h => sk_go hn hb0 hb2 hq2 h
    have hnx := so_next hq hn hi.1 hi.2
    have k0 := hq2.1
    have k1 := hq2.2
    dsimp only at k0 k1
    subst hA
    generalize hA : Ar.std = A
    generalize hL : Lp _ _ _ = L
    refine cd_close zq ?_
    repeat' (first
      | (refine z_open zq ?_; try dsimp only)
      | refine cd_seq zq ?_ (lp_mono hL)
      | refine cd_blk zq ?_
      | refine cd_ret ?_
      | refine cd_skip ?_
      | refine cd_exit ?_
      | refine cd_loop ?_
      | refine cd_cond rfl ?_
      | refine cd_condT rfl ?_
      | refine cd_condF rfl ?_
      | (refine Cd.mk ?_; cbv)
      | (refine Ends1.mk ?_; cbv)
      | (refine Fin1.mk ?_; cbv)
      | exact trivial
      | refine And.intro ?_ ?_
      | refine orf fun _ => ?_
      | refine ort fun _ => ?_)
    all_goals (clear hL hfs zq Z hq hq2 hn; subst hA hF hG0 hG1 hG2 hG3 hG4 hO hU; simp only [Vs.std, Gs.std, Ar.std, ei] at *)
    all_goals first
      | assumption
      | exact hnx
      | (simp only [soM]; omega)
      | exact (hgo (by assumption)).2.1
      | exact ((hgo (by assumption)).1 (by assumption)).1
      | exact ((hgo (by assumption)).1 (by assumption)).2
      | exact (hgo (by assumption)).2.2.2.2.2.1
      | exact (hgo (by assumption)).2.2.2.2.2.2
      | (exfalso; rename_i hz; have g := hgo (by assumption); rw [g.2.2.1, g.2.2.2.1, g.2.2.2.2.1] at hz; exact absurd hz (by decide))
      | (exfalso; rename_i hz _; have g := hgo (by assumption); rw [g.2.2.1, g.2.2.2.1, g.2.2.2.2.1] at hz; exact absurd hz (by decide))
      | (have g := hgo (by assumption); rw [g.2.2.1]; rfl)
      | (have g := hgo (by assumption); rw [g.2.2.1, g.2.2.2.1]; rfl)
  · rename_i hchk
    clear hchk
    have hn : Nx b1 q1.length 0 (F.v_tk b1 s1 q1 c1) (F.v_tkN b1 s1 q1 c1) := by
      subst hF hG1 hA
      exact f2
    have hi : i < a1.length ∧ i < 60 := by
      clear hL zq Z hfs hq f1 f2 f3 f4 g1 g2 g3 g4 hn
      subst hF hA hG0 hG1 hG2 hG3 hG4 hO
      simp only [Vs.std, Gs.std, Ar.std] at *
      grind [stdCmp]
    have ei : stdBin .add .i64 i 1 = i + 1 := by rw [b_add, wr _ (by omega) (by omega)]
    clear f1 f2 f3 f4 g1 g2 g3 g4
    subst hL
    refine loop_z (cx_ok hfs) (skQ (F.v_tkN b1 s1 q1 c1)) (siI a1 i (A.lenE (F.v_tk b1 s1 q1 c1).q) (F.v_tk b1 s1 q1 c1).b (F.v_tk b1 s1 q1 c1).s (F.v_tk b1 s1 q1 c1).q (F.v_tk b1 s1 q1 c1).c (F.v_tkN b1 s1 q1 c1)) (skM (F.v_tkN b1 s1 q1 c1)) siR ⟨0⟩ ?_ ?_ ?_
    · exact sk_zero _
    · cbv
      repeat' (first | exact trivial | exact rfl | refine And.intro ?_ ?_)
    rintro ⟨k⟩ hq2 U hU
    have hgo := fun h => sk_go hn hb0 hb2 hq2 h
    have hnx := so_next hq hn hi.1 hi.2
    have k0 := hq2.1
    have k1 := hq2.2
    dsimp only at k0 k1
    subst hA
    generalize hA : Ar.std = A
    generalize hL : Lp _ _ _ = L
    refine cd_close zq ?_
    repeat' (first
      | (refine z_open zq ?_; try dsimp only)
      | refine cd_seq zq ?_ (lp_mono hL)
      | refine cd_blk zq ?_
      | refine cd_ret ?_
      | refine cd_skip ?_
      | refine cd_exit ?_
      | refine cd_loop ?_
      | refine cd_cond rfl ?_
      | refine cd_condT rfl ?_
      | refine cd_condF rfl ?_
      | (refine Cd.mk ?_; cbv)
      | (refine Ends1.mk ?_; cbv)
      | (refine Fin1.mk ?_; cbv)
      | exact trivial
      | refine And.intro ?_ ?_
      | refine orf fun _ => ?_
      | refine ort fun _ => ?_)
    all_goals (clear hL hfs zq Z hq hq2 hn; subst hA hF hG0 hG1 hG2 hG3 hG4 hO hU; simp only [Vs.std, Gs.std, Ar.std, ei] at *)
    all_goals first
      | assumption
      | exact hnx
      | (simp only [soM]; omega)
      | exact (hgo (by assumption)).2.1
      | exact ((hgo (by assumption)).1 (by assumption)).1
      | exact ((hgo (by assumption)).1 (by assumption)).2
      | exact (hgo (by assumption)).2.2.2.2.2.1
      | exact (hgo (by assumption)).2.2.2.2.2.2
      | (exfalso; rename_i hz; have g := hgo (by assumption); rw [g.2.2.1, g.2.2.2.1, g.2.2.2.2.1] at hz; exact absurd hz (by decide))
      | (exfalso; rename_i hz _; have g := hgo (by assumption); rw [g.2.2.1, g.2.2.2.1, g.2.2.2.2.1] at hz; exact absurd hz (by decide))
      | (have g := hgo (by assumption); rw [g.2.2.1]; rfl)
      | (have g := hgo (by assumption); rw [g.2.2.1, g.2.2.2.1]; rfl)
  · rename_i hchk
    clear hchk
    have hn : Nx b1 q1.length 1 (G1.g_push b1 s1 q1 c1 [1] 2147483647) ([]) := by
      clear hL zq Z hfs hq f1 f2 f4 g1 g2 g3 g4
      subst hF hA hG0 hG1 hG2 hG3 hG4 hO
      refine f3.1 ?_
      clear f3
      simp only [Vs.std, Gs.std, Ar.std] at *
      grind [stdCmp]
    have hi : i < a1.length ∧ i < 60 := by
      clear hL zq Z hfs hq f1 f2 f3 f4 g1 g2 g3 g4 hn
      subst hF hA hG0 hG1 hG2 hG3 hG4 hO
      simp only [Vs.std, Gs.std, Ar.std] at *
      grind [stdCmp]
    have ei : stdBin .add .i64 i 1 = i + 1 := by rw [b_add, wr _ (by omega) (by omega)]
    clear f1 f2 f3 f4 g1 g2 g3 g4
    subst hL
    refine loop_z (cx_ok hfs) (skQ ([])) (siI a1 i (A.lenE (G1.g_push b1 s1 q1 c1 [1] 2147483647).q) (G1.g_push b1 s1 q1 c1 [1] 2147483647).b (G1.g_push b1 s1 q1 c1 [1] 2147483647).s (G1.g_push b1 s1 q1 c1 [1] 2147483647).q (G1.g_push b1 s1 q1 c1 [1] 2147483647).c ([])) (skM ([])) siR ⟨0⟩ ?_ ?_ ?_
    · exact sk_zero _
    · cbv
      repeat' (first | exact trivial | exact rfl | refine And.intro ?_ ?_)
    rintro ⟨k⟩ hq2 U hU
    have hgo := fun h => sk_go hn hb0 hb2 hq2 h
    have hnx := so_next hq hn hi.1 hi.2
    have k0 := hq2.1
    have k1 := hq2.2
    dsimp only at k0 k1
    subst hA
    generalize hA : Ar.std = A
    generalize hL : Lp _ _ _ = L
    refine cd_close zq ?_
    repeat' (first
      | (refine z_open zq ?_; try dsimp only)
      | refine cd_seq zq ?_ (lp_mono hL)
      | refine cd_blk zq ?_
      | refine cd_ret ?_
      | refine cd_skip ?_
      | refine cd_exit ?_
      | refine cd_loop ?_
      | refine cd_cond rfl ?_
      | refine cd_condT rfl ?_
      | refine cd_condF rfl ?_
      | (refine Cd.mk ?_; cbv)
      | (refine Ends1.mk ?_; cbv)
      | (refine Fin1.mk ?_; cbv)
      | exact trivial
      | refine And.intro ?_ ?_
      | refine orf fun _ => ?_
      | refine ort fun _ => ?_)
    all_goals (clear hL hfs zq Z hq hq2 hn; subst hA hF hG0 hG1 hG2 hG3 hG4 hO hU; simp only [Vs.std, Gs.std, Ar.std, ei] at *)
    all_goals first
      | assumption
      | exact hnx
      | (simp only [soM]; omega)
      | exact (hgo (by assumption)).2.1
      | exact ((hgo (by assumption)).1 (by assumption)).1
      | exact ((hgo (by assumption)).1 (by assumption)).2
      | exact (hgo (by assumption)).2.2.2.2.2.1
      | exact (hgo (by assumption)).2.2.2.2.2.2
      | (exfalso; rename_i hz; have g := hgo (by assumption); rw [g.2.2.1, g.2.2.2.1, g.2.2.2.2.1] at hz; exact absurd hz (by decide))
      | (exfalso; rename_i hz _; have g := hgo (by assumption); rw [g.2.2.1, g.2.2.2.1, g.2.2.2.2.1] at hz; exact absurd hz (by decide))
      | (have g := hgo (by assumption); rw [g.2.2.1]; rfl)
      | (have g := hgo (by assumption); rw [g.2.2.1, g.2.2.2.1]; rfl)
  · rename_i hchk
    clear hchk
    have hn : Nx b1 q1.length 0 (⟨b1, s1, q1, c1, 0⟩) ([]) := by
      exact sn_full hm hy
    have hi : i < a1.length ∧ i < 60 := by
      clear hL zq Z hfs hq f1 f2 f3 f4 g1 g2 g3 g4 hn
      subst hF hA hG0 hG1 hG2 hG3 hG4 hO
      simp only [Vs.std, Gs.std, Ar.std] at *
      grind [stdCmp]
    have ei : stdBin .add .i64 i 1 = i + 1 := by rw [b_add, wr _ (by omega) (by omega)]
    clear f1 f2 f3 f4 g1 g2 g3 g4
    subst hL
    refine loop_z (cx_ok hfs) (skQ ([])) (siI a1 i (A.lenE q1) b1 s1 q1 c1 ([])) (skM ([])) siR ⟨0⟩ ?_ ?_ ?_
    · exact sk_zero _
    · cbv
      repeat' (first | exact trivial | exact rfl | refine And.intro ?_ ?_)
    rintro ⟨k⟩ hq2 U hU
    have hgo := fun h => sk_go hn hb0 hb2 hq2 h
    dsimp only at hgo
    have hnx := so_next hq hn hi.1 hi.2
    have k0 := hq2.1
    have k1 := hq2.2
    dsimp only at k0 k1
    subst hA
    generalize hA : Ar.std = A
    generalize hL : Lp _ _ _ = L
    refine cd_close zq ?_
    repeat' (first
      | (refine z_open zq ?_; try dsimp only)
      | refine cd_seq zq ?_ (lp_mono hL)
      | refine cd_blk zq ?_
      | refine cd_ret ?_
      | refine cd_skip ?_
      | refine cd_exit ?_
      | refine cd_loop ?_
      | refine cd_cond rfl ?_
      | refine cd_condT rfl ?_
      | refine cd_condF rfl ?_
      | (refine Cd.mk ?_; cbv)
      | (refine Ends1.mk ?_; cbv)
      | (refine Fin1.mk ?_; cbv)
      | exact trivial
      | refine And.intro ?_ ?_
      | refine orf fun _ => ?_
      | refine ort fun _ => ?_)
    all_goals (clear hL hfs zq Z hq hq2 hn; subst hA hF hG0 hG1 hG2 hG3 hG4 hO hU; simp only [Vs.std, Gs.std, Ar.std, ei] at *)
    all_goals first
      | assumption
      | exact hnx
      | (simp only [soM]; omega)
      | exact (hgo (by assumption)).2.1
      | exact ((hgo (by assumption)).1 (by assumption)).1
      | exact ((hgo (by assumption)).1 (by assumption)).2
      | exact (hgo (by assumption)).2.2.2.2.2.1
      | exact (hgo (by assumption)).2.2.2.2.2.2
      | (exfalso; rename_i hz; have g := hgo (by assumption); rw [g.2.2.1, g.2.2.2.1, g.2.2.2.2.1] at hz; exact absurd hz (by decide))
      | (exfalso; rename_i hz _; have g := hgo (by assumption); rw [g.2.2.1, g.2.2.2.1, g.2.2.2.2.1] at hz; exact absurd hz (by decide))
      | (have g := hgo (by assumption); rw [g.2.2.1]; rfl)
      | (have g := hgo (by assumption); rw [g.2.2.1, g.2.2.2.1]; rfl)
  · rename_i hchk
    clear hchk
    have hn : Nx b1 q1.length 0 (G1.g_ack b1 s1 q1 c1 (A.bin .add .i64 b1 (A.bin .rem .i64 (A.atI a1 i) 20))) ([]) := by
      clear hL zq Z hfs hq f1 f2 f3 g1 g2 g3 g4
      subst hF hA hG0 hG1 hG2 hG3 hG4 hO
      refine f4 ?_
      clear f4
      simp only [Vs.std, Gs.std, Ar.std] at *
      grind [stdCmp]
    have hi : i < a1.length ∧ i < 60 := by
      clear hL zq Z hfs hq f1 f2 f3 f4 g1 g2 g3 g4 hn
      subst hF hA hG0 hG1 hG2 hG3 hG4 hO
      simp only [Vs.std, Gs.std, Ar.std] at *
      grind [stdCmp]
    have ei : stdBin .add .i64 i 1 = i + 1 := by rw [b_add, wr _ (by omega) (by omega)]
    clear f1 f2 f3 f4 g1 g2 g3 g4
    subst hL
    refine loop_z (cx_ok hfs) (skQ ([])) (siI a1 i (A.lenE (G1.g_ack b1 s1 q1 c1 (A.bin .add .i64 b1 (A.bin .rem .i64 (A.atI a1 i) 20))).q) (G1.g_ack b1 s1 q1 c1 (A.bin .add .i64 b1 (A.bin .rem .i64 (A.atI a1 i) 20))).b (G1.g_ack b1 s1 q1 c1 (A.bin .add .i64 b1 (A.bin .rem .i64 (A.atI a1 i) 20))).s (G1.g_ack b1 s1 q1 c1 (A.bin .add .i64 b1 (A.bin .rem .i64 (A.atI a1 i) 20))).q (G1.g_ack b1 s1 q1 c1 (A.bin .add .i64 b1 (A.bin .rem .i64 (A.atI a1 i) 20))).c ([])) (skM ([])) siR ⟨0⟩ ?_ ?_ ?_
    · exact sk_zero _
    · cbv
      repeat' (first | exact trivial | exact rfl | refine And.intro ?_ ?_)
    rintro ⟨k⟩ hq2 U hU
    have hgo := fun h => sk_go hn hb0 hb2 hq2 h
    have hnx := so_next hq hn hi.1 hi.2
    have k0 := hq2.1
    have k1 := hq2.2
    dsimp only at k0 k1
    subst hA
    generalize hA : Ar.std = A
    generalize hL : Lp _ _ _ = L
    refine cd_close zq ?_
    repeat' (first
      | (refine z_open zq ?_; try dsimp only)
      | refine cd_seq zq ?_ (lp_mono hL)
      | refine cd_blk zq ?_
      | refine cd_ret ?_
      | refine cd_skip ?_
      | refine cd_exit ?_
      | refine cd_loop ?_
      | refine cd_cond rfl ?_
      | refine cd_condT rfl ?_
      | refine cd_condF rfl ?_
      | (refine Cd.mk ?_; cbv)
      | (refine Ends1.mk ?_; cbv)
      | (refine Fin1.mk ?_; cbv)
      | exact trivial
      | refine And.intro ?_ ?_
      | refine orf fun _ => ?_
      | refine ort fun _ => ?_)
    all_goals (clear hL hfs zq Z hq hq2 hn; subst hA hF hG0 hG1 hG2 hG3 hG4 hO hU; simp only [Vs.std, Gs.std, Ar.std, ei] at *)
    all_goals first
      | assumption
      | exact hnx
      | (simp only [soM]; omega)
      | exact (hgo (by assumption)).2.1
      | exact ((hgo (by assumption)).1 (by assumption)).1
      | exact ((hgo (by assumption)).1 (by assumption)).2
      | exact (hgo (by assumption)).2.2.2.2.2.1
      | exact (hgo (by assumption)).2.2.2.2.2.2
      | (exfalso; rename_i hz; have g := hgo (by assumption); rw [g.2.2.1, g.2.2.2.1, g.2.2.2.2.1] at hz; exact absurd hz (by decide))
      | (exfalso; rename_i hz _; have g := hgo (by assumption); rw [g.2.2.1, g.2.2.2.1, g.2.2.2.2.1] at hz; exact absurd hz (by decide))
      | (have g := hgo (by assumption); rw [g.2.2.1]; rfl)
      | (have g := hgo (by assumption); rw [g.2.2.1, g.2.2.2.1]; rfl)
theorem walk (a0 : E) (a1 : List Int) (v0 : Value) (A1 : Option Addr) (n1 c1 : Nat) (w : World) (r0 : (SA.agg (shCells Ar.std (.int .i64 (.int .i64 (.recs (.ints .u8 .nil) (.int .i64 .nil)))) a0 0 4)).is (G0 w) v0) (w0 : wfS (.int .i64 (.int .i64 (.recs (.ints .u8 .nil) (.int .i64 .nil)))) a0 0) (r1 : Law.Reads w w.heap.size 1 A1 n1 (a1.map (Value.int .i64))) (b1 : n1 ≤ c1 ∧ c1 ≤ maxLen) (_ : Law.Wf .i64 a1) (_ : n1 ≤ 140737488355328) : Calls Try.prog 14 #[v0, .slice A1 n1 c1] w (Law.Yes w) :=
  yes_of (FsOk.cons ok_light (FsOk.cons ok_ready (FsOk.cons ok_rmay (FsOk.cons ok_push (FsOk.cons ok_ack (FsOk.cons ok_awake (FsOk.cons ok_tick FsOk.nil rfl) rfl) rfl) rfl) rfl) rfl) rfl) Try.func14 rfl (vs := [v0, .slice A1 n1 c1]) (by exact ⟨r0, (ints_of r1 b1).2, trivial⟩) (lee_le rfl) fun hZ => x_law a0 a1 (rows w0) hZ
theorem own : ownKnob Try.prog.godebug = none := by kernel_rfl
theorem laidOut : laidOutB Try.prog = true := by kernel_rfl
set_option maxRecDepth 100000 in
theorem lifted (os : Os) (started : os.Started) (H : Type) (enc : TypeId × Value → H) :
    ReturnsInHanded {} Try.checked os 14 .any (Rows.sendNumbersSpec.pre6 enc Try.prog Try.f14 Rows.sendNumbersRow.domain false) (Rows.sendNumbersSpec.post enc Try.prog Try.f14 false true false false) := by
  refine returnsInHanded_of_change_sized (C := Try.checked) own started (by kernel_rfl) Try.func14
    (ChangeSpec.witness6 (enc := enc) (C := Try.checked) false ⟨#[], #[.agg #[.int .i64 0, .int .i64 0, .slice none 0 0, .int .i64 0], .slice none 0 0], []⟩ 8 (by kernel_rfl) (by kernel_rfl) (by kernel_rfl) (by kernel_rfl)) ?_
  intro W base args ds gs before hval0 hW _ hz _
  have hval : ∀ (j : Nat) t v, Try.f14.params[j]? = some t → args[j]? = some v → Value.okWide Try.prog W .any base t v := hval0
  have hW' := hW
  obtain ⟨p, q, hA0, hV, rfl, _, _⟩ := hW
  have hA : DataW.TrodAll enc Try.prog W 0 (fun _ => true) true Try.f14.params.toList args.toList ds p := hA0
  rw [Try.params14] at hA hval
  obtain ⟨v0, v1, d0, d1, p0, p1, rfl, rfl, rfl, h0, h1⟩ := trodAll_two hA
  obtain ⟨rfl, rfl⟩ := trodVars_none hV
  obtain ⟨a0, r0, w0⟩ := agg_any (s := .int .i64 (.int .i64 (.recs (.ints .u8 .nil) (.int .i64 .nil)))) (by rw [Try.underlying73]) (by kernel_rfl) (by kernel_rfl) (hval 0 73 v0 rfl rfl) h0
  obtain ⟨A1, n1, c1, a1, rfl, b1, r1, w1⟩ := SliceIn.ints Try.underlying32 Try.underlying3 (by kernel_rfl) (hval 1 32 v1 rfl rfl) h1
  have s1 := short_of Try.underlying32 (by decide +kernel) hz (j := 1) rfl rfl h1
  refine (walk a0 a1 v0 A1 n1 c1 W r0 w0 r1 b1 w1 s1).mono fun e W' ⟨he, hb⟩ => ?_
  subst he
  exact ⟨_, rfl, law_post laidOut (by kernel_rfl) (by kernel_rfl) Try.underlying4 rfl hW' rfl hb⟩
theorem proved : Rows.SendNumbersSaid :=
  OpenClaim.holds_of_wide 14 Try.f14 rfl rfl rfl rfl rfl rfl rfl ⟨rfl, rfl, rfl, rfl, rfl⟩ rfl rfl rfl rfl rfl (by kernel_rfl) Try.func14 (by kernel_rfl)
    (of_decide_eq_true (by kernel_rfl)) (by unfold Func.isWrapper; first | (rw [if_pos (by decide +kernel)]; kernel_rfl) | (rw [if_neg (by decide +kernel)]; exact ⟨rfl, rfl⟩))
    (fun os started H enc _ => lifted os started H enc)
end Go.Proofs.Ytgfficaonampbaa.SendNumbers
