/-
  which payloads are alike and small; what carries them at first; is a payload taken? No condition.
-/
import Derived.Test.YtgemoemkgcmcgaaTkT
namespace Go.Proofs.Ytgemoemkgcmcgaa.TkB
open Go Go.Proofs.Ytgemoemkgcmcgaa.Ry Go.Proofs.Ytgemoemkgcmcgaa.SeR Go.Proofs.Ytgemoemkgcmcgaa.SeS Go.Proofs.Ytgemoemkgcmcgaa.SeU Go.Proofs.Ytgemoemkgcmcgaa.SeL Go.Proofs.Ytgemoemkgcmcgaa.SeV Go.Proofs.Ytgemoemkgcmcgaa.TkR Go.Proofs.Ytgemoemkgcmcgaa.TkM Go.Proofs.Ytgemoemkgcmcgaa.TkQ Go.Proofs.Ytgemoemkgcmcgaa.TkT

def byQ (p : List E) (y : TkM.XI) : Prop := 0 ≤ y.i ∧ y.i ≤ p.length
noncomputable def byI (p q : List E) (y : TkM.XI) : St := stOf Try.f27.ntmps [(0, .sl none (.recs (.ints .u8 .nil) p)), (1, .sl none (.recs (.ints .u8 .nil) q)), (5, .val (.int .i64 y.i))] [] [Any, Any]
def byR (st : St) : TkM.XI := ⟨slotI st 5⟩
theorem by_all {p q : List E} (h : pq p = pq q ∧ p.length ≤ 100000) {i : Int} (hq : byQ p ⟨i⟩) : 0 ≤ i ∧ i ≤ p.length ∧ (i < p.length → i < q.length ∧ stdBin .add .i64 i 1 = i + 1 ∧ tM p ⟨i + 1⟩ < tM p ⟨i⟩ ∧ byQ p ⟨i + 1⟩ ∧ (rl (p.getD i.toNat []) 0).map (fun n => ((UInt8.ofNat n.toNat).toNat : Int)) = (rl (q.getD i.toNat []) 0).map (fun n => ((UInt8.ofNat n.toNat).toNat : Int))) := by
  obtain ⟨h0, h1⟩ := hq
  simp only at h0 h1
  have hl : p.length = q.length := by rw [← pq_len p, ← pq_len q, h.1]
  refine ⟨h0, h1, fun g => ⟨by omega, by rw [b_add, wr _ (by omega) (by omega)], by simp only [tM]; omega, ⟨by simp only; omega, by simp only; omega⟩, ?_⟩⟩
  have hi : i.toNat < p.length := by omega
  have hj : i.toNat < q.length := by omega
  have e : (pq p)[i.toNat]? = (pq q)[i.toNat]? := by rw [h.1]
  unfold pq at e
  rw [List.getElem?_map, List.getElem?_map, List.getElem?_eq_getElem hi, List.getElem?_eq_getElem hj] at e
  simp only [Option.map_some, Option.some.injEq] at e
  rw [List.getD_eq_getElem?_getD, List.getElem?_eq_getElem hi, List.getD_eq_getElem?_getD, List.getElem?_eq_getElem hj]
  show List.map _ (rl p[i.toNat] 0) = List.map _ (rl q[i.toNat] 0)
  rw [e]
noncomputable def smI (l w : List E) (y : TkM.XI) : St := stOf Try.f23.ntmps [(0, .sl none (.recs (.ints .u8 .nil) l)), (1, .sl none (.recs (.int .i64 (.int .i64 (.int .i64 (.int .i64 (.int .i64 .nil))))) w)), (5, .val (.int .i64 y.i))] [] [Any, Any]
noncomputable def rnI (l : List E) (y : XP) : St := stOf Try.f25.ntmps [(0, .sl none (.recs (.ints .u8 .nil) l)), (2, .ptr 1 0), (3, .ptr 2 0), (4, .val (.int .i64 y.i))] [(1, .cells 70 [.val (.int .i64 0), .val (.int .i64 0), .val (.slice none 0 0), .val (.int .i64 0), .val (.int .i64 0), .val (.bool false), .val (.slice none 0 0), .val (.slice none 0 0), .val (.slice none 0 0)]), (2, .cells 70 [.val (.int .i64 0), .val (.int .i64 0), .sl none (.recs (.ints .u8 .nil) y.q), .val (.int .i64 0), .val (.int .i64 0), .val (.bool false), .val (.slice none 0 0), .val (.slice none 0 0), .val (.slice none 0 0)])] [Any]
def rnR (st : St) : XP := ⟨slotI st 4, valR st.heap (cellC st 3 2)⟩
theorem aw1 : HaR.getF 0 0 = ⟨1, true, true, 0, 0⟩ := by rfl
theorem aw2 : HaR.getF 1 5 = ⟨1, true, false, 0, 0⟩ := by rfl
theorem aw3 : HaR.akF 1 true = ⟨1, false, true, 1, 0⟩ := by rfl

structure Tb where
  y_eq : List E → List E → Bool
  y_lg : List E → List E → Bool
  y_sm : List E → Bool
  y_c : List E → CR
  y_le : List E → Bool
def Tb.std : Tb := ⟨fun p q => decide (pq p = pq q ∧ p.length ≤ 100000), lgB, smB, c00, fun l => decide (l.length ≤ 140737488355328)⟩

def c_bytes (F : Tb) : Con := fun xs h => match xs, h with
  | [.one (.sl none (.recs (.ints .u8 .nil) p)), .one (.sl none (.recs (.ints .u8 .nil) q))], [] => some ⟨F.y_eq p q = true, .sa (B true), [], [Any, Any]⟩
  | _, _ => none
set_option maxHeartbeats 2000000 in
set_option maxRecDepth 100000 in
theorem x_bytes (p : List E) (q : List E) (hC : Tb.std.y_eq p q = true) : Does [] Try.f27 [.one (.sl none (.recs (.ints .u8 .nil) p)), .one (.sl none (.recs (.ints .u8 .nil) q))] [] ⟨Tb.std.y_eq p q = true, .sa (B true), [], [Any, Any]⟩ := by
  intro b gv
  have hk : pq p = pq q ∧ p.length ≤ 100000 := of_decide_eq_true (show decide (pq p = pq q ∧ p.length ≤ 100000) = true from hC)
  have hl : p.length = q.length := by rw [← pq_len p, ← pq_len q, hk.1]
  have hfs := FsOk.nil
  generalize hF : Tb.std = F at hC hfs ⊢
  generalize hG0 : SeS.Gs.std = G0 at hC hfs ⊢
  generalize hG1 : HaR.Fs.std = G1 at hC hfs ⊢
  generalize hA : Ar.std = A
  generalize hL : Lp _ _ _ = L
  obtain ⟨Z, zq⟩ := z_all
  refine cd_open (lp_mono hL) zq rfl ?_
  repeat' (first
    | (refine z_open zq ?_; try dsimp only)
    | refine cd_seq zq ?_ (lp_mono hL)
    | refine cd_blk zq ?_
    | refine cd_ret ?_
    | refine cd_skip ?_
    | refine cd_exit ?_
    | refine cd_loop ?_
    | refine cd_cond rfl ?_
    | refine cd_condT rfl ?_
    | refine cd_condF rfl ?_
    | (refine Cd.mk ?_; cbv)
    | (refine Ends1.mk ?_; cbv)
    | (refine Fin1.mk ?_; cbv)
    | exact trivial
    | refine And.intro ?_ ?_
    | refine orf fun _ => ?_
    | refine ort fun _ => ?_)
  all_goals first | (show L _ _ _; skip) | (clear hL zq Z hfs; subst hA hF hG0 hG1; simp only [Tb.std, Ar.std] at * <;> grind [stdCmp]; done)
  subst hL
  refine loop_z (cx_ok hfs) (byQ p) (byI p q) (tM p) byR ⟨0⟩ ?_ ?_ ?_
  · exact ⟨Int.le_refl 0, Int.natCast_nonneg _⟩
  · cbv
    repeat' (first | exact trivial | exact rfl | refine And.intro ?_ ?_)
  rintro ⟨i⟩ hqT T hT
  have hst := by_all hk hqT
  subst hA
  generalize hA : Ar.std = A
  generalize hL : Lp _ _ _ = L
  refine cd_close zq ?_
  repeat' (first
    | (refine z_open zq ?_; try dsimp only)
    | refine cd_seq zq ?_ (lp_mono hL)
    | refine cd_blk zq ?_
    | refine cd_ret ?_
    | refine cd_skip ?_
    | refine cd_exit ?_
    | refine cd_loop ?_
    | refine cd_cond rfl ?_
    | refine cd_condT rfl ?_
    | refine cd_condF rfl ?_
    | (refine Cd.mk ?_; cbv)
    | (refine Ends1.mk ?_; cbv)
    | (refine Fin1.mk ?_; cbv)
    | exact trivial
    | refine And.intro ?_ ?_
    | refine orf fun _ => ?_
    | refine ort fun _ => ?_)
  all_goals (clear hL zq Z hfs hqT; subst hA hF hG0 hG1 hT; simp only [Tb.std, Ar.std] at * <;> grind [stdCmp]; done)
theorem ok_bytes : ConOk Try.prog 27 (c_bytes Tb.std) := by
  refine con_of FsOk.nil Try.func27 rfl rfl fun xs h p hp => ?_
  unfold c_bytes at hp
  split at hp
  · cases hp
    exact ⟨lee_le rfl, fun hC _ => x_bytes _ _ hC⟩
  · cases hp

def c_small (F : Tb) : Con := fun xs h => match xs, h with
  | [.one (.sl none (.recs (.ints .u8 .nil) l)), .one (.sl none (.recs (.int .i64 (.int .i64 (.int .i64 (.int .i64 (.int .i64 .nil))))) w))], [] => some ⟨F.y_le l = true, .sa (B (F.y_lg l w)), [], [Any, Any]⟩
  | _, _ => none
set_option maxHeartbeats 2000000 in
set_option maxRecDepth 100000 in
theorem x_small (l : List E) (w : List E) (hC : Tb.std.y_le l = true) : Does [] Try.f23 [.one (.sl none (.recs (.ints .u8 .nil) l)), .one (.sl none (.recs (.int .i64 (.int .i64 (.int .i64 (.int .i64 (.int .i64 .nil))))) w))] [] ⟨Tb.std.y_le l = true, .sa (B (Tb.std.y_lg l w)), [], [Any, Any]⟩ := by
  intro b gv
  have hk : l.length ≤ 140737488355328 := of_decide_eq_true (show decide (l.length ≤ 140737488355328) = true from hC)
  have hfs := FsOk.nil
  generalize hF : Tb.std = F at hC hfs ⊢
  generalize hG0 : SeS.Gs.std = G0 at hC hfs ⊢
  generalize hG1 : HaR.Fs.std = G1 at hC hfs ⊢
  generalize hA : Ar.std = A
  generalize hL : Lp _ _ _ = L
  obtain ⟨Z, zq⟩ := z_all
  refine cd_open (lp_mono hL) zq rfl ?_
  repeat' (first
    | (refine z_open zq ?_; try dsimp only)
    | refine cd_seq zq ?_ (lp_mono hL)
    | refine cd_blk zq ?_
    | refine cd_ret ?_
    | refine cd_skip ?_
    | refine cd_exit ?_
    | refine cd_loop ?_
    | refine cd_cond rfl ?_
    | refine cd_condT rfl ?_
    | refine cd_condF rfl ?_
    | (refine Cd.mk ?_; cbv)
    | (refine Ends1.mk ?_; cbv)
    | (refine Fin1.mk ?_; cbv)
    | exact trivial
    | refine And.intro ?_ ?_
    | refine orf fun _ => ?_
    | refine ort fun _ => ?_)
  subst hL
  refine loop_z (cx_ok hfs) (tQ l) (smI l w) (tM l) byR ⟨0⟩ ?_ ?_ ?_
  · exact t_zero l
  · cbv
    repeat' (first | exact trivial | exact rfl | refine And.intro ?_ ?_)
  rintro ⟨i⟩ hqT T hT
  have hst := t_all hk hqT
  have h64 : ¬ l.length ≤ 64 → smB l = false := fun g => decide_eq_false fun w => g w.1
  subst hA
  generalize hA : Ar.std = A
  generalize hL : Lp _ _ _ = L
  refine cd_close zq ?_
  repeat' (first
    | (refine z_open zq ?_; try dsimp only)
    | refine cd_seq zq ?_ (lp_mono hL)
    | refine cd_blk zq ?_
    | refine cd_ret ?_
    | refine cd_skip ?_
    | refine cd_exit ?_
    | refine cd_loop ?_
    | refine cd_cond rfl ?_
    | refine cd_condT rfl ?_
    | refine cd_condF rfl ?_
    | (refine Cd.mk ?_; cbv)
    | (refine Ends1.mk ?_; cbv)
    | (refine Fin1.mk ?_; cbv)
    | exact trivial
    | refine And.intro ?_ ?_
    | refine orf fun _ => ?_
    | refine ort fun _ => ?_)
  all_goals (clear hL zq Z hfs hqT; subst hA hF hG0 hG1 hT; simp only [Tb.std, Ar.std] at * <;> grind [stdCmp, lgB]; done)
theorem ok_small : ConOk Try.prog 23 (c_small Tb.std) := by
  refine con_of FsOk.nil Try.func23 rfl rfl fun xs h p hp => ?_
  unfold c_small at hp
  split at hp
  · cases hp
    exact ⟨lee_le rfl, fun hC _ => x_small _ _ hC⟩
  · cases hp

def c_run (F : Tb) : Con := fun xs h => match xs, h with
  | [.one (.sl none (.recs (.ints .u8 .nil) l))], [] => some ⟨F.y_sm l = true, .sa (.agg [.val (.int .i64 (F.y_c l).sb), .val (.int .i64 (F.y_c l).s), .sl none (.recs (.ints .u8 .nil) (F.y_c l).q), .val (.int .i64 (F.y_c l).c), .val (.int .i64 (F.y_c l).n), .val (.bool (F.y_c l).w), .sl none (.recs (.int .i64 (.ints .u8 .nil)) (F.y_c l).wy), .sl none (.ints .i64 (F.y_c l).bk), .sl none (.recs (.ints .u8 .nil) (F.y_c l).ou)]), [], [Any]⟩
  | _, _ => none
set_option maxHeartbeats 2000000 in
set_option maxRecDepth 100000 in
theorem x_run (l : List E) (hC : Tb.std.y_sm l = true) : Does [(75, c_rpush SeS.Gs.std)] Try.f25 [.one (.sl none (.recs (.ints .u8 .nil) l))] [] ⟨Tb.std.y_sm l = true, .sa (.agg [.val (.int .i64 (Tb.std.y_c l).sb), .val (.int .i64 (Tb.std.y_c l).s), .sl none (.recs (.ints .u8 .nil) (Tb.std.y_c l).q), .val (.int .i64 (Tb.std.y_c l).c), .val (.int .i64 (Tb.std.y_c l).n), .val (.bool (Tb.std.y_c l).w), .sl none (.recs (.int .i64 (.ints .u8 .nil)) (Tb.std.y_c l).wy), .sl none (.ints .i64 (Tb.std.y_c l).bk), .sl none (.recs (.ints .u8 .nil) (Tb.std.y_c l).ou)]), [], [Any]⟩ := by
  intro b gv
  have hk : smB l = true := hC
  have hfs := (FsOk.cons ok_rpush FsOk.nil rfl)
  generalize hF : Tb.std = F at hC hfs ⊢
  generalize hG0 : SeS.Gs.std = G0 at hC hfs ⊢
  generalize hG1 : HaR.Fs.std = G1 at hC hfs ⊢
  generalize hA : Ar.std = A
  generalize hL : Lp _ _ _ = L
  obtain ⟨Z, zq⟩ := z_all
  refine cd_open (lp_mono hL) zq rfl ?_
  repeat' (first
    | (refine z_open zq ?_; try dsimp only)
    | refine cd_seq zq ?_ (lp_mono hL)
    | refine cd_blk zq ?_
    | refine cd_ret ?_
    | refine cd_skip ?_
    | refine cd_exit ?_
    | refine cd_loop ?_
    | refine cd_cond rfl ?_
    | refine cd_condT rfl ?_
    | refine cd_condF rfl ?_
    | (refine Cd.mk ?_; cbv)
    | (refine Ends1.mk ?_; cbv)
    | (refine Fin1.mk ?_; cbv)
    | exact trivial
    | refine And.intro ?_ ?_
    | refine orf fun _ => ?_
    | refine ort fun _ => ?_)
  subst hL
  refine loop_z (cx_ok hfs) (pQ l) (rnI l) (pM l) rnR ⟨0, []⟩ ?_ ?_ ?_
  · exact p_zero l
  · cbv
    repeat' (first | exact trivial | exact rfl | refine And.intro ?_ ?_)
  rintro ⟨i, q⟩ hqT T hT
  have hst := p_all hk hqT
  subst hA
  generalize hA : Ar.std = A
  generalize hL : Lp _ _ _ = L
  refine cd_close zq ?_
  repeat' (first
    | (refine z_open zq ?_; try dsimp only)
    | refine cd_seq zq ?_ (lp_mono hL)
    | refine cd_blk zq ?_
    | refine cd_ret ?_
    | refine cd_skip ?_
    | refine cd_exit ?_
    | refine cd_loop ?_
    | refine cd_cond rfl ?_
    | refine cd_condT rfl ?_
    | refine cd_condF rfl ?_
    | (refine Cd.mk ?_; cbv)
    | (refine Ends1.mk ?_; cbv)
    | (refine Fin1.mk ?_; cbv)
    | exact trivial
    | refine And.intro ?_ ?_
    | refine orf fun _ => ?_
    | refine ort fun _ => ?_)
  all_goals (clear hL zq Z hfs hqT; subst hA hF hG0 hG1 hT; simp only [Tb.std, SeS.Gs.std, Ar.std] at * <;> grind [stdCmp, c00]; done)
theorem ok_run : ConOk Try.prog 25 (c_run Tb.std) := by
  refine con_of (FsOk.cons ok_rpush FsOk.nil rfl) Try.func25 rfl rfl fun xs h p hp => ?_
  unfold c_run at hp
  split at hp
  · cases hp
    exact ⟨lee_le rfl, fun hC _ => x_run _ hC⟩
  · cases hp

def c_tawake (_ : Tb) : Con := fun xs h => match xs, h with
  | [], [] => some ⟨True, .sa (B true), [], []⟩
  | _, _ => none
set_option maxRecDepth 100000 in
theorem x_tawake  : Does [(73, c_get HaR.Fs.std), (74, c_tack HaR.Fs.std)] Try.f24 [] [] ⟨True, .sa (B true), [], []⟩ := by
  intro b gv
  have hfs := (FsOk.cons ok_get (FsOk.cons ok_tack FsOk.nil rfl) rfl)
  generalize hF : Tb.std = F at hfs ⊢
  generalize hG0 : SeS.Gs.std = G0 at hfs ⊢
  generalize hG1 : HaR.Fs.std = G1 at hfs ⊢
  generalize hA : Ar.std = A
  generalize hL : Lp _ _ _ = L
  obtain ⟨Z, zq⟩ := z_all
  refine cd_open (lp_mono hL) zq rfl ?_
  repeat' (first
    | (refine z_open zq ?_; try dsimp only)
    | refine cd_seq zq ?_ (lp_mono hL)
    | refine cd_blk zq ?_
    | refine cd_ret ?_
    | refine cd_skip ?_
    | refine cd_exit ?_
    | refine cd_loop ?_
    | refine cd_cond rfl ?_
    | refine cd_condT rfl ?_
    | refine cd_condF rfl ?_
    | (refine Cd.mk ?_; cbv)
    | (refine Ends1.mk ?_; cbv)
    | (refine Fin1.mk ?_; cbv)
    | exact trivial
    | refine And.intro ?_ ?_
    | refine orf fun _ => ?_
    | refine ort fun _ => ?_)
  all_goals
    clear hL zq Z
    try clear hfs
    subst hA hF hG0 hG1
    simp only [HaR.Fs.std, Ar.std, aw1, aw2, aw3] at *
    try (grind [stdCmp])
theorem ok_tawake : ConOk Try.prog 24 (c_tawake Tb.std) := by
  refine con_of (FsOk.cons ok_get (FsOk.cons ok_tack FsOk.nil rfl) rfl) Try.func24 rfl rfl fun xs h p hp => ?_
  unfold c_tawake at hp
  split at hp
  · cases hp
    exact ⟨lee_le rfl, fun _ _ => x_tawake ⟩
  · cases hp
end Go.Proofs.Ytgemoemkgcmcgaa.TkB
