/-
  AskTells: for every input the call tells true, and nothing that was there turns. No condition.
-/
import Derived.Test.YtodglgdenjjjgaaRows
import Derived.Test.YtodglgdenjjjgaaLaw
import Derived.Test.YtodglgdenjjjgaaRyIn
import Derived.Test.YtodglgdenjjjgaaRyZ
import Derived.Test.YtodglgdenjjjgaaRyOp
import Derived.Test.YtodglgdenjjjgaaAsR
import Derived.Test.YtodglgdenjjjgaaTrX
namespace Go.Proofs.Ytodglgdenjjjgaa.AsS
open Go Go.Proofs.Ytodglgdenjjjgaa.Ry Go.Proofs.Ytodglgdenjjjgaa.Cmp Go.Proofs.Ytodglgdenjjjgaa.ViR Go.Proofs.Ytodglgdenjjjgaa.ViL Go.Proofs.Ytodglgdenjjjgaa.ViT Go.Proofs.Ytodglgdenjjjgaa.RoR Go.Proofs.Ytodglgdenjjjgaa.AsR

open Go.Proofs.Ytodglgdenjjjgaa.TrX (c_rints ok_rints sameI)
def ckE (ph : Int) (o : Bool) : Int := if o = true then 10 else if ph = 4 then 0 else 8
def stB (ph : Int) (o : Bool) : Bool := decide (ckE ph o = 0)
def ldE (ph : Int) (o : Bool) (r : Int) : Int := if ckE ph o = 0 then r else 0
def nxE (ph : Int) (o : Bool) (n : List Int) (l : List E) (i t : Int) : Int := if ckE ph o = 0 then hpE n l i t else ckE ph o
def nxN (ph : Int) (o : Bool) (n : List Int) (l : List E) (i t : Int) : Int := if ckE ph o = 0 then hpN n l i t else 0
def mbL (ph : Int) (o : Bool) (n : List Int) : List Int := if ckE ph o = 0 then n else []
theorem z_hp : hpE [3] [] 3 4 = 9 := by decide +kernel

structure Ak where
  k_e : Int → Bool → Int
  k_s : Int → Bool → Bool
  k_l : Int → Bool → Int → Int
  k_ne : Int → Bool → List Int → List E → Int → Int → Int
  k_nn : Int → Bool → List Int → List E → Int → Int → Int
  k_m : Int → Bool → List Int → List Int
  k_ok : List Int → List E → Bool
  k_ol : List Int → Bool
def Ak.std : Ak := ⟨ckE, stB, ldE, nxE, nxN, mbL, okV, fun n => decide (n.length ≤ 1000000)⟩

def c_ilist (F : Ak) : Con := fun xs h => match xs, h with
  | [.one (.sl none (.ints .i64 l))], [] => some ⟨F.k_ol l = true, .sa (.one (.sl none (.ints .i64 (l)))), [], [Any]⟩
  | _, _ => none
set_option cbv.maxSteps 4000000 in
set_option maxHeartbeats 4000000 in
set_option maxRecDepth 100000 in
theorem x_ilist (l : List Int) (hC : Ak.std.k_ol l = true) : Does [] Try.f41 [.one (.sl none (.ints .i64 l))] [] ⟨Ak.std.k_ol l = true, .sa (.one (.sl none (.ints .i64 (l)))), [], [Any]⟩ := by
  intro b gv
  have hk : l.length ≤ 1000000 := of_decide_eq_true (show decide (l.length ≤ 1000000) = true from hC)
  have hfs := FsOk.nil
  generalize hF : Ak.std = F at hC hfs ⊢
  generalize hG0 : AsR.As.std = G0 at hC hfs ⊢
  generalize hG1 : RoR.Ro.std = G1 at hC hfs ⊢
  generalize hG2 : TrX.Tx.std = G2 at hC hfs ⊢
  generalize hA : Ar.std = A
  generalize hL : Lp _ _ _ = L
  obtain ⟨Z, zq⟩ := z_all
  refine cd_open (lp_mono hL) zq rfl ?_
  repeat' (first
    | (refine z_open zq ?_; try dsimp only)
    | refine cd_seq zq ?_ (lp_mono hL)
    | refine cd_blk zq ?_
    | refine cd_ret ?_
    | refine cd_skip ?_
    | refine cd_exit ?_
    | refine cd_loop ?_
    | refine cd_cond rfl ?_
    | refine cd_condT rfl ?_
    | refine cd_condF rfl ?_
    | (refine Cd.mk ?_; cbv)
    | (refine Ends1.mk ?_; cbv)
    | (refine Fin1.mk ?_; cbv)
    | exact trivial
    | refine And.intro ?_ ?_
    | refine orf fun _ => ?_
    | refine ort fun _ => ?_)
  all_goals
    clear hL zq Z
    try clear hfs
    subst hA hF hG0 hG1 hG2
    simp only [Ak.std, Ar.std, List.nil_append] at *
    try (grind [stdCmp])
theorem ok_ilist : ConOk Try.prog 41 (c_ilist Ak.std) := by
  refine con_of FsOk.nil Try.func41 rfl rfl fun xs h p hp => ?_
  unfold c_ilist at hp
  split at hp
  · cases hp
    exact ⟨lee_le rfl, fun hC _ => x_ilist _ hC⟩
  · cases hp

def c_stable (F : Ak) : Con := fun xs h => match xs, h with
  | [.agg [.val (.int .i64 _), .val (.int .i64 _), .val (.int .i64 _), .val (.int .i64 _), .val (.int .i64 _), .sl none (.recs (.int .i64 (.int .i64 (.int .i64 (.int .i64 (.bool (.bool (.int .i64 .nil))))))) _), .sl none (.ints .i64 _), .sl none (.ints .i64 _), .sl none (.recs (.int .i64 (.int .i64 (.int .i64 (.int .i64 (.bool .nil))))) _), .val (.int .i64 c_ph), .sl none (.ints .i64 _), .sl none (.recs (.int .i64 (.int .i64 (.int .i64 (.int .i64 (.bool .nil))))) _), .val (.int .i64 _), .val (.bool c_o)]], [] => some ⟨True, .sa (B (F.k_s c_ph c_o)), [], [Any]⟩
  | _, _ => none
set_option cbv.maxSteps 4000000 in
set_option maxHeartbeats 4000000 in
set_option maxRecDepth 100000 in
theorem x_stable (c_i : Int) (c_ee : Int) (c_er : Int) (c_t : Int) (c_p : Int) (c_ties : List E) (c_w : List Int) (c_gn : List Int) (c_gl : List E) (c_ph : Int) (c_tn : List Int) (c_tl : List E) (c_l : Int) (c_o : Bool) : Does [] Try.f25 [.agg [.val (.int .i64 c_i), .val (.int .i64 c_ee), .val (.int .i64 c_er), .val (.int .i64 c_t), .val (.int .i64 c_p), .sl none (.recs (.int .i64 (.int .i64 (.int .i64 (.int .i64 (.bool (.bool (.int .i64 .nil))))))) c_ties), .sl none (.ints .i64 c_w), .sl none (.ints .i64 c_gn), .sl none (.recs (.int .i64 (.int .i64 (.int .i64 (.int .i64 (.bool .nil))))) c_gl), .val (.int .i64 c_ph), .sl none (.ints .i64 c_tn), .sl none (.recs (.int .i64 (.int .i64 (.int .i64 (.int .i64 (.bool .nil))))) c_tl), .val (.int .i64 c_l), .val (.bool c_o)]] [] ⟨True, .sa (B (Ak.std.k_s c_ph c_o)), [], [Any]⟩ := by
  intro b gv
  have hfs := FsOk.nil
  generalize hF : Ak.std = F at hfs ⊢
  generalize hG0 : AsR.As.std = G0 at hfs ⊢
  generalize hG1 : RoR.Ro.std = G1 at hfs ⊢
  generalize hG2 : TrX.Tx.std = G2 at hfs ⊢
  generalize hA : Ar.std = A
  generalize hL : Lp _ _ _ = L
  obtain ⟨Z, zq⟩ := z_all
  refine cd_open (lp_mono hL) zq rfl ?_
  repeat' (first
    | (refine z_open zq ?_; try dsimp only)
    | refine cd_seq zq ?_ (lp_mono hL)
    | refine cd_blk zq ?_
    | refine cd_ret ?_
    | refine cd_skip ?_
    | refine cd_exit ?_
    | refine cd_loop ?_
    | refine cd_cond rfl ?_
    | refine cd_condT rfl ?_
    | refine cd_condF rfl ?_
    | (refine Cd.mk ?_; cbv)
    | (refine Ends1.mk ?_; cbv)
    | (refine Fin1.mk ?_; cbv)
    | exact trivial
    | refine And.intro ?_ ?_
    | refine orf fun _ => ?_
    | refine ort fun _ => ?_)
  all_goals
    clear hL zq Z
    try clear hfs
    subst hA hF hG0 hG1 hG2
    simp only [Ak.std, Ar.std] at *
    try (grind [stdCmp, ckE, stB, ldE, nxE, nxN, mbL])
theorem ok_stable : ConOk Try.prog 25 (c_stable Ak.std) := by
  refine con_of FsOk.nil Try.func25 rfl rfl fun xs h p hp => ?_
  unfold c_stable at hp
  split at hp
  · cases hp
    exact ⟨lee_le rfl, fun _ _ => x_stable _ _ _ _ _ _ _ _ _ _ _ _ _ _⟩
  · cases hp

def c_mayt (F : Ak) : Con := fun xs h => match xs, h with
  | [.agg [.val (.int .i64 _), .val (.int .i64 _), .val (.int .i64 _), .val (.int .i64 _), .val (.int .i64 _), .sl none (.recs (.int .i64 (.int .i64 (.int .i64 (.int .i64 (.bool (.bool (.int .i64 .nil))))))) _), .sl none (.ints .i64 _), .sl none (.ints .i64 _), .sl none (.recs (.int .i64 (.int .i64 (.int .i64 (.int .i64 (.bool .nil))))) _), .val (.int .i64 c_ph), .sl none (.ints .i64 _), .sl none (.recs (.int .i64 (.int .i64 (.int .i64 (.int .i64 (.bool .nil))))) _), .val (.int .i64 _), .val (.bool c_o)]], [] => some ⟨True, .sa (I (F.k_e c_ph c_o)), [], [Any]⟩
  | _, _ => none
set_option cbv.maxSteps 4000000 in
set_option maxHeartbeats 4000000 in
set_option maxRecDepth 100000 in
theorem x_mayt (c_i : Int) (c_ee : Int) (c_er : Int) (c_t : Int) (c_p : Int) (c_ties : List E) (c_w : List Int) (c_gn : List Int) (c_gl : List E) (c_ph : Int) (c_tn : List Int) (c_tl : List E) (c_l : Int) (c_o : Bool) : Does [(25, c_stable Ak.std)] Try.f40 [.agg [.val (.int .i64 c_i), .val (.int .i64 c_ee), .val (.int .i64 c_er), .val (.int .i64 c_t), .val (.int .i64 c_p), .sl none (.recs (.int .i64 (.int .i64 (.int .i64 (.int .i64 (.bool (.bool (.int .i64 .nil))))))) c_ties), .sl none (.ints .i64 c_w), .sl none (.ints .i64 c_gn), .sl none (.recs (.int .i64 (.int .i64 (.int .i64 (.int .i64 (.bool .nil))))) c_gl), .val (.int .i64 c_ph), .sl none (.ints .i64 c_tn), .sl none (.recs (.int .i64 (.int .i64 (.int .i64 (.int .i64 (.bool .nil))))) c_tl), .val (.int .i64 c_l), .val (.bool c_o)]] [] ⟨True, .sa (I (Ak.std.k_e c_ph c_o)), [], [Any]⟩ := by
  intro b gv
  have hfs := (FsOk.cons ok_stable FsOk.nil rfl)
  generalize hF : Ak.std = F at hfs ⊢
  generalize hG0 : AsR.As.std = G0 at hfs ⊢
  generalize hG1 : RoR.Ro.std = G1 at hfs ⊢
  generalize hG2 : TrX.Tx.std = G2 at hfs ⊢
  generalize hA : Ar.std = A
  generalize hL : Lp _ _ _ = L
  obtain ⟨Z, zq⟩ := z_all
  refine cd_open (lp_mono hL) zq rfl ?_
  repeat' (first
    | (refine z_open zq ?_; try dsimp only)
    | refine cd_seq zq ?_ (lp_mono hL)
    | refine cd_blk zq ?_
    | refine cd_ret ?_
    | refine cd_skip ?_
    | refine cd_exit ?_
    | refine cd_loop ?_
    | refine cd_cond rfl ?_
    | refine cd_condT rfl ?_
    | refine cd_condF rfl ?_
    | (refine Cd.mk ?_; cbv)
    | (refine Ends1.mk ?_; cbv)
    | (refine Fin1.mk ?_; cbv)
    | exact trivial
    | refine And.intro ?_ ?_
    | refine orf fun _ => ?_
    | refine ort fun _ => ?_)
  all_goals
    clear hL zq Z
    try clear hfs
    subst hA hF hG0 hG1 hG2
    simp only [Ak.std, Ar.std] at *
    try (grind [stdCmp, ckE, stB, ldE, nxE, nxN, mbL])
theorem ok_mayt : ConOk Try.prog 40 (c_mayt Ak.std) := by
  refine con_of (FsOk.cons ok_stable FsOk.nil rfl) Try.func40 rfl rfl fun xs h p hp => ?_
  unfold c_mayt at hp
  split at hp
  · cases hp
    exact ⟨lee_le rfl, fun _ _ => x_mayt _ _ _ _ _ _ _ _ _ _ _ _ _ _⟩
  · cases hp

def c_lead (F : Ak) : Con := fun xs h => match xs, h with
  | [.agg [.val (.int .i64 _), .val (.int .i64 _), .val (.int .i64 c_er), .val (.int .i64 _), .val (.int .i64 _), .sl none (.recs (.int .i64 (.int .i64 (.int .i64 (.int .i64 (.bool (.bool (.int .i64 .nil))))))) _), .sl none (.ints .i64 _), .sl none (.ints .i64 _), .sl none (.recs (.int .i64 (.int .i64 (.int .i64 (.int .i64 (.bool .nil))))) _), .val (.int .i64 c_ph), .sl none (.ints .i64 _), .sl none (.recs (.int .i64 (.int .i64 (.int .i64 (.int .i64 (.bool .nil))))) _), .val (.int .i64 _), .val (.bool c_o)]], [] => some ⟨True, .tup [I (F.k_l c_ph c_o c_er), I (F.k_e c_ph c_o)], [], [Any]⟩
  | _, _ => none
set_option cbv.maxSteps 4000000 in
set_option maxHeartbeats 4000000 in
set_option maxRecDepth 100000 in
theorem x_lead (c_i : Int) (c_ee : Int) (c_er : Int) (c_t : Int) (c_p : Int) (c_ties : List E) (c_w : List Int) (c_gn : List Int) (c_gl : List E) (c_ph : Int) (c_tn : List Int) (c_tl : List E) (c_l : Int) (c_o : Bool) : Does [(40, c_mayt Ak.std)] Try.f21 [.agg [.val (.int .i64 c_i), .val (.int .i64 c_ee), .val (.int .i64 c_er), .val (.int .i64 c_t), .val (.int .i64 c_p), .sl none (.recs (.int .i64 (.int .i64 (.int .i64 (.int .i64 (.bool (.bool (.int .i64 .nil))))))) c_ties), .sl none (.ints .i64 c_w), .sl none (.ints .i64 c_gn), .sl none (.recs (.int .i64 (.int .i64 (.int .i64 (.int .i64 (.bool .nil))))) c_gl), .val (.int .i64 c_ph), .sl none (.ints .i64 c_tn), .sl none (.recs (.int .i64 (.int .i64 (.int .i64 (.int .i64 (.bool .nil))))) c_tl), .val (.int .i64 c_l), .val (.bool c_o)]] [] ⟨True, .tup [I (Ak.std.k_l c_ph c_o c_er), I (Ak.std.k_e c_ph c_o)], [], [Any]⟩ := by
  intro b gv
  have hfs := (FsOk.cons ok_mayt FsOk.nil rfl)
  generalize hF : Ak.std = F at hfs ⊢
  generalize hG0 : AsR.As.std = G0 at hfs ⊢
  generalize hG1 : RoR.Ro.std = G1 at hfs ⊢
  generalize hG2 : TrX.Tx.std = G2 at hfs ⊢
  generalize hA : Ar.std = A
  generalize hL : Lp _ _ _ = L
  obtain ⟨Z, zq⟩ := z_all
  refine cd_open (lp_mono hL) zq rfl ?_
  repeat' (first
    | (refine z_open zq ?_; try dsimp only)
    | refine cd_seq zq ?_ (lp_mono hL)
    | refine cd_blk zq ?_
    | refine cd_ret ?_
    | refine cd_skip ?_
    | refine cd_exit ?_
    | refine cd_loop ?_
    | refine cd_cond rfl ?_
    | refine cd_condT rfl ?_
    | refine cd_condF rfl ?_
    | (refine Cd.mk ?_; cbv)
    | (refine Ends1.mk ?_; cbv)
    | (refine Fin1.mk ?_; cbv)
    | exact trivial
    | refine And.intro ?_ ?_
    | refine orf fun _ => ?_
    | refine ort fun _ => ?_)
  all_goals
    clear hL zq Z
    try clear hfs
    subst hA hF hG0 hG1 hG2
    simp only [Ak.std, Ar.std] at *
    try (grind [stdCmp, ckE, stB, ldE, nxE, nxN, mbL])
theorem ok_lead : ConOk Try.prog 21 (c_lead Ak.std) := by
  refine con_of (FsOk.cons ok_mayt FsOk.nil rfl) Try.func21 rfl rfl fun xs h p hp => ?_
  unfold c_lead at hp
  split at hp
  · cases hp
    exact ⟨lee_le rfl, fun _ _ => x_lead _ _ _ _ _ _ _ _ _ _ _ _ _ _⟩
  · cases hp

def c_next (F : Ak) : Con := fun xs h => match xs, h with
  | [.agg [.val (.int .i64 c_i), .val (.int .i64 _), .val (.int .i64 _), .val (.int .i64 _), .val (.int .i64 _), .sl none (.recs (.int .i64 (.int .i64 (.int .i64 (.int .i64 (.bool (.bool (.int .i64 .nil))))))) _), .sl none (.ints .i64 _), .sl none (.ints .i64 _), .sl none (.recs (.int .i64 (.int .i64 (.int .i64 (.int .i64 (.bool .nil))))) _), .val (.int .i64 c_ph), .sl none (.ints .i64 c_tn), .sl none (.recs (.int .i64 (.int .i64 (.int .i64 (.int .i64 (.bool .nil))))) c_tl), .val (.int .i64 _), .val (.bool c_o)], .one (.val (.int .i64 t))], [] => some ⟨F.k_ok c_tn c_tl = true, .tup [I (F.k_nn c_ph c_o c_tn c_tl c_i t), I (F.k_ne c_ph c_o c_tn c_tl c_i t)], [], [Any, Any]⟩
  | _, _ => none
set_option cbv.maxSteps 4000000 in
set_option maxHeartbeats 4000000 in
set_option maxRecDepth 100000 in
theorem x_next (c_i : Int) (c_ee : Int) (c_er : Int) (c_t : Int) (c_p : Int) (c_ties : List E) (c_w : List Int) (c_gn : List Int) (c_gl : List E) (c_ph : Int) (c_tn : List Int) (c_tl : List E) (c_l : Int) (c_o : Bool) (t : Int) (hC : Ak.std.k_ok c_tn c_tl = true) : Does [(40, c_mayt Ak.std), (11, c_hop RoR.Ro.std)] Try.f22 [.agg [.val (.int .i64 c_i), .val (.int .i64 c_ee), .val (.int .i64 c_er), .val (.int .i64 c_t), .val (.int .i64 c_p), .sl none (.recs (.int .i64 (.int .i64 (.int .i64 (.int .i64 (.bool (.bool (.int .i64 .nil))))))) c_ties), .sl none (.ints .i64 c_w), .sl none (.ints .i64 c_gn), .sl none (.recs (.int .i64 (.int .i64 (.int .i64 (.int .i64 (.bool .nil))))) c_gl), .val (.int .i64 c_ph), .sl none (.ints .i64 c_tn), .sl none (.recs (.int .i64 (.int .i64 (.int .i64 (.int .i64 (.bool .nil))))) c_tl), .val (.int .i64 c_l), .val (.bool c_o)], .one (.val (.int .i64 t))] [] ⟨Ak.std.k_ok c_tn c_tl = true, .tup [I (Ak.std.k_nn c_ph c_o c_tn c_tl c_i t), I (Ak.std.k_ne c_ph c_o c_tn c_tl c_i t)], [], [Any, Any]⟩ := by
  intro b gv
  have hk : okV c_tn c_tl = true := hC
  have hk1 := (of_decide_eq_true hk : c_tn.length ≤ 70 ∧ c_tl.length ≤ 60).1
  have hfs := (FsOk.cons ok_mayt (FsOk.cons ok_hop FsOk.nil rfl) rfl)
  generalize hF : Ak.std = F at hC hfs ⊢
  generalize hG0 : AsR.As.std = G0 at hC hfs ⊢
  generalize hG1 : RoR.Ro.std = G1 at hC hfs ⊢
  generalize hG2 : TrX.Tx.std = G2 at hC hfs ⊢
  generalize hA : Ar.std = A
  generalize hL : Lp _ _ _ = L
  obtain ⟨Z, zq⟩ := z_all
  refine cd_open (lp_mono hL) zq rfl ?_
  repeat' (first
    | (refine z_open zq ?_; try dsimp only)
    | refine cd_seq zq ?_ (lp_mono hL)
    | refine cd_blk zq ?_
    | refine cd_ret ?_
    | refine cd_skip ?_
    | refine cd_exit ?_
    | refine cd_loop ?_
    | refine cd_cond rfl ?_
    | refine cd_condT rfl ?_
    | refine cd_condF rfl ?_
    | (refine Cd.mk ?_; cbv)
    | (refine Ends1.mk ?_; cbv)
    | (refine Fin1.mk ?_; cbv)
    | exact trivial
    | refine And.intro ?_ ?_
    | refine orf fun _ => ?_
    | refine ort fun _ => ?_)
  all_goals
    clear hL zq Z
    try clear hfs
    subst hA hF hG0 hG1 hG2
    simp only [Ak.std, RoR.Ro.std, Ar.std] at *
    try (grind [stdCmp, ckE, stB, ldE, nxE, nxN, mbL])
theorem ok_next : ConOk Try.prog 22 (c_next Ak.std) := by
  refine con_of (FsOk.cons ok_mayt (FsOk.cons ok_hop FsOk.nil rfl) rfl) Try.func22 rfl rfl fun xs h p hp => ?_
  unfold c_next at hp
  split at hp
  · cases hp
    exact ⟨lee_le rfl, fun hC _ => x_next _ _ _ _ _ _ _ _ _ _ _ _ _ _ _ hC⟩
  · cases hp

def c_memb (F : Ak) : Con := fun xs h => match xs, h with
  | [.agg [.val (.int .i64 _), .val (.int .i64 _), .val (.int .i64 _), .val (.int .i64 _), .val (.int .i64 _), .sl none (.recs (.int .i64 (.int .i64 (.int .i64 (.int .i64 (.bool (.bool (.int .i64 .nil))))))) _), .sl none (.ints .i64 _), .sl none (.ints .i64 _), .sl none (.recs (.int .i64 (.int .i64 (.int .i64 (.int .i64 (.bool .nil))))) _), .val (.int .i64 c_ph), .sl none (.ints .i64 c_tn), .sl none (.recs (.int .i64 (.int .i64 (.int .i64 (.int .i64 (.bool .nil))))) c_tl), .val (.int .i64 _), .val (.bool c_o)]], [] => some ⟨F.k_ok c_tn c_tl = true, .tup [.one (.sl none (.ints .i64 (F.k_m c_ph c_o c_tn))), I (F.k_e c_ph c_o)], [], [Any]⟩
  | _, _ => none
set_option cbv.maxSteps 4000000 in
set_option maxHeartbeats 4000000 in
set_option maxRecDepth 100000 in
theorem x_memb (c_i : Int) (c_ee : Int) (c_er : Int) (c_t : Int) (c_p : Int) (c_ties : List E) (c_w : List Int) (c_gn : List Int) (c_gl : List E) (c_ph : Int) (c_tn : List Int) (c_tl : List E) (c_l : Int) (c_o : Bool) (hC : Ak.std.k_ok c_tn c_tl = true) : Does [(40, c_mayt Ak.std), (41, c_ilist Ak.std)] Try.f23 [.agg [.val (.int .i64 c_i), .val (.int .i64 c_ee), .val (.int .i64 c_er), .val (.int .i64 c_t), .val (.int .i64 c_p), .sl none (.recs (.int .i64 (.int .i64 (.int .i64 (.int .i64 (.bool (.bool (.int .i64 .nil))))))) c_ties), .sl none (.ints .i64 c_w), .sl none (.ints .i64 c_gn), .sl none (.recs (.int .i64 (.int .i64 (.int .i64 (.int .i64 (.bool .nil))))) c_gl), .val (.int .i64 c_ph), .sl none (.ints .i64 c_tn), .sl none (.recs (.int .i64 (.int .i64 (.int .i64 (.int .i64 (.bool .nil))))) c_tl), .val (.int .i64 c_l), .val (.bool c_o)]] [] ⟨Ak.std.k_ok c_tn c_tl = true, .tup [.one (.sl none (.ints .i64 (Ak.std.k_m c_ph c_o c_tn))), I (Ak.std.k_e c_ph c_o)], [], [Any]⟩ := by
  intro b gv
  have hk : okV c_tn c_tl = true := hC
  have hk1 := (of_decide_eq_true hk : c_tn.length ≤ 70 ∧ c_tl.length ≤ 60).1
  have hfs := (FsOk.cons ok_mayt (FsOk.cons ok_ilist FsOk.nil rfl) rfl)
  generalize hF : Ak.std = F at hC hfs ⊢
  generalize hG0 : AsR.As.std = G0 at hC hfs ⊢
  generalize hG1 : RoR.Ro.std = G1 at hC hfs ⊢
  generalize hG2 : TrX.Tx.std = G2 at hC hfs ⊢
  generalize hA : Ar.std = A
  generalize hL : Lp _ _ _ = L
  obtain ⟨Z, zq⟩ := z_all
  refine cd_open (lp_mono hL) zq rfl ?_
  repeat' (first
    | (refine z_open zq ?_; try dsimp only)
    | refine cd_seq zq ?_ (lp_mono hL)
    | refine cd_blk zq ?_
    | refine cd_ret ?_
    | refine cd_skip ?_
    | refine cd_exit ?_
    | refine cd_loop ?_
    | refine cd_cond rfl ?_
    | refine cd_condT rfl ?_
    | refine cd_condF rfl ?_
    | (refine Cd.mk ?_; cbv)
    | (refine Ends1.mk ?_; cbv)
    | (refine Fin1.mk ?_; cbv)
    | exact trivial
    | refine And.intro ?_ ?_
    | refine orf fun _ => ?_
    | refine ort fun _ => ?_)
  all_goals
    clear hL zq Z
    try clear hfs
    subst hA hF hG0 hG1 hG2
    simp only [Ak.std, Ar.std] at *
    try (grind [stdCmp, ckE, stB, ldE, nxE, nxN, mbL])
theorem ok_memb : ConOk Try.prog 23 (c_memb Ak.std) := by
  refine con_of (FsOk.cons ok_mayt (FsOk.cons ok_ilist FsOk.nil rfl) rfl) Try.func23 rfl rfl fun xs h p hp => ?_
  unfold c_memb at hp
  split at hp
  · cases hp
    exact ⟨lee_le rfl, fun hC _ => x_memb _ _ _ _ _ _ _ _ _ _ _ _ _ _ hC⟩
  · cases hp

def c_rck (F : Ak) : Con := fun xs h => match xs, h with
  | [.agg [.val (.int .i64 _), .val (.int .i64 _), .val (.int .i64 _), .val (.int .i64 _), .val (.int .i64 _), .sl none (.recs (.int .i64 (.int .i64 (.int .i64 (.int .i64 (.bool (.bool (.int .i64 .nil))))))) _), .sl none (.ints .i64 _), .sl none (.ints .i64 _), .sl none (.recs (.int .i64 (.int .i64 (.int .i64 (.int .i64 (.bool .nil))))) _), .val (.int .i64 c_ph), .sl none (.ints .i64 _), .sl none (.recs (.int .i64 (.int .i64 (.int .i64 (.int .i64 (.bool .nil))))) _), .val (.int .i64 _), .val (.bool c_o)]], [] => some ⟨True, .sa (I (F.k_e c_ph c_o)), [], [Any]⟩
  | _, _ => none
set_option cbv.maxSteps 4000000 in
set_option maxHeartbeats 4000000 in
set_option maxRecDepth 100000 in
theorem x_rck (c_i : Int) (c_ee : Int) (c_er : Int) (c_t : Int) (c_p : Int) (c_ties : List E) (c_w : List Int) (c_gn : List Int) (c_gl : List E) (c_ph : Int) (c_tn : List Int) (c_tl : List E) (c_l : Int) (c_o : Bool) : Does [] Try.f20 [.agg [.val (.int .i64 c_i), .val (.int .i64 c_ee), .val (.int .i64 c_er), .val (.int .i64 c_t), .val (.int .i64 c_p), .sl none (.recs (.int .i64 (.int .i64 (.int .i64 (.int .i64 (.bool (.bool (.int .i64 .nil))))))) c_ties), .sl none (.ints .i64 c_w), .sl none (.ints .i64 c_gn), .sl none (.recs (.int .i64 (.int .i64 (.int .i64 (.int .i64 (.bool .nil))))) c_gl), .val (.int .i64 c_ph), .sl none (.ints .i64 c_tn), .sl none (.recs (.int .i64 (.int .i64 (.int .i64 (.int .i64 (.bool .nil))))) c_tl), .val (.int .i64 c_l), .val (.bool c_o)]] [] ⟨True, .sa (I (Ak.std.k_e c_ph c_o)), [], [Any]⟩ := by
  intro b gv
  have hfs := FsOk.nil
  generalize hF : Ak.std = F at hfs ⊢
  generalize hG0 : AsR.As.std = G0 at hfs ⊢
  generalize hG1 : RoR.Ro.std = G1 at hfs ⊢
  generalize hG2 : TrX.Tx.std = G2 at hfs ⊢
  generalize hA : Ar.std = A
  generalize hL : Lp _ _ _ = L
  obtain ⟨Z, zq⟩ := z_all
  refine cd_open (lp_mono hL) zq rfl ?_
  repeat' (first
    | (refine z_open zq ?_; try dsimp only)
    | refine cd_seq zq ?_ (lp_mono hL)
    | refine cd_blk zq ?_
    | refine cd_ret ?_
    | refine cd_skip ?_
    | refine cd_exit ?_
    | refine cd_loop ?_
    | refine cd_cond rfl ?_
    | refine cd_condT rfl ?_
    | refine cd_condF rfl ?_
    | (refine Cd.mk ?_; cbv)
    | (refine Ends1.mk ?_; cbv)
    | (refine Fin1.mk ?_; cbv)
    | exact trivial
    | refine And.intro ?_ ?_
    | refine orf fun _ => ?_
    | refine ort fun _ => ?_)
  all_goals
    clear hL zq Z
    try clear hfs
    subst hA hF hG0 hG1 hG2
    simp only [Ak.std, Ar.std] at *
    try (grind [stdCmp, ckE, stB, ldE, nxE, nxN, mbL])
theorem ok_rck : ConOk Try.prog 20 (c_rck Ak.std) := by
  refine con_of FsOk.nil Try.func20 rfl rfl fun xs h p hp => ?_
  unfold c_rck at hp
  split at hp
  · cases hp
    exact ⟨lee_le rfl, fun _ _ => x_rck _ _ _ _ _ _ _ _ _ _ _ _ _ _⟩
  · cases hp

def c_rnx (F : Ak) : Con := fun xs h => match xs, h with
  | [.agg [.val (.int .i64 c_i), .val (.int .i64 _), .val (.int .i64 _), .val (.int .i64 _), .val (.int .i64 _), .sl none (.recs (.int .i64 (.int .i64 (.int .i64 (.int .i64 (.bool (.bool (.int .i64 .nil))))))) _), .sl none (.ints .i64 _), .sl none (.ints .i64 _), .sl none (.recs (.int .i64 (.int .i64 (.int .i64 (.int .i64 (.bool .nil))))) _), .val (.int .i64 c_ph), .sl none (.ints .i64 c_tn), .sl none (.recs (.int .i64 (.int .i64 (.int .i64 (.int .i64 (.bool .nil))))) c_tl), .val (.int .i64 _), .val (.bool c_o)], .one (.val (.int .i64 t))], [] => some ⟨F.k_ok c_tn c_tl = true, .tup [I (F.k_nn c_ph c_o c_tn c_tl c_i t), I (F.k_ne c_ph c_o c_tn c_tl c_i t)], [], [Any, Any]⟩
  | _, _ => none
set_option cbv.maxSteps 4000000 in
set_option maxHeartbeats 4000000 in
set_option maxRecDepth 100000 in
theorem x_rnx (c_i : Int) (c_ee : Int) (c_er : Int) (c_t : Int) (c_p : Int) (c_ties : List E) (c_w : List Int) (c_gn : List Int) (c_gl : List E) (c_ph : Int) (c_tn : List Int) (c_tl : List E) (c_l : Int) (c_o : Bool) (t : Int) (hC : Ak.std.k_ok c_tn c_tl = true) : Does [(20, c_rck Ak.std), (12, c_rhop RoR.Ro.std)] Try.f24 [.agg [.val (.int .i64 c_i), .val (.int .i64 c_ee), .val (.int .i64 c_er), .val (.int .i64 c_t), .val (.int .i64 c_p), .sl none (.recs (.int .i64 (.int .i64 (.int .i64 (.int .i64 (.bool (.bool (.int .i64 .nil))))))) c_ties), .sl none (.ints .i64 c_w), .sl none (.ints .i64 c_gn), .sl none (.recs (.int .i64 (.int .i64 (.int .i64 (.int .i64 (.bool .nil))))) c_gl), .val (.int .i64 c_ph), .sl none (.ints .i64 c_tn), .sl none (.recs (.int .i64 (.int .i64 (.int .i64 (.int .i64 (.bool .nil))))) c_tl), .val (.int .i64 c_l), .val (.bool c_o)], .one (.val (.int .i64 t))] [] ⟨Ak.std.k_ok c_tn c_tl = true, .tup [I (Ak.std.k_nn c_ph c_o c_tn c_tl c_i t), I (Ak.std.k_ne c_ph c_o c_tn c_tl c_i t)], [], [Any, Any]⟩ := by
  intro b gv
  have hk : okV c_tn c_tl = true := hC
  have hk1 := (of_decide_eq_true hk : c_tn.length ≤ 70 ∧ c_tl.length ≤ 60).1
  have hfs := (FsOk.cons ok_rck (FsOk.cons ok_rhop FsOk.nil rfl) rfl)
  generalize hF : Ak.std = F at hC hfs ⊢
  generalize hG0 : AsR.As.std = G0 at hC hfs ⊢
  generalize hG1 : RoR.Ro.std = G1 at hC hfs ⊢
  generalize hG2 : TrX.Tx.std = G2 at hC hfs ⊢
  generalize hA : Ar.std = A
  generalize hL : Lp _ _ _ = L
  obtain ⟨Z, zq⟩ := z_all
  refine cd_open (lp_mono hL) zq rfl ?_
  repeat' (first
    | (refine z_open zq ?_; try dsimp only)
    | refine cd_seq zq ?_ (lp_mono hL)
    | refine cd_blk zq ?_
    | refine cd_ret ?_
    | refine cd_skip ?_
    | refine cd_exit ?_
    | refine cd_loop ?_
    | refine cd_cond rfl ?_
    | refine cd_condT rfl ?_
    | refine cd_condF rfl ?_
    | (refine Cd.mk ?_; cbv)
    | (refine Ends1.mk ?_; cbv)
    | (refine Fin1.mk ?_; cbv)
    | exact trivial
    | refine And.intro ?_ ?_
    | refine orf fun _ => ?_
    | refine ort fun _ => ?_)
  all_goals
    clear hL zq Z
    try clear hfs
    subst hA hF hG0 hG1 hG2
    simp only [Ak.std, RoR.Ro.std, Ar.std] at *
    try (grind [stdCmp, ckE, stB, ldE, nxE, nxN, mbL])
theorem ok_rnx : ConOk Try.prog 24 (c_rnx Ak.std) := by
  refine con_of (FsOk.cons ok_rck (FsOk.cons ok_rhop FsOk.nil rfl) rfl) Try.func24 rfl rfl fun xs h p hp => ?_
  unfold c_rnx at hp
  split at hp
  · cases hp
    exact ⟨lee_le rfl, fun hC _ => x_rnx _ _ _ _ _ _ _ _ _ _ _ _ _ _ _ hC⟩
  · cases hp

def c_aaw (_ : Ak) : Con := fun xs h => match xs, h with
  | [], [] => some ⟨True, .sa (B true), [], []⟩
  | _, _ => none
set_option cbv.maxSteps 4000000 in
set_option maxHeartbeats 4000000 in
set_option maxRecDepth 100000 in
theorem x_aaw  : Does [(39, c_new AsR.As.std), (21, c_lead Ak.std), (22, c_next Ak.std), (23, c_memb Ak.std), (25, c_stable Ak.std)] Try.f19 [] [] ⟨True, .sa (B true), [], []⟩ := by
  intro b gv
  have g1 := z_hp
  have g2 : okV [3] [] = true := by decide +kernel
  have g3 : ckE 4 false = 0 := by decide
  have hfs := (FsOk.cons ok_new (FsOk.cons ok_lead (FsOk.cons ok_next (FsOk.cons ok_memb (FsOk.cons ok_stable FsOk.nil rfl) rfl) rfl) rfl) rfl)
  generalize hF : Ak.std = F at hfs ⊢
  generalize hG0 : AsR.As.std = G0 at hfs ⊢
  generalize hG1 : RoR.Ro.std = G1 at hfs ⊢
  generalize hG2 : TrX.Tx.std = G2 at hfs ⊢
  generalize hA : Ar.std = A
  generalize hL : Lp _ _ _ = L
  obtain ⟨Z, zq⟩ := z_all
  refine cd_open (lp_mono hL) zq rfl ?_
  repeat' (first
    | (refine z_open zq ?_; try dsimp only)
    | refine cd_seq zq ?_ (lp_mono hL)
    | refine cd_blk zq ?_
    | refine cd_ret ?_
    | refine cd_skip ?_
    | refine cd_exit ?_
    | refine cd_loop ?_
    | refine cd_cond rfl ?_
    | refine cd_condT rfl ?_
    | refine cd_condF rfl ?_
    | (refine Cd.mk ?_; cbv)
    | (refine Ends1.mk ?_; cbv)
    | (refine Fin1.mk ?_; cbv)
    | exact trivial
    | refine And.intro ?_ ?_
    | refine orf fun _ => ?_
    | refine ort fun _ => ?_)
  all_goals
    clear hL zq Z
    try clear hfs
    subst hA hF hG0 hG1 hG2
    simp only [Ak.std, Ar.std] at *
    try (grind [stdCmp, ckE, stB, ldE, nxE, nxN, mbL])
theorem ok_aaw : ConOk Try.prog 19 (c_aaw Ak.std) := by
  refine con_of (FsOk.cons ok_new (FsOk.cons ok_lead (FsOk.cons ok_next (FsOk.cons ok_memb (FsOk.cons ok_stable FsOk.nil rfl) rfl) rfl) rfl) rfl) Try.func19 rfl rfl fun xs h p hp => ?_
  unfold c_aaw at hp
  split at hp
  · cases hp
    exact ⟨lee_le rfl, fun _ _ => x_aaw ⟩
  · cases hp
end Go.Proofs.Ytodglgdenjjjgaa.AsS
namespace Go.Proofs.Ytodglgdenjjjgaa.AskTells
open Go Go.Proofs.Ytodglgdenjjjgaa.Ry Go.Proofs.Ytodglgdenjjjgaa.Law Go.Proofs.Ytodglgdenjjjgaa.AsS Go.Proofs.Ytodglgdenjjjgaa.Cmp Go.Proofs.Ytodglgdenjjjgaa.ViR Go.Proofs.Ytodglgdenjjjgaa.ViL Go.Proofs.Ytodglgdenjjjgaa.ViT Go.Proofs.Ytodglgdenjjjgaa.RoR Go.Proofs.Ytodglgdenjjjgaa.AsR Go.Proofs.Ytodglgdenjjjgaa.AsS
open Go.ChangeShapes Go.WideShapes Go.ChangeAt Go.Joins Go.RowKit
open Go.Proofs.Ytodglgdenjjjgaa.TrX (c_rints ok_rints sameI)
set_option maxHeartbeats 4000000 in
set_option cbv.maxSteps 4000000 in
set_option maxRecDepth 100000 in
theorem x_law (a0 : E) (a1 : Int) (_ : sized [.agg (shCells Ar.std (.int .i64 (.int .i64 (.int .i64 (.int .i64 (.int .i64 (.recs (.int .i64 (.int .i64 (.int .i64 (.int .i64 (.bool (.bool (.int .i64 .nil))))))) (.ints .i64 (.ints .i64 (.recs (.int .i64 (.int .i64 (.int .i64 (.int .i64 (.bool .nil))))) (.int .i64 (.ints .i64 (.recs (.int .i64 (.int .i64 (.int .i64 (.int .i64 (.bool .nil))))) (.int .i64 (.bool .nil)))))))))))))) a0 0 14), .one (.val (.int .i64 a1))]) : Does [(20, c_rck Ak.std), (21, c_lead Ak.std), (22, c_next Ak.std), (23, c_memb Ak.std), (24, c_rnx Ak.std), (25, c_stable Ak.std), (26, c_rints TrX.Tx.std), (19, c_aaw Ak.std)] Try.f8 [.agg (shCells Ar.std (.int .i64 (.int .i64 (.int .i64 (.int .i64 (.int .i64 (.recs (.int .i64 (.int .i64 (.int .i64 (.int .i64 (.bool (.bool (.int .i64 .nil))))))) (.ints .i64 (.ints .i64 (.recs (.int .i64 (.int .i64 (.int .i64 (.int .i64 (.bool .nil))))) (.int .i64 (.ints .i64 (.recs (.int .i64 (.int .i64 (.int .i64 (.int .i64 (.bool .nil))))) (.int .i64 (.bool .nil)))))))))))))) a0 0 14), .one (.val (.int .i64 a1))] [] ⟨True, .sa (B true), [], [Any, Any]⟩ := by
  intro b gv
  have g1 : ∀ p, sameI p p = true := TrX.same_I
  have g2 : okV (rl a0 10) (rr a0 11) = true ↔ (rl a0 10).length ≤ 70 ∧ (rr a0 11).length ≤ 60 := decide_eq_true_iff
  have hfs := (FsOk.cons ok_rck (FsOk.cons ok_lead (FsOk.cons ok_next (FsOk.cons ok_memb (FsOk.cons ok_rnx (FsOk.cons ok_stable (FsOk.cons ok_rints (FsOk.cons ok_aaw FsOk.nil rfl) rfl) rfl) rfl) rfl) rfl) rfl) rfl)
  generalize hF : AsS.Ak.std = F at hfs ⊢
  generalize hG0 : AsR.As.std = G0 at hfs ⊢
  generalize hG1 : RoR.Ro.std = G1 at hfs ⊢
  generalize hG2 : TrX.Tx.std = G2 at hfs ⊢
  generalize hA : Ar.std = A
  generalize hL : Lp _ _ _ = L
  obtain ⟨Z, zq⟩ := z_all
  refine cd_open (lp_mono hL) zq rfl ?_
  repeat' (first
    | (refine z_open zq ?_; try dsimp only)
    | refine cd_seq zq ?_ (lp_mono hL)
    | refine cd_blk zq ?_
    | refine cd_ret ?_
    | refine cd_skip ?_
    | refine cd_exit ?_
    | refine cd_loop ?_
    | refine cd_cond rfl ?_
    | refine cd_condT rfl ?_
    | refine cd_condF rfl ?_
    | (refine Cd.mk ?_; cbv)
    | (refine Ends1.mk ?_; cbv)
    | (refine Fin1.mk ?_; cbv)
    | exact trivial
    | refine And.intro ?_ ?_
    | refine orf fun _ => ?_
    | refine ort fun _ => ?_)
  all_goals (clear hL hfs zq Z; subst hA hF hG0 hG1 hG2; simp only [Ak.std, TrX.Tx.std, Ar.std] at * <;> grind [stdCmp, ckE, stB, ldE, nxE, nxN, mbL])
theorem walk (a0 : E) (a1 : Int) (v0 : Value) (w : World) (r0 : (SA.agg (shCells Ar.std (.int .i64 (.int .i64 (.int .i64 (.int .i64 (.int .i64 (.recs (.int .i64 (.int .i64 (.int .i64 (.int .i64 (.bool (.bool (.int .i64 .nil))))))) (.ints .i64 (.ints .i64 (.recs (.int .i64 (.int .i64 (.int .i64 (.int .i64 (.bool .nil))))) (.int .i64 (.ints .i64 (.recs (.int .i64 (.int .i64 (.int .i64 (.int .i64 (.bool .nil))))) (.int .i64 (.bool .nil)))))))))))))) a0 0 14)).is (G0 w) v0) (_ : wfS (.int .i64 (.int .i64 (.int .i64 (.int .i64 (.int .i64 (.recs (.int .i64 (.int .i64 (.int .i64 (.int .i64 (.bool (.bool (.int .i64 .nil))))))) (.ints .i64 (.ints .i64 (.recs (.int .i64 (.int .i64 (.int .i64 (.int .i64 (.bool .nil))))) (.int .i64 (.ints .i64 (.recs (.int .i64 (.int .i64 (.int .i64 (.int .i64 (.bool .nil))))) (.int .i64 (.bool .nil)))))))))))))) a0 0) (_ : (Lit.int .i64 a1).wf = true) : Calls Try.prog 8 #[v0, .int .i64 a1] w (Law.Yes w) :=
  yes_of (FsOk.cons ok_rck (FsOk.cons ok_lead (FsOk.cons ok_next (FsOk.cons ok_memb (FsOk.cons ok_rnx (FsOk.cons ok_stable (FsOk.cons ok_rints (FsOk.cons ok_aaw FsOk.nil rfl) rfl) rfl) rfl) rfl) rfl) rfl) rfl) Try.func8 rfl (vs := [v0, .int .i64 a1]) (by exact ⟨r0, rfl, trivial⟩) (lee_le rfl) fun hZ => x_law a0 a1 hZ
theorem own : ownKnob Try.prog.godebug = none := by kernel_rfl
theorem laidOut : laidOutB Try.prog = true := by kernel_rfl
set_option maxRecDepth 100000 in
theorem lifted (os : Os) (started : os.Started) (H : Type) (enc : TypeId × Value → H) :
    ReturnsInHanded {} Try.checked os 8 .any (Rows.askTellsSpec.pre6 enc Try.prog Try.f8 Rows.askTellsRow.domain false) (Rows.askTellsSpec.post enc Try.prog Try.f8 false true false false) := by
  refine returnsInHanded_of_change_sized (C := Try.checked) own started (by kernel_rfl) Try.func8
    (ChangeSpec.witness6 (enc := enc) (C := Try.checked) false ⟨#[], #[.agg #[.int .i64 0, .int .i64 0, .int .i64 0, .int .i64 0, .int .i64 0, .slice none 0 0, .slice none 0 0, .slice none 0 0, .slice none 0 0, .int .i64 0, .slice none 0 0, .slice none 0 0, .int .i64 0, .bool false], .int .i64 0], []⟩ 8 (by kernel_rfl) (by kernel_rfl) (by kernel_rfl) (by kernel_rfl)) ?_
  intro W base args ds gs before hval0 hW _ hz _
  have hval : ∀ (j : Nat) t v, Try.f8.params[j]? = some t → args[j]? = some v → Value.okWide Try.prog W .any base t v := hval0
  have hW' := hW
  obtain ⟨p, q, hA0, hV, rfl, _, _⟩ := hW
  have hA : DataW.TrodAll enc Try.prog W 0 (fun _ => true) true Try.f8.params.toList args.toList ds p := hA0
  rw [Try.params8] at hA hval
  obtain ⟨v0, v1, d0, d1, p0, p1, rfl, rfl, rfl, h0, h1⟩ := trodAll_two hA
  obtain ⟨rfl, rfl⟩ := trodVars_none hV
  obtain ⟨a0, r0, w0⟩ := agg_any (s := .int .i64 (.int .i64 (.int .i64 (.int .i64 (.int .i64 (.recs (.int .i64 (.int .i64 (.int .i64 (.int .i64 (.bool (.bool (.int .i64 .nil))))))) (.ints .i64 (.ints .i64 (.recs (.int .i64 (.int .i64 (.int .i64 (.int .i64 (.bool .nil))))) (.int .i64 (.ints .i64 (.recs (.int .i64 (.int .i64 (.int .i64 (.int .i64 (.bool .nil))))) (.int .i64 (.bool .nil)))))))))))))) (by rw [Try.underlying46]) (by kernel_rfl) (by kernel_rfl) (hval 0 46 v0 rfl rfl) h0
  obtain ⟨a1, rfl, rfl, rfl, w1⟩ := open_int Try.underlying3 (hval 1 3 v1 rfl rfl) h1
  refine (walk a0 a1 v0 W r0 w0 w1).mono fun e W' ⟨he, hb⟩ => ?_
  subst he
  exact ⟨_, rfl, law_post laidOut (by kernel_rfl) (by kernel_rfl) Try.underlying4 rfl hW' rfl hb⟩
theorem proved : Rows.AskTellsSaid :=
  OpenClaim.holds_of_wide 8 Try.f8 rfl rfl rfl rfl rfl rfl rfl ⟨rfl, rfl, rfl, rfl, rfl⟩ rfl rfl rfl rfl rfl (by kernel_rfl) Try.func8 (by kernel_rfl)
    (of_decide_eq_true (by kernel_rfl)) (by unfold Func.isWrapper; first | (rw [if_pos (by decide +kernel)]; kernel_rfl) | (rw [if_neg (by decide +kernel)]; exact ⟨rfl, rfl⟩))
    (fun os started H enc _ => lifted os started H enc)
end Go.Proofs.Ytodglgdenjjjgaa.AskTells
