/-
  the table of an air: which links are up. No condition.
-/
import Derived.Test.YtphbfoafgfnmmaaEgR
import Derived.Test.YtphbfoafgfnmmaaSkR
namespace Go.Proofs.Ytphbfoafgfnmmaa.SkT
open Go Go.Proofs.Ytphbfoafgfnmmaa.Ry Go.Proofs.Ytphbfoafgfnmmaa.SkR

open Go.Proofs.Ytphbfoafgfnmmaa.EgR (nodB c_node ok_node)
def pl (a b : Int) : Int := a * 65 + b
def setF (T : List E) (a b : Int) (v : Bool) : List E := (T.set (pl a b).toNat [D.bool v]).set (pl b a).toNat [D.bool v]
def tabF (l : List E) : List E := l.foldl (fun M y => setF M (ri y 0) (ri y 1) true) (List.replicate 4225 [D.bool false])
def tOk (T : List E) (a b : Int) : Bool := decide (T.length = 4225 ∧ 0 ≤ a ∧ a < 65 ∧ 0 ≤ b ∧ b < 65)
def lOk (l : List E) : Bool := decide (l.length ≤ 1000000 ∧ ∀ y ∈ l, 0 ≤ ri y 0 ∧ ri y 0 < 65 ∧ 0 ≤ ri y 1 ∧ ri y 1 < 65)
def carF (T : List E) (a b : Int) : Bool := nodB a && nodB b && rb (T.getD (pl a b).toNat []) 0
theorem pl_le {a b : Int} (h : 0 ≤ a ∧ a < 65 ∧ 0 ≤ b ∧ b < 65) : stdBin .mul .i64 a 65 = a * 65 ∧ stdBin .add .i64 (a * 65) b = pl a b ∧ stdBin .add .i64 (a * 65) 65 = a * 65 + 65 ∧ 0 ≤ pl a b ∧ pl a b < 4225 := by
  unfold pl
  refine ⟨?_, by rw [b_add, wr _ (by omega) (by omega)], by rw [b_add, wr _ (by omega) (by omega)], by omega, by omega⟩
  show IntKind.wrap .i64 (a * 65) = _
  rw [wr _ (by omega) (by omega)]
theorem node_le {a : Int} (h : nodB a = true) : 1 ≤ a ∧ a ≤ 64 := of_decide_eq_true h
theorem set_len (T : List E) (a b : Int) (v : Bool) : (setF T a b v).length = T.length := by
  unfold setF
  rw [List.length_set, List.length_set]
structure XT where
  i : Int
  M : List E
def tbQ (l : List E) (y : XT) : Prop := 0 ≤ y.i ∧ y.i ≤ l.length ∧ y.M.length = 4225 ∧ y.M = tabF (l.take y.i.toNat)
def tbM (l : List E) (y : XT) : Nat := l.length - y.i.toNat
theorem tb_zero (l : List E) : tbQ l ⟨0, List.replicate (4225 : Int).toNat [D.bool false]⟩ := ⟨Int.le_refl 0, Int.natCast_nonneg _, by rw [List.length_replicate]; rfl, rfl⟩
theorem tb_step {l : List E} (hl : l.length ≤ 1000000 ∧ ∀ y ∈ l, 0 ≤ ri y 0 ∧ ri y 0 < 65 ∧ 0 ≤ ri y 1 ∧ ri y 1 < 65) {i : Int} {M : List E} (hq : tbQ l ⟨i, M⟩) (h : i < l.length) : stdBin .add .i64 i 1 = i + 1 ∧ tOk M (ri (l.getD i.toNat []) 0) (ri (l.getD i.toNat []) 1) = true ∧ (∀ N, tbM l ⟨i + 1, N⟩ < tbM l ⟨i, M⟩) ∧ tbQ l ⟨i + 1, setF M (ri (l.getD i.toNat []) 0) (ri (l.getD i.toNat []) 1) true⟩ := by
  obtain ⟨h0, h1, h2, h3⟩ := hq
  simp only at h0 h1 h2 h3
  have hi : i.toNat < l.length := by omega
  have hm : l.getD i.toNat [] ∈ l := by
    rw [List.getD_eq_getElem?_getD, List.getElem?_eq_getElem hi]
    exact List.getElem_mem hi
  refine ⟨by rw [b_add, wr _ (by omega) (by omega)], decide_eq_true ⟨h2, hl.2 _ hm⟩, fun N => by simp only [tbM]; omega, by simp only; omega, by simp only; omega, by simp only; rw [set_len, h2], ?_⟩
  simp only
  rw [tk_next l i h0 h, h3]
  unfold tabF
  rw [List.foldl_append]
  rfl
theorem tb_end {l : List E} {i : Int} {M : List E} (hq : tbQ l ⟨i, M⟩) (h : ¬ i < l.length) : M = tabF l := by
  obtain ⟨h0, h1, h2, h3⟩ := hq
  simp only at h0 h1 h2 h3
  have e : i = l.length := by omega
  rw [e, Int.toNat_natCast, List.take_length] at h3
  exact h3
noncomputable def tbI (A : Ar) (l : List E) (y : XT) : St := stOf Try.f32.ntmps [(3, .ptr 1 0), (6, .sl none (.recs (.int .i64 (.int .i64 (.int .i64 .nil))) l)), (7, .val (.int .i64 (A.lenE l))), (8, .val (.int .i64 y.i))] [(1, .row 106 (.recs (.bool .nil) y.M))] [Any]
def tbR (st : St) : XT := ⟨slotI st 8, match hget st.heap 1 with
  | some (.row _ c) => ctR c
  | _ => []⟩

structure Tb where
  t_set : List E → Int → Int → Bool → List E
  t_of : List E → List E
  t_ok : List E → Int → Int → Bool
  t_l : List E → Bool
  t_n : List E → Bool
  t_c : List E → Int → Int → Bool
def Tb.std : Tb := ⟨setF, tabF, tOk, lOk, fun T => decide (T.length = 4225), carF⟩

def c_tset (F : Tb) : Con := fun xs h => match xs, h with
  | [.one (.ptr 0 0), .one (.val (.int .i64 x)), .one (.val (.int .i64 y)), .one (.val (.bool v))], [(0, .row 106 (.recs (.bool .nil) T))] => some ⟨F.t_ok T x y = true, .tup [], [(0, .row 106 (.recs (.bool .nil) (F.t_set T x y v)))], [.one (.ptr 0 0), Any, Any, Any]⟩
  | _, _ => none
set_option maxHeartbeats 2000000 in
set_option maxRecDepth 100000 in
theorem x_tset (x : Int) (y : Int) (v : Bool) (T : List E) (hC : Tb.std.t_ok T x y = true) : Does [] Try.f57 [.one (.ptr 0 0), .one (.val (.int .i64 x)), .one (.val (.int .i64 y)), .one (.val (.bool v))] [(0, .row 106 (.recs (.bool .nil) T))] ⟨Tb.std.t_ok T x y = true, .tup [], [(0, .row 106 (.recs (.bool .nil) (Tb.std.t_set T x y v)))], [.one (.ptr 0 0), Any, Any, Any]⟩ := by
  intro b gv
  have hk : T.length = 4225 ∧ 0 ≤ x ∧ x < 65 ∧ 0 ≤ y ∧ y < 65 := of_decide_eq_true (show tOk T x y = true from hC)
  have hp := pl_le hk.2
  have hp2 := pl_le (a := y) (b := x) ⟨hk.2.2.2.1, hk.2.2.2.2, hk.2.1, hk.2.2.1⟩
  have hfs := FsOk.nil
  generalize hF : Tb.std = F at hC hfs ⊢
  generalize hG0 : EgR.Fs.std = G0 at hC hfs ⊢
  generalize hA : Ar.std = A
  generalize hL : Lp _ _ _ = L
  obtain ⟨Z, zq⟩ := z_all
  refine @cd_open _ _ _ _ _ _ _ (lp_mono hL) _ _ zq rfl ?_
  repeat' (first
    | (refine z_open zq ?_; try dsimp only)
    | refine cd_seq zq ?_ (lp_mono hL)
    | refine cd_blk zq ?_
    | refine cd_ret ?_
    | refine cd_skip ?_
    | refine cd_exit ?_
    | refine cd_loop ?_
    | refine cd_cond rfl ?_
    | refine cd_condT rfl ?_
    | refine cd_condF rfl ?_
    | (refine Cd.mk ?_; cbv)
    | (refine Ends1.mk ?_; cbv)
    | (refine Fin1.mk ?_; cbv)
    | exact trivial
    | refine And.intro ?_ ?_
    | refine orf fun _ => ?_
    | refine ort fun _ => ?_)
  skip -- hfs
  all_goals (clear hL hfs zq Z; subst hA hF hG0; simp only [Tb.std, Ar.std] at *; first | (show Int.ofNat _ = Int.ofNat _; have hsl := set_len M (ri (l.getD i.toNat []) 0) (ri (l.getD i.toNat []) 1) true; clear hst hen q2; generalize setF M (ri (l.getD i.toNat []) 0) (ri (l.getD i.toNat []) 1) true = S at hsl ⊢; cases S <;> cases M <;> first | exact congrArg Int.ofNat hsl | (exfalso; simp at hsl; done)) | ((try simp only [hp.1, hp.2.1, hp.2.2.1, hp2.1, hp2.2.1, hp2.2.2.1]); (try unfold setF); grind [stdCmp, setF, List.length_set]); done)
theorem ok_tset : ConOk Try.prog 57 (c_tset Tb.std) := by
  refine con_of FsOk.nil Try.func57 rfl rfl fun xs h p hp => ?_
  unfold c_tset at hp
  split at hp
  · cases hp
    exact ⟨lee_le rfl, fun hC _ => @x_tset _ _ _ _ hC⟩
  · cases hp

def c_carries (F : Tb) : Con := fun xs h => match xs, h with
  | [.one (.ptr 0 0), .agg [.val (.int .i64 f_a), .val (.int .i64 f_b), .sl none (.ints .u8 _), .val (.bool _)]], [(0, .row 106 (.recs (.bool .nil) T))] => some ⟨F.t_n T = true, .sa (B (F.t_c T f_a f_b)), [(0, .row 106 (.recs (.bool .nil) T))], [.one (.ptr 0 0), Any]⟩
  | _, _ => none
set_option maxHeartbeats 2000000 in
set_option maxRecDepth 100000 in
theorem x_carries (f_a : Int) (f_b : Int) (f_l : List Int) (f_x : Bool) (T : List E) (hC : Tb.std.t_n T = true) : Does [(58, c_node EgR.Fs.std)] Try.f33 [.one (.ptr 0 0), .agg [.val (.int .i64 f_a), .val (.int .i64 f_b), .sl none (.ints .u8 f_l), .val (.bool f_x)]] [(0, .row 106 (.recs (.bool .nil) T))] ⟨Tb.std.t_n T = true, .sa (B (Tb.std.t_c T f_a f_b)), [(0, .row 106 (.recs (.bool .nil) T))], [.one (.ptr 0 0), Any]⟩ := by
  intro b gv
  have hk : T.length = 4225 := of_decide_eq_true (show decide (T.length = 4225) = true from hC)
  have hp := fun h => pl_le (a := f_a) (b := f_b) h
  have hn := fun h => node_le (a := f_a) h
  have hn2 := fun h => node_le (a := f_b) h
  have hfs := (FsOk.cons ok_node FsOk.nil rfl)
  generalize hF : Tb.std = F at hC hfs ⊢
  generalize hG0 : EgR.Fs.std = G0 at hC hfs ⊢
  generalize hA : Ar.std = A
  generalize hL : Lp _ _ _ = L
  obtain ⟨Z, zq⟩ := z_all
  refine @cd_open _ _ _ _ _ _ _ (lp_mono hL) _ _ zq rfl ?_
  repeat' (first
    | (refine z_open zq ?_; try dsimp only)
    | refine cd_seq zq ?_ (lp_mono hL)
    | refine cd_blk zq ?_
    | refine cd_ret ?_
    | refine cd_skip ?_
    | refine cd_exit ?_
    | refine cd_loop ?_
    | refine cd_cond rfl ?_
    | refine cd_condT rfl ?_
    | refine cd_condF rfl ?_
    | (refine Cd.mk ?_; cbv)
    | (refine Ends1.mk ?_; cbv)
    | (refine Fin1.mk ?_; cbv)
    | exact trivial
    | refine And.intro ?_ ?_
    | refine orf fun _ => ?_
    | refine ort fun _ => ?_)
  skip -- hfs
  all_goals (clear hL hfs zq Z; subst hA hF hG0; simp only [Tb.std, EgR.Fs.std, Ar.std] at *; first | (show Int.ofNat _ = Int.ofNat _; have hsl := set_len M (ri (l.getD i.toNat []) 0) (ri (l.getD i.toNat []) 1) true; clear hst hen q2; generalize setF M (ri (l.getD i.toNat []) 0) (ri (l.getD i.toNat []) 1) true = S at hsl ⊢; cases S <;> cases M <;> first | exact congrArg Int.ofNat hsl | (exfalso; simp at hsl; done)) | ( grind [stdCmp, carF]); done)
theorem ok_carries : ConOk Try.prog 33 (c_carries Tb.std) := by
  refine con_of (FsOk.cons ok_node FsOk.nil rfl) Try.func33 rfl rfl fun xs h p hp => ?_
  unfold c_carries at hp
  split at hp
  · cases hp
    exact ⟨lee_le rfl, fun hC _ => @x_carries _ _ _ _ _ hC⟩
  · cases hp
theorem kp_carries : Keeps (c_carries Tb.std) := by
  intro xs h p hp
  unfold c_carries at hp
  split at hp
  · cases hp
    rfl
  · cases hp

def c_tabof (F : Tb) : Con := fun xs h => match xs, h with
  | [.one (.sl none (.recs (.int .i64 (.int .i64 (.int .i64 .nil))) l))], [] => some ⟨F.t_l l = true, .sa (.one (.ptr 0 0)), [(0, .row 106 (.recs (.bool .nil) (F.t_of l)))], [Any]⟩
  | _, _ => none
set_option maxHeartbeats 2000000 in
set_option maxRecDepth 100000 in
theorem x_tabof (l : List E) (hC : Tb.std.t_l l = true) : Does [(57, c_tset Tb.std)] Try.f32 [.one (.sl none (.recs (.int .i64 (.int .i64 (.int .i64 .nil))) l))] [] ⟨Tb.std.t_l l = true, .sa (.one (.ptr 0 0)), [(0, .row 106 (.recs (.bool .nil) (Tb.std.t_of l)))], [Any]⟩ := by
  intro b gv
  have hk : l.length ≤ 1000000 ∧ ∀ y ∈ l, 0 ≤ ri y 0 ∧ ri y 0 < 65 ∧ 0 ≤ ri y 1 ∧ ri y 1 < 65 := of_decide_eq_true (show lOk l = true from hC)
  have hfs := (FsOk.cons ok_tset FsOk.nil rfl)
  generalize hF : Tb.std = F at hC hfs ⊢
  generalize hG0 : EgR.Fs.std = G0 at hC hfs ⊢
  generalize hA : Ar.std = A
  generalize hL : Lp _ _ _ = L
  obtain ⟨Z, zq⟩ := z_all
  refine @cd_open _ _ _ _ _ _ _ (lp_mono hL) _ _ zq rfl ?_
  repeat' (first
    | (refine z_open zq ?_; try dsimp only)
    | refine cd_seq zq ?_ (lp_mono hL)
    | refine cd_blk zq ?_
    | refine cd_ret ?_
    | refine cd_skip ?_
    | refine cd_exit ?_
    | refine cd_loop ?_
    | refine cd_cond rfl ?_
    | refine cd_condT rfl ?_
    | refine cd_condF rfl ?_
    | (refine Cd.mk ?_; cbv)
    | (refine Ends1.mk ?_; cbv)
    | (refine Fin1.mk ?_; cbv)
    | exact trivial
    | refine And.intro ?_ ?_
    | refine orf fun _ => ?_
    | refine ort fun _ => ?_)
  subst hL
  refine loop_z (cx_ok hfs) (tbQ l) (tbI A l) (tbM l) tbR ⟨0, A.repE 4225 [D.bool false]⟩ ?_ ?_ ?_
  · subst hA
    exact tb_zero l
  · cbv
    repeat' (first | exact trivial | exact rfl | refine And.intro ?_ ?_)
  rintro ⟨i, M⟩ hq O hO
  have hst := fun h => tb_step hk hq h
  have hen := fun h => tb_end hq h
  have q0 := hq.1
  have q1 := hq.2.1
  have q2 := hq.2.2.1
  dsimp only at q0 q1 q2
  subst hA
  generalize hA : Ar.std = A
  generalize hL : Lp _ _ _ = L
  refine cd_close zq ?_
  repeat' (first
    | (refine z_open zq ?_; try dsimp only)
    | refine cd_seq zq ?_ (lp_mono hL)
    | refine cd_blk zq ?_
    | refine cd_ret ?_
    | refine cd_skip ?_
    | refine cd_exit ?_
    | refine cd_loop ?_
    | refine cd_cond rfl ?_
    | refine cd_condT rfl ?_
    | refine cd_condF rfl ?_
    | (refine Cd.mk ?_; cbv)
    | (refine Ends1.mk ?_; cbv)
    | (refine Fin1.mk ?_; cbv)
    | exact trivial
    | refine And.intro ?_ ?_
    | refine orf fun _ => ?_
    | refine ort fun _ => ?_)
  all_goals (clear hL hfs zq Z hq; subst hA hF hG0 hO; simp only [Tb.std, Ar.std] at *; first | (show Int.ofNat _ = Int.ofNat _; have hsl := set_len M (ri (l.getD i.toNat []) 0) (ri (l.getD i.toNat []) 1) true; clear hst hen q2; generalize setF M (ri (l.getD i.toNat []) 0) (ri (l.getD i.toNat []) 1) true = S at hsl ⊢; cases S <;> cases M <;> first | exact congrArg Int.ofNat hsl | (exfalso; simp at hsl; done)) | ( grind [stdCmp]); done)
theorem ok_tabof : ConOk Try.prog 32 (c_tabof Tb.std) := by
  refine con_of (FsOk.cons ok_tset FsOk.nil rfl) Try.func32 rfl rfl fun xs h p hp => ?_
  unfold c_tabof at hp
  split at hp
  · cases hp
    exact ⟨lee_le rfl, fun hC _ => @x_tabof _ hC⟩
  · cases hp
end Go.Proofs.Ytphbfoafgfnmmaa.SkT
