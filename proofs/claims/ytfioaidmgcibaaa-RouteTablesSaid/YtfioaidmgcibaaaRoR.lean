
/-
  routes over the reckoner. No condition.
-/
import Derived.Test.YtfioaidmgcibaaaTrD
import Derived.Test.YtfioaidmgcibaaaTrW
import Derived.Test.YtfioaidmgcibaaaRoV
import Derived.Test.YtfioaidmgcibaaaTrX
namespace Go.Proofs.Ytfioaidmgcibaaa.RoR
open Go Go.Proofs.Ytfioaidmgcibaaa.Ry Go.Proofs.Ytfioaidmgcibaaa.So Go.Proofs.Ytfioaidmgcibaaa.JoS Go.Proofs.Ytfioaidmgcibaaa.EcX Go.Proofs.Ytfioaidmgcibaaa.EgR Go.Proofs.Ytfioaidmgcibaaa.EgL Go.Proofs.Ytfioaidmgcibaaa.SpR Go.Proofs.Ytfioaidmgcibaaa.SpQ Go.Proofs.Ytfioaidmgcibaaa.SpK Go.Proofs.Ytfioaidmgcibaaa.SpT Go.Proofs.Ytfioaidmgcibaaa.SpL Go.Proofs.Ytfioaidmgcibaaa.SpN Go.Proofs.Ytfioaidmgcibaaa.TrK Go.Proofs.Ytfioaidmgcibaaa.TrB Go.Proofs.Ytfioaidmgcibaaa.TrR Go.Proofs.Ytfioaidmgcibaaa.TrC Go.Proofs.Ytfioaidmgcibaaa.TrQ Go.Proofs.Ytfioaidmgcibaaa.TrD

open Go.Proofs.Ytfioaidmgcibaaa.ViR (mayV chV mb1 kcm kcm_lt)
open Go.Proofs.Ytfioaidmgcibaaa.ViL (inF inV boF boV bo1 edA edB in_len fm_len bo1_len c_bound ok_bound)
open Go.Proofs.Ytfioaidmgcibaaa.ViC (c_vmay ok_vmay)
open Go.Proofs.Ytfioaidmgcibaaa.ViQ (c_rbound ok_rbound)
open Go.Proofs.Ytfioaidmgcibaaa.TrW (c_rway ok_rway)
open Go.Proofs.Ytfioaidmgcibaaa.ViT (rinF in_eq in_mem may_l may_n may_pw ln bo_len)
open Go.Proofs.Ytfioaidmgcibaaa.RoV (vw4 c_rview ok_rview)
theorem may_mem {n : List Int} {l : List E} (h : mayV n l = true) {y : E} (hy : y ∈ l) : mb1 y = true ∧ n.contains (ri y 0) = true := by
  obtain ⟨k, hk, e⟩ := List.getElem_of_mem hy
  have := may_l h k hk
  rw [Go.Proofs.Ytfioaidmgcibaaa.ViR.at_rec l k hk, e] at this
  exact ⟨this.1, this.2.1⟩
def key (y : E) : Int × Int := (ri y 0, ri y 1)
theorem in_sub (l0 : List E) : ∀ l : List E, ((l.flatMap (ViL.in1 l0)).map key).Sublist (l.map key)
  | [] => .slnil
  | y :: l => by
    rw [List.flatMap_cons, List.map_append, List.map_cons]
    unfold ViL.in1
    split
    · exact (in_sub l0 l).cons_cons _
    · exact (in_sub l0 l).cons _
theorem bo_sub : ∀ l : List E, (∀ y ∈ l, ri y 0 < ri y 1) → (((boF l).map trE).map fun y => (y.1, y.2.1)).Sublist (l.map key)
  | [], _ => .slnil
  | y :: l, h => by
    have ih := bo_sub l fun z hz => h z (List.mem_cons_of_mem _ hz)
    have hy := h y (List.mem_cons_self ..)
    unfold boF at ih ⊢
    rw [List.flatMap_cons, List.map_append, List.map_append, List.map_cons]
    unfold bo1
    split
    · have e : ([[D.int (edA (ri y 0) (ri y 1)), D.int (edB (ri y 0) (ri y 1)), D.int (ri y 2)]].map trE).map (fun y => (y.1, y.2.1)) = [key y] := by
        show [(edA (ri y 0) (ri y 1), edB (ri y 0) (ri y 1))] = _
        unfold edA edB key
        rw [if_neg (by omega), if_neg (by omega)]
      rw [e]
      exact ih.cons_cons _
    · exact ih.cons _
theorem bo_mem {l : List E} {e : T} (h : e ∈ (boF l).map trE) : ∃ y ∈ l, e = (edA (ri y 0) (ri y 1), edB (ri y 0) (ri y 1), ri y 2) := by
  obtain ⟨z, hz, rfl⟩ := List.mem_map.1 h
  unfold boF at hz
  obtain ⟨y, hy, hz⟩ := List.mem_flatMap.1 hz
  unfold bo1 at hz
  split at hz
  · rw [List.mem_singleton.1 hz]
    exact ⟨y, hy, rfl⟩
  · cases hz
/-- What is bound is edges that may be together, between nodes of the view. -/
theorem bnd_ok {n : List Int} {l : List E} (h : mayV n l = true) : goodT ((boF (inF l)).map trE) ∧ ∀ e ∈ (boF (inF l)).map trE, n.contains e.1 = true ∧ n.contains e.2.1 = true := by
  have pw := may_pw h
  have one : ∀ e ∈ (boF (inF l)).map trE, mayE e.1 e.2.1 e.2.2 = true ∧ n.contains e.1 = true ∧ n.contains e.2.1 = true := fun e he => by
    obtain ⟨a, ha, rfl⟩ := bo_mem he
    obtain ⟨y, hy, z, hz, c0, c1, c2, c3, c4, rfl⟩ := in_mem h ha
    obtain ⟨m1, m2⟩ := may_mem h hy
    obtain ⟨_, m4⟩ := may_mem h hz
    rw [c1] at m4
    unfold mb1 ViR.mbB ViR.nodB at m1
    rw [decide_eq_true_eq, decide_eq_true_eq, decide_eq_true_eq] at m1
    show mayE (edA (ri y 0) (ri y 1)) (edB (ri y 0) (ri y 1)) (ri y 2) = true ∧ n.contains (edA (ri y 0) (ri y 1)) = true ∧ n.contains (edB (ri y 0) (ri y 1)) = true
    unfold edA edB mayE
    rw [if_neg (by omega), if_neg (by omega), decide_eq_true_eq]
    exact ⟨by omega, m2, m4⟩
  refine ⟨⟨fun e he => (one e he).1, ?_⟩, fun e he => (one e he).2⟩
  have nd : (l.map key).Nodup := by
    refine List.pairwise_map.2 (pw.imp fun {x y} k e => ?_)
    unfold key at e
    rw [Prod.mk.injEq] at e
    unfold ln at k
    omega
  refine nd.sublist ((bo_sub (inF l) fun y hy => ?_).trans (in_sub l l))
  obtain ⟨y, _, z, _, c0, _, _, _, _, rfl⟩ := in_mem h hy
  exact c0
theorem bnd_all {n : List Int} {l : List E} (h : mayV n l = true) (hl : l.length ≤ 512) : allE (boV n l) = 0 ∧ boV n l = boF (rinF l) ∧ (boV n l).length ≤ 512 := by
  have e : boV n l = boF (inF l) := if_pos h
  have a := bo_len (inF l)
  have b := in_len l
  rw [e, in_eq h]
  exact ⟨(all_iff _).2 ⟨(bnd_ok h).1, by omega⟩, rfl, by omega⟩
def okV (n : List Int) (l : List E) : Bool := decide (n.length ≤ 70 ∧ l.length ≤ 60)
def tfE (n : List Int) (l : List E) (a d : Int) : Int := if mayV n l = true ∧ nodB a = true ∧ nodB d = true then (if forB (boV n l) = true then (if con n a = true then 0 else 4) else 11) else 1
def tfL (n : List Int) (l : List E) (a d : Int) : List E := if tfE n l a d = 0 then boV n l else []
def hpE (n : List Int) (l : List E) (a d : Int) : Int := if tfE n l a d = 0 then rtE (boV n l) a d else tfE n l a d
def hpN (n : List Int) (l : List E) (a d : Int) : Int := if tfE n l a d = 0 then nxB (boV n l) a d else 0
def ldN (n : List Int) (l : List E) (a : Int) : Int := if tfE n l a a = 0 then (lkF (twH (boV n l) a) 65).getD 0 0 else 0
theorem tf_0 {n : List Int} {l : List E} {a d : Int} (h : tfE n l a d = 0) : mayV n l = true ∧ nodB a = true ∧ nodB d = true ∧ forB (boV n l) = true ∧ a ∈ n := by
  unfold tfE at h
  split at h
  · rename_i q
    split at h
    · rename_i q2
      split at h
      · rename_i q3
        exact ⟨q.1, q.2.1, q.2.2, q2, of_decide_eq_true q3⟩
      · cases h
    · cases h
  · cases h
theorem tf_ck {n : List Int} {l : List E} {a d : Int} (h : tfE n l a d = 0) : ckF (boV n l) a d = 0 := by
  obtain ⟨_, h2, h3, h4, _⟩ := tf_0 h
  unfold ckF
  rw [if_pos ⟨h2, h3, h4⟩]
theorem tf_ld {n : List Int} {l : List E} {a : Int} (h : tfE n l a a = 0) : rtE (boV n l) a a = 0 ∧ blF (boV n l) a a = lkF (twH (boV n l) a) 65 ∧ lnR (boV n l) a = lkF (twH (boV n l) a) 65 ∧ 0 < (lkF (twH (boV n l) a) 65).length ∧ (lkF (twH (boV n l) a) 65).length ≤ 65 := by
  have ck := tf_ck h
  have r := rt_self ck
  obtain ⟨na, nb, h1, f, c, w, g, _, lw, _⟩ := rt_0 r
  exact ⟨r, bl_self r, ln_lk f na, List.length_pos_iff.2 (fun e => by have := lk_self f na; rw [e] at this; cases this), lk_len _ _⟩
theorem hp_all {n : List Int} {l : List E} {a d : Int} (h : tfE n l a d = 0) : (lkR (boV n l) a d = false → rtE (boV n l) a d = 9 ∧ nxB (boV n l) a d = 0) ∧ (lkR (boV n l) a d = true → rtE (boV n l) a d = 0 ∧ (wyB (boV n l) a d).length ≤ 64 ∧ (a = d → nxB (boV n l) a d = d) ∧ (¬ a = d → 1 < (wyB (boV n l) a d).length ∧ nxB (boV n l) a d = (wyB (boV n l) a d).getD 1 0)) := by
  have ck := tf_ck h
  have k := TrX.rt_mk ck
  obtain ⟨_, w2, w3, w4, w5⟩ := TrX.ways_all (boV n l) a d
  have my := TrX.may_ck.2 ck
  refine ⟨fun g => ?_, fun g => ?_⟩
  · have r := w2 my g
    exact ⟨r, (w4 (by rw [r]; decide)).2.1⟩
  · have r := w3 my g
    obtain ⟨v1, v2, v3⟩ := w5 r
    exact ⟨r, v1, fun e => (v2 e).1, fun e => ⟨(v3 e).1, (v3 e).2.1⟩⟩
structure XI where
  i : Int
def ckQ (n : List Int) (a : Int) (y : XI) : Prop := 0 ≤ y.i ∧ y.i ≤ n.length ∧ ∀ j : Nat, j < y.i → ¬ n.getD j 0 = a
def ckM (n : List Int) (y : XI) : Nat := n.length - y.i.toNat
noncomputable def ckI (n : List Int) (l : List E) (a : Int) (y : XI) : St := stOf Try.f40.ntmps [(1, .val (.int .i64 a)), (2, .ptr 1 0), (5, .val (.int .i64 y.i))] [(1, .cells 25 [.sl none (.ints .i64 n), .sl none (.recs (.int .i64 (.int .i64 (.int .i64 (.int .i64 (.bool .nil))))) l)])] [Any, Any]
def ckRd (st : St) : XI := ⟨slotI st 5⟩
theorem ck_step {n : List Int} {a : Int} (hn : n.length ≤ 70) {i : Int} (hq : ckQ n a ⟨i⟩) : 0 ≤ i ∧ i ≤ n.length ∧ (i < n.length → stdBin .add .i64 i 1 = i + 1 ∧ ckM n ⟨i + 1⟩ < ckM n ⟨i⟩ ∧ (n.getD i.toNat 0 = a → con n a = true) ∧ (¬ n.getD i.toNat 0 = a → ckQ n a ⟨i + 1⟩)) ∧ (¬ i < n.length → con n a = false) := by
  obtain ⟨h0, h1, h2⟩ := hq
  simp only at h0 h1 h2
  refine ⟨h0, h1, fun k => ⟨by rw [b_add, wr _ (by omega) (by omega)], by simp only [ckM]; omega, fun e => decide_eq_true (by rw [← e]; exact gd_mem (by omega)), fun e => ⟨by simp only; omega, by simp only; omega, fun j hj => ?_⟩⟩, fun k => decide_eq_false fun hx => ?_⟩
  · simp only at hj
    by_cases z : j = i.toNat
    · rw [z]
      exact e
    · exact h2 j (by omega)
  · obtain ⟨j, hj, e⟩ := List.getElem_of_mem hx
    have := h2 j (by omega)
    rw [List.getD_eq_getElem?_getD, List.getElem?_eq_getElem hj, Option.getD_some] at this
    exact this e
def aE : List E := [[D.int 1, D.int 2, D.int 0], [D.int 2, D.int 3, D.int 0]]
def aV : List E := [[D.int 1, D.int 2, D.int 0, D.int 1, D.bool true], [D.int 2, D.int 1, D.int 0, D.int 1, D.bool true], [D.int 2, D.int 3, D.int 0, D.int 1, D.bool true], [D.int 3, D.int 2, D.int 0, D.int 1, D.bool true]]
theorem aw_v : vw4 aE aE [1, 2, 3] = aV := by rfl
theorem aw_m : mayV [1, 2, 3] aV = true := by decide +kernel
theorem aw_b : boV [1, 2, 3] aV = aE := by
  rw [show boV [1, 2, 3] aV = boF (inF aV) from if_pos aw_m, ← in_eq aw_m]
  rfl
theorem aw_h : hpE [1, 2, 3] aV 3 1 = 0 ∧ hpN [1, 2, 3] aV 3 1 = 2 ∧ tfE [1, 2, 3] aV 3 3 = 0 ∧ ldN [1, 2, 3] aV 3 = 1 := by
  have t1 : tfE [1, 2, 3] aV 3 1 = 0 := by
    unfold tfE
    rw [aw_b, aw_m]
    decide +kernel
  have t2 : tfE [1, 2, 3] aV 3 3 = 0 := by
    unfold tfE
    rw [aw_b, aw_m]
    decide +kernel
  unfold hpE hpN ldN
  rw [if_pos t1, if_pos t1, if_pos t2, aw_b]
  exact ⟨by decide +kernel, by decide +kernel, t2, by decide +kernel⟩

structure Ro where
  o_ok : List Int → List E → Bool
  o_tfE : List Int → List E → Int → Int → Int
  o_tfL : List Int → List E → Int → Int → List E
  o_hpE : List Int → List E → Int → Int → Int
  o_hpN : List Int → List E → Int → Int → Int
  o_ldN : List Int → List E → Int → Int
def Ro.std : Ro := ⟨okV, tfE, tfL, hpE, hpN, ldN⟩

def c_olight (F : Ro) : Con := fun xs h => match xs, h with
  | [.agg [.sl none (.ints .i64 v_n), .sl none (.recs (.int .i64 (.int .i64 (.int .i64 (.int .i64 (.bool .nil))))) v_l)]], [] => some ⟨True, .sa (B (F.o_ok v_n v_l)), [], [Any]⟩
  | _, _ => none
set_option cbv.maxSteps 4000000 in
set_option maxHeartbeats 4000000 in
set_option maxRecDepth 100000 in
theorem x_olight (v_n : List Int) (v_l : List E) : Does [] Try.f37 [.agg [.sl none (.ints .i64 v_n), .sl none (.recs (.int .i64 (.int .i64 (.int .i64 (.int .i64 (.bool .nil))))) v_l)]] [] ⟨True, .sa (B (Ro.std.o_ok v_n v_l)), [], [Any]⟩ := by
  intro b gv
  have hfs := FsOk.nil
  generalize hF : Ro.std = F at hfs ⊢
  generalize hG0 : EgR.Fs.std = G0 at hfs ⊢
  generalize hG1 : SpR.Sp.std = G1 at hfs ⊢
  generalize hG2 : SpQ.Sq.std = G2 at hfs ⊢
  generalize hG3 : TrR.Tr.std = G3 at hfs ⊢
  generalize hG4 : TrD.Td.std = G4 at hfs ⊢
  generalize hG5 : TrW.Tw.std = G5 at hfs ⊢
  generalize hG6 : ViC.Vc.std = G6 at hfs ⊢
  generalize hG7 : ViL.Vl.std = G7 at hfs ⊢
  generalize hG8 : ViQ.Vm.std = G8 at hfs ⊢
  generalize hG9 : RoV.Rv.std = G9 at hfs ⊢
  generalize hA : Ar.std = A
  generalize hL : Lp _ _ _ = L
  obtain ⟨Z, zq⟩ := z_all
  refine cd_open (lp_mono hL) zq rfl ?_
  repeat' (first
    | (refine z_open zq ?_; try dsimp only)
    | refine cd_seq zq ?_ (lp_mono hL)
    | refine cd_blk zq ?_
    | refine cd_ret ?_
    | refine cd_skip ?_
    | refine cd_exit ?_
    | refine cd_loop ?_
    | refine cd_cond rfl ?_
    | refine cd_condT rfl ?_
    | refine cd_condF rfl ?_
    | (refine Cd.mk ?_; cbv)
    | (refine Ends1.mk ?_; cbv)
    | (refine Fin1.mk ?_; cbv)
    | exact trivial
    | refine And.intro ?_ ?_
    | refine orf fun _ => ?_
    | refine ort fun _ => ?_)
  all_goals
    clear hL zq Z
    try clear hfs
    subst hA hF hG0 hG1 hG2 hG3 hG4 hG5 hG6 hG7 hG8 hG9
    simp only [Ro.std, Ar.std] at *
    try (grind [stdCmp, okV])
theorem ok_olight : ConOk Try.prog 37 (c_olight Ro.std) := by
  refine con_of FsOk.nil Try.func37 rfl rfl fun xs h p hp => ?_
  unfold c_olight at hp
  split at hp
  · cases hp
    exact ⟨lee_le rfl, fun _ _ => x_olight _ _⟩
  · cases hp

def c_treeof (F : Ro) : Con := fun xs h => match xs, h with
  | [.agg [.sl none (.ints .i64 v_n), .sl none (.recs (.int .i64 (.int .i64 (.int .i64 (.int .i64 (.bool .nil))))) v_l)], .one (.val (.int .i64 a)), .one (.val (.int .i64 d))], [] => some ⟨F.o_ok v_n v_l = true, .tup [.one (.sl none (.recs (.int .i64 (.int .i64 (.int .i64 .nil))) (F.o_tfL v_n v_l a d))), I (F.o_tfE v_n v_l a d)], [], [Any, Any, Any]⟩
  | _, _ => none
set_option cbv.maxSteps 4000000 in
set_option maxHeartbeats 4000000 in
set_option maxRecDepth 100000 in
theorem x_treeof (v_n : List Int) (v_l : List E) (a : Int) (d : Int) (hC : Ro.std.o_ok v_n v_l = true) : Does [(63, c_bound ViL.Vl.std), (54, c_node EgR.Fs.std), (64, c_forest SpR.Sp.std), (105, c_contains TrR.Tr.std)] Try.f79 [.agg [.sl none (.ints .i64 v_n), .sl none (.recs (.int .i64 (.int .i64 (.int .i64 (.int .i64 (.bool .nil))))) v_l)], .one (.val (.int .i64 a)), .one (.val (.int .i64 d))] [] ⟨Ro.std.o_ok v_n v_l = true, .tup [.one (.sl none (.recs (.int .i64 (.int .i64 (.int .i64 .nil))) (Ro.std.o_tfL v_n v_l a d))), I (Ro.std.o_tfE v_n v_l a d)], [], [Any, Any, Any]⟩ := by
  intro b gv
  have hk : v_n.length ≤ 70 ∧ v_l.length ≤ 60 := of_decide_eq_true (show decide (v_n.length ≤ 70 ∧ v_l.length ≤ 60) = true from hC)
  obtain ⟨hk1, hk2⟩ := hk
  have hb := fun h => bnd_all (n := v_n) (l := v_l) h (by omega)
  have hb0 : ¬ mayV v_n v_l = true → boV v_n v_l = [] := fun h => if_neg h
  have hfs := (FsOk.cons ok_bound (FsOk.cons ok_node (FsOk.cons ok_forest (FsOk.cons ok_contains FsOk.nil rfl) rfl) rfl) rfl)
  generalize hF : Ro.std = F at hC hfs ⊢
  generalize hG0 : EgR.Fs.std = G0 at hC hfs ⊢
  generalize hG1 : SpR.Sp.std = G1 at hC hfs ⊢
  generalize hG2 : SpQ.Sq.std = G2 at hC hfs ⊢
  generalize hG3 : TrR.Tr.std = G3 at hC hfs ⊢
  generalize hG4 : TrD.Td.std = G4 at hC hfs ⊢
  generalize hG5 : TrW.Tw.std = G5 at hC hfs ⊢
  generalize hG6 : ViC.Vc.std = G6 at hC hfs ⊢
  generalize hG7 : ViL.Vl.std = G7 at hC hfs ⊢
  generalize hG8 : ViQ.Vm.std = G8 at hC hfs ⊢
  generalize hG9 : RoV.Rv.std = G9 at hC hfs ⊢
  generalize hA : Ar.std = A
  generalize hL : Lp _ _ _ = L
  obtain ⟨Z, zq⟩ := z_all
  refine cd_open (lp_mono hL) zq rfl ?_
  repeat' (first
    | (refine z_open zq ?_; try dsimp only)
    | refine cd_seq zq ?_ (lp_mono hL)
    | refine cd_blk zq ?_
    | refine cd_ret ?_
    | refine cd_skip ?_
    | refine cd_exit ?_
    | refine cd_loop ?_
    | refine cd_cond rfl ?_
    | refine cd_condT rfl ?_
    | refine cd_condF rfl ?_
    | (refine Cd.mk ?_; cbv)
    | (refine Ends1.mk ?_; cbv)
    | (refine Fin1.mk ?_; cbv)
    | exact trivial
    | refine And.intro ?_ ?_
    | refine orf fun _ => ?_
    | refine ort fun _ => ?_)
  all_goals
    clear hL zq Z
    try clear hfs
    subst hA hF hG0 hG1 hG2 hG3 hG4 hG5 hG6 hG7 hG8 hG9
    simp only [Ro.std, EgR.Fs.std, SpR.Sp.std, TrR.Tr.std, ViL.Vl.std, Ar.std] at *
    try (grind [stdCmp, tfE, tfL, chV])
theorem ok_treeof : ConOk Try.prog 79 (c_treeof Ro.std) := by
  refine con_of (FsOk.cons ok_bound (FsOk.cons ok_node (FsOk.cons ok_forest (FsOk.cons ok_contains FsOk.nil rfl) rfl) rfl) rfl) Try.func79 rfl rfl fun xs h p hp => ?_
  unfold c_treeof at hp
  split at hp
  · cases hp
    exact ⟨lee_le rfl, fun hC _ => x_treeof _ _ _ _ hC⟩
  · cases hp

def c_hop (F : Ro) : Con := fun xs h => match xs, h with
  | [.agg [.sl none (.ints .i64 v_n), .sl none (.recs (.int .i64 (.int .i64 (.int .i64 (.int .i64 (.bool .nil))))) v_l)], .one (.val (.int .i64 a)), .one (.val (.int .i64 d))], [] => some ⟨F.o_ok v_n v_l = true, .tup [I (F.o_hpN v_n v_l a d), I (F.o_hpE v_n v_l a d)], [], [Any, Any, Any]⟩
  | _, _ => none
set_option cbv.maxSteps 4000000 in
set_option maxHeartbeats 4000000 in
set_option maxRecDepth 100000 in
theorem x_hop (v_n : List Int) (v_l : List E) (a : Int) (d : Int) (hC : Ro.std.o_ok v_n v_l = true) : Does [(79, c_treeof Ro.std), (81, c_tnext TrR.Tr.std)] Try.f77 [.agg [.sl none (.ints .i64 v_n), .sl none (.recs (.int .i64 (.int .i64 (.int .i64 (.int .i64 (.bool .nil))))) v_l)], .one (.val (.int .i64 a)), .one (.val (.int .i64 d))] [] ⟨Ro.std.o_ok v_n v_l = true, .tup [I (Ro.std.o_hpN v_n v_l a d), I (Ro.std.o_hpE v_n v_l a d)], [], [Any, Any, Any]⟩ := by
  intro b gv
  have hk : v_n.length ≤ 70 ∧ v_l.length ≤ 60 := of_decide_eq_true (show decide (v_n.length ≤ 70 ∧ v_l.length ≤ 60) = true from hC)
  obtain ⟨hk1, hk2⟩ := hk
  have hb := fun h => bnd_all (n := v_n) (l := v_l) h (by omega)
  have hb0 : ¬ mayV v_n v_l = true → boV v_n v_l = [] := fun h => if_neg h
  have h1 := fun h => (hb (tf_0 (n := v_n) (l := v_l) (a := a) (d := d) h).1).2.2
  have h2 : tfE v_n v_l a d = 0 → tfL v_n v_l a d = boV v_n v_l := fun h => if_pos h
  have hfs := (FsOk.cons ok_treeof (FsOk.cons ok_tnext FsOk.nil rfl) rfl)
  generalize hF : Ro.std = F at hC hfs ⊢
  generalize hG0 : EgR.Fs.std = G0 at hC hfs ⊢
  generalize hG1 : SpR.Sp.std = G1 at hC hfs ⊢
  generalize hG2 : SpQ.Sq.std = G2 at hC hfs ⊢
  generalize hG3 : TrR.Tr.std = G3 at hC hfs ⊢
  generalize hG4 : TrD.Td.std = G4 at hC hfs ⊢
  generalize hG5 : TrW.Tw.std = G5 at hC hfs ⊢
  generalize hG6 : ViC.Vc.std = G6 at hC hfs ⊢
  generalize hG7 : ViL.Vl.std = G7 at hC hfs ⊢
  generalize hG8 : ViQ.Vm.std = G8 at hC hfs ⊢
  generalize hG9 : RoV.Rv.std = G9 at hC hfs ⊢
  generalize hA : Ar.std = A
  generalize hL : Lp _ _ _ = L
  obtain ⟨Z, zq⟩ := z_all
  refine cd_open (lp_mono hL) zq rfl ?_
  repeat' (first
    | (refine z_open zq ?_; try dsimp only)
    | refine cd_seq zq ?_ (lp_mono hL)
    | refine cd_blk zq ?_
    | refine cd_ret ?_
    | refine cd_skip ?_
    | refine cd_exit ?_
    | refine cd_loop ?_
    | refine cd_cond rfl ?_
    | refine cd_condT rfl ?_
    | refine cd_condF rfl ?_
    | (refine Cd.mk ?_; cbv)
    | (refine Ends1.mk ?_; cbv)
    | (refine Fin1.mk ?_; cbv)
    | exact trivial
    | refine And.intro ?_ ?_
    | refine orf fun _ => ?_
    | refine ort fun _ => ?_)
  all_goals
    clear hL zq Z
    try clear hfs
    subst hA hF hG0 hG1 hG2 hG3 hG4 hG5 hG6 hG7 hG8 hG9
    simp only [Ro.std, TrR.Tr.std, Ar.std] at *
    try (grind [stdCmp, hpE, hpN])
theorem ok_hop : ConOk Try.prog 77 (c_hop Ro.std) := by
  refine con_of (FsOk.cons ok_treeof (FsOk.cons ok_tnext FsOk.nil rfl) rfl) Try.func77 rfl rfl fun xs h p hp => ?_
  unfold c_hop at hp
  split at hp
  · cases hp
    exact ⟨lee_le rfl, fun hC _ => x_hop _ _ _ _ hC⟩
  · cases hp

def c_leader (F : Ro) : Con := fun xs h => match xs, h with
  | [.agg [.sl none (.ints .i64 v_n), .sl none (.recs (.int .i64 (.int .i64 (.int .i64 (.int .i64 (.bool .nil))))) v_l)], .one (.val (.int .i64 a))], [] => some ⟨F.o_ok v_n v_l = true, .tup [I (F.o_ldN v_n v_l a), I (F.o_tfE v_n v_l a a)], [], [Any, Any]⟩
  | _, _ => none
set_option cbv.maxSteps 4000000 in
set_option maxHeartbeats 4000000 in
set_option maxRecDepth 100000 in
theorem x_leader (v_n : List Int) (v_l : List E) (a : Int) (hC : Ro.std.o_ok v_n v_l = true) : Does [(79, c_treeof Ro.std), (80, c_below TrD.Td.std)] Try.f78 [.agg [.sl none (.ints .i64 v_n), .sl none (.recs (.int .i64 (.int .i64 (.int .i64 (.int .i64 (.bool .nil))))) v_l)], .one (.val (.int .i64 a))] [] ⟨Ro.std.o_ok v_n v_l = true, .tup [I (Ro.std.o_ldN v_n v_l a), I (Ro.std.o_tfE v_n v_l a a)], [], [Any, Any]⟩ := by
  intro b gv
  have hk : v_n.length ≤ 70 ∧ v_l.length ≤ 60 := of_decide_eq_true (show decide (v_n.length ≤ 70 ∧ v_l.length ≤ 60) = true from hC)
  obtain ⟨hk1, hk2⟩ := hk
  have hb := fun h => bnd_all (n := v_n) (l := v_l) h (by omega)
  have hb0 : ¬ mayV v_n v_l = true → boV v_n v_l = [] := fun h => if_neg h
  have h1 := fun h => (hb (tf_0 (n := v_n) (l := v_l) (a := a) (d := a) h).1).2.2
  have h2 : tfE v_n v_l a a = 0 → tfL v_n v_l a a = boV v_n v_l := fun h => if_pos h
  have h3 := fun h => tf_ld (n := v_n) (l := v_l) (a := a) h
  have hfs := (FsOk.cons ok_treeof (FsOk.cons ok_below FsOk.nil rfl) rfl)
  generalize hF : Ro.std = F at hC hfs ⊢
  generalize hG0 : EgR.Fs.std = G0 at hC hfs ⊢
  generalize hG1 : SpR.Sp.std = G1 at hC hfs ⊢
  generalize hG2 : SpQ.Sq.std = G2 at hC hfs ⊢
  generalize hG3 : TrR.Tr.std = G3 at hC hfs ⊢
  generalize hG4 : TrD.Td.std = G4 at hC hfs ⊢
  generalize hG5 : TrW.Tw.std = G5 at hC hfs ⊢
  generalize hG6 : ViC.Vc.std = G6 at hC hfs ⊢
  generalize hG7 : ViL.Vl.std = G7 at hC hfs ⊢
  generalize hG8 : ViQ.Vm.std = G8 at hC hfs ⊢
  generalize hG9 : RoV.Rv.std = G9 at hC hfs ⊢
  generalize hA : Ar.std = A
  generalize hL : Lp _ _ _ = L
  obtain ⟨Z, zq⟩ := z_all
  refine cd_open (lp_mono hL) zq rfl ?_
  repeat' (first
    | (refine z_open zq ?_; try dsimp only)
    | refine cd_seq zq ?_ (lp_mono hL)
    | refine cd_blk zq ?_
    | refine cd_ret ?_
    | refine cd_skip ?_
    | refine cd_exit ?_
    | refine cd_loop ?_
    | refine cd_cond rfl ?_
    | refine cd_condT rfl ?_
    | refine cd_condF rfl ?_
    | (refine Cd.mk ?_; cbv)
    | (refine Ends1.mk ?_; cbv)
    | (refine Fin1.mk ?_; cbv)
    | exact trivial
    | refine And.intro ?_ ?_
    | refine orf fun _ => ?_
    | refine ort fun _ => ?_)
  all_goals
    clear hL zq Z
    try clear hfs
    subst hA hF hG0 hG1 hG2 hG3 hG4 hG5 hG6 hG7 hG8 hG9
    simp only [Ro.std, TrD.Td.std, Ar.std] at *
    try (grind [stdCmp, ldN])
theorem ok_leader : ConOk Try.prog 78 (c_leader Ro.std) := by
  refine con_of (FsOk.cons ok_treeof (FsOk.cons ok_below FsOk.nil rfl) rfl) Try.func78 rfl rfl fun xs h p hp => ?_
  unfold c_leader at hp
  split at hp
  · cases hp
    exact ⟨lee_le rfl, fun hC _ => x_leader _ _ _ hC⟩
  · cases hp

def c_ocheck (F : Ro) : Con := fun xs h => match xs, h with
  | [.agg [.sl none (.ints .i64 v_n), .sl none (.recs (.int .i64 (.int .i64 (.int .i64 (.int .i64 (.bool .nil))))) v_l)], .one (.val (.int .i64 a))], [] => some ⟨F.o_ok v_n v_l = true, .sa (I (F.o_tfE v_n v_l a a)), [], [Any, Any]⟩
  | _, _ => none
set_option cbv.maxSteps 4000000 in
set_option maxHeartbeats 4000000 in
set_option maxRecDepth 100000 in
theorem x_ocheck (v_n : List Int) (v_l : List E) (a : Int) (hC : Ro.std.o_ok v_n v_l = true) : Does [(15, c_vmay ViC.Vc.std), (56, c_rnode EgR.Fs.std), (25, c_rbound ViQ.Vm.std), (24, c_rforest SpQ.Sq.std)] Try.f40 [.agg [.sl none (.ints .i64 v_n), .sl none (.recs (.int .i64 (.int .i64 (.int .i64 (.int .i64 (.bool .nil))))) v_l)], .one (.val (.int .i64 a))] [] ⟨Ro.std.o_ok v_n v_l = true, .sa (I (Ro.std.o_tfE v_n v_l a a)), [], [Any, Any]⟩ := by
  intro b gv
  have hk : v_n.length ≤ 70 ∧ v_l.length ≤ 60 := of_decide_eq_true (show decide (v_n.length ≤ 70 ∧ v_l.length ≤ 60) = true from hC)
  obtain ⟨hk1, hk2⟩ := hk
  have hb := fun h => bnd_all (n := v_n) (l := v_l) h (by omega)
  have hb0 : ¬ mayV v_n v_l = true → boV v_n v_l = [] := fun h => if_neg h
  have h1 : mayV v_n v_l = true → forB (boV v_n v_l) = rfB (boV v_n v_l) ∧ inR (boV v_n v_l) = true := fun h => ⟨for_same (hb h).1, in_R (all_good (hb h).1) (by have := (hb h).2.2; omega)⟩
  have hfs := (FsOk.cons ok_vmay (FsOk.cons ok_rnode (FsOk.cons ok_rbound (FsOk.cons ok_rforest FsOk.nil rfl) rfl) rfl) rfl)
  generalize hF : Ro.std = F at hC hfs ⊢
  generalize hG0 : EgR.Fs.std = G0 at hC hfs ⊢
  generalize hG1 : SpR.Sp.std = G1 at hC hfs ⊢
  generalize hG2 : SpQ.Sq.std = G2 at hC hfs ⊢
  generalize hG3 : TrR.Tr.std = G3 at hC hfs ⊢
  generalize hG4 : TrD.Td.std = G4 at hC hfs ⊢
  generalize hG5 : TrW.Tw.std = G5 at hC hfs ⊢
  generalize hG6 : ViC.Vc.std = G6 at hC hfs ⊢
  generalize hG7 : ViL.Vl.std = G7 at hC hfs ⊢
  generalize hG8 : ViQ.Vm.std = G8 at hC hfs ⊢
  generalize hG9 : RoV.Rv.std = G9 at hC hfs ⊢
  generalize hA : Ar.std = A
  generalize hL : Lp _ _ _ = L
  obtain ⟨Z, zq⟩ := z_all
  refine cd_open (lp_mono hL) zq rfl ?_
  repeat' (first
    | (refine z_open zq ?_; try dsimp only)
    | refine cd_seq zq ?_ (lp_mono hL)
    | refine cd_blk zq ?_
    | refine cd_ret ?_
    | refine cd_skip ?_
    | refine cd_exit ?_
    | refine cd_loop ?_
    | refine cd_cond rfl ?_
    | refine cd_condT rfl ?_
    | refine cd_condF rfl ?_
    | (refine Cd.mk ?_; cbv)
    | (refine Ends1.mk ?_; cbv)
    | (refine Fin1.mk ?_; cbv)
    | exact trivial
    | refine And.intro ?_ ?_
    | refine orf fun _ => ?_
    | refine ort fun _ => ?_)
  all_goals first | (show L _ _ _; skip) | (clear hL hfs zq Z; subst hA hF hG0 hG1 hG2 hG3 hG4 hG5 hG6 hG7 hG8 hG9; simp only [Ro.std, EgR.Fs.std, SpQ.Sq.std, ViC.Vc.std, ViQ.Vm.std, Ar.std] at * <;> grind [stdCmp, tfE]; done)
  rename_i hx1 hx2
  have hm : mayV v_n v_l = true ∧ nodB a = true ∧ forB (boV v_n v_l) = true := by
    clear hL hfs zq Z
    subst hA hF hG0 hG1 hG2 hG3 hG4 hG5 hG6 hG7 hG8 hG9
    simp only [Ro.std, EgR.Fs.std, SpQ.Sq.std, ViC.Vc.std, ViQ.Vm.std, Ar.std] at *
    grind [stdCmp]
  have ht : tfE v_n v_l a a = if con v_n a = true then 0 else 4 := by
    unfold tfE
    rw [if_pos ⟨hm.1, hm.2.1, hm.2.1⟩, if_pos hm.2.2]
  clear hx1 hx2 hb hb0 h1
  subst hL
  refine loop_z (cx_ok hfs) (ckQ v_n a) (ckI v_n v_l a) (ckM v_n) ckRd ⟨0⟩ ?_ ?_ ?_
  · exact ⟨Int.le_refl 0, Int.natCast_nonneg _, fun j hj => by simp only at hj; omega⟩
  · cbv
    repeat' (first | exact trivial | exact rfl | refine And.intro ?_ ?_)
  rintro ⟨i⟩ hq O hO
  have hst := ck_step hk1 hq
  subst hA
  generalize hA : Ar.std = A
  generalize hL : Lp _ _ _ = L
  refine cd_close zq ?_
  repeat' (first
    | (refine z_open zq ?_; try dsimp only)
    | refine cd_seq zq ?_ (lp_mono hL)
    | refine cd_blk zq ?_
    | refine cd_ret ?_
    | refine cd_skip ?_
    | refine cd_exit ?_
    | refine cd_loop ?_
    | refine cd_cond rfl ?_
    | refine cd_condT rfl ?_
    | refine cd_condF rfl ?_
    | (refine Cd.mk ?_; cbv)
    | (refine Ends1.mk ?_; cbv)
    | (refine Fin1.mk ?_; cbv)
    | exact trivial
    | refine And.intro ?_ ?_
    | refine orf fun _ => ?_
    | refine ort fun _ => ?_)
  all_goals (clear hL hfs zq Z hq; subst hA hF hG0 hG1 hG2 hG3 hG4 hG5 hG6 hG7 hG8 hG9 hO; simp only [Ro.std, Ar.std] at * <;> grind [stdCmp]; done)
theorem ok_ocheck : ConOk Try.prog 40 (c_ocheck Ro.std) := by
  refine con_of (FsOk.cons ok_vmay (FsOk.cons ok_rnode (FsOk.cons ok_rbound (FsOk.cons ok_rforest FsOk.nil rfl) rfl) rfl) rfl) Try.func40 rfl rfl fun xs h p hp => ?_
  unfold c_ocheck at hp
  split at hp
  · cases hp
    exact ⟨lee_le rfl, fun hC _ => x_ocheck _ _ _ hC⟩
  · cases hp

def c_rhop (F : Ro) : Con := fun xs h => match xs, h with
  | [.agg [.sl none (.ints .i64 v_n), .sl none (.recs (.int .i64 (.int .i64 (.int .i64 (.int .i64 (.bool .nil))))) v_l)], .one (.val (.int .i64 a)), .one (.val (.int .i64 d))], [] => some ⟨F.o_ok v_n v_l = true, .tup [I (F.o_hpN v_n v_l a d), I (F.o_hpE v_n v_l a d)], [], [Any, Any, Any]⟩
  | _, _ => none
set_option cbv.maxSteps 4000000 in
set_option maxHeartbeats 4000000 in
set_option maxRecDepth 100000 in
theorem x_rhop (v_n : List Int) (v_l : List E) (a : Int) (d : Int) (hC : Ro.std.o_ok v_n v_l = true) : Does [(56, c_rnode EgR.Fs.std), (40, c_ocheck Ro.std), (25, c_rbound ViQ.Vm.std), (29, c_rlinked SpQ.Sq.std), (82, c_rway TrW.Tw.std)] Try.f41 [.agg [.sl none (.ints .i64 v_n), .sl none (.recs (.int .i64 (.int .i64 (.int .i64 (.int .i64 (.bool .nil))))) v_l)], .one (.val (.int .i64 a)), .one (.val (.int .i64 d))] [] ⟨Ro.std.o_ok v_n v_l = true, .tup [I (Ro.std.o_hpN v_n v_l a d), I (Ro.std.o_hpE v_n v_l a d)], [], [Any, Any, Any]⟩ := by
  intro b gv
  have hk : v_n.length ≤ 70 ∧ v_l.length ≤ 60 := of_decide_eq_true (show decide (v_n.length ≤ 70 ∧ v_l.length ≤ 60) = true from hC)
  obtain ⟨hk1, hk2⟩ := hk
  have hb := fun h => bnd_all (n := v_n) (l := v_l) h (by omega)
  have hb0 : ¬ mayV v_n v_l = true → boV v_n v_l = [] := fun h => if_neg h
  have h1 : mayV v_n v_l = true → inR (boV v_n v_l) = true := fun h => in_R (all_good (hb h).1) (by have := (hb h).2.2; omega)
  have h2 := fun h => hp_all (n := v_n) (l := v_l) (a := a) (d := d) h
  have h3 := fun h => (tf_0 (n := v_n) (l := v_l) (a := a) (d := a) h).1
  have h4 : nodB d = true → tfE v_n v_l a a = tfE v_n v_l a d := fun h => by
    unfold tfE
    grind
  have h5 : ¬ nodB d = true → tfE v_n v_l a d = 1 := fun h => by
    unfold tfE
    rw [if_neg fun w => h w.2.2]
  have hfs := (FsOk.cons ok_rnode (FsOk.cons ok_ocheck (FsOk.cons ok_rbound (FsOk.cons ok_rlinked (FsOk.cons ok_rway FsOk.nil rfl) rfl) rfl) rfl) rfl)
  generalize hF : Ro.std = F at hC hfs ⊢
  generalize hG0 : EgR.Fs.std = G0 at hC hfs ⊢
  generalize hG1 : SpR.Sp.std = G1 at hC hfs ⊢
  generalize hG2 : SpQ.Sq.std = G2 at hC hfs ⊢
  generalize hG3 : TrR.Tr.std = G3 at hC hfs ⊢
  generalize hG4 : TrD.Td.std = G4 at hC hfs ⊢
  generalize hG5 : TrW.Tw.std = G5 at hC hfs ⊢
  generalize hG6 : ViC.Vc.std = G6 at hC hfs ⊢
  generalize hG7 : ViL.Vl.std = G7 at hC hfs ⊢
  generalize hG8 : ViQ.Vm.std = G8 at hC hfs ⊢
  generalize hG9 : RoV.Rv.std = G9 at hC hfs ⊢
  generalize hA : Ar.std = A
  generalize hL : Lp _ _ _ = L
  obtain ⟨Z, zq⟩ := z_all
  refine cd_open (lp_mono hL) zq rfl ?_
  repeat' (first
    | (refine z_open zq ?_; try dsimp only)
    | refine cd_seq zq ?_ (lp_mono hL)
    | refine cd_blk zq ?_
    | refine cd_ret ?_
    | refine cd_skip ?_
    | refine cd_exit ?_
    | refine cd_loop ?_
    | refine cd_cond rfl ?_
    | refine cd_condT rfl ?_
    | refine cd_condF rfl ?_
    | (refine Cd.mk ?_; cbv)
    | (refine Ends1.mk ?_; cbv)
    | (refine Fin1.mk ?_; cbv)
    | exact trivial
    | refine And.intro ?_ ?_
    | refine orf fun _ => ?_
    | refine ort fun _ => ?_)
  all_goals
    clear hL zq Z
    try clear hfs
    subst hA hF hG0 hG1 hG2 hG3 hG4 hG5 hG6 hG7 hG8 hG9
    simp only [Ro.std, EgR.Fs.std, SpQ.Sq.std, TrW.Tw.std, ViQ.Vm.std, Ar.std] at *
    try (grind [stdCmp, hpE, hpN])
theorem ok_rhop : ConOk Try.prog 41 (c_rhop Ro.std) := by
  refine con_of (FsOk.cons ok_rnode (FsOk.cons ok_ocheck (FsOk.cons ok_rbound (FsOk.cons ok_rlinked (FsOk.cons ok_rway FsOk.nil rfl) rfl) rfl) rfl) rfl) Try.func41 rfl rfl fun xs h p hp => ?_
  unfold c_rhop at hp
  split at hp
  · cases hp
    exact ⟨lee_le rfl, fun hC _ => x_rhop _ _ _ _ hC⟩
  · cases hp

def c_rleader (F : Ro) : Con := fun xs h => match xs, h with
  | [.agg [.sl none (.ints .i64 v_n), .sl none (.recs (.int .i64 (.int .i64 (.int .i64 (.int .i64 (.bool .nil))))) v_l)], .one (.val (.int .i64 a))], [] => some ⟨F.o_ok v_n v_l = true, .tup [I (F.o_ldN v_n v_l a), I (F.o_tfE v_n v_l a a)], [], [Any, Any]⟩
  | _, _ => none
def c_oawake (_ : Ro) : Con := fun xs h => match xs, h with
  | [], [] => some ⟨True, .sa (B true), [], []⟩
  | _, _ => none
set_option cbv.maxSteps 4000000 in
set_option maxHeartbeats 4000000 in
set_option maxRecDepth 100000 in
theorem x_oawake  : Does [(35, c_rview RoV.Rv.std), (77, c_hop Ro.std), (78, c_leader Ro.std)] Try.f38 [] [] ⟨True, .sa (B true), [], []⟩ := by
  intro b gv
  have g1 := aw_v
  obtain ⟨g2, g3, g4, g5⟩ := aw_h
  unfold aE aV at g1
  unfold aV at g2 g3 g4 g5
  have hfs := (FsOk.cons ok_rview (FsOk.cons ok_hop (FsOk.cons ok_leader FsOk.nil rfl) rfl) rfl)
  generalize hF : Ro.std = F at hfs ⊢
  generalize hG0 : EgR.Fs.std = G0 at hfs ⊢
  generalize hG1 : SpR.Sp.std = G1 at hfs ⊢
  generalize hG2 : SpQ.Sq.std = G2 at hfs ⊢
  generalize hG3 : TrR.Tr.std = G3 at hfs ⊢
  generalize hG4 : TrD.Td.std = G4 at hfs ⊢
  generalize hG5 : TrW.Tw.std = G5 at hfs ⊢
  generalize hG6 : ViC.Vc.std = G6 at hfs ⊢
  generalize hG7 : ViL.Vl.std = G7 at hfs ⊢
  generalize hG8 : ViQ.Vm.std = G8 at hfs ⊢
  generalize hG9 : RoV.Rv.std = G9 at hfs ⊢
  generalize hA : Ar.std = A
  generalize hL : Lp _ _ _ = L
  obtain ⟨Z, zq⟩ := z_all
  refine cd_open (lp_mono hL) zq rfl ?_
  repeat' (first
    | (refine z_open zq ?_; try dsimp only)
    | refine cd_seq zq ?_ (lp_mono hL)
    | refine cd_blk zq ?_
    | refine cd_ret ?_
    | refine cd_skip ?_
    | refine cd_exit ?_
    | refine cd_loop ?_
    | refine cd_cond rfl ?_
    | refine cd_condT rfl ?_
    | refine cd_condF rfl ?_
    | (refine Cd.mk ?_; cbv)
    | (refine Ends1.mk ?_; cbv)
    | (refine Fin1.mk ?_; cbv)
    | exact trivial
    | refine And.intro ?_ ?_
    | refine orf fun _ => ?_
    | refine ort fun _ => ?_)
  all_goals
    clear hL zq Z
    try clear hfs
    subst hA hF hG0 hG1 hG2 hG3 hG4 hG5 hG6 hG7 hG8 hG9
    simp only [Ro.std, RoV.Rv.std, Ar.std] at *
    try simp only [g1, g2, g3, g4, g5] at *
    try rfl
    try (grind [stdCmp])
theorem ok_oawake : ConOk Try.prog 38 (c_oawake Ro.std) := by
  refine con_of (FsOk.cons ok_rview (FsOk.cons ok_hop (FsOk.cons ok_leader FsOk.nil rfl) rfl) rfl) Try.func38 rfl rfl fun xs h p hp => ?_
  unfold c_oawake at hp
  split at hp
  · cases hp
    exact ⟨lee_le rfl, fun _ _ => x_oawake ⟩
  · cases hp
end Go.Proofs.Ytfioaidmgcibaaa.RoR
