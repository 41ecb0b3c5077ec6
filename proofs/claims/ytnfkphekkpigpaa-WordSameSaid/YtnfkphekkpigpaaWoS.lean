/-
  which words are alike; awake. No condition.
-/
import Derived.Test.YtnfkphekkpigpaaWoT
import Derived.Test.YtnfkphekkpigpaaWoP
namespace Go.Proofs.Ytnfkphekkpigpaa.WoS
open Go Go.Proofs.Ytnfkphekkpigpaa.Ry Go.Proofs.Ytnfkphekkpigpaa.ViR Go.Proofs.Ytnfkphekkpigpaa.ViS Go.Proofs.Ytnfkphekkpigpaa.OctR Go.Proofs.Ytnfkphekkpigpaa.OctP Go.Proofs.Ytnfkphekkpigpaa.OctQ Go.Proofs.Ytnfkphekkpigpaa.WoR Go.Proofs.Ytnfkphekkpigpaa.WoD Go.Proofs.Ytnfkphekkpigpaa.WoQ Go.Proofs.Ytnfkphekkpigpaa.WoP Go.Proofs.Ytnfkphekkpigpaa.WoT

def sameW (w u : WD) : Bool := decide (w.k = u.k ∧ w.e = u.e ∧ w.r = u.r ∧ w.ck = u.ck ∧ w.ca = u.ca ∧ w.cb = u.cb ∧ w.cs = u.cs) && sameV w.n w.l u.n u.l
theorem aw_1 : encW ⟨4, 0, 0, [], [], 0, 0, 0, 0⟩ = [4, 0, 0, 0, 0, 0, 0, 0, 0, 0, 0, 0, 0, 0, 0, 0] := by rfl
theorem aw_2 : decW [4, 0, 0, 0, 0, 0, 0, 0, 0, 0, 0, 0, 0, 0, 0, 0] = ⟨⟨4, 0, 0, [], [], 0, 0, 0, 0⟩, 0⟩ := by
  have h := (dec_enc (w := ⟨4, 0, 0, [], [], 0, 0, 0, 0⟩) (by rfl)).1
  rw [aw_1] at h
  exact h
theorem aw_3 : mayW ⟨4, 0, 0, [], [], 0, 0, 0, 0⟩ = true ∧ byL [4, 0, 0, 0, 0, 0, 0, 0, 0, 0, 0, 0, 0, 0, 0, 0] = true ∧ okS ⟨4, 0, 0, [], [], 0, 0, 0, 0⟩ = true := ⟨by rfl, by rfl, by rfl⟩
theorem same_cW (w : WD) : sameW (cW w) w = true := by
  unfold sameW cW sameV sameI sameK
  simp only [List.map_map, Bool.and_eq_true, decide_eq_true_eq, and_self, true_and]
  rfl
theorem same_self (w : WD) : sameW w w = true := by
  unfold sameW sameV sameI sameK
  simp
theorem cW_same {w u : WD} : cW w = cW u ↔ sameW w u = true := by
  have key : ∀ (l k : List E), l.map cE = k.map cE ↔ l.map kT = k.map kT := by
    intro l
    induction l with
    | nil =>
      intro k
      cases k <;> simp
    | cons y l ih =>
      intro k
      cases k with
      | nil => simp
      | cons z k =>
        rw [List.map_cons, List.map_cons, List.map_cons, List.map_cons, List.cons.injEq, List.cons.injEq, ih k]
        have : cE y = cE z ↔ kT y = kT z := by
          unfold cE kT
          simp
        rw [this]
  unfold cW sameW sameV sameI sameK
  rw [WD.mk.injEq, key]
  simp only [Bool.and_eq_true, decide_eq_true_eq]
  constructor
  · rintro ⟨a, b, c, d, e, f, g, h, i⟩
    exact ⟨⟨a, b, c, f, g, h, i⟩, d, e⟩
  · rintro ⟨⟨a, b, c, f, g, h, i⟩, d, e⟩
    exact ⟨a, b, c, d, e, f, g, h, i⟩
/-- Words are alike just if their bytes are. -/
theorem enc_same {w u : WD} (hw : mayW w = true) (hu : mayW u = true) : encW w = encW u ↔ sameW w u = true := by
  rw [← cW_same]
  constructor
  · intro h
    have a := (dec_enc hw).1
    have b := (dec_enc hu).1
    rw [h, b] at a
    exact ((DW.mk.injEq ..).mp a).1.symm
  · intro h
    rw [← cEnc w, ← cEnc u, h]
theorem enc_len1 {w : WD} (h : mayW w = true) : (encW w).length ≤ 100000 := by
  have l := may_len h
  unfold encW
  rw [if_pos h]
  unfold encP
  have a := hd_le w
  have c := nd_le w.n (hdP w)
  have d := pt_le (ndP (hdP w) w.n) w.l.length 2
  have f := la_le w.l (pt (ndP (hdP w) w.n) w.l.length 2)
  omega
theorem enc_byL {w : WD} (h : mayW w = true) : byL (encW w) = true := by
  have := enc_len1 h
  unfold byL
  rw [enc_by h, Bool.and_true, decide_eq_true_eq]
  omega
theorem enc_not {w : WD} (h : ¬ mayW w = true) : encW w = [] := if_neg h
theorem eta_WD (w : WD) : (⟨w.k, w.e, w.r, w.n, w.l, w.ck, w.ca, w.cb, w.cs⟩ : WD) = w := rfl
theorem cW_ok {w : WD} (h : mayW w = true) : okS (cW w) = true := by
  have l := may_len h
  unfold okS cW
  rw [decide_eq_true_eq]
  simp only [List.length_map]
  omega
theorem dec_facts {b : List Int} (hb : byB b = true) : ((rdecW b).b = true → (decW b).e = 0 ∧ sameW (decW b).w (rdecW b).w = true) ∧ ((rdecW b).b = false → (decW b).e = 5 ∧ sameW (decW b).w ⟨0, 0, 0, [], [], 0, 0, 0, 0⟩ = true) ∧ okS (decW b).w = true ∧ okS (rdecW b).w = true := by
  rcases dec_cases hb with ⟨w, h1, _, h3, h4⟩ | ⟨h3, h4⟩
  · rw [h3, h4]
    exact ⟨fun _ => ⟨rfl, same_self _⟩, fun h => (by cases h), cW_ok h1, cW_ok h1⟩
  · rw [h3, h4]
    exact ⟨fun h => (by cases h), fun _ => ⟨rfl, same_self _⟩, by rfl, by rfl⟩
def wE (a : E) : WD := ⟨ri a 0, ri a 1, ri a 2, rl a 3, rr a 4, ri a 5, ri a 6, ri a 7, ri a 8⟩

structure Wz where
  s_w : WD → WD → Bool
  s_ok : WD → WD → Bool
  s_li : WD → Bool
def Wz.std : Wz := ⟨sameW, fun w u => okS w && okS u, fun w => decide (w.n.length ≤ 70 ∧ w.l.length ≤ 150)⟩

def c_wsame (F : Wz) : Con := fun xs h => match xs, h with
  | [.agg [.val (.int .i64 w_k), .val (.int .i64 w_e), .val (.int .i64 w_r), .sl none (.ints .i64 w_n), .sl none (.recs (.int .i64 (.int .i64 (.int .i64 (.int .i64 (.bool .nil))))) w_l), .val (.int .i64 w_ck), .val (.int .i64 w_ca), .val (.int .i64 w_cb), .val (.int .i64 w_cs)], .agg [.val (.int .i64 u_k), .val (.int .i64 u_e), .val (.int .i64 u_r), .sl none (.ints .i64 u_n), .sl none (.recs (.int .i64 (.int .i64 (.int .i64 (.int .i64 (.bool .nil))))) u_l), .val (.int .i64 u_ck), .val (.int .i64 u_ca), .val (.int .i64 u_cb), .val (.int .i64 u_cs)]], [] => some ⟨F.s_ok ⟨w_k, w_e, w_r, w_n, w_l, w_ck, w_ca, w_cb, w_cs⟩ ⟨u_k, u_e, u_r, u_n, u_l, u_ck, u_ca, u_cb, u_cs⟩ = true, .sa (B (F.s_w ⟨w_k, w_e, w_r, w_n, w_l, w_ck, w_ca, w_cb, w_cs⟩ ⟨u_k, u_e, u_r, u_n, u_l, u_ck, u_ca, u_cb, u_cs⟩)), [], [Any, Any]⟩
  | _, _ => none
set_option cbv.maxSteps 4000000 in
set_option maxHeartbeats 4000000 in
set_option maxRecDepth 100000 in
theorem x_wsame (w_k : Int) (w_e : Int) (w_r : Int) (w_n : List Int) (w_l : List E) (w_ck : Int) (w_ca : Int) (w_cb : Int) (w_cs : Int) (u_k : Int) (u_e : Int) (u_r : Int) (u_n : List Int) (u_l : List E) (u_ck : Int) (u_ca : Int) (u_cb : Int) (u_cs : Int) (hC : Wz.std.s_ok ⟨w_k, w_e, w_r, w_n, w_l, w_ck, w_ca, w_cb, w_cs⟩ ⟨u_k, u_e, u_r, u_n, u_l, u_ck, u_ca, u_cb, u_cs⟩ = true) : Does [(20, c_vsame ViS.Vq.std)] Try.f42 [.agg [.val (.int .i64 w_k), .val (.int .i64 w_e), .val (.int .i64 w_r), .sl none (.ints .i64 w_n), .sl none (.recs (.int .i64 (.int .i64 (.int .i64 (.int .i64 (.bool .nil))))) w_l), .val (.int .i64 w_ck), .val (.int .i64 w_ca), .val (.int .i64 w_cb), .val (.int .i64 w_cs)], .agg [.val (.int .i64 u_k), .val (.int .i64 u_e), .val (.int .i64 u_r), .sl none (.ints .i64 u_n), .sl none (.recs (.int .i64 (.int .i64 (.int .i64 (.int .i64 (.bool .nil))))) u_l), .val (.int .i64 u_ck), .val (.int .i64 u_ca), .val (.int .i64 u_cb), .val (.int .i64 u_cs)]] [] ⟨Wz.std.s_ok ⟨w_k, w_e, w_r, w_n, w_l, w_ck, w_ca, w_cb, w_cs⟩ ⟨u_k, u_e, u_r, u_n, u_l, u_ck, u_ca, u_cb, u_cs⟩ = true, .sa (B (Wz.std.s_w ⟨w_k, w_e, w_r, w_n, w_l, w_ck, w_ca, w_cb, w_cs⟩ ⟨u_k, u_e, u_r, u_n, u_l, u_ck, u_ca, u_cb, u_cs⟩)), [], [Any, Any]⟩ := by
  intro b gv
  have hfs := (FsOk.cons ok_vsame FsOk.nil rfl)
  generalize hF : Wz.std = F at hC hfs ⊢
  generalize hG0 : ViS.Vq.std = G0 at hC hfs ⊢
  generalize hG1 : WoR.Ws.std = G1 at hC hfs ⊢
  generalize hG2 : WoD.Wd.std = G2 at hC hfs ⊢
  generalize hA : Ar.std = A
  generalize hL : Lp _ _ _ = L
  obtain ⟨Z, zq⟩ := z_all
  refine cd_open (lp_mono hL) zq rfl ?_
  repeat' (first
    | (refine z_open zq ?_; try dsimp only)
    | refine cd_seq zq ?_ (lp_mono hL)
    | refine cd_blk zq ?_
    | refine cd_ret ?_
    | refine cd_skip ?_
    | refine cd_exit ?_
    | refine cd_loop ?_
    | refine cd_cond rfl ?_
    | refine cd_condT rfl ?_
    | refine cd_condF rfl ?_
    | (refine Cd.mk ?_; cbv)
    | (refine Ends1.mk ?_; cbv)
    | (refine Fin1.mk ?_; cbv)
    | exact trivial
    | refine And.intro ?_ ?_
    | refine orf fun _ => ?_
    | refine ort fun _ => ?_)
  all_goals
    clear hL zq Z
    try clear hfs
    subst hA hF hG0 hG1 hG2
    simp only [Wz.std, ViS.Vq.std, Ar.std] at *
    try (grind [stdCmp, sameW, okS])
theorem ok_wsame : ConOk Try.prog 42 (c_wsame Wz.std) := by
  refine con_of (FsOk.cons ok_vsame FsOk.nil rfl) Try.func42 rfl rfl fun xs h p hp => ?_
  unfold c_wsame at hp
  split at hp
  · cases hp
    exact ⟨lee_le rfl, fun hC _ => x_wsame _ _ _ _ _ _ _ _ _ _ _ _ _ _ _ _ _ _ hC⟩
  · cases hp

def c_rwsame (F : Wz) : Con := fun xs h => match xs, h with
  | [.agg [.val (.int .i64 w_k), .val (.int .i64 w_e), .val (.int .i64 w_r), .sl none (.ints .i64 w_n), .sl none (.recs (.int .i64 (.int .i64 (.int .i64 (.int .i64 (.bool .nil))))) w_l), .val (.int .i64 w_ck), .val (.int .i64 w_ca), .val (.int .i64 w_cb), .val (.int .i64 w_cs)], .agg [.val (.int .i64 u_k), .val (.int .i64 u_e), .val (.int .i64 u_r), .sl none (.ints .i64 u_n), .sl none (.recs (.int .i64 (.int .i64 (.int .i64 (.int .i64 (.bool .nil))))) u_l), .val (.int .i64 u_ck), .val (.int .i64 u_ca), .val (.int .i64 u_cb), .val (.int .i64 u_cs)]], [] => some ⟨F.s_ok ⟨w_k, w_e, w_r, w_n, w_l, w_ck, w_ca, w_cb, w_cs⟩ ⟨u_k, u_e, u_r, u_n, u_l, u_ck, u_ca, u_cb, u_cs⟩ = true, .sa (B (F.s_w ⟨w_k, w_e, w_r, w_n, w_l, w_ck, w_ca, w_cb, w_cs⟩ ⟨u_k, u_e, u_r, u_n, u_l, u_ck, u_ca, u_cb, u_cs⟩)), [], [Any, Any]⟩
  | _, _ => none
set_option cbv.maxSteps 4000000 in
set_option maxHeartbeats 4000000 in
set_option maxRecDepth 100000 in
theorem x_rwsame (w_k : Int) (w_e : Int) (w_r : Int) (w_n : List Int) (w_l : List E) (w_ck : Int) (w_ca : Int) (w_cb : Int) (w_cs : Int) (u_k : Int) (u_e : Int) (u_r : Int) (u_n : List Int) (u_l : List E) (u_ck : Int) (u_ca : Int) (u_cb : Int) (u_cs : Int) (hC : Wz.std.s_ok ⟨w_k, w_e, w_r, w_n, w_l, w_ck, w_ca, w_cb, w_cs⟩ ⟨u_k, u_e, u_r, u_n, u_l, u_ck, u_ca, u_cb, u_cs⟩ = true) : Does [(21, c_rvsame ViS.Vq.std)] Try.f40 [.agg [.val (.int .i64 w_k), .val (.int .i64 w_e), .val (.int .i64 w_r), .sl none (.ints .i64 w_n), .sl none (.recs (.int .i64 (.int .i64 (.int .i64 (.int .i64 (.bool .nil))))) w_l), .val (.int .i64 w_ck), .val (.int .i64 w_ca), .val (.int .i64 w_cb), .val (.int .i64 w_cs)], .agg [.val (.int .i64 u_k), .val (.int .i64 u_e), .val (.int .i64 u_r), .sl none (.ints .i64 u_n), .sl none (.recs (.int .i64 (.int .i64 (.int .i64 (.int .i64 (.bool .nil))))) u_l), .val (.int .i64 u_ck), .val (.int .i64 u_ca), .val (.int .i64 u_cb), .val (.int .i64 u_cs)]] [] ⟨Wz.std.s_ok ⟨w_k, w_e, w_r, w_n, w_l, w_ck, w_ca, w_cb, w_cs⟩ ⟨u_k, u_e, u_r, u_n, u_l, u_ck, u_ca, u_cb, u_cs⟩ = true, .sa (B (Wz.std.s_w ⟨w_k, w_e, w_r, w_n, w_l, w_ck, w_ca, w_cb, w_cs⟩ ⟨u_k, u_e, u_r, u_n, u_l, u_ck, u_ca, u_cb, u_cs⟩)), [], [Any, Any]⟩ := by
  intro b gv
  have hfs := (FsOk.cons ok_rvsame FsOk.nil rfl)
  generalize hF : Wz.std = F at hC hfs ⊢
  generalize hG0 : ViS.Vq.std = G0 at hC hfs ⊢
  generalize hG1 : WoR.Ws.std = G1 at hC hfs ⊢
  generalize hG2 : WoD.Wd.std = G2 at hC hfs ⊢
  generalize hA : Ar.std = A
  generalize hL : Lp _ _ _ = L
  obtain ⟨Z, zq⟩ := z_all
  refine cd_open (lp_mono hL) zq rfl ?_
  repeat' (first
    | (refine z_open zq ?_; try dsimp only)
    | refine cd_seq zq ?_ (lp_mono hL)
    | refine cd_blk zq ?_
    | refine cd_ret ?_
    | refine cd_skip ?_
    | refine cd_exit ?_
    | refine cd_loop ?_
    | refine cd_cond rfl ?_
    | refine cd_condT rfl ?_
    | refine cd_condF rfl ?_
    | (refine Cd.mk ?_; cbv)
    | (refine Ends1.mk ?_; cbv)
    | (refine Fin1.mk ?_; cbv)
    | exact trivial
    | refine And.intro ?_ ?_
    | refine orf fun _ => ?_
    | refine ort fun _ => ?_)
  all_goals
    clear hL zq Z
    try clear hfs
    subst hA hF hG0 hG1 hG2
    simp only [Wz.std, ViS.Vq.std, Ar.std] at *
    try (grind [stdCmp, sameW, okS])
theorem ok_rwsame : ConOk Try.prog 40 (c_rwsame Wz.std) := by
  refine con_of (FsOk.cons ok_rvsame FsOk.nil rfl) Try.func40 rfl rfl fun xs h p hp => ?_
  unfold c_rwsame at hp
  split at hp
  · cases hp
    exact ⟨lee_le rfl, fun hC _ => x_rwsame _ _ _ _ _ _ _ _ _ _ _ _ _ _ _ _ _ _ hC⟩
  · cases hp

def c_wlight (F : Wz) : Con := fun xs h => match xs, h with
  | [.agg [.val (.int .i64 w_k), .val (.int .i64 w_e), .val (.int .i64 w_r), .sl none (.ints .i64 w_n), .sl none (.recs (.int .i64 (.int .i64 (.int .i64 (.int .i64 (.bool .nil))))) w_l), .val (.int .i64 w_ck), .val (.int .i64 w_ca), .val (.int .i64 w_cb), .val (.int .i64 w_cs)]], [] => some ⟨True, .sa (B (F.s_li ⟨w_k, w_e, w_r, w_n, w_l, w_ck, w_ca, w_cb, w_cs⟩)), [], [Any]⟩
  | _, _ => none
set_option cbv.maxSteps 4000000 in
set_option maxHeartbeats 4000000 in
set_option maxRecDepth 100000 in
theorem x_wlight (w_k : Int) (w_e : Int) (w_r : Int) (w_n : List Int) (w_l : List E) (w_ck : Int) (w_ca : Int) (w_cb : Int) (w_cs : Int) : Does [] Try.f33 [.agg [.val (.int .i64 w_k), .val (.int .i64 w_e), .val (.int .i64 w_r), .sl none (.ints .i64 w_n), .sl none (.recs (.int .i64 (.int .i64 (.int .i64 (.int .i64 (.bool .nil))))) w_l), .val (.int .i64 w_ck), .val (.int .i64 w_ca), .val (.int .i64 w_cb), .val (.int .i64 w_cs)]] [] ⟨True, .sa (B (Wz.std.s_li ⟨w_k, w_e, w_r, w_n, w_l, w_ck, w_ca, w_cb, w_cs⟩)), [], [Any]⟩ := by
  intro b gv
  have hfs := FsOk.nil
  generalize hF : Wz.std = F at hfs ⊢
  generalize hG0 : ViS.Vq.std = G0 at hfs ⊢
  generalize hG1 : WoR.Ws.std = G1 at hfs ⊢
  generalize hG2 : WoD.Wd.std = G2 at hfs ⊢
  generalize hA : Ar.std = A
  generalize hL : Lp _ _ _ = L
  obtain ⟨Z, zq⟩ := z_all
  refine cd_open (lp_mono hL) zq rfl ?_
  repeat' (first
    | (refine z_open zq ?_; try dsimp only)
    | refine cd_seq zq ?_ (lp_mono hL)
    | refine cd_blk zq ?_
    | refine cd_ret ?_
    | refine cd_skip ?_
    | refine cd_exit ?_
    | refine cd_loop ?_
    | refine cd_cond rfl ?_
    | refine cd_condT rfl ?_
    | refine cd_condF rfl ?_
    | (refine Cd.mk ?_; cbv)
    | (refine Ends1.mk ?_; cbv)
    | (refine Fin1.mk ?_; cbv)
    | exact trivial
    | refine And.intro ?_ ?_
    | refine orf fun _ => ?_
    | refine ort fun _ => ?_)
  all_goals
    clear hL zq Z
    try clear hfs
    subst hA hF hG0 hG1 hG2
    simp only [Wz.std, Ar.std] at *
    try (grind [stdCmp])
theorem ok_wlight : ConOk Try.prog 33 (c_wlight Wz.std) := by
  refine con_of FsOk.nil Try.func33 rfl rfl fun xs h p hp => ?_
  unfold c_wlight at hp
  split at hp
  · cases hp
    exact ⟨lee_le rfl, fun _ _ => x_wlight _ _ _ _ _ _ _ _ _⟩
  · cases hp

def c_wawake (_ : Wz) : Con := fun xs h => match xs, h with
  | [], [] => some ⟨True, .sa (B true), [], []⟩
  | _, _ => none
set_option cbv.maxSteps 4000000 in
set_option maxHeartbeats 4000000 in
set_option maxRecDepth 100000 in
theorem x_wawake  : Does [(35, dnil [[none, none, none, some (.ints .i64 []), some (.recs (.int .i64 (.int .i64 (.int .i64 (.int .i64 (.bool .nil))))) []), none, none, none, none]] (c_wencode WoR.Ws.std)), (38, c_wdecode WoD.Wd.std)] Try.f34 [] [] ⟨True, .sa (B true), [], []⟩ := by
  intro b gv
  have g1 := aw_1
  have g2 := aw_2
  have g3 := aw_3
  have hfs := (FsOk.cons (dnil_ok [[none, none, none, some (.ints .i64 []), some (.recs (.int .i64 (.int .i64 (.int .i64 (.int .i64 (.bool .nil))))) []), none, none, none, none]] ok_wencode) (FsOk.cons ok_wdecode FsOk.nil rfl) rfl)
  generalize hF : Wz.std = F at hfs ⊢
  generalize hG0 : ViS.Vq.std = G0 at hfs ⊢
  generalize hG1 : WoR.Ws.std = G1 at hfs ⊢
  generalize hG2 : WoD.Wd.std = G2 at hfs ⊢
  generalize hA : Ar.std = A
  generalize hL : Lp _ _ _ = L
  obtain ⟨Z, zq⟩ := z_all
  refine cd_open (lp_mono hL) zq rfl ?_
  repeat' (first
    | (refine z_open zq ?_; try dsimp only)
    | refine cd_seq zq ?_ (lp_mono hL)
    | refine cd_blk zq ?_
    | refine cd_ret ?_
    | refine cd_skip ?_
    | refine cd_exit ?_
    | refine cd_loop ?_
    | refine cd_cond rfl ?_
    | refine cd_condT rfl ?_
    | refine cd_condF rfl ?_
    | (refine Cd.mk ?_; cbv)
    | (refine Ends1.mk ?_; cbv)
    | (refine Fin1.mk ?_; cbv)
    | exact trivial
    | refine And.intro ?_ ?_
    | refine orf fun _ => ?_
    | refine ort fun _ => ?_)
  all_goals
    clear hL zq Z
    try clear hfs
    subst hA hF hG0 hG1 hG2
    simp only [WoR.Ws.std, WoD.Wd.std, Ar.std] at *
    try simp only [g1, g2] at *
    try (simp only [g3.1]; rfl)
    try (grind [stdCmp, er])
theorem ok_wawake : ConOk Try.prog 34 (c_wawake Wz.std) := by
  refine con_of (FsOk.cons (dnil_ok [[none, none, none, some (.ints .i64 []), some (.recs (.int .i64 (.int .i64 (.int .i64 (.int .i64 (.bool .nil))))) []), none, none, none, none]] ok_wencode) (FsOk.cons ok_wdecode FsOk.nil rfl) rfl) Try.func34 rfl rfl fun xs h p hp => ?_
  unfold c_wawake at hp
  split at hp
  · cases hp
    exact ⟨lee_le rfl, fun _ _ => x_wawake ⟩
  · cases hp
end Go.Proofs.Ytnfkphekkpigpaa.WoS
