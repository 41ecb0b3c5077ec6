/-
  words over the reckoner: which there may be, and their bytes. No condition.
-/
import Derived.Test.YtnfkphekkpigpaaViC
import Derived.Test.YtnfkphekkpigpaaOctQ
import Derived.Test.YtnfkphekkpigpaaRyOr
namespace Go.Proofs.Ytnfkphekkpigpaa.WoR
open Go Go.Proofs.Ytnfkphekkpigpaa.Ry Go.Proofs.Ytnfkphekkpigpaa.ViR Go.Proofs.Ytnfkphekkpigpaa.ViC Go.Proofs.Ytnfkphekkpigpaa.OctR Go.Proofs.Ytnfkphekkpigpaa.OctP Go.Proofs.Ytnfkphekkpigpaa.OctQ

structure WD where
  k : Int
  e : Int
  r : Int
  n : List Int
  l : List E
  ck : Int
  ca : Int
  cb : Int
  cs : Int
def mayC (k a b s : Int) : Bool := decide (k = 1 ∧ a = 0 ∧ b = 0 ∧ s = 0 ∨ (k = 2 ∨ k = 3) ∧ nodB a = true ∧ nodB b = true ∧ a ≠ b ∧ 1 ≤ s ∧ s ≤ 2147483647 ∧ (k = 3 → a < b))
def mayE (e r : Int) : Bool := decide (e = 0 ∧ r = 0 ∨ 1 ≤ e ∧ e ≤ 2147483647 ∧ nodB r = true)
def er (b : Bool) : Int := if b = true then 0 else 1
def nmd (k : Int) : Bool := decide (k = 1 ∨ k = 2 ∨ k = 3)
def okE (w : WD) : Bool := decide ((nmd w.k = true → ¬ (w.e = 0 ∧ w.r = 0)) ∧ (nmd w.k = false → w.e = 0 ∧ w.r = 0)) && mayE w.e w.r
def full (w : WD) : Bool := decide (w.k = 2 ∨ w.k = 3 ∧ w.ck = 1)
def okV (w : WD) : Bool := if full w = true then decide (0 < w.n.length ∧ w.l.length ≤ 1024) && mayV w.n w.l else decide (w.n.length = 0 ∧ w.l.length = 0)
def okC (w : WD) : Bool := if w.k = 3 then mayC w.ck w.ca w.cb w.cs else decide (w.ck = 0 ∧ w.ca = 0 ∧ w.cb = 0 ∧ w.cs = 0)
def mayW (w : WD) : Bool := decide (1 ≤ w.k ∧ w.k < 8) && (okE w && (okV w && okC w))
def okS (w : WD) : Bool := decide (w.n.length ≤ 1000000 ∧ w.l.length ≤ 1000000)
def pt (b : List Int) (n w : Int) : List Int := b ++ putL [] n w
def lkP (b : List Int) (y : E) : List Int := pt (pt (pt (pt (pt b (ri y 0) 1) (ri y 1) 1) (ri y 2) 4) (ri y 3) 4) (if rb y 4 = true then 1 else 0) 1
def lk5 (b : List Int) (n p w s : Int) (mk : Bool) : List Int := pt (pt (pt (pt (pt b n 1) p 1) w 4) s 4) (if mk = true then 1 else 0) 1
def hdP (w : WD) : List Int := pt (pt (pt (pt (pt (pt (pt (putL [] w.k 1) w.e 4) w.r 1) w.ck 1) w.ca 1) w.cb 1) w.cs 4) w.n.length 1
def ndP (b : List Int) (n : List Int) : List Int := n.foldl (fun b x => pt b x 1) b
def lkA (b : List Int) (l : List E) : List Int := l.foldl lkP b
def encP (w : WD) : List Int := lkA (pt (ndP (hdP w) w.n) w.l.length 2) w.l
def encW (w : WD) : List Int := if mayW w = true then encP w else []
theorem put_le (n w : Int) : (putL [] n w).length ≤ 4 := by
  unfold putL
  split
  · rename_i h
    unfold behI
    rw [List.nil_append, num_len]
    cases g : isW w with
    | true =>
      have : 1 ≤ w ∧ w ≤ 4 := of_decide_eq_true g
      omega
    | false =>
      unfold putE at h
      rw [if_pos g] at h
      cases h
  · simp
theorem pt_le (b : List Int) (n w : Int) : (pt b n w).length ≤ b.length + 4 := by
  have := put_le n w
  unfold pt
  rw [List.length_append]
  omega
theorem lk_le (b : List Int) (y : E) : (lkP b y).length ≤ b.length + 20 := by
  unfold lkP
  have h1 := pt_le b (ri y 0) 1
  have h2 := pt_le (pt b (ri y 0) 1) (ri y 1) 1
  have h3 := pt_le (pt (pt b (ri y 0) 1) (ri y 1) 1) (ri y 2) 4
  have h4 := pt_le (pt (pt (pt b (ri y 0) 1) (ri y 1) 1) (ri y 2) 4) (ri y 3) 4
  have h5 := pt_le (pt (pt (pt (pt b (ri y 0) 1) (ri y 1) 1) (ri y 2) 4) (ri y 3) 4) (if rb y 4 = true then 1 else 0) 1
  omega
theorem nd_le : ∀ (n b : List Int), (ndP b n).length ≤ b.length + 4 * n.length
  | [], b => by simp [ndP]
  | x :: n, b => by
    have h1 := nd_le n (pt b x 1)
    have h2 := pt_le b x 1
    rw [List.length_cons]
    show (ndP (pt b x 1) n).length ≤ _
    omega
theorem la_le : ∀ (l : List E) (b : List Int), (lkA b l).length ≤ b.length + 20 * l.length
  | [], b => by simp [lkA]
  | x :: n, b => by
    have h1 := la_le n (lkP b x)
    have h2 := lk_le b x
    rw [List.length_cons]
    show (lkA (lkP b x) n).length ≤ _
    omega
theorem hd_le (w : WD) : (hdP w).length ≤ 32 := by
  unfold hdP
  have h1 := put_le w.k 1
  have h2 := pt_le (putL [] w.k 1) w.e 4
  have h3 := pt_le (pt (putL [] w.k 1) w.e 4) w.r 1
  have h4 := pt_le (pt (pt (putL [] w.k 1) w.e 4) w.r 1) w.ck 1
  have h5 := pt_le (pt (pt (pt (putL [] w.k 1) w.e 4) w.r 1) w.ck 1) w.ca 1
  have h6 := pt_le (pt (pt (pt (pt (putL [] w.k 1) w.e 4) w.r 1) w.ck 1) w.ca 1) w.cb 1
  have h7 := pt_le (pt (pt (pt (pt (pt (putL [] w.k 1) w.e 4) w.r 1) w.ck 1) w.ca 1) w.cb 1) w.cs 4
  have h8 := pt_le (pt (pt (pt (pt (pt (pt (putL [] w.k 1) w.e 4) w.r 1) w.ck 1) w.ca 1) w.cb 1) w.cs 4) w.n.length 1
  omega
theorem rise_len {n : List Int} (h : riseN n = true) : n.length ≤ 64 := by
  have key : ∀ i, i < n.length → (i : Int) + 1 ≤ n.getD i 0 := by
    intro i
    induction i with
    | zero =>
      intro hi
      have := of_decide_eq_true (rise_iff.1 h 0 hi).1
      omega
    | succ i ih =>
      intro hi
      have h1 := ih (by omega)
      have h2 := rise_lt h (i + 1) i (by omega) hi
      omega
  by_cases c : 0 < n.length
  · have h1 := key (n.length - 1) (by omega)
    have h2 := of_decide_eq_true (rise_iff.1 h (n.length - 1) (by omega)).1
    omega
  · omega
theorem may_len {w : WD} (h : mayW w = true) : w.n.length ≤ 64 ∧ w.l.length ≤ 1024 := by
  unfold mayW okV at h
  simp only [Bool.and_eq_true] at h
  obtain ⟨_, _, h, _⟩ := h
  split at h
  · rw [Bool.and_eq_true, decide_eq_true_eq] at h
    obtain ⟨h1, h2⟩ := h
    unfold mayV at h2
    rw [Bool.and_eq_true] at h2
    exact ⟨rise_len h2.1, h1.2⟩
  · have := of_decide_eq_true h
    omega
structure XO where
  i : Int
  b : List Int
def e1Q (w : WD) (y : XO) : Prop := 0 ≤ y.i ∧ y.i ≤ w.n.length ∧ y.b = ndP (hdP w) (w.n.take y.i.toNat)
def e1M (w : WD) (y : XO) : Nat := w.n.length - y.i.toNat
def e2Q (w : WD) (y : XO) : Prop := 0 ≤ y.i ∧ y.i ≤ w.l.length ∧ y.b = lkA (pt (ndP (hdP w) w.n) w.l.length 2) (w.l.take y.i.toNat)
def e2M (w : WD) (y : XO) : Nat := w.l.length - y.i.toNat
def oR (i b : Nat) (st : St) : XO := ⟨slotI st i, match slotC st b with | .sl _ (.ints _ l) => l | _ => []⟩
theorem take_nextI (l : List Int) (i : Int) (h0 : 0 ≤ i) (h : i < l.length) : l.take (i + 1).toNat = l.take i.toNat ++ [l.getD i.toNat 0] := by
  have e : (i + 1).toNat = i.toNat + 1 := by omega
  have hi : i.toNat < l.length := by omega
  rw [e, List.take_add_one, List.getD_eq_getElem?_getD, List.getElem?_eq_getElem hi]
  rfl
theorem e1_len {w : WD} (hw : w.n.length ≤ 64) {i : Int} {b : List Int} (hq : e1Q w ⟨i, b⟩) : b.length ≤ 1000 := by
  obtain ⟨h0, h1, h2⟩ := hq
  simp only at h0 h1 h2
  have a := hd_le w
  have c := nd_le (w.n.take i.toNat) (hdP w)
  rw [List.length_take] at c
  rw [h2]
  omega
theorem e1_step {w : WD} (hw : w.n.length ≤ 64) {i : Int} {b : List Int} (hq : e1Q w ⟨i, b⟩) (h : i < w.n.length) : stdBin .add .i64 i 1 = i + 1 ∧ (∀ c, e1M w ⟨i + 1, c⟩ < e1M w ⟨i, b⟩) ∧ e1Q w ⟨i + 1, pt b (w.n.getD i.toNat 0) 1⟩ := by
  obtain ⟨h0, h1, h2⟩ := hq
  simp only at h0 h1 h2
  refine ⟨by rw [b_add, wr _ (by omega) (by omega)], fun c => by simp only [e1M]; omega, by simp only; omega, by simp only; omega, ?_⟩
  simp only
  rw [take_nextI _ i h0 h, h2]
  unfold ndP
  rw [List.foldl_append]
  rfl
theorem e1_end {w : WD} {i : Int} {b : List Int} (hq : e1Q w ⟨i, b⟩) (h : ¬ i < w.n.length) : b = ndP (hdP w) w.n := by
  obtain ⟨h0, h1, h2⟩ := hq
  simp only at h0 h1 h2
  have e : i = w.n.length := by omega
  rw [e, Int.toNat_natCast, List.take_length] at h2
  exact h2
theorem e2_zero (w : WD) : e2Q w ⟨0, pt (ndP (hdP w) w.n) w.l.length 2⟩ := ⟨Int.le_refl 0, Int.natCast_nonneg _, rfl⟩
theorem e2_len {w : WD} (hw : w.n.length ≤ 64 ∧ w.l.length ≤ 1024) {i : Int} {b : List Int} (hq : e2Q w ⟨i, b⟩) : b.length ≤ 100000 := by
  obtain ⟨h0, h1, h2⟩ := hq
  simp only at h0 h1 h2
  have a := hd_le w
  have c := nd_le w.n (hdP w)
  have d := pt_le (ndP (hdP w) w.n) w.l.length 2
  have f := la_le (w.l.take i.toNat) (pt (ndP (hdP w) w.n) w.l.length 2)
  rw [List.length_take] at f
  rw [h2]
  omega
theorem e2_step {w : WD} (hw : w.l.length ≤ 1024) {i : Int} {b : List Int} (hq : e2Q w ⟨i, b⟩) (h : i < w.l.length) : stdBin .add .i64 i 1 = i + 1 ∧ (∀ c, e2M w ⟨i + 1, c⟩ < e2M w ⟨i, b⟩) ∧ e2Q w ⟨i + 1, lk5 b (ri (w.l.getD i.toNat []) 0) (ri (w.l.getD i.toNat []) 1) (ri (w.l.getD i.toNat []) 2) (ri (w.l.getD i.toNat []) 3) (rb (w.l.getD i.toNat []) 4)⟩ := by
  obtain ⟨h0, h1, h2⟩ := hq
  simp only at h0 h1 h2
  refine ⟨by rw [b_add, wr _ (by omega) (by omega)], fun c => by simp only [e2M]; omega, by simp only; omega, by simp only; omega, ?_⟩
  simp only
  rw [take_next _ i h0 h, h2]
  unfold lkA
  rw [List.foldl_append]
  rfl
theorem e2_end {w : WD} {i : Int} {b : List Int} (hq : e2Q w ⟨i, b⟩) (h : ¬ i < w.l.length) : b = encP w := by
  obtain ⟨h0, h1, h2⟩ := hq
  simp only at h0 h1 h2
  have e : i = w.l.length := by omega
  rw [e, Int.toNat_natCast, List.take_length] at h2
  exact h2
noncomputable def e1I (A : Ar) (w : WD) (y : XO) : St := stOf Try.f35.ntmps [(1, .ptr 1 0), (5, .sl (some (2, 5)) (.ints .u8 y.b)), (56, .sl none (.ints .i64 w.n)), (57, .val (.int .i64 (A.lenI w.n))), (58, .val (.int .i64 y.i))] [(1, .cells 55 [.val (.int .i64 w.k), .val (.int .i64 w.e), .val (.int .i64 w.r), .sl none (.ints .i64 w.n), .sl none (.recs (.int .i64 (.int .i64 (.int .i64 (.int .i64 (.bool .nil))))) w.l), .val (.int .i64 w.ck), .val (.int .i64 w.ca), .val (.int .i64 w.cb), .val (.int .i64 w.cs)]), (2, .tok)] [Any]
noncomputable def e2I (A : Ar) (w : WD) (y : XO) : St := stOf Try.f35.ntmps [(5, .sl (some (2, 5)) (.ints .u8 y.b)), (74, .sl none (.recs (.int .i64 (.int .i64 (.int .i64 (.int .i64 (.bool .nil))))) w.l)), (75, .val (.int .i64 (A.lenE w.l))), (76, .val (.int .i64 y.i))] [(2, .tok)] [Any]

structure Ws where
  w_c : Int → Int → Int → Int → Bool
  w_e : Int → Int → Bool
  w_er : Bool → Int
  w_okE : WD → Bool
  w_okV : WD → Bool
  w_okC : WD → Bool
  w_may : WD → Bool
  w_s : WD → Bool
  w_pn : Int → Int → List Int
  w_pt : List Int → Int → Int → List Int
  w_lk : List Int → Int → Int → Int → Int → Bool → List Int
  w_enc : WD → List Int
  w_sh : List Int → Bool
  w_sh1 : List Int → Bool
def Ws.std : Ws := ⟨mayC, mayE, er, okE, okV, okC, mayW, okS, fun n w => putL [] n w, pt, lk5, encW, fun b => decide (b.length ≤ 200000), fun b => decide (b.length ≤ 100000)⟩

def c_ccheck (F : Ws) : Con := fun xs h => match xs, h with
  | [.agg [.val (.int .i64 c_k), .val (.int .i64 c_a), .val (.int .i64 c_b), .val (.int .i64 c_s)]], [] => some ⟨True, .sa (I (F.w_er (F.w_c c_k c_a c_b c_s))), [], [Any]⟩
  | _, _ => none
set_option cbv.maxSteps 4000000 in
set_option maxHeartbeats 8000000 in
set_option maxRecDepth 100000 in
theorem x_ccheck (c_k : Int) (c_a : Int) (c_b : Int) (c_s : Int) : Does [(64, c_enode ViR.Vs.std)] Try.f43 [.agg [.val (.int .i64 c_k), .val (.int .i64 c_a), .val (.int .i64 c_b), .val (.int .i64 c_s)]] [] ⟨True, .sa (I (Ws.std.w_er (Ws.std.w_c c_k c_a c_b c_s))), [], [Any]⟩ := by
  intro b gv
  have hfs := (FsOk.cons ok_enode FsOk.nil rfl)
  generalize hF : Ws.std = F at hfs ⊢
  generalize hG0 : ViR.Vs.std = G0 at hfs ⊢
  generalize hG1 : ViC.Vc.std = G1 at hfs ⊢
  generalize hG2 : OctR.Fs.std = G2 at hfs ⊢
  generalize hA : Ar.std = A
  generalize hL : Lp _ _ _ = L
  obtain ⟨Z, zq⟩ := z_all
  refine cd_open (lp_mono hL) zq rfl ?_
  repeat' (first
    | (refine z_open zq ?_; try dsimp only)
    | refine cd_seq zq ?_ (lp_mono hL)
    | refine cd_blk zq ?_
    | refine cd_ret ?_
    | refine cd_skip ?_
    | refine cd_exit ?_
    | refine cd_loop ?_
    | refine cd_cond rfl ?_
    | refine cd_condT rfl ?_
    | refine cd_condF rfl ?_
    | (refine Cd.mk ?_; cbv)
    | (refine Ends1.mk ?_; cbv)
    | (refine Fin1.mk ?_; cbv)
    | exact trivial
    | refine And.intro ?_ ?_
    | refine orf fun _ => ?_
    | refine ort fun _ => ?_)
  all_goals
    clear hL zq Z
    try clear hfs
    subst hA hF hG0 hG1 hG2
    simp only [Ws.std, ViR.Vs.std, Ar.std] at *
    try (grind [stdCmp, er, mayC])
theorem ok_ccheck : ConOk Try.prog 43 (c_ccheck Ws.std) := by
  refine con_of (FsOk.cons ok_enode FsOk.nil rfl) Try.func43 rfl rfl fun xs h p hp => ?_
  unfold c_ccheck at hp
  split at hp
  · cases hp
    exact ⟨lee_le rfl, fun _ _ => x_ccheck _ _ _ _⟩
  · cases hp

def c_rcmay (F : Ws) : Con := fun xs h => match xs, h with
  | [.agg [.val (.int .i64 c_k), .val (.int .i64 c_a), .val (.int .i64 c_b), .val (.int .i64 c_s)]], [] => some ⟨True, .sa (B (F.w_c c_k c_a c_b c_s)), [], [Any]⟩
  | _, _ => none
set_option cbv.maxSteps 4000000 in
set_option maxHeartbeats 8000000 in
set_option maxRecDepth 100000 in
theorem x_rcmay (c_k : Int) (c_a : Int) (c_b : Int) (c_s : Int) : Does [(66, c_rnode ViR.Vs.std)] Try.f44 [.agg [.val (.int .i64 c_k), .val (.int .i64 c_a), .val (.int .i64 c_b), .val (.int .i64 c_s)]] [] ⟨True, .sa (B (Ws.std.w_c c_k c_a c_b c_s)), [], [Any]⟩ := by
  intro b gv
  have hfs := (FsOk.cons ok_rnode FsOk.nil rfl)
  generalize hF : Ws.std = F at hfs ⊢
  generalize hG0 : ViR.Vs.std = G0 at hfs ⊢
  generalize hG1 : ViC.Vc.std = G1 at hfs ⊢
  generalize hG2 : OctR.Fs.std = G2 at hfs ⊢
  generalize hA : Ar.std = A
  generalize hL : Lp _ _ _ = L
  obtain ⟨Z, zq⟩ := z_all
  refine cd_open (lp_mono hL) zq rfl ?_
  repeat' (first
    | (refine z_open zq ?_; try dsimp only)
    | refine cd_seq zq ?_ (lp_mono hL)
    | refine cd_blk zq ?_
    | refine cd_ret ?_
    | refine cd_skip ?_
    | refine cd_exit ?_
    | refine cd_loop ?_
    | refine cd_cond rfl ?_
    | refine cd_condT rfl ?_
    | refine cd_condF rfl ?_
    | (refine Cd.mk ?_; cbv)
    | (refine Ends1.mk ?_; cbv)
    | (refine Fin1.mk ?_; cbv)
    | exact trivial
    | refine And.intro ?_ ?_
    | refine orf fun _ => ?_
    | refine ort fun _ => ?_)
  all_goals
    clear hL zq Z
    try clear hfs
    subst hA hF hG0 hG1 hG2
    simp only [Ws.std, ViR.Vs.std, Ar.std] at *
    try (grind [stdCmp, mayC])
theorem ok_rcmay : ConOk Try.prog 44 (c_rcmay Ws.std) := by
  refine con_of (FsOk.cons ok_rnode FsOk.nil rfl) Try.func44 rfl rfl fun xs h p hp => ?_
  unfold c_rcmay at hp
  split at hp
  · cases hp
    exact ⟨lee_le rfl, fun _ _ => x_rcmay _ _ _ _⟩
  · cases hp

def c_idcheck (F : Ws) : Con := fun xs h => match xs, h with
  | [.agg [.val (.int .i64 c_e), .val (.int .i64 c_r)]], [] => some ⟨True, .sa (I (F.w_er (F.w_e c_e c_r))), [], [Any]⟩
  | _, _ => none
set_option cbv.maxSteps 4000000 in
set_option maxHeartbeats 8000000 in
set_option maxRecDepth 100000 in
theorem x_idcheck (c_e : Int) (c_r : Int) : Does [(64, c_enode ViR.Vs.std)] Try.f105 [.agg [.val (.int .i64 c_e), .val (.int .i64 c_r)]] [] ⟨True, .sa (I (Ws.std.w_er (Ws.std.w_e c_e c_r))), [], [Any]⟩ := by
  intro b gv
  have hfs := (FsOk.cons ok_enode FsOk.nil rfl)
  generalize hF : Ws.std = F at hfs ⊢
  generalize hG0 : ViR.Vs.std = G0 at hfs ⊢
  generalize hG1 : ViC.Vc.std = G1 at hfs ⊢
  generalize hG2 : OctR.Fs.std = G2 at hfs ⊢
  generalize hA : Ar.std = A
  generalize hL : Lp _ _ _ = L
  obtain ⟨Z, zq⟩ := z_all
  refine cd_open (lp_mono hL) zq rfl ?_
  repeat' (first
    | (refine z_open zq ?_; try dsimp only)
    | refine cd_seq zq ?_ (lp_mono hL)
    | refine cd_blk zq ?_
    | refine cd_ret ?_
    | refine cd_skip ?_
    | refine cd_exit ?_
    | refine cd_loop ?_
    | refine cd_cond rfl ?_
    | refine cd_condT rfl ?_
    | refine cd_condF rfl ?_
    | (refine Cd.mk ?_; cbv)
    | (refine Ends1.mk ?_; cbv)
    | (refine Fin1.mk ?_; cbv)
    | exact trivial
    | refine And.intro ?_ ?_
    | refine orf fun _ => ?_
    | refine ort fun _ => ?_)
  all_goals
    clear hL zq Z
    try clear hfs
    subst hA hF hG0 hG1 hG2
    simp only [Ws.std, ViR.Vs.std, Ar.std] at *
    try (grind [stdCmp, er, mayE])
theorem ok_idcheck : ConOk Try.prog 105 (c_idcheck Ws.std) := by
  refine con_of (FsOk.cons ok_enode FsOk.nil rfl) Try.func105 rfl rfl fun xs h p hp => ?_
  unfold c_idcheck at hp
  split at hp
  · cases hp
    exact ⟨lee_le rfl, fun _ _ => x_idcheck _ _⟩
  · cases hp

def c_rimay (F : Ws) : Con := fun xs h => match xs, h with
  | [.agg [.val (.int .i64 c_e), .val (.int .i64 c_r)]], [] => some ⟨True, .sa (B (F.w_e c_e c_r)), [], [Any]⟩
  | _, _ => none
set_option cbv.maxSteps 4000000 in
set_option maxHeartbeats 8000000 in
set_option maxRecDepth 100000 in
theorem x_rimay (c_e : Int) (c_r : Int) : Does [(66, c_rnode ViR.Vs.std)] Try.f75 [.agg [.val (.int .i64 c_e), .val (.int .i64 c_r)]] [] ⟨True, .sa (B (Ws.std.w_e c_e c_r)), [], [Any]⟩ := by
  intro b gv
  have hfs := (FsOk.cons ok_rnode FsOk.nil rfl)
  generalize hF : Ws.std = F at hfs ⊢
  generalize hG0 : ViR.Vs.std = G0 at hfs ⊢
  generalize hG1 : ViC.Vc.std = G1 at hfs ⊢
  generalize hG2 : OctR.Fs.std = G2 at hfs ⊢
  generalize hA : Ar.std = A
  generalize hL : Lp _ _ _ = L
  obtain ⟨Z, zq⟩ := z_all
  refine cd_open (lp_mono hL) zq rfl ?_
  repeat' (first
    | (refine z_open zq ?_; try dsimp only)
    | refine cd_seq zq ?_ (lp_mono hL)
    | refine cd_blk zq ?_
    | refine cd_ret ?_
    | refine cd_skip ?_
    | refine cd_exit ?_
    | refine cd_loop ?_
    | refine cd_cond rfl ?_
    | refine cd_condT rfl ?_
    | refine cd_condF rfl ?_
    | (refine Cd.mk ?_; cbv)
    | (refine Ends1.mk ?_; cbv)
    | (refine Fin1.mk ?_; cbv)
    | exact trivial
    | refine And.intro ?_ ?_
    | refine orf fun _ => ?_
    | refine ort fun _ => ?_)
  all_goals
    clear hL zq Z
    try clear hfs
    subst hA hF hG0 hG1 hG2
    simp only [Ws.std, ViR.Vs.std, Ar.std] at *
    try (grind [stdCmp, mayE])
theorem ok_rimay : ConOk Try.prog 75 (c_rimay Ws.std) := by
  refine con_of (FsOk.cons ok_rnode FsOk.nil rfl) Try.func75 rfl rfl fun xs h p hp => ?_
  unfold c_rimay at hp
  split at hp
  · cases hp
    exact ⟨lee_le rfl, fun _ _ => x_rimay _ _⟩
  · cases hp

def c_wide (F : Ws) : Con := fun xs h => match xs, h with
  | [.agg [.val (.int .i64 w_k), .val (.int .i64 w_e), .val (.int .i64 w_r), .sl none (.ints .i64 w_n), .sl none (.recs (.int .i64 (.int .i64 (.int .i64 (.int .i64 (.bool .nil))))) w_l), .val (.int .i64 w_ck), .val (.int .i64 w_ca), .val (.int .i64 w_cb), .val (.int .i64 w_cs)]], [] => some ⟨True, .sa (I (F.w_er (F.w_okE ⟨w_k, w_e, w_r, w_n, w_l, w_ck, w_ca, w_cb, w_cs⟩))), [], [Any]⟩
  | _, _ => none
set_option cbv.maxSteps 4000000 in
set_option maxHeartbeats 8000000 in
set_option maxRecDepth 100000 in
theorem x_wide (w_k : Int) (w_e : Int) (w_r : Int) (w_n : List Int) (w_l : List E) (w_ck : Int) (w_ca : Int) (w_cb : Int) (w_cs : Int) : Does [(105, c_idcheck Ws.std)] Try.f76 [.agg [.val (.int .i64 w_k), .val (.int .i64 w_e), .val (.int .i64 w_r), .sl none (.ints .i64 w_n), .sl none (.recs (.int .i64 (.int .i64 (.int .i64 (.int .i64 (.bool .nil))))) w_l), .val (.int .i64 w_ck), .val (.int .i64 w_ca), .val (.int .i64 w_cb), .val (.int .i64 w_cs)]] [] ⟨True, .sa (I (Ws.std.w_er (Ws.std.w_okE ⟨w_k, w_e, w_r, w_n, w_l, w_ck, w_ca, w_cb, w_cs⟩))), [], [Any]⟩ := by
  intro b gv
  have hfs := (FsOk.cons ok_idcheck FsOk.nil rfl)
  generalize hF : Ws.std = F at hfs ⊢
  generalize hG0 : ViR.Vs.std = G0 at hfs ⊢
  generalize hG1 : ViC.Vc.std = G1 at hfs ⊢
  generalize hG2 : OctR.Fs.std = G2 at hfs ⊢
  generalize hA : Ar.std = A
  generalize hL : Lp _ _ _ = L
  obtain ⟨Z, zq⟩ := z_all
  refine cd_open (lp_mono hL) zq rfl ?_
  repeat' (first
    | (refine z_open zq ?_; try dsimp only)
    | refine cd_seq zq ?_ (lp_mono hL)
    | refine cd_blk zq ?_
    | refine cd_ret ?_
    | refine cd_skip ?_
    | refine cd_exit ?_
    | refine cd_loop ?_
    | refine cd_cond rfl ?_
    | refine cd_condT rfl ?_
    | refine cd_condF rfl ?_
    | (refine Cd.mk ?_; cbv)
    | (refine Ends1.mk ?_; cbv)
    | (refine Fin1.mk ?_; cbv)
    | exact trivial
    | refine And.intro ?_ ?_
    | refine orf fun _ => ?_
    | refine ort fun _ => ?_)
  all_goals
    clear hL zq Z
    try clear hfs
    subst hA hF hG0 hG1 hG2
    simp only [Ws.std, Ar.std] at *
    try (grind [stdCmp, er, okE, nmd, mayE])
theorem ok_wide : ConOk Try.prog 76 (c_wide Ws.std) := by
  refine con_of (FsOk.cons ok_idcheck FsOk.nil rfl) Try.func76 rfl rfl fun xs h p hp => ?_
  unfold c_wide at hp
  split at hp
  · cases hp
    exact ⟨lee_le rfl, fun _ _ => x_wide _ _ _ _ _ _ _ _ _⟩
  · cases hp

def c_wview (F : Ws) : Con := fun xs h => match xs, h with
  | [.agg [.val (.int .i64 w_k), .val (.int .i64 w_e), .val (.int .i64 w_r), .sl none (.ints .i64 w_n), .sl none (.recs (.int .i64 (.int .i64 (.int .i64 (.int .i64 (.bool .nil))))) w_l), .val (.int .i64 w_ck), .val (.int .i64 w_ca), .val (.int .i64 w_cb), .val (.int .i64 w_cs)]], [] => some ⟨F.w_s ⟨w_k, w_e, w_r, w_n, w_l, w_ck, w_ca, w_cb, w_cs⟩ = true, .sa (I (F.w_er (F.w_okV ⟨w_k, w_e, w_r, w_n, w_l, w_ck, w_ca, w_cb, w_cs⟩))), [], [Any]⟩
  | _, _ => none
set_option cbv.maxSteps 4000000 in
set_option maxHeartbeats 8000000 in
set_option maxRecDepth 100000 in
theorem x_wview (w_k : Int) (w_e : Int) (w_r : Int) (w_n : List Int) (w_l : List E) (w_ck : Int) (w_ca : Int) (w_cb : Int) (w_cs : Int) (hC : Ws.std.w_s ⟨w_k, w_e, w_r, w_n, w_l, w_ck, w_ca, w_cb, w_cs⟩ = true) : Does [(18, c_vcheck ViC.Vc.std)] Try.f77 [.agg [.val (.int .i64 w_k), .val (.int .i64 w_e), .val (.int .i64 w_r), .sl none (.ints .i64 w_n), .sl none (.recs (.int .i64 (.int .i64 (.int .i64 (.int .i64 (.bool .nil))))) w_l), .val (.int .i64 w_ck), .val (.int .i64 w_ca), .val (.int .i64 w_cb), .val (.int .i64 w_cs)]] [] ⟨Ws.std.w_s ⟨w_k, w_e, w_r, w_n, w_l, w_ck, w_ca, w_cb, w_cs⟩ = true, .sa (I (Ws.std.w_er (Ws.std.w_okV ⟨w_k, w_e, w_r, w_n, w_l, w_ck, w_ca, w_cb, w_cs⟩))), [], [Any]⟩ := by
  intro b gv
  have hfs := (FsOk.cons ok_vcheck FsOk.nil rfl)
  generalize hF : Ws.std = F at hC hfs ⊢
  generalize hG0 : ViR.Vs.std = G0 at hC hfs ⊢
  generalize hG1 : ViC.Vc.std = G1 at hC hfs ⊢
  generalize hG2 : OctR.Fs.std = G2 at hC hfs ⊢
  generalize hA : Ar.std = A
  generalize hL : Lp _ _ _ = L
  obtain ⟨Z, zq⟩ := z_all
  refine cd_open (lp_mono hL) zq rfl ?_
  repeat' (first
    | (refine z_open zq ?_; try dsimp only)
    | refine cd_seq zq ?_ (lp_mono hL)
    | refine cd_blk zq ?_
    | refine cd_ret ?_
    | refine cd_skip ?_
    | refine cd_exit ?_
    | refine cd_loop ?_
    | refine cd_cond rfl ?_
    | refine cd_condT rfl ?_
    | refine cd_condF rfl ?_
    | (refine Cd.mk ?_; cbv)
    | (refine Ends1.mk ?_; cbv)
    | (refine Fin1.mk ?_; cbv)
    | exact trivial
    | refine And.intro ?_ ?_
    | refine orf fun _ => ?_
    | refine ort fun _ => ?_)
  all_goals
    clear hL zq Z
    try clear hfs
    subst hA hF hG0 hG1 hG2
    simp only [Ws.std, ViC.Vc.std, Ar.std] at *
    try (grind [stdCmp, er, okV, full, okS, chV])
theorem ok_wview : ConOk Try.prog 77 (c_wview Ws.std) := by
  refine con_of (FsOk.cons ok_vcheck FsOk.nil rfl) Try.func77 rfl rfl fun xs h p hp => ?_
  unfold c_wview at hp
  split at hp
  · cases hp
    exact ⟨lee_le rfl, fun hC _ => x_wview _ _ _ _ _ _ _ _ _ hC⟩
  · cases hp

def c_wcho (F : Ws) : Con := fun xs h => match xs, h with
  | [.agg [.val (.int .i64 w_k), .val (.int .i64 w_e), .val (.int .i64 w_r), .sl none (.ints .i64 w_n), .sl none (.recs (.int .i64 (.int .i64 (.int .i64 (.int .i64 (.bool .nil))))) w_l), .val (.int .i64 w_ck), .val (.int .i64 w_ca), .val (.int .i64 w_cb), .val (.int .i64 w_cs)]], [] => some ⟨True, .sa (I (F.w_er (F.w_okC ⟨w_k, w_e, w_r, w_n, w_l, w_ck, w_ca, w_cb, w_cs⟩))), [], [Any]⟩
  | _, _ => none
set_option cbv.maxSteps 4000000 in
set_option maxHeartbeats 8000000 in
set_option maxRecDepth 100000 in
theorem x_wcho (w_k : Int) (w_e : Int) (w_r : Int) (w_n : List Int) (w_l : List E) (w_ck : Int) (w_ca : Int) (w_cb : Int) (w_cs : Int) : Does [(43, c_ccheck Ws.std)] Try.f78 [.agg [.val (.int .i64 w_k), .val (.int .i64 w_e), .val (.int .i64 w_r), .sl none (.ints .i64 w_n), .sl none (.recs (.int .i64 (.int .i64 (.int .i64 (.int .i64 (.bool .nil))))) w_l), .val (.int .i64 w_ck), .val (.int .i64 w_ca), .val (.int .i64 w_cb), .val (.int .i64 w_cs)]] [] ⟨True, .sa (I (Ws.std.w_er (Ws.std.w_okC ⟨w_k, w_e, w_r, w_n, w_l, w_ck, w_ca, w_cb, w_cs⟩))), [], [Any]⟩ := by
  intro b gv
  have hfs := (FsOk.cons ok_ccheck FsOk.nil rfl)
  generalize hF : Ws.std = F at hfs ⊢
  generalize hG0 : ViR.Vs.std = G0 at hfs ⊢
  generalize hG1 : ViC.Vc.std = G1 at hfs ⊢
  generalize hG2 : OctR.Fs.std = G2 at hfs ⊢
  generalize hA : Ar.std = A
  generalize hL : Lp _ _ _ = L
  obtain ⟨Z, zq⟩ := z_all
  refine cd_open (lp_mono hL) zq rfl ?_
  repeat' (first
    | (refine z_open zq ?_; try dsimp only)
    | refine cd_seq zq ?_ (lp_mono hL)
    | refine cd_blk zq ?_
    | refine cd_ret ?_
    | refine cd_skip ?_
    | refine cd_exit ?_
    | refine cd_loop ?_
    | refine cd_cond rfl ?_
    | refine cd_condT rfl ?_
    | refine cd_condF rfl ?_
    | (refine Cd.mk ?_; cbv)
    | (refine Ends1.mk ?_; cbv)
    | (refine Fin1.mk ?_; cbv)
    | exact trivial
    | refine And.intro ?_ ?_
    | refine orf fun _ => ?_
    | refine ort fun _ => ?_)
  all_goals
    clear hL zq Z
    try clear hfs
    subst hA hF hG0 hG1 hG2
    simp only [Ws.std, Ar.std] at *
    try (grind [stdCmp, er, okC])
theorem ok_wcho : ConOk Try.prog 78 (c_wcho Ws.std) := by
  refine con_of (FsOk.cons ok_ccheck FsOk.nil rfl) Try.func78 rfl rfl fun xs h p hp => ?_
  unfold c_wcho at hp
  split at hp
  · cases hp
    exact ⟨lee_le rfl, fun _ _ => x_wcho _ _ _ _ _ _ _ _ _⟩
  · cases hp

def c_wcheck (F : Ws) : Con := fun xs h => match xs, h with
  | [.agg [.val (.int .i64 w_k), .val (.int .i64 w_e), .val (.int .i64 w_r), .sl none (.ints .i64 w_n), .sl none (.recs (.int .i64 (.int .i64 (.int .i64 (.int .i64 (.bool .nil))))) w_l), .val (.int .i64 w_ck), .val (.int .i64 w_ca), .val (.int .i64 w_cb), .val (.int .i64 w_cs)]], [] => some ⟨F.w_s ⟨w_k, w_e, w_r, w_n, w_l, w_ck, w_ca, w_cb, w_cs⟩ = true, .sa (I (F.w_er (F.w_may ⟨w_k, w_e, w_r, w_n, w_l, w_ck, w_ca, w_cb, w_cs⟩))), [], [Any]⟩
  | _, _ => none
set_option cbv.maxSteps 4000000 in
set_option maxHeartbeats 8000000 in
set_option maxRecDepth 100000 in
theorem x_wcheck (w_k : Int) (w_e : Int) (w_r : Int) (w_n : List Int) (w_l : List E) (w_ck : Int) (w_ca : Int) (w_cb : Int) (w_cs : Int) (hC : Ws.std.w_s ⟨w_k, w_e, w_r, w_n, w_l, w_ck, w_ca, w_cb, w_cs⟩ = true) : Does [(76, c_wide Ws.std), (77, c_wview Ws.std), (78, c_wcho Ws.std)] Try.f37 [.agg [.val (.int .i64 w_k), .val (.int .i64 w_e), .val (.int .i64 w_r), .sl none (.ints .i64 w_n), .sl none (.recs (.int .i64 (.int .i64 (.int .i64 (.int .i64 (.bool .nil))))) w_l), .val (.int .i64 w_ck), .val (.int .i64 w_ca), .val (.int .i64 w_cb), .val (.int .i64 w_cs)]] [] ⟨Ws.std.w_s ⟨w_k, w_e, w_r, w_n, w_l, w_ck, w_ca, w_cb, w_cs⟩ = true, .sa (I (Ws.std.w_er (Ws.std.w_may ⟨w_k, w_e, w_r, w_n, w_l, w_ck, w_ca, w_cb, w_cs⟩))), [], [Any]⟩ := by
  intro b gv
  have hfs := (FsOk.cons ok_wide (FsOk.cons ok_wview (FsOk.cons ok_wcho FsOk.nil rfl) rfl) rfl)
  generalize hF : Ws.std = F at hC hfs ⊢
  generalize hG0 : ViR.Vs.std = G0 at hC hfs ⊢
  generalize hG1 : ViC.Vc.std = G1 at hC hfs ⊢
  generalize hG2 : OctR.Fs.std = G2 at hC hfs ⊢
  generalize hA : Ar.std = A
  generalize hL : Lp _ _ _ = L
  obtain ⟨Z, zq⟩ := z_all
  refine cd_open (lp_mono hL) zq rfl ?_
  repeat' (first
    | (refine z_open zq ?_; try dsimp only)
    | refine cd_seq zq ?_ (lp_mono hL)
    | refine cd_blk zq ?_
    | refine cd_ret ?_
    | refine cd_skip ?_
    | refine cd_exit ?_
    | refine cd_loop ?_
    | refine cd_cond rfl ?_
    | refine cd_condT rfl ?_
    | refine cd_condF rfl ?_
    | (refine Cd.mk ?_; cbv)
    | (refine Ends1.mk ?_; cbv)
    | (refine Fin1.mk ?_; cbv)
    | exact trivial
    | refine And.intro ?_ ?_
    | refine orf fun _ => ?_
    | refine ort fun _ => ?_)
  all_goals
    clear hL zq Z
    try clear hfs
    subst hA hF hG0 hG1 hG2
    simp only [Ws.std, Ar.std] at *
    try (grind [stdCmp, er, mayW])
theorem ok_wcheck : ConOk Try.prog 37 (c_wcheck Ws.std) := by
  refine con_of (FsOk.cons ok_wide (FsOk.cons ok_wview (FsOk.cons ok_wcho FsOk.nil rfl) rfl) rfl) Try.func37 rfl rfl fun xs h p hp => ?_
  unfold c_wcheck at hp
  split at hp
  · cases hp
    exact ⟨lee_le rfl, fun hC _ => x_wcheck _ _ _ _ _ _ _ _ _ hC⟩
  · cases hp

def c_rwmay (F : Ws) : Con := fun xs h => match xs, h with
  | [.agg [.val (.int .i64 w_k), .val (.int .i64 w_e), .val (.int .i64 w_r), .sl none (.ints .i64 w_n), .sl none (.recs (.int .i64 (.int .i64 (.int .i64 (.int .i64 (.bool .nil))))) w_l), .val (.int .i64 w_ck), .val (.int .i64 w_ca), .val (.int .i64 w_cb), .val (.int .i64 w_cs)]], [] => some ⟨F.w_s ⟨w_k, w_e, w_r, w_n, w_l, w_ck, w_ca, w_cb, w_cs⟩ = true, .sa (B (F.w_may ⟨w_k, w_e, w_r, w_n, w_l, w_ck, w_ca, w_cb, w_cs⟩)), [], [Any]⟩
  | _, _ => none
set_option cbv.maxSteps 4000000 in
set_option maxHeartbeats 8000000 in
set_option maxRecDepth 100000 in
theorem x_rwmay (w_k : Int) (w_e : Int) (w_r : Int) (w_n : List Int) (w_l : List E) (w_ck : Int) (w_ca : Int) (w_cb : Int) (w_cs : Int) (hC : Ws.std.w_s ⟨w_k, w_e, w_r, w_n, w_l, w_ck, w_ca, w_cb, w_cs⟩ = true) : Does [(75, c_rimay Ws.std), (44, c_rcmay Ws.std), (19, c_vmay ViC.Vc.std)] Try.f36 [.agg [.val (.int .i64 w_k), .val (.int .i64 w_e), .val (.int .i64 w_r), .sl none (.ints .i64 w_n), .sl none (.recs (.int .i64 (.int .i64 (.int .i64 (.int .i64 (.bool .nil))))) w_l), .val (.int .i64 w_ck), .val (.int .i64 w_ca), .val (.int .i64 w_cb), .val (.int .i64 w_cs)]] [] ⟨Ws.std.w_s ⟨w_k, w_e, w_r, w_n, w_l, w_ck, w_ca, w_cb, w_cs⟩ = true, .sa (B (Ws.std.w_may ⟨w_k, w_e, w_r, w_n, w_l, w_ck, w_ca, w_cb, w_cs⟩)), [], [Any]⟩ := by
  intro b gv
  have hfs := (FsOk.cons ok_rimay (FsOk.cons ok_rcmay (FsOk.cons ok_vmay FsOk.nil rfl) rfl) rfl)
  generalize hF : Ws.std = F at hC hfs ⊢
  generalize hG0 : ViR.Vs.std = G0 at hC hfs ⊢
  generalize hG1 : ViC.Vc.std = G1 at hC hfs ⊢
  generalize hG2 : OctR.Fs.std = G2 at hC hfs ⊢
  generalize hA : Ar.std = A
  generalize hL : Lp _ _ _ = L
  obtain ⟨Z, zq⟩ := z_all
  refine cd_open (lp_mono hL) zq rfl ?_
  repeat' (first
    | (refine z_open zq ?_; try dsimp only)
    | refine cd_seq zq ?_ (lp_mono hL)
    | refine cd_blk zq ?_
    | refine cd_ret ?_
    | refine cd_skip ?_
    | refine cd_exit ?_
    | refine cd_loop ?_
    | refine cd_cond rfl ?_
    | refine cd_condT rfl ?_
    | refine cd_condF rfl ?_
    | (refine Cd.mk ?_; cbv)
    | (refine Ends1.mk ?_; cbv)
    | (refine Fin1.mk ?_; cbv)
    | exact trivial
    | refine And.intro ?_ ?_
    | refine orf fun _ => ?_
    | refine ort fun _ => ?_)
  all_goals
    clear hL zq Z
    try clear hfs
    subst hA hF hG0 hG1 hG2
    simp only [Ws.std, ViC.Vc.std, Ar.std] at *
    try (grind [stdCmp, mayW, okE, okV, okC, okS, nmd, full, mayE, mayC])
theorem ok_rwmay : ConOk Try.prog 36 (c_rwmay Ws.std) := by
  refine con_of (FsOk.cons ok_rimay (FsOk.cons ok_rcmay (FsOk.cons ok_vmay FsOk.nil rfl) rfl) rfl) Try.func36 rfl rfl fun xs h p hp => ?_
  unfold c_rwmay at hp
  split at hp
  · cases hp
    exact ⟨lee_le rfl, fun hC _ => x_rwmay _ _ _ _ _ _ _ _ _ hC⟩
  · cases hp

def c_wput0 (F : Ws) : Con := fun xs h => match xs, h with
  | [.one (.val (.slice none 0 0)), .one (.val (.int .i64 n)), .one (.val (.int .i64 w))], [] => some ⟨True, .sa (.one (.sl (some (0, 5)) (.ints .u8 (F.w_pn n w)))), [(0, .tok)], [Any, Any, Any]⟩
  | _, _ => none
set_option cbv.maxSteps 4000000 in
set_option maxHeartbeats 8000000 in
set_option maxRecDepth 100000 in
theorem x_wput0 (n : Int) (w : Int) : Does [(104, denil [some (.ints .u8 []), none, none] (c_put OctR.Fs.std))] Try.f73 [.one (.val (.slice none 0 0)), .one (.val (.int .i64 n)), .one (.val (.int .i64 w))] [] ⟨True, .sa (.one (.sl (some (0, 5)) (.ints .u8 (Ws.std.w_pn n w)))), [(0, .tok)], [Any, Any, Any]⟩ := by
  intro b gv
  have h1 := put_le n w
  have hfs := (FsOk.cons (denil_ok [some (.ints .u8 []), none, none] ok_put) FsOk.nil rfl)
  generalize hF : Ws.std = F at hfs ⊢
  generalize hG0 : ViR.Vs.std = G0 at hfs ⊢
  generalize hG1 : ViC.Vc.std = G1 at hfs ⊢
  generalize hG2 : OctR.Fs.std = G2 at hfs ⊢
  generalize hA : Ar.std = A
  generalize hL : Lp _ _ _ = L
  obtain ⟨Z, zq⟩ := z_all
  refine cd_open (lp_mono hL) zq rfl ?_
  repeat' (first
    | (refine z_open zq ?_; try dsimp only)
    | refine cd_seq zq ?_ (lp_mono hL)
    | refine cd_blk zq ?_
    | refine cd_ret ?_
    | refine cd_skip ?_
    | refine cd_exit ?_
    | refine cd_loop ?_
    | refine cd_cond rfl ?_
    | refine cd_condT rfl ?_
    | refine cd_condF rfl ?_
    | (refine Cd.mk ?_; cbv)
    | (refine Ends1.mk ?_; cbv)
    | (refine Fin1.mk ?_; cbv)
    | exact trivial
    | refine And.intro ?_ ?_
    | refine orf fun _ => ?_
    | refine ort fun _ => ?_)
  all_goals
    clear hL zq Z
    try clear hfs
    subst hA hF hG0 hG1 hG2
    simp only [Ws.std, OctR.Fs.std, Ar.std, List.nil_append] at *
    try (grind [stdCmp, shB])
theorem ok_wput0 : ConOk Try.prog 73 (c_wput0 Ws.std) := by
  refine con_of (FsOk.cons (denil_ok [some (.ints .u8 []), none, none] ok_put) FsOk.nil rfl) Try.func73 rfl rfl fun xs h p hp => ?_
  unfold c_wput0 at hp
  split at hp
  · cases hp
    exact ⟨lee_le rfl, fun _ _ => x_wput0 _ _⟩
  · cases hp

def c_wput1 (F : Ws) : Con := fun xs h => match xs, h with
  | [.one (.sl (some (0, 5)) (.ints .u8 q)), .one (.val (.int .i64 n)), .one (.val (.int .i64 w))], [(0, .tok)] => some ⟨F.w_sh q = true, .sa (.one (.sl (some (1, 5)) (.ints .u8 (F.w_pt q n w)))), [(1, .tok)], [Any, Any, Any]⟩
  | _, _ => none
set_option cbv.maxSteps 4000000 in
set_option maxHeartbeats 8000000 in
set_option maxRecDepth 100000 in
theorem x_wput1 (q : List Int) (n : Int) (w : Int) (hC : Ws.std.w_sh q = true) : Does [(104, denil [some (.ints .u8 []), none, none] (c_put OctR.Fs.std))] Try.f73 [.one (.sl (some (0, 5)) (.ints .u8 q)), .one (.val (.int .i64 n)), .one (.val (.int .i64 w))] [(0, .tok)] ⟨Ws.std.w_sh q = true, .sa (.one (.sl (some (1, 5)) (.ints .u8 (Ws.std.w_pt q n w)))), [(1, .tok)], [Any, Any, Any]⟩ := by
  intro b gv
  have h1 := put_le n w
  have hfs := (FsOk.cons (denil_ok [some (.ints .u8 []), none, none] ok_put) FsOk.nil rfl)
  generalize hF : Ws.std = F at hC hfs ⊢
  generalize hG0 : ViR.Vs.std = G0 at hC hfs ⊢
  generalize hG1 : ViC.Vc.std = G1 at hC hfs ⊢
  generalize hG2 : OctR.Fs.std = G2 at hC hfs ⊢
  generalize hA : Ar.std = A
  generalize hL : Lp _ _ _ = L
  obtain ⟨Z, zq⟩ := z_all
  refine cd_open (lp_mono hL) zq rfl ?_
  repeat' (first
    | (refine z_open zq ?_; try dsimp only)
    | refine cd_seq zq ?_ (lp_mono hL)
    | refine cd_blk zq ?_
    | refine cd_ret ?_
    | refine cd_skip ?_
    | refine cd_exit ?_
    | refine cd_loop ?_
    | refine cd_cond rfl ?_
    | refine cd_condT rfl ?_
    | refine cd_condF rfl ?_
    | (refine Cd.mk ?_; cbv)
    | (refine Ends1.mk ?_; cbv)
    | (refine Fin1.mk ?_; cbv)
    | exact trivial
    | refine And.intro ?_ ?_
    | refine orf fun _ => ?_
    | refine ort fun _ => ?_)
  all_goals
    clear hL zq Z
    try clear hfs
    subst hA hF hG0 hG1 hG2
    simp only [Ws.std, OctR.Fs.std, Ar.std] at *
    try (grind [stdCmp, shB, pt])
theorem ok_wput1 : ConOk Try.prog 73 (c_wput1 Ws.std) := by
  refine con_of (FsOk.cons (denil_ok [some (.ints .u8 []), none, none] ok_put) FsOk.nil rfl) Try.func73 rfl rfl fun xs h p hp => ?_
  unfold c_wput1 at hp
  split at hp
  · cases hp
    exact ⟨lee_le rfl, fun hC _ => x_wput1 _ _ _ hC⟩
  · cases hp

def c_wput (F : Ws) : Con := orCon (c_wput0 F) (c_wput1 F)
theorem ok_wput : ConOk Try.prog 73 (c_wput Ws.std) := or_ok ok_wput0 ok_wput1

def c_wputl (F : Ws) : Con := fun xs h => match xs, h with
  | [.one (.sl (some (0, 5)) (.ints .u8 q)), .agg [.val (.int .i64 k_n), .val (.int .i64 k_p), .val (.int .i64 k_w), .val (.int .i64 k_s), .val (.bool k_m)]], [(0, .tok)] => some ⟨F.w_sh1 q = true, .sa (.one (.sl (some (1, 5)) (.ints .u8 (F.w_lk q k_n k_p k_w k_s k_m)))), [(1, .tok)], [Any, Any]⟩
  | _, _ => none
set_option cbv.maxSteps 4000000 in
set_option maxHeartbeats 8000000 in
set_option maxRecDepth 100000 in
theorem x_wputl (q : List Int) (k_n : Int) (k_p : Int) (k_w : Int) (k_s : Int) (k_m : Bool) (hC : Ws.std.w_sh1 q = true) : Does [(73, c_wput Ws.std)] Try.f74 [.one (.sl (some (0, 5)) (.ints .u8 q)), .agg [.val (.int .i64 k_n), .val (.int .i64 k_p), .val (.int .i64 k_w), .val (.int .i64 k_s), .val (.bool k_m)]] [(0, .tok)] ⟨Ws.std.w_sh1 q = true, .sa (.one (.sl (some (1, 5)) (.ints .u8 (Ws.std.w_lk q k_n k_p k_w k_s k_m)))), [(1, .tok)], [Any, Any]⟩ := by
  intro b gv
  have h0 : q.length ≤ 100000 := of_decide_eq_true (show decide (q.length ≤ 100000) = true from hC)
  have h1 := pt_le q k_n 1
  have h2 := pt_le (pt q k_n 1) k_p 1
  have h3 := pt_le (pt (pt q k_n 1) k_p 1) k_w 4
  have h4 := pt_le (pt (pt (pt q k_n 1) k_p 1) k_w 4) k_s 4
  have hfs := (FsOk.cons ok_wput FsOk.nil rfl)
  generalize hF : Ws.std = F at hC hfs ⊢
  generalize hG0 : ViR.Vs.std = G0 at hC hfs ⊢
  generalize hG1 : ViC.Vc.std = G1 at hC hfs ⊢
  generalize hG2 : OctR.Fs.std = G2 at hC hfs ⊢
  generalize hA : Ar.std = A
  generalize hL : Lp _ _ _ = L
  obtain ⟨Z, zq⟩ := z_all
  refine cd_open (lp_mono hL) zq rfl ?_
  repeat' (first
    | (refine z_open zq ?_; try dsimp only)
    | refine cd_seq zq ?_ (lp_mono hL)
    | refine cd_blk zq ?_
    | refine cd_ret ?_
    | refine cd_skip ?_
    | refine cd_exit ?_
    | refine cd_loop ?_
    | refine cd_cond rfl ?_
    | refine cd_condT rfl ?_
    | refine cd_condF rfl ?_
    | (refine Cd.mk ?_; cbv)
    | (refine Ends1.mk ?_; cbv)
    | (refine Fin1.mk ?_; cbv)
    | exact trivial
    | refine And.intro ?_ ?_
    | refine orf fun _ => ?_
    | refine ort fun _ => ?_)
  all_goals
    clear hL zq Z
    try clear hfs
    subst hA hF hG0 hG1 hG2
    simp only [Ws.std] at *
    try (grind [stdCmp, lk5])
theorem ok_wputl : ConOk Try.prog 74 (c_wputl Ws.std) := by
  refine con_of (FsOk.cons ok_wput FsOk.nil rfl) Try.func74 rfl rfl fun xs h p hp => ?_
  unfold c_wputl at hp
  split at hp
  · cases hp
    exact ⟨lee_le rfl, fun hC _ => x_wputl _ _ _ _ _ _ hC⟩
  · cases hp

def c_wencode (F : Ws) : Con := fun xs h => match xs, h with
  | [.agg [.val (.int .i64 w_k), .val (.int .i64 w_e), .val (.int .i64 w_r), .sl none (.ints .i64 w_n), .sl none (.recs (.int .i64 (.int .i64 (.int .i64 (.int .i64 (.bool .nil))))) w_l), .val (.int .i64 w_ck), .val (.int .i64 w_ca), .val (.int .i64 w_cb), .val (.int .i64 w_cs)]], [] => some ⟨F.w_s ⟨w_k, w_e, w_r, w_n, w_l, w_ck, w_ca, w_cb, w_cs⟩ = true, .tup [Bytes (F.w_enc ⟨w_k, w_e, w_r, w_n, w_l, w_ck, w_ca, w_cb, w_cs⟩), I (F.w_er (F.w_may ⟨w_k, w_e, w_r, w_n, w_l, w_ck, w_ca, w_cb, w_cs⟩))], [], [Any]⟩
  | _, _ => none
set_option cbv.maxSteps 4000000 in
set_option maxHeartbeats 8000000 in
set_option maxRecDepth 100000 in
theorem x_wencode (w_k : Int) (w_e : Int) (w_r : Int) (w_n : List Int) (w_l : List E) (w_ck : Int) (w_ca : Int) (w_cb : Int) (w_cs : Int) (hC : Ws.std.w_s ⟨w_k, w_e, w_r, w_n, w_l, w_ck, w_ca, w_cb, w_cs⟩ = true) : Does [(37, c_wcheck Ws.std), (73, c_wput Ws.std), (74, c_wputl Ws.std)] Try.f35 [.agg [.val (.int .i64 w_k), .val (.int .i64 w_e), .val (.int .i64 w_r), .sl none (.ints .i64 w_n), .sl none (.recs (.int .i64 (.int .i64 (.int .i64 (.int .i64 (.bool .nil))))) w_l), .val (.int .i64 w_ck), .val (.int .i64 w_ca), .val (.int .i64 w_cb), .val (.int .i64 w_cs)]] [] ⟨Ws.std.w_s ⟨w_k, w_e, w_r, w_n, w_l, w_ck, w_ca, w_cb, w_cs⟩ = true, .tup [Bytes (Ws.std.w_enc ⟨w_k, w_e, w_r, w_n, w_l, w_ck, w_ca, w_cb, w_cs⟩), I (Ws.std.w_er (Ws.std.w_may ⟨w_k, w_e, w_r, w_n, w_l, w_ck, w_ca, w_cb, w_cs⟩))], [], [Any]⟩ := by
  intro b gv
  have hs := hd_le ⟨w_k, w_e, w_r, w_n, w_l, w_ck, w_ca, w_cb, w_cs⟩
  have p1 := put_le w_k 1
  have p2 := pt_le (putL [] w_k 1) w_e 4
  have p3 := pt_le (pt (putL [] w_k 1) w_e 4) w_r 1
  have p4 := pt_le (pt (pt (putL [] w_k 1) w_e 4) w_r 1) w_ck 1
  have p5 := pt_le (pt (pt (pt (putL [] w_k 1) w_e 4) w_r 1) w_ck 1) w_ca 1
  have p6 := pt_le (pt (pt (pt (pt (putL [] w_k 1) w_e 4) w_r 1) w_ck 1) w_ca 1) w_cb 1
  have p7 := pt_le (pt (pt (pt (pt (pt (putL [] w_k 1) w_e 4) w_r 1) w_ck 1) w_ca 1) w_cb 1) w_cs 4
  have hfs := (FsOk.cons ok_wcheck (FsOk.cons ok_wput (FsOk.cons ok_wputl FsOk.nil rfl) rfl) rfl)
  generalize hF : Ws.std = F at hC hfs ⊢
  generalize hG0 : ViR.Vs.std = G0 at hC hfs ⊢
  generalize hG1 : ViC.Vc.std = G1 at hC hfs ⊢
  generalize hG2 : OctR.Fs.std = G2 at hC hfs ⊢
  generalize hA : Ar.std = A
  generalize hL : Lp _ _ _ = L
  obtain ⟨Z, zq⟩ := z_all
  refine cd_open (lp_mono hL) zq rfl ?_
  repeat' (first
    | (refine z_open zq ?_; try dsimp only)
    | refine cd_seq zq ?_ (lp_mono hL)
    | refine cd_blk zq ?_
    | refine cd_ret ?_
    | refine cd_skip ?_
    | refine cd_exit ?_
    | refine cd_loop ?_
    | refine cd_cond rfl ?_
    | refine cd_condT rfl ?_
    | refine cd_condF rfl ?_
    | (refine Cd.mk ?_; cbv)
    | (refine Ends1.mk ?_; cbv)
    | (refine Fin1.mk ?_; cbv)
    | exact trivial
    | refine And.intro ?_ ?_
    | refine orf fun _ => ?_
    | refine ort fun _ => ?_)
  all_goals first | (show L _ _ _; skip) | (clear hL hfs zq Z; subst hA hF hG0 hG1 hG2; simp only [Ws.std, Ar.std] at * <;> grind [stdCmp, er, encW]; done)
  rename_i hx
  have hw : mayW ⟨w_k, w_e, w_r, w_n, w_l, w_ck, w_ca, w_cb, w_cs⟩ = true := by
    clear hL hfs zq Z p1 p2 p3 p4 p5 p6 p7 hs
    subst hA hF hG0 hG1 hG2
    simp only [Ws.std, Ar.std] at hx
    grind [stdCmp, er]
  have hl := may_len hw
  dsimp only at hl
  clear hx p1 p2 p3 p4 p5 p6 p7 hs
  subst hL
  refine loop_z (cx_ok hfs) (e1Q ⟨w_k, w_e, w_r, w_n, w_l, w_ck, w_ca, w_cb, w_cs⟩) (e1I A ⟨w_k, w_e, w_r, w_n, w_l, w_ck, w_ca, w_cb, w_cs⟩) (e1M ⟨w_k, w_e, w_r, w_n, w_l, w_ck, w_ca, w_cb, w_cs⟩) (oR 58 5) ⟨0, (F.w_pt (F.w_pt (F.w_pt (F.w_pt (F.w_pt (F.w_pt (F.w_pt (F.w_pn w_k 1) w_e 4) w_r 1) w_ck 1) w_ca 1) w_cb 1) w_cs 4) (A.lenI w_n) 1)⟩ ?_ ?_ ?_
  · (subst hA hF; exact ⟨Int.le_refl 0, Int.natCast_nonneg _, rfl⟩)
  · cbv
    repeat' (first | exact trivial | exact rfl | refine And.intro ?_ ?_)
  rintro ⟨i, c⟩ hq O hO
  have hst := fun h => e1_step hl.1 hq h
  have hln := e1_len hl.1 hq
  have hen := fun h => e1_end hq h
  have q0 := hq.1
  have q1 := hq.2.1
  dsimp only at q0 q1 hst hen
  subst hA
  generalize hA : Ar.std = A
  generalize hL : Lp _ _ _ = L
  refine cd_close zq ?_
  repeat' (first
    | (refine z_open zq ?_; try dsimp only)
    | refine cd_seq zq ?_ (lp_mono hL)
    | refine cd_blk zq ?_
    | refine cd_ret ?_
    | refine cd_skip ?_
    | refine cd_exit ?_
    | refine cd_loop ?_
    | refine cd_cond rfl ?_
    | refine cd_condT rfl ?_
    | refine cd_condF rfl ?_
    | (refine Cd.mk ?_; cbv)
    | (refine Ends1.mk ?_; cbv)
    | (refine Fin1.mk ?_; cbv)
    | exact trivial
    | refine And.intro ?_ ?_
    | refine orf fun _ => ?_
    | refine ort fun _ => ?_)
  all_goals first | (show L _ _ _; skip) | (clear hL hfs zq Z hq; subst hA hF hG0 hG1 hG2 hO; simp only [Ws.std, Ar.std] at * <;> grind [stdCmp]; done)
  rename_i hx
  have hi : ¬ i < w_n.length := by
    clear hL hfs zq Z hO hst hen
    subst hA hF hG0 hG1 hG2
    simp only [Ar.std] at hx
    grind [stdCmp]
  have hc := hen hi
  clear hx hst hen
  subst hL
  refine loop_z (cx_ok hfs) (e2Q ⟨w_k, w_e, w_r, w_n, w_l, w_ck, w_ca, w_cb, w_cs⟩) (e2I A ⟨w_k, w_e, w_r, w_n, w_l, w_ck, w_ca, w_cb, w_cs⟩) (e2M ⟨w_k, w_e, w_r, w_n, w_l, w_ck, w_ca, w_cb, w_cs⟩) (oR 76 5) ⟨0, F.w_pt c (A.lenE w_l) 2⟩ ?_ ?_ ?_
  · (subst hA hF; rw [hc]; exact e2_zero _)
  · cbv
    repeat' (first | exact trivial | exact rfl | refine And.intro ?_ ?_)
  rintro ⟨j, d⟩ hq2 O2 hO2
  have hst := fun h => e2_step hl.2 hq2 h
  have hln2 := e2_len hl hq2
  have hen := fun h => e2_end hq2 h
  have k0 := hq2.1
  have k1 := hq2.2.1
  dsimp only at k0 k1 hst hen
  subst hA
  generalize hA : Ar.std = A
  generalize hL : Lp _ _ _ = L
  refine cd_close zq ?_
  repeat' (first
    | (refine z_open zq ?_; try dsimp only)
    | refine cd_seq zq ?_ (lp_mono hL)
    | refine cd_blk zq ?_
    | refine cd_ret ?_
    | refine cd_skip ?_
    | refine cd_exit ?_
    | refine cd_loop ?_
    | refine cd_cond rfl ?_
    | refine cd_condT rfl ?_
    | refine cd_condF rfl ?_
    | (refine Cd.mk ?_; cbv)
    | (refine Ends1.mk ?_; cbv)
    | (refine Fin1.mk ?_; cbv)
    | exact trivial
    | refine And.intro ?_ ?_
    | refine orf fun _ => ?_
    | refine ort fun _ => ?_)
  all_goals (clear hL hfs zq Z hq hq2 hc; subst hA hF hG0 hG1 hG2 hO hO2; simp only [Ws.std, Ar.std] at * <;> grind [stdCmp, encW, er])
theorem ok_wencode : ConOk Try.prog 35 (c_wencode Ws.std) := by
  refine con_of (FsOk.cons ok_wcheck (FsOk.cons ok_wput (FsOk.cons ok_wputl FsOk.nil rfl) rfl) rfl) Try.func35 rfl rfl fun xs h p hp => ?_
  unfold c_wencode at hp
  split at hp
  · cases hp
    exact ⟨lee_le rfl, fun hC _ => x_wencode _ _ _ _ _ _ _ _ _ hC⟩
  · cases hp
end Go.Proofs.Ytnfkphekkpigpaa.WoR
