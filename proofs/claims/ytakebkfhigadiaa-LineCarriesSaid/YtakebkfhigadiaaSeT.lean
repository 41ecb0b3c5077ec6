
/-
  senders: the answer, and what is alike. No condition.
-/
import Derived.Test.YtakebkfhigadiaaSeS
namespace Go.Proofs.Ytakebkfhigadiaa.SeT
open Go Go.Proofs.Ytakebkfhigadiaa.Ry Go.Proofs.Ytakebkfhigadiaa.SeR Go.Proofs.Ytakebkfhigadiaa.SeS

def smS (b s : Int) (q : List E) (c : Int) (b' s' : Int) (q' : List E) (c' : Int) : Bool := decide (b = b' ∧ s = s' ∧ c = c' ∧ pq q = pq q')
def prN (l : List E) : List (Int × List Int) := l.map fun y => (ri y 0, rl y 1)
def nuE (a c : List E) : Bool := decide (prN a = prN c)
def byN (l : List E) : Bool := decide (l.length ≤ 100000 ∧ ∀ y ∈ l, ∀ x ∈ rl y 1, 0 ≤ x ∧ x ≤ 255)
def byS (q : List E) : Bool := decide (q.length ≤ 100000 ∧ ∀ y ∈ q, ∀ x ∈ rl y 0, 0 ≤ x ∧ x ≤ 255)
def byt (l : List Int) : List Int := l.map fun n => ((UInt8.ofNat n.toNat).toNat : Int)
theorem byt_id : ∀ {l : List Int}, (∀ x ∈ l, 0 ≤ x ∧ x ≤ 255) → byt l = l
  | [], _ => rfl
  | x :: l, h => by
    have hx := h x (List.mem_cons_self ..)
    have ih := byt_id (l := l) fun y hy => h y (List.mem_cons_of_mem _ hy)
    unfold byt at *
    rw [List.map_cons, ih]
    congr 1
    have : x.toNat < 256 := by omega
    simp [UInt8.toNat_ofNat', Nat.mod_eq_of_lt this]
    omega
structure XE where
  i : Int
/-- As far as here, alike. -/
def eqQ {α : Type} (f : E → α) (p q : List E) (y : XE) : Prop := 0 ≤ y.i ∧ y.i ≤ p.length ∧ (p.map f).take y.i.toNat = (q.map f).take y.i.toNat
def eqM (p : List E) (y : XE) : Nat := p.length - y.i.toNat
theorem eq_zero {α : Type} (f : E → α) (p q : List E) : eqQ f p q ⟨0⟩ := ⟨Int.le_refl 0, Int.natCast_nonneg _, rfl⟩
theorem eq_step {α : Type} (f : E → α) (p q : List E) (hl : p.length = q.length) (i : Int) (hq : eqQ f p q ⟨i⟩) (h : i < p.length) :
    (f (p.getD i.toNat []) = f (q.getD i.toNat []) → eqQ f p q ⟨i + 1⟩) ∧ (¬ f (p.getD i.toNat []) = f (q.getD i.toNat []) → ¬ p.map f = q.map f) := by
  obtain ⟨h0, h1, h2⟩ := hq
  simp only at h0 h1 h2
  have e : (i + 1).toNat = i.toNat + 1 := by omega
  have hi : i.toNat < p.length := by omega
  have hj : i.toNat < q.length := by omega
  have gp : p.getD i.toNat [] = p[i.toNat] := by rw [List.getD_eq_getElem?_getD, List.getElem?_eq_getElem hi]; rfl
  have gq : q.getD i.toNat [] = q[i.toNat] := by rw [List.getD_eq_getElem?_getD, List.getElem?_eq_getElem hj]; rfl
  refine ⟨fun g => ⟨by simp only; omega, by simp only; omega, ?_⟩, fun g w => g ?_⟩
  · simp only
    rw [e, List.take_add_one, List.take_add_one, h2, List.getElem?_map, List.getElem?_map, List.getElem?_eq_getElem hi, List.getElem?_eq_getElem hj, ← gp, ← gq]
    simp only [Option.map_some, g]
  · have := congrArg (fun l => l[i.toNat]?) w
    simp only [List.getElem?_map, List.getElem?_eq_getElem hi, List.getElem?_eq_getElem hj, Option.map_some, Option.some.injEq] at this
    rw [gp, gq]
    exact this
theorem eq_end {α : Type} (f : E → α) (p q : List E) (hl : p.length = q.length) (i : Int) (hq : eqQ f p q ⟨i⟩) (h : i = p.length) : p.map f = q.map f := by
  obtain ⟨h0, h1, h2⟩ := hq
  simp only at h2
  have e1 : i.toNat = (p.map f).length := by rw [List.length_map]; omega
  have e2 : i.toNat = (q.map f).length := by rw [List.length_map]; omega
  rw [e1, List.take_length, ← e1, e2, List.take_length] at h2
  exact h2
theorem len_ne {α : Type} (f : E → α) {p q : List E} (h : ¬ p.length = q.length) : ¬ p.map f = q.map f := fun w => h (by have := congrArg List.length w; simpa using this)
def rsR (st : St) : XE := ⟨slotI st 5⟩
noncomputable def efI (A : Ar) (q q' : List E) (y : XE) : St := stOf Try.f97.ntmps [(1, .sl none (.recs (.ints .u8 .nil) q')), (2, .val (.func (.func 98) ⟨[]⟩ ⟨[]⟩)), (15, .sl none (.recs (.ints .u8 .nil) q)), (16, .val (.int .i64 (A.lenE q))), (17, .val (.int .i64 y.i))] [] [Any, Any, Any]
def efR (st : St) : XE := ⟨slotI st 17⟩
def rnR (st : St) : XE := ⟨slotI st 5⟩

structure Hs where
  h_sm : Int → Int → List E → Int → Int → Int → List E → Int → Bool
  h_by : List E → List E → Bool
  h_eq : List E → List E → Bool
  h_b2 : List Int → List Int → Bool
  h_e2 : List Int → List Int → Bool
  h_byN : List E → List E → Bool
  h_nu : List E → List E → Bool
def Hs.std : Hs := ⟨smS, fun p q => byS p && byS q, fun p q => decide (pq p = pq q), fun p q => decide ((∀ x ∈ p, 0 ≤ x ∧ x ≤ 255) ∧ ∀ x ∈ q, 0 ≤ x ∧ x ≤ 255), fun p q => decide (p = q), fun p q => byN p && byN q, nuE⟩

def c_rsame (F : Hs) : Con := fun xs h => match xs, h with
  | [.agg [.val (.int .i64 x_b), .val (.int .i64 x_s), .sl none (.recs (.ints .u8 .nil) x_q), .val (.int .i64 x_c)], .agg [.val (.int .i64 y_b), .val (.int .i64 y_s), .sl none (.recs (.ints .u8 .nil) y_q), .val (.int .i64 y_c)]], [] => some ⟨F.h_by x_q y_q = true, .sa (B (F.h_sm x_b x_s x_q x_c y_b y_s y_q y_c)), [], [Any, Any]⟩
  | _, _ => none
def c_beq (F : Hs) : Con := fun xs h => match xs, h with
  | [.one (.sl none (.ints .u8 p)), .one (.sl none (.ints .u8 q))], [] => some ⟨F.h_b2 p q = true, .sa (B (F.h_e2 p q)), [], [Any, Any]⟩
  | _, _ => none
set_option maxRecDepth 100000 in
theorem x_beq (p : List Int) (q : List Int) (hC : Hs.std.h_b2 p q = true) : Does [] Try.f98 [.one (.sl none (.ints .u8 p)), .one (.sl none (.ints .u8 q))] [] ⟨Hs.std.h_b2 p q = true, .sa (B (Hs.std.h_e2 p q)), [], [Any, Any]⟩ := by
  intro b gv
  have hk := of_decide_eq_true (show decide ((∀ x ∈ p, 0 ≤ x ∧ x ≤ 255) ∧ ∀ x ∈ q, 0 ≤ x ∧ x ≤ 255) = true from hC)
  have e1 := byt_id hk.1
  have e2 := byt_id hk.2
  generalize hF : Hs.std = F at hC ⊢
  generalize hA : Ar.std = A
  generalize hL : Lp _ _ _ = L
  obtain ⟨Z, zq⟩ := z_all
  refine cd_open (lp_mono hL) zq rfl ?_
  repeat' (first
    | (refine z_open zq ?_; try dsimp only)
    | refine cd_seq zq ?_ (lp_mono hL)
    | refine cd_blk zq ?_
    | refine cd_ret ?_
    | refine cd_skip ?_
    | refine cd_exit ?_
    | refine cd_loop ?_
    | refine cd_cond rfl ?_
    | refine cd_condT rfl ?_
    | refine cd_condF rfl ?_
    | (refine Cd.mk ?_; cbv)
    | (refine Ends1.mk ?_; cbv)
    | (refine Fin1.mk ?_; cbv)
    | exact trivial
    | refine And.intro ?_ ?_
    | refine orf fun _ => ?_
    | refine ort fun _ => ?_)
  all_goals
    clear hL zq Z
    subst hF hA
    simp only [Hs.std, Ar.std] at *
    try (grind [byt])
theorem ok_beq : ConOk Try.prog 98 (c_beq Hs.std) := by
  refine con_of FsOk.nil Try.func98 rfl rfl fun xs h p hp => ?_
  unfold c_beq at hp
  split at hp
  · cases hp
    exact ⟨lee_le rfl, fun hC _ => x_beq _ _ hC⟩
  · cases hp

def c_eqf (F : Hs) : Con := fun xs h => match xs, h with
  | [.one (.sl none (.recs (.ints .u8 .nil) p)), .one (.sl none (.recs (.ints .u8 .nil) q)), .one (.val (.func (.func 98) ⟨[]⟩ ⟨[]⟩))], [] => some ⟨F.h_by p q = true, .sa (B (F.h_eq p q)), [], [Any, Any, Any]⟩
  | _, _ => none
set_option maxHeartbeats 1000000 in
set_option maxRecDepth 100000 in
theorem x_eqf (p : List E) (q : List E) (hC : Hs.std.h_by p q = true) : Does [(98, c_beq Hs.std)] Try.f97 [.one (.sl none (.recs (.ints .u8 .nil) p)), .one (.sl none (.recs (.ints .u8 .nil) q)), .one (.val (.func (.func 98) ⟨[]⟩ ⟨[]⟩))] [] ⟨Hs.std.h_by p q = true, .sa (B (Hs.std.h_eq p q)), [], [Any, Any, Any]⟩ := by
  intro b gv
  have hk : (p.length ≤ 100000 ∧ ∀ y ∈ p, ∀ x ∈ rl y 0, 0 ≤ x ∧ x ≤ 255) ∧ (q.length ≤ 100000 ∧ ∀ y ∈ q, ∀ x ∈ rl y 0, 0 ≤ x ∧ x ≤ 255) := by
    have h : (byS p && byS q) = true := hC
    simp only [Bool.and_eq_true] at h
    exact ⟨of_decide_eq_true h.1, of_decide_eq_true h.2⟩
  have hlq := hk.1.1
  have hne := len_ne (fun y => rl y 0) (p := p) (q := q)
  have hfs := (FsOk.cons ok_beq FsOk.nil rfl)
  generalize hF : Hs.std = F at hC hfs ⊢
  generalize hA : Ar.std = A
  generalize hL : Lp _ _ _ = L
  obtain ⟨Z, zq⟩ := z_all
  refine cd_open (lp_mono hL) zq rfl ?_
  repeat' (first
    | (refine z_open zq ?_; try dsimp only)
    | refine cd_seq zq ?_ (lp_mono hL)
    | refine cd_blk zq ?_
    | refine cd_ret ?_
    | refine cd_skip ?_
    | refine cd_exit ?_
    | refine cd_loop ?_
    | refine cd_cond rfl ?_
    | refine cd_condT rfl ?_
    | refine cd_condF rfl ?_
    | (refine Cd.mk ?_; cbv)
    | (refine Ends1.mk ?_; cbv)
    | (refine Fin1.mk ?_; cbv)
    | exact trivial
    | refine And.intro ?_ ?_
    | refine orf fun _ => ?_
    | refine ort fun _ => ?_)
  all_goals first | (show L _ _ _; skip) | (clear hfs hL zq Z; subst hA hF; simp only [Hs.std, Ar.std] at * <;> grind [stdCmp, smS, nuE, pq, prN]; done)
  rename_i hx
  have hl : p.length = q.length := by
    clear hfs hL zq Z hF
    subst hA
    simp only [Ar.std] at hx
    grind [stdCmp]
  clear hx
  subst hL
  refine loop_z (cx_ok hfs) (eqQ (fun y => rl y 0) p q) (efI A p q) (eqM p) efR ⟨0⟩ ?_ ?_ ?_
  · exact eq_zero _ _ _
  · cbv
    repeat' (first | exact trivial | exact rfl | refine And.intro ?_ ?_)
  rintro ⟨i⟩ hq O hO
  have hst := eq_step (fun y => rl y 0) p q hl i hq
  have hen := eq_end (fun y => rl y 0) p q hl i hq
  have q0 := hq.1
  have q1 := hq.2.1
  dsimp only at q0 q1
  have m3 : i < p.length → decide ((∀ x ∈ rl (p.getD i.toNat []) 0, 0 ≤ x ∧ x ≤ 255) ∧ ∀ x ∈ rl (q.getD i.toNat []) 0, 0 ≤ x ∧ x ≤ 255) = true := fun h => decide_eq_true ⟨hk.1.2 _ (pl_mem q0 h), hk.2.2 _ (pl_mem q0 (by omega))⟩
  subst hA
  generalize hA : Ar.std = A
  generalize hL : Lp _ _ _ = L
  refine cd_close zq ?_
  repeat' (first
    | (refine z_open zq ?_; try dsimp only)
    | refine cd_seq zq ?_ (lp_mono hL)
    | refine cd_blk zq ?_
    | refine cd_ret ?_
    | refine cd_skip ?_
    | refine cd_exit ?_
    | refine cd_loop ?_
    | refine cd_cond rfl ?_
    | refine cd_condT rfl ?_
    | refine cd_condF rfl ?_
    | (refine Cd.mk ?_; cbv)
    | (refine Ends1.mk ?_; cbv)
    | (refine Fin1.mk ?_; cbv)
    | exact trivial
    | refine And.intro ?_ ?_
    | refine orf fun _ => ?_
    | refine ort fun _ => ?_)
  all_goals (clear hL hfs zq Z hq; subst hA hF hO; simp only [Hs.std, Ar.std] at * <;> grind [stdCmp, b_add, wr, eqM, pq])
theorem ok_eqf : ConOk Try.prog 97 (c_eqf Hs.std) := by
  refine con_of (FsOk.cons ok_beq FsOk.nil rfl) Try.func97 rfl rfl fun xs h p hp => ?_
  unfold c_eqf at hp
  split at hp
  · cases hp
    exact ⟨lee_le rfl, fun hC _ => x_eqf _ _ hC⟩
  · cases hp

def c_same (F : Hs) : Con := fun xs h => match xs, h with
  | [.agg [.val (.int .i64 x_b), .val (.int .i64 x_s), .sl none (.recs (.ints .u8 .nil) x_q), .val (.int .i64 x_c)], .agg [.val (.int .i64 y_b), .val (.int .i64 y_s), .sl none (.recs (.ints .u8 .nil) y_q), .val (.int .i64 y_c)]], [] => some ⟨F.h_by x_q y_q = true, .sa (B (F.h_sm x_b x_s x_q x_c y_b y_s y_q y_c)), [], [Any, Any]⟩
  | _, _ => none
set_option maxRecDepth 100000 in
theorem x_same (x_b : Int) (x_s : Int) (x_q : List E) (x_c : Int) (y_b : Int) (y_s : Int) (y_q : List E) (y_c : Int) (hC : Hs.std.h_by x_q y_q = true) : Does [(97, c_eqf Hs.std)] Try.f83 [.agg [.val (.int .i64 x_b), .val (.int .i64 x_s), .sl none (.recs (.ints .u8 .nil) x_q), .val (.int .i64 x_c)], .agg [.val (.int .i64 y_b), .val (.int .i64 y_s), .sl none (.recs (.ints .u8 .nil) y_q), .val (.int .i64 y_c)]] [] ⟨Hs.std.h_by x_q y_q = true, .sa (B (Hs.std.h_sm x_b x_s x_q x_c y_b y_s y_q y_c)), [], [Any, Any]⟩ := by
  intro b gv
  generalize hF : Hs.std = F at hC ⊢
  generalize hA : Ar.std = A
  generalize hL : Lp _ _ _ = L
  obtain ⟨Z, zq⟩ := z_all
  refine cd_open (lp_mono hL) zq rfl ?_
  repeat' (first
    | (refine z_open zq ?_; try dsimp only)
    | refine cd_seq zq ?_ (lp_mono hL)
    | refine cd_blk zq ?_
    | refine cd_ret ?_
    | refine cd_skip ?_
    | refine cd_exit ?_
    | refine cd_loop ?_
    | refine cd_cond rfl ?_
    | refine cd_condT rfl ?_
    | refine cd_condF rfl ?_
    | (refine Cd.mk ?_; cbv)
    | (refine Ends1.mk ?_; cbv)
    | (refine Fin1.mk ?_; cbv)
    | exact trivial
    | refine And.intro ?_ ?_
    | refine orf fun _ => ?_
    | refine ort fun _ => ?_)
  all_goals
    clear hL zq Z
    subst hF hA
    simp only [Hs.std, Ar.std] at *
    try (first | (grind; done) | (refine congrArg Value.bool ?_; simp only [stdCmp, smS]; by_cases h1 : x_b = y_b <;> by_cases h2 : x_s = y_s <;> by_cases h3 : x_c = y_c <;> simp [h1, h2, h3]))
theorem ok_same : ConOk Try.prog 83 (c_same Hs.std) := by
  refine con_of (FsOk.cons ok_eqf FsOk.nil rfl) Try.func83 rfl rfl fun xs h p hp => ?_
  unfold c_same at hp
  split at hp
  · cases hp
    exact ⟨lee_le rfl, fun hC _ => x_same _ _ _ _ _ _ _ _ hC⟩
  · cases hp

def c_rnum (F : Hs) : Con := fun xs h => match xs, h with
  | [.one (.sl none (.recs (.int .i64 (.ints .u8 .nil)) p)), .one (.sl none (.recs (.int .i64 (.ints .u8 .nil)) q))], [] => some ⟨F.h_byN p q = true, .sa (B (F.h_nu p q)), [], [Any, Any]⟩
  | _, _ => none
end Go.Proofs.Ytakebkfhigadiaa.SeT
