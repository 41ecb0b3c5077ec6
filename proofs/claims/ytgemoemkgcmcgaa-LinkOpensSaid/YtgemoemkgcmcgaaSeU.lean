
/-
  senders: the answer of acks; which are light. No condition.
-/
import Derived.Test.YtgemoemkgcmcgaaSeS
namespace Go.Proofs.Ytgemoemkgcmcgaa.SeU
open Go Go.Proofs.Ytgemoemkgcmcgaa.Ry Go.Proofs.Ytgemoemkgcmcgaa.SeR Go.Proofs.Ytgemoemkgcmcgaa.SeS

def liF : Nat → List E → Int → Int
  | 0, _, n => n
  | _ + 1, [], n => n
  | k + 1, y :: l, n => if n ≤ 40000 then liF k l (stdBin .add .i64 n ((rl y 0).length : Int)) else n
def liW (q : List E) : Bool := decide (q.length ≤ 300) && decide (liF 300 q 0 ≤ 40000)
structure XL where
  i : Int
  n : Int
def liQ (q : List E) (y : XL) : Prop := 0 ≤ y.i ∧ y.i ≤ q.length ∧ y.i ≤ 300 ∧ liF (300 - y.i).toNat (q.drop y.i.toNat) y.n = liF 300 q 0
def liM (y : XL) : Nat := (300 - y.i).toNat
def liR (st : St) : XL := ⟨slotI st 4, slotI st 3⟩
theorem li_zero (q : List E) : liQ q ⟨0, 0⟩ := ⟨Int.le_refl 0, Int.natCast_nonneg _, show (0 : Int) ≤ 300 by decide, rfl⟩
theorem li_step (q : List E) (i n : Int) (hq : liQ q ⟨i, n⟩) (h : i < q.length) (h3 : i < 300) (hn : n ≤ 40000) : liQ q ⟨i + 1, stdBin .add .i64 n ((rl (q.getD i.toNat []) 0).length : Int)⟩ := by
  obtain ⟨h0, h1, h2, h4⟩ := hq
  simp only at h0 h1 h2 h4
  have hi : i.toNat < q.length := by omega
  have e : (300 - i).toNat = (300 - (i + 1)).toNat + 1 := by omega
  have e2 : (i + 1).toNat = i.toNat + 1 := by omega
  rw [e, List.drop_eq_getElem_cons hi, liF, if_pos hn] at h4
  refine ⟨by simp only; omega, by simp only; omega, by simp only; omega, ?_⟩
  simp only
  rw [e2, List.getD_eq_getElem?_getD, List.getElem?_eq_getElem hi]
  have e300 : liF 300 q 0 = liF (299 + 1) q 0 := rfl
  rw [e300] at h4 ⊢
  exact h4
theorem li_end (q : List E) (i n : Int) (hq : liQ q ⟨i, n⟩) (h : ¬ (i < q.length ∧ i < 300 ∧ n ≤ 40000)) : liF 300 q 0 = n := by
  obtain ⟨h0, h1, h2, h4⟩ := hq
  simp only at h0 h1 h2 h4
  rw [← h4]
  by_cases g1 : i < q.length
  · by_cases g2 : i < 300
    · have hi : i.toNat < q.length := by omega
      have e : (300 - i).toNat = (300 - (i + 1)).toNat + 1 := by omega
      rw [e, List.drop_eq_getElem_cons hi, liF, if_neg (fun w => h ⟨g1, g2, w⟩)]
    · have e : (300 - i).toNat = 0 := by omega
      rw [e]
      rfl
  · have e : q.drop i.toNat = [] := List.drop_eq_nil_of_le (by omega)
    rw [e]
    cases (300 - i).toNat <;> rfl
def rackS (b s : Int) (q : List E) (c k : Int) : SD := if b < k ∧ k ≤ b + s then ⟨k, s - (k - b), q.drop (k - b).toNat, if s - (k - b) = 0 then 0 else 4, 0⟩ else ⟨b, s, q, c, 0⟩
structure XK where
  b : Int
  s : Int
  q : List E
  c : Int
def rkQ (b s : Int) (q : List E) (_ k : Int) (y : XK) : Prop := b ≤ y.b ∧ y.b ≤ k ∧ y.s = s - (y.b - b) ∧ y.q = q.drop (y.b - b).toNat ∧ (b < y.b → y.c = 4)
noncomputable def rkI (k : Int) (y : XK) : St := stOf Try.f78.ntmps [(1, .val (.int .i64 k)), (2, .ptr 1 0), (4, .ptr 2 0)] [(1, .cells 27 [.val (.int .i64 y.b), .val (.int .i64 y.s), .sl none (.recs (.ints .u8 .nil) y.q), .val (.int .i64 y.c)]), (2, .cells 27 [.val (.int .i64 0), .val (.int .i64 0), .val (.slice none 0 0), .val (.int .i64 0)])] [Any, Any]
def rkM (k : Int) (y : XK) : Nat := (k - y.b).toNat
def rkR (st : St) : XK := ⟨valI (cellC st 2 0), valI (cellC st 2 1), valR st.heap (cellC st 2 2), valI (cellC st 2 3)⟩
theorem rk_zero (b s : Int) (q : List E) (c k : Int) (h : b < k) : rkQ b s q c k ⟨b, s, q, c⟩ := ⟨Int.le_refl _, by simp only; omega, by simp only; omega, by simp, fun w => by simp only at w; omega⟩
theorem rk_step (b s : Int) (q : List E) (c k : Int) (hm : maySn b s q c = true) (hk : b < k ∧ k ≤ b + s) (x u : Int) (p : List E) (d : Int) (hq : rkQ b s q c k ⟨x, u, p, d⟩) (h : x < k) : 1 ≤ (p.length : Int) ∧ stdBin .add .i64 x 1 = x + 1 ∧ stdBin .sub .i64 u 1 = u - 1 ∧ rkQ b s q c k ⟨x + 1, u - 1, (p.take (p.length : Int).toNat).drop 1, 4⟩ := by
  obtain ⟨h0, h1, h2, h3, h4⟩ := hq
  simp only at h0 h1 h2 h3 h4
  have hm := may_ok hm
  have hl : p.length = q.length - (x - b).toNat := by rw [h3, List.length_drop]
  refine ⟨by omega, by rw [b_add, wr _ (by omega) (by omega)], by rw [b_sub, wr _ (by omega) (by omega)], by simp only; omega, by simp only; omega, by simp only; omega, ?_, fun _ => rfl⟩
  simp only
  rw [Int.toNat_natCast, List.take_length, h3, List.drop_drop]
  congr 1
  omega
theorem rk_end (b s : Int) (q : List E) (c k : Int) (hk : b < k ∧ k ≤ b + s) (x u : Int) (p : List E) (d : Int) (hq : rkQ b s q c k ⟨x, u, p, d⟩) (h : ¬ x < k) : rackS b s q c k = ⟨x, u, p, if u = 0 then 0 else d, 0⟩ := by
  obtain ⟨h0, h1, h2, h3, h4⟩ := hq
  simp only at h0 h1 h2 h3 h4
  have e : x = k := by omega
  have h4 := h4 (by omega)
  unfold rackS
  rw [if_pos hk, h2, h3, h4, e]

structure Us where
  u_li : List E → Bool
  u_ack : Int → Int → List E → Int → Int → SD
  u_may : Int → Int → List E → Int → Bool
def Us.std : Us := ⟨liW, rackS, maySn⟩

def c_light (F : Us) : Con := fun xs h => match xs, h with
  | [.agg [.val (.int .i64 _), .val (.int .i64 _), .sl none (.recs (.ints .u8 .nil) v_q), .val (.int .i64 _)]], [] => some ⟨True, .sa (B (F.u_li v_q)), [], [Any]⟩
  | _, _ => none
def c_rack (F : Us) : Con := fun xs h => match xs, h with
  | [.agg [.val (.int .i64 v_b), .val (.int .i64 v_s), .sl none (.recs (.ints .u8 .nil) v_q), .val (.int .i64 v_c)], .one (.val (.int .i64 k))], [] => some ⟨F.u_may v_b v_s v_q v_c = true, .sa (.agg [.val (.int .i64 (F.u_ack v_b v_s v_q v_c k).b), .val (.int .i64 (F.u_ack v_b v_s v_q v_c k).s), .sl none (.recs (.ints .u8 .nil) (F.u_ack v_b v_s v_q v_c k).q), .val (.int .i64 (F.u_ack v_b v_s v_q v_c k).c)]), [], [Any, Any]⟩
  | _, _ => none
set_option maxHeartbeats 1000000 in
set_option maxRecDepth 100000 in
theorem x_rack (v_b : Int) (v_s : Int) (v_q : List E) (v_c : Int) (k : Int) (hC : Us.std.u_may v_b v_s v_q v_c = true) : Does [] Try.f78 [.agg [.val (.int .i64 v_b), .val (.int .i64 v_s), .sl none (.recs (.ints .u8 .nil) v_q), .val (.int .i64 v_c)], .one (.val (.int .i64 k))] [] ⟨Us.std.u_may v_b v_s v_q v_c = true, .sa (.agg [.val (.int .i64 (Us.std.u_ack v_b v_s v_q v_c k).b), .val (.int .i64 (Us.std.u_ack v_b v_s v_q v_c k).s), .sl none (.recs (.ints .u8 .nil) (Us.std.u_ack v_b v_s v_q v_c k).q), .val (.int .i64 (Us.std.u_ack v_b v_s v_q v_c k).c)]), [], [Any, Any]⟩ := by
  intro b gv
  have hm : maySn v_b v_s v_q v_c = true := hC
  have hm2 := may_ok hm
  have hfs := FsOk.nil
  generalize hF : Us.std = F at hC hfs ⊢
  generalize hA : Ar.std = A
  generalize hL : Lp _ _ _ = L
  obtain ⟨Z, zq⟩ := z_all
  refine cd_open (lp_mono hL) zq rfl ?_
  repeat' (first
    | (refine z_open zq ?_; try dsimp only)
    | refine cd_seq zq ?_ (lp_mono hL)
    | refine cd_blk zq ?_
    | refine cd_ret ?_
    | refine cd_skip ?_
    | refine cd_exit ?_
    | refine cd_loop ?_
    | refine cd_cond rfl ?_
    | refine cd_condT rfl ?_
    | refine cd_condF rfl ?_
    | (refine Cd.mk ?_; cbv)
    | (refine Ends1.mk ?_; cbv)
    | (refine Fin1.mk ?_; cbv)
    | exact trivial
    | refine And.intro ?_ ?_
    | refine orf fun _ => ?_
    | refine ort fun _ => ?_)
  all_goals first | (show L _ _ _; skip) | (clear hfs hL zq Z; subst hF hA; simp only [Us.std, Ar.std] at * <;> grind [stdCmp, b_add, wr, rackS]; done)
  rename_i hx
  have hk : v_b < k ∧ k ≤ v_b + v_s := by
    clear hfs hL zq Z hF
    subst hA
    simp only [Ar.std] at hx
    grind [stdCmp, b_add, wr]
  clear hx
  subst hL
  refine loop_z (cx_ok hfs) (rkQ v_b v_s v_q v_c k) (rkI k) (rkM k) rkR ⟨v_b, v_s, v_q, v_c⟩ ?_ ?_ ?_
  · exact rk_zero _ _ _ _ _ hk.1
  · cbv
    repeat' (first | exact trivial | exact rfl | refine And.intro ?_ ?_)
  rintro ⟨x, y, p, d⟩ hq O hO
  have hst := rk_step _ _ _ _ _ hm hk x y p d hq
  have hen := rk_end _ _ _ _ _ hk x y p d hq
  have q0 := hq.1
  dsimp only at q0
  have o1 : Int.toNat 1 = 1 := rfl
  subst hA
  generalize hA : Ar.std = A
  generalize hL : Lp _ _ _ = L
  refine cd_close zq ?_
  repeat' (first
    | (refine z_open zq ?_; try dsimp only)
    | refine cd_seq zq ?_ (lp_mono hL)
    | refine cd_blk zq ?_
    | refine cd_ret ?_
    | refine cd_skip ?_
    | refine cd_exit ?_
    | refine cd_loop ?_
    | refine cd_cond rfl ?_
    | refine cd_condT rfl ?_
    | refine cd_condF rfl ?_
    | (refine Cd.mk ?_; cbv)
    | (refine Ends1.mk ?_; cbv)
    | (refine Fin1.mk ?_; cbv)
    | exact trivial
    | refine And.intro ?_ ?_
    | refine orf fun _ => ?_
    | refine ort fun _ => ?_)
  all_goals (clear hL hfs zq Z hq; subst hA hF hO; simp only [Us.std, Ar.std, o1] at * <;> grind [stdCmp, rkM])
theorem ok_rack : ConOk Try.prog 78 (c_rack Us.std) := by
  refine con_of FsOk.nil Try.func78 rfl rfl fun xs h p hp => ?_
  unfold c_rack at hp
  split at hp
  · cases hp
    exact ⟨lee_le rfl, fun hC _ => x_rack _ _ _ _ _ hC⟩
  · cases hp
end Go.Proofs.Ytgemoemkgcmcgaa.SeU
