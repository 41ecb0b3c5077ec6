
/-
  senders: the answer of acks; which are light. No condition.
-/
import Derived.Test.YtakebkfhigadiaaSeS
namespace Go.Proofs.Ytakebkfhigadiaa.SeU
open Go Go.Proofs.Ytakebkfhigadiaa.Ry Go.Proofs.Ytakebkfhigadiaa.SeR Go.Proofs.Ytakebkfhigadiaa.SeS

def liF : Nat → List E → Int → Int
  | 0, _, n => n
  | _ + 1, [], n => n
  | k + 1, y :: l, n => if n ≤ 40000 then liF k l (stdBin .add .i64 n ((rl y 0).length : Int)) else n
def liW (q : List E) : Bool := decide (q.length ≤ 300) && decide (liF 300 q 0 ≤ 40000)
structure XL where
  i : Int
  n : Int
def liQ (q : List E) (y : XL) : Prop := 0 ≤ y.i ∧ y.i ≤ q.length ∧ y.i ≤ 300 ∧ liF (300 - y.i).toNat (q.drop y.i.toNat) y.n = liF 300 q 0
def liM (y : XL) : Nat := (300 - y.i).toNat
def liR (st : St) : XL := ⟨slotI st 4, slotI st 3⟩
theorem li_zero (q : List E) : liQ q ⟨0, 0⟩ := ⟨Int.le_refl 0, Int.natCast_nonneg _, show (0 : Int) ≤ 300 by decide, rfl⟩
theorem li_step (q : List E) (i n : Int) (hq : liQ q ⟨i, n⟩) (h : i < q.length) (h3 : i < 300) (hn : n ≤ 40000) : liQ q ⟨i + 1, stdBin .add .i64 n ((rl (q.getD i.toNat []) 0).length : Int)⟩ := by
  obtain ⟨h0, h1, h2, h4⟩ := hq
  simp only at h0 h1 h2 h4
  have hi : i.toNat < q.length := by omega
  have e : (300 - i).toNat = (300 - (i + 1)).toNat + 1 := by omega
  have e2 : (i + 1).toNat = i.toNat + 1 := by omega
  rw [e, List.drop_eq_getElem_cons hi, liF, if_pos hn] at h4
  refine ⟨by simp only; omega, by simp only; omega, by simp only; omega, ?_⟩
  simp only
  rw [e2, List.getD_eq_getElem?_getD, List.getElem?_eq_getElem hi]
  have e300 : liF 300 q 0 = liF (299 + 1) q 0 := rfl
  rw [e300] at h4 ⊢
  exact h4
theorem li_end (q : List E) (i n : Int) (hq : liQ q ⟨i, n⟩) (h : ¬ (i < q.length ∧ i < 300 ∧ n ≤ 40000)) : liF 300 q 0 = n := by
  obtain ⟨h0, h1, h2, h4⟩ := hq
  simp only at h0 h1 h2 h4
  rw [← h4]
  by_cases g1 : i < q.length
  · by_cases g2 : i < 300
    · have hi : i.toNat < q.length := by omega
      have e : (300 - i).toNat = (300 - (i + 1)).toNat + 1 := by omega
      rw [e, List.drop_eq_getElem_cons hi, liF, if_neg (fun w => h ⟨g1, g2, w⟩)]
    · have e : (300 - i).toNat = 0 := by omega
      rw [e]
      rfl
  · have e : q.drop i.toNat = [] := List.drop_eq_nil_of_le (by omega)
    rw [e]
    cases (300 - i).toNat <;> rfl
def rackS (b s : Int) (q : List E) (c k : Int) : SD := if b < k ∧ k ≤ b + s then ⟨k, s - (k - b), q.drop (k - b).toNat, if s - (k - b) = 0 then 0 else 4, 0⟩ else ⟨b, s, q, c, 0⟩
structure XK where
  b : Int
  s : Int
  q : List E
  c : Int
def rkQ (b s : Int) (q : List E) (_ k : Int) (y : XK) : Prop := b ≤ y.b ∧ y.b ≤ k ∧ y.s = s - (y.b - b) ∧ y.q = q.drop (y.b - b).toNat ∧ (b < y.b → y.c = 4)
def rkM (k : Int) (y : XK) : Nat := (k - y.b).toNat
def rkR (st : St) : XK := ⟨valI (cellC st 2 0), valI (cellC st 2 1), valR st.heap (cellC st 2 2), valI (cellC st 2 3)⟩
theorem rk_zero (b s : Int) (q : List E) (c k : Int) (h : b < k) : rkQ b s q c k ⟨b, s, q, c⟩ := ⟨Int.le_refl _, by simp only; omega, by simp only; omega, by simp, fun w => by simp only at w; omega⟩
theorem rk_step (b s : Int) (q : List E) (c k : Int) (hm : maySn b s q c = true) (hk : b < k ∧ k ≤ b + s) (x u : Int) (p : List E) (d : Int) (hq : rkQ b s q c k ⟨x, u, p, d⟩) (h : x < k) : 1 ≤ (p.length : Int) ∧ stdBin .add .i64 x 1 = x + 1 ∧ stdBin .sub .i64 u 1 = u - 1 ∧ rkQ b s q c k ⟨x + 1, u - 1, (p.take (p.length : Int).toNat).drop 1, 4⟩ := by
  obtain ⟨h0, h1, h2, h3, h4⟩ := hq
  simp only at h0 h1 h2 h3 h4
  have hm := may_ok hm
  have hl : p.length = q.length - (x - b).toNat := by rw [h3, List.length_drop]
  refine ⟨by omega, by rw [b_add, wr _ (by omega) (by omega)], by rw [b_sub, wr _ (by omega) (by omega)], by simp only; omega, by simp only; omega, by simp only; omega, ?_, fun _ => rfl⟩
  simp only
  rw [Int.toNat_natCast, List.take_length, h3, List.drop_drop]
  congr 1
  omega
theorem rk_end (b s : Int) (q : List E) (c k : Int) (hk : b < k ∧ k ≤ b + s) (x u : Int) (p : List E) (d : Int) (hq : rkQ b s q c k ⟨x, u, p, d⟩) (h : ¬ x < k) : rackS b s q c k = ⟨x, u, p, if u = 0 then 0 else d, 0⟩ := by
  obtain ⟨h0, h1, h2, h3, h4⟩ := hq
  simp only at h0 h1 h2 h3 h4
  have e : x = k := by omega
  have h4 := h4 (by omega)
  unfold rackS
  rw [if_pos hk, h2, h3, h4, e]

structure Us where
  u_li : List E → Bool
  u_ack : Int → Int → List E → Int → Int → SD
  u_may : Int → Int → List E → Int → Bool
def Us.std : Us := ⟨liW, rackS, maySn⟩

def c_light (F : Us) : Con := fun xs h => match xs, h with
  | [.agg [.val (.int .i64 _), .val (.int .i64 _), .sl none (.recs (.ints .u8 .nil) v_q), .val (.int .i64 _)]], [] => some ⟨True, .sa (B (F.u_li v_q)), [], [Any]⟩
  | _, _ => none
def c_rack (F : Us) : Con := fun xs h => match xs, h with
  | [.agg [.val (.int .i64 v_b), .val (.int .i64 v_s), .sl none (.recs (.ints .u8 .nil) v_q), .val (.int .i64 v_c)], .one (.val (.int .i64 k))], [] => some ⟨F.u_may v_b v_s v_q v_c = true, .sa (.agg [.val (.int .i64 (F.u_ack v_b v_s v_q v_c k).b), .val (.int .i64 (F.u_ack v_b v_s v_q v_c k).s), .sl none (.recs (.ints .u8 .nil) (F.u_ack v_b v_s v_q v_c k).q), .val (.int .i64 (F.u_ack v_b v_s v_q v_c k).c)]), [], [Any, Any]⟩
  | _, _ => none
end Go.Proofs.Ytakebkfhigadiaa.SeU
