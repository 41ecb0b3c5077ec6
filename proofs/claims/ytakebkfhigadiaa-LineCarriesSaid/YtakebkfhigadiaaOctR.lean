
/-
  octet's functions over the reckoner. No condition.
-/
import Derived.Test.YtakebkfhigadiaaRyN
namespace Go.Proofs.Ytakebkfhigadiaa.OctR
open Go Go.Proofs.Ytakebkfhigadiaa.Ry

def isW (w : Int) : Bool := decide (1 ≤ w ∧ w ≤ 4)
def grI (w : Int) : Int := if w = 4 then 2147483647 else if w = 3 then 16777215 else if w = 2 then 65535 else 255
def byI (n i : Int) : Int := IntKind.u8.wrap (stdBin .shr .i64 n (stdBin .mul .i64 8 i))
def numK (n w : Int) (k : Nat) : List Int := (List.range k).map fun j : Nat => byI n (w - 1 - (j : Int))
def numL (n w : Int) : List Int := numK n w w.toNat
def behI (l : List Int) (n w : Int) : List Int := l ++ numL n w
def shB (l : List Int) : Bool := decide (l.length ≤ 1000000)
def room (l : List Int) (n : Int) : Bool := decide (l.length ≤ 1000000 ∧ 0 ≤ n ∧ n ≤ 1000000)
def numI (l : List Int) : Int := l.foldl (fun n x => stdBin .or .i64 (stdBin .shl .i64 n 8) (IntKind.i64.wrap x)) 0
def lenL (r : List Int) : Int := r.length
def endI (r : List Int) (e : Int) : Int := if e = 0 then (if 0 < r.length then 5 else 0) else e
def tkBad (r : List Int) (w : Int) : Bool := decide ((r.length : Int) < w ∨ grI w < numI (r.take w.toNat))
def tkN (r : List Int) (e w : Int) : Int := if e = 0 ∧ isW w = true ∧ tkBad r w = false then numI (r.take w.toNat) else 0
def tkE (r : List Int) (e w : Int) : Int := if e = 0 then (if isW w = true then (if tkBad r w = true then 5 else 0) else 1) else e
def tkR (r : List Int) (e w : Int) : List Int := if e = 0 ∧ isW w = true ∧ tkBad r w = false then r.drop w.toNat else r
def putE (n w : Int) : Int := if isW w = false then 1 else if n < 0 ∨ grI w < n then 3 else 0
def putL (l : List Int) (n w : Int) : List Int := if putE n w = 0 then behI l n w else []
theorem gr_is (w : Int) (h : isW w = true) (h4 : ¬ w = 4) : stdBin .sub .i64 (stdBin .shl .i64 1 (stdBin .mul .i64 8 w)) 1 = grI w ∧ 0 ≤ stdBin .mul .i64 8 w := by
  have h := of_decide_eq_true h
  have : w = 1 ∨ w = 2 ∨ w = 3 := by omega
  rcases this with rfl | rfl | rfl <;> decide

structure Fs where
  f_isW : Int → Bool
  f_gr : Int → Int
  f_beh : List Int → Int → Int → List Int
  f_ok : List Int → Int → Bool
  f_room : List Int → Int → Bool
  f_putL : List Int → Int → Int → List Int
  f_putE : Int → Int → Int
  f_num : List Int → Int
  f_len : List Int → Int
  f_end : List Int → Int → Int
  f_tkN : List Int → Int → Int → Int
  f_tkE : List Int → Int → Int → Int
  f_tkR : List Int → Int → Int → List Int
  f_sh : List Int → Bool
def Fs.std : Fs := ⟨isW, grI, behI, fun l w => shB l && isW w, room, putL, putE, numI, lenL, endI, tkN, tkE, tkR, shB⟩

def c_isW (F : Fs) : Con := fun xs h => match xs, h with
  | [.one (.val (.int .i64 w))], [] => some ⟨True, .sa (B (F.f_isW w)), [], [Any]⟩
  | _, _ => none
def c_gr (F : Fs) : Con := fun xs h => match xs, h with
  | [.one (.val (.int .i64 w))], [] => some ⟨F.f_isW w = true, .sa (I (F.f_gr w)), [], [Any]⟩
  | _, _ => none
def c_room (F : Fs) : Con := fun xs h => match xs, h with
  | [.one (.sl none (.ints .u8 l)), .one (.val (.int .i64 n))], [] => some ⟨F.f_room l n = true, .sa (.one (.sl (some (0, 5)) (.ints .u8 l))), [(0, .tok)], [Any, Any]⟩
  | _, _ => none
structure XA where
  i : Int
  c : List Int
def apQ (l : List Int) (n w : Int) (y : XA) : Prop := -1 ≤ y.i ∧ y.i ≤ w - 1 ∧ y.c = l ++ numK n w (w - 1 - y.i).toNat
def apM (y : XA) : Nat := (y.i + 1).toNat
def apR (st : St) : XA := ⟨slotI st 7, slotL st 0⟩
theorem ap_step (l : List Int) (n w i : Int) (c : List Int) (h0 : 0 ≤ i) (h1 : i ≤ w - 1) (hw : isW w = true) (hl : l.length ≤ 1000000) (hc : c = l ++ numK n w (w - 1 - i).toNat) :
    c.length ≤ 1000010 ∧ stdBin .mul .i64 8 i = 8 * i ∧ c ++ [byI n i] = l ++ numK n w (w - 1 - (i - 1)).toNat := by
  have hw := of_decide_eq_true hw
  subst hc
  refine ⟨by simp [numK]; omega, by rw [b_mul, wr _ (by omega) (by omega)], ?_⟩
  have e : (w - 1 - (i - 1)).toNat = (w - 1 - i).toNat + 1 := by omega
  rw [e]
  unfold numK
  have h2 : w - 1 - (((w - 1 - i).toNat : Nat) : Int) = i := by omega
  have e2 : [byI n i] = List.map (fun j : Nat => byI n (w - 1 - (j : Int))) [(w - 1 - i).toNat] := by rw [List.map_cons, List.map_nil, h2]
  rw [List.range_succ, List.map_append, List.append_assoc, e2]
theorem ap_end (l : List Int) (n w i : Int) (c : List Int) (h0 : i = -1) (hw : isW w = true) (hc : c = l ++ numK n w (w - 1 - i).toNat) : c = behI l n w := by
  have hw := of_decide_eq_true hw
  subst h0
  rw [hc]
  unfold behI numL
  have : (w - 1 - -1).toNat = w.toNat := by omega
  rw [this]

def c_app (F : Fs) : Con := fun xs h => match xs, h with
  | [.one (.sl (some (0, 5)) (.ints .u8 l)), .one (.val (.int .i64 n)), .one (.val (.int .i64 w))], [(0, .tok)] => some ⟨F.f_ok l w = true, .sa (.one (.sl (some (1, 5)) (.ints .u8 (F.f_beh l n w)))), [(1, .tok)], [Any, Any, Any]⟩
  | _, _ => none
def c_put (F : Fs) : Con := fun xs h => match xs, h with
  | [.one (.sl none (.ints .u8 l)), .one (.val (.int .i64 n)), .one (.val (.int .i64 w))], [] => some ⟨F.f_sh l = true, .tup [Bytes (F.f_putL l n w), I (F.f_putE n w)], [], [Any, Any, Any]⟩
  | _, _ => none
structure XU where
  i : Int
  n : Int
def nuQ (l : List Int) (y : XU) : Prop := 0 ≤ y.i ∧ y.i ≤ l.length ∧ y.n = numI (l.take y.i.toNat)
def nuM (l : List Int) (y : XU) : Nat := l.length - y.i.toNat
def nuR (st : St) : XU := ⟨slotI st 8, slotI st 3⟩
theorem nu_step (l : List Int) (n i : Int) (h0 : 0 ≤ i) (h1 : i < l.length) (hn : n = numI (l.take i.toNat)) : stdBin .or .i64 (stdBin .shl .i64 n 8) (IntKind.i64.wrap (l.getD i.toNat 0)) = numI (l.take (i + 1).toNat) := by
  have e : (i + 1).toNat = i.toNat + 1 := by omega
  have hi : i.toNat < l.length := by omega
  rw [hn, e, List.take_add_one]
  unfold numI
  rw [List.foldl_append]
  simp [hi]
theorem nu_end (l : List Int) (n i : Int) (h1 : i = l.length) (hn : n = numI (l.take i.toNat)) : n = numI l := by
  subst h1
  rw [hn]
  simp

def c_num (F : Fs) : Con := fun xs h => match xs, h with
  | [.one (.sl none (.ints .u8 l))], [] => some ⟨F.f_sh l = true, .sa (I (F.f_num l)), [], [Any]⟩
  | _, _ => none
theorem aw_put : putE 300 2 = 0 ∧ putL [] 300 2 = [1, 44] := by decide +kernel
theorem aw_take : tkN [1, 44] 0 2 = 300 ∧ tkE [1, 44] 0 2 = 0 ∧ tkR [1, 44] 0 2 = [] ∧ endI [] 0 = 0 := by decide +kernel

def c_awake (_ : Fs) : Con := fun xs h => match xs, h with
  | [], [] => some ⟨True, .sa (B true), [], []⟩
  | _, _ => none
theorem or64 (a b : Nat) (h : a * 2 ^ 8 + b < 9223372036854775808) (hb : b < 256) : stdBin .or .i64 ((a * 2 ^ 8 : Nat) : Int) (b : Int) = ((a * 2 ^ 8 + b : Nat) : Int) := by
  show bits .or .i64 ((a * 2 ^ 8 : Nat) : Int) (b : Int) = _
  unfold bits
  show IntKind.i64.wrap ((BitVec.ofInt 64 ((a * 2 ^ 8 : Nat) : Int) ||| BitVec.ofInt 64 (b : Int)).toNat : Int) = _
  have e1 : (BitVec.ofInt 64 ((a * 2 ^ 8 : Nat) : Int)).toNat = a * 2 ^ 8 := by rw [BitVec.toNat_ofInt]; omega
  have e2 : (BitVec.ofInt 64 (b : Int)).toNat = b := by rw [BitVec.toNat_ofInt]; omega
  have e3 : (a * 2 ^ 8) ||| b = a * 2 ^ 8 + b := by
    have h8 : b < 2 ^ 8 := hb
    have := Nat.shiftLeft_add_eq_or_of_lt h8 a
    rw [Nat.shiftLeft_eq] at this
    exact this.symm
  rw [BitVec.toNat_or, e1, e2, e3, wr _ (by omega) (by omega)]
theorem num_one (n x : Int) (h0 : 0 ≤ n) (h1 : n < 4294967296) (hx : 0 ≤ x ∧ x ≤ 255) : stdBin .or .i64 (stdBin .shl .i64 n 8) (IntKind.i64.wrap x) = n * 256 + x := by
  obtain ⟨a, rfl⟩ := Int.eq_ofNat_of_zero_le h0
  obtain ⟨b, rfl⟩ := Int.eq_ofNat_of_zero_le hx.1
  have e1 : stdBin .shl .i64 (a : Int) 8 = ((a * 2 ^ 8 : Nat) : Int) := by
    show IntKind.i64.wrap ((a : Int) * 2 ^ 8) = _
    rw [wr _ (by omega) (by omega)]
    omega
  rw [e1, wr (b : Int) (by omega) (by omega), or64 a b (by omega) (by omega)]
  omega
def byB (l : List Int) : Bool := decide (∀ x ∈ l, 0 ≤ x ∧ x ≤ 255)
theorem by_at {l : List Int} (h : byB l = true) (i : Nat) : 0 ≤ l.getD i 0 ∧ l.getD i 0 ≤ 255 := by
  have h := of_decide_eq_true h
  rcases Nat.lt_or_ge i l.length with g | g
  · rw [List.getD_eq_getElem?_getD, List.getElem?_eq_getElem g]
    exact h _ (List.getElem_mem g)
  · rw [List.getD_eq_getElem?_getD, List.getElem?_eq_none g]
    decide
theorem num_next (l : List Int) (k : Nat) (h : k < l.length) (hb : byB l = true) (hn : 0 ≤ numI (l.take k) ∧ numI (l.take k) < 4294967296) : numI (l.take (k + 1)) = numI (l.take k) * 256 + l.getD k 0 := by
  have hs := nu_step l _ (k : Int) (by omega) (by omega) (by rw [Int.toNat_natCast])
  rw [Int.toNat_natCast] at hs
  have e : ((k : Int) + 1).toNat = k + 1 := by omega
  rw [e] at hs
  rw [← hs]
  exact num_one _ _ hn.1 hn.2 (by_at hb k)
theorem num_bound (l : List Int) (hb : byB l = true) : ∀ k, k ≤ 4 → k ≤ l.length → 0 ≤ numI (l.take k) ∧ numI (l.take k) < 256 ^ k
  | 0, _, _ => by simp [numI]
  | k + 1, h4, hl => by
    have ih := num_bound l hb k (by omega) (by omega)
    have hx := by_at hb k
    have hp : (256 : Int) ^ k ≤ 256 ^ 3 := by
      have : k = 0 ∨ k = 1 ∨ k = 2 ∨ k = 3 := by omega
      rcases this with rfl | rfl | rfl | rfl <;> decide
    have hp3 : (256 : Int) ^ 3 = 16777216 := by decide
    rw [num_next l k (by omega) hb ⟨ih.1, by omega⟩, Int.pow_succ]
    omega
theorem rnu_step (l : List Int) (n i : Int) (h4 : l.length ≤ 4) (hb : byB l = true) (h0 : 0 ≤ i) (h1 : i < l.length) (hn : n = numI (l.take i.toNat)) : stdBin .add .i64 (stdBin .mul .i64 n 256) (IntKind.i64.wrap (l.getD i.toNat 0)) = numI (l.take (i + 1).toNat) := by
  have e : (i + 1).toNat = i.toNat + 1 := by omega
  have hbd := num_bound l hb i.toNat (by omega) (by omega)
  have hx := by_at hb i.toNat
  have hp : (256 : Int) ^ i.toNat ≤ 256 ^ 3 := by
    have : i.toNat = 0 ∨ i.toNat = 1 ∨ i.toNat = 2 ∨ i.toNat = 3 := by omega
    rcases this with h | h | h | h <;> rw [h] <;> decide
  have hp3 : (256 : Int) ^ 3 = 16777216 := by decide
  rw [e, num_next l _ (by omega) hb ⟨hbd.1, by omega⟩, b_add, b_mul, hn, wr (l.getD i.toNat 0) (by omega) (by omega), wr (numI (List.take i.toNat l) * 256) (by omega) (by omega), wr _ (by omega) (by omega)]
def num4 (l : List Int) : Bool := byB l && decide (l.length ≤ 4)
def rnR (st : St) : XU := ⟨slotI st 4, slotI st 3⟩
def lmQ (w : Int) (y : XU) : Prop := 0 ≤ y.i ∧ y.i ≤ w ∧ y.n = 256 ^ y.i.toNat
def lmM (w : Int) (y : XU) : Nat := (w - y.i).toNat
theorem lm_step (w n i : Int) (hw : isW w = true) (h0 : 0 ≤ i) (h1 : i < w) (hn : n = 256 ^ i.toNat) : stdBin .mul .i64 n 256 = 256 ^ (i + 1).toNat := by
  have hw := of_decide_eq_true hw
  have : i = 0 ∨ i = 1 ∨ i = 2 ∨ i = 3 := by omega
  subst hn
  rcases this with rfl | rfl | rfl | rfl <;> decide
theorem lm_end (w n i : Int) (hw : isW w = true) (h1 : i = w) (hn : n = 256 ^ i.toNat) : (stdCmp .gtr (stdBin .sub .i64 n 1) 2147483647 = true → grI w = 2147483647) ∧ (stdCmp .gtr (stdBin .sub .i64 n 1) 2147483647 = false → grI w = stdBin .sub .i64 n 1) := by
  have hw := of_decide_eq_true hw
  have : w = 1 ∨ w = 2 ∨ w = 3 ∨ w = 4 := by omega
  subst hn h1
  rcases this with rfl | rfl | rfl | rfl <;> decide +kernel
def liBad (r : List Int) : Bool := decide (r.length < 2 ∨ (r.length : Int) - 2 < numI (r.take 2))
def liN (r : List Int) : Nat := (2 + numI (r.take 2)).toNat
def liL (r : List Int) (e : Int) : List Int := if e = 0 ∧ liBad r = false then (r.take (liN r)).drop 2 else []
def liE (r : List Int) (e : Int) : Int := if e = 0 then (if liBad r = true then 5 else 0) else e
def liR (r : List Int) (e : Int) : List Int := if e = 0 ∧ liBad r = false then r.drop (liN r) else r
def okR (r : List Int) : Bool := byB r && shB r
theorem by_take {r : List Int} (h : byB r = true) (k : Nat) : byB (r.take k) = true := by
  have h := of_decide_eq_true h
  exact decide_eq_true fun x hx => h x (List.mem_of_mem_take hx)
theorem num4_take {r : List Int} (h : byB r = true) (w : Int) (hw : w ≤ 4) : num4 (r.take w.toNat) = true := by
  unfold num4
  rw [by_take h]
  simp only [Bool.true_and, decide_eq_true_eq, List.length_take]
  omega
theorem num2 {r : List Int} (h : byB r = true) (h2 : 2 ≤ r.length) : 0 ≤ numI (r.take 2) ∧ numI (r.take 2) < 65536 := num_bound r h 2 (by decide) h2
structure Gs where
  g_num4 : List Int → Bool
  g_byB : List Int → Bool
  g_ok : List Int → Bool
  g_liL : List Int → Int → List Int
  g_liE : List Int → Int → Int
  g_liR : List Int → Int → List Int
  f : Fs
def Gs.std : Gs := ⟨num4, byB, okR, liL, liE, liR, Fs.std⟩

def c_rnum (F : Gs) : Con := fun xs h => match xs, h with
  | [.one (.sl none (.ints .u8 l))], [] => some ⟨F.g_num4 l = true, .sa (I (F.f.f_num l)), [], [Any]⟩
  | _, _ => none
def c_limit (F : Gs) : Con := fun xs h => match xs, h with
  | [.one (.val (.int .i64 w))], [] => some ⟨F.f.f_isW w = true, .sa (I (F.f.f_gr w)), [], [Any]⟩
  | _, _ => none
end Go.Proofs.Ytakebkfhigadiaa.OctR
