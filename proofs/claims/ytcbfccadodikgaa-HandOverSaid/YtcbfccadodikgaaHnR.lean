/-
  Layer 16: what each step makes of an end, by the reckoner. No condition.
-/
import Derived.Test.YtcbfccadodikgaaRxU
namespace Go.Proofs.Ytcbfccadodikgaa.HnR
open Go Go.Proofs.Ytcbfccadodikgaa.Rx

def limitB (n : Int) : Bool := decide (1 ≤ n) && decide (n ≤ 2147483647)
def openB (l c p : Int) (o : Bool) : Bool := c == l && c != 0 && p == 0 && !o
def openingB (l c p : Int) (o : Bool) : Bool := c == 0 && decide (l < p) && decide (p ≤ 2147483647) && !o
def overB (c p : Int) (o : Bool) : Bool := c == 0 && p == 0 && o
def mayH (l c p : Int) (o : Bool) : Bool := decide (0 ≤ l) && decide (l ≤ 2147483647) && (openB l c p o || openingB l c p o || overB c p o)
def chkH (l c p : Int) (o : Bool) : Int := if mayH l c p o then 0 else 1
structure HandE where
  l : Int
  c : Int
  p : Int
  o : Bool
  e : Int
structure HandQ where
  l : Int
  c : Int
  p : Int
  o : Bool
  a : Bool
  b : Bool
  e : Int
def cntB (n : Int) : Bool := decide (0 ≤ n) && decide (n ≤ 2147483647)
def newH (last limit : Int) : HandE := if limit ≤ last then ⟨last, 0, 0, true, 0⟩ else ⟨last, 0, last + 1, false, 0⟩
def newF (last limit : Int) : HandE := if 0 ≤ last ∧ last ≤ 2147483647 ∧ limitB limit = true then newH last limit else ⟨0, 0, 0, false, 1⟩
def closeH (l c p : Int) (o : Bool) (limit : Int) : HandE := if 0 < c then newH l limit else ⟨l, c, p, o, 0⟩
def closeF (l c p : Int) (o : Bool) (limit : Int) : HandE := if mayH l c p o = true ∧ limitB limit = true then closeH l c p o limit else ⟨0, 0, 0, false, 1⟩
def welH (l c p : Int) (o : Bool) (q : Int) : HandQ := if 0 < p ∧ p = q then ⟨q, q, 0, false, true, false, 0⟩ else ⟨l, c, p, o, false, false, 0⟩
def welF (l c p : Int) (o : Bool) (q : Int) : HandQ := if mayH l c p o = true then welH l c p o q else ⟨0, 0, 0, false, false, false, 1⟩
def helH (l c p : Int) (o : Bool) (q limit : Int) : HandQ :=
  if o = true ∨ q < 1 ∨ limit < q then ⟨l, c, p, o, false, false, 0⟩
  else if 0 < c then (if c < q then ⟨l, 0, q, false, true, true, 0⟩ else ⟨l, c, p, o, q == c, false, 0⟩)
  else if p < q then ⟨l, c, q, o, true, false, 0⟩ else ⟨l, c, p, o, q == p, false, 0⟩
def helF (l c p : Int) (o : Bool) (q limit : Int) : HandQ := if mayH l c p o = true ∧ limitB limit = true then helH l c p o q limit else ⟨0, 0, 0, false, false, false, 1⟩

structure Fs where
  f_cnt : Int → Bool
  f_limit : Int → Bool
  f_open : Int → Int → Int → Bool → Bool
  f_opening : Int → Int → Int → Bool → Bool
  f_over : Int → Int → Bool → Bool
  f_may : Int → Int → Int → Bool → Bool
  f_chk : Int → Int → Int → Bool → Int
  f_newH : Int → Int → HandE
  f_new : Int → Int → HandE
  f_closeH : Int → Int → Int → Bool → Int → HandE
  f_close : Int → Int → Int → Bool → Int → HandE
  f_welH : Int → Int → Int → Bool → Int → HandQ
  f_wel : Int → Int → Int → Bool → Int → HandQ
  f_helH : Int → Int → Int → Bool → Int → Int → HandQ
  f_hel : Int → Int → Int → Bool → Int → Int → HandQ
def Fs.std : Fs := ⟨cntB, limitB, openB, openingB, overB, mayH, chkH, newH, newF, closeH, closeF, welH, welF, helH, helF⟩

def c_limit (F : Fs) : Con := fun xs => match xs with
  | [.one (.val (.int .i64 n))] => some (True, .sa (.one (B (F.f_limit n))))
  | _ => none
set_option maxRecDepth 100000 in
theorem x_limit (n : Int) : Does [] Try.f53 [.one (.val (.int .i64 n))] (hands (.sa (.one (B (Fs.std.f_limit n))))) := by
  intro W S
  generalize hF : Fs.std = F
  generalize hA : Ar.std = A
  generalize Lp _ _ _ = L
  cbv
  subst hF hA
  simp only [Fs.std, Ar.std]
  grind [stdCmp, stdBin, wr, limitB]
theorem ok_limit : ConOk Try.prog 53 (c_limit Fs.std) := by
  refine con_of FsOk.nil Try.func53 rfl rfl fun xs C r h => ?_
  unfold c_limit at h
  split at h
  · cases h
    exact ⟨⟨rfl, rfl, Nat.le_of_ble_eq_true rfl⟩, fun _ => x_limit _⟩
  · cases h

def c_rlimit (F : Fs) : Con := fun xs => match xs with
  | [.one (.val (.int .i64 n))] => some (True, .sa (.one (B (F.f_limit n))))
  | _ => none
set_option maxRecDepth 100000 in
theorem x_rlimit (n : Int) : Does [] Try.f43 [.one (.val (.int .i64 n))] (hands (.sa (.one (B (Fs.std.f_limit n))))) := by
  intro W S
  generalize hF : Fs.std = F
  generalize hA : Ar.std = A
  generalize Lp _ _ _ = L
  cbv
  subst hF hA
  simp only [Fs.std, Ar.std]
  grind [stdCmp, stdBin, wr, limitB]
theorem ok_rlimit : ConOk Try.prog 43 (c_rlimit Fs.std) := by
  refine con_of FsOk.nil Try.func43 rfl rfl fun xs C r h => ?_
  unfold c_rlimit at h
  split at h
  · cases h
    exact ⟨⟨rfl, rfl, Nat.le_of_ble_eq_true rfl⟩, fun _ => x_rlimit _⟩
  · cases h

def c_open (F : Fs) : Con := fun xs => match xs with
  | [.agg [.val (.int .i64 h_l), .val (.int .i64 h_c), .val (.int .i64 h_p), .val (.bool h_o)]] => some (True, .sa (.one (B (F.f_open h_l h_c h_p h_o))))
  | _ => none
set_option maxRecDepth 100000 in
theorem x_open (h_l : Int) (h_c : Int) (h_p : Int) (h_o : Bool) : Does [] Try.f54 [.agg [.val (.int .i64 h_l), .val (.int .i64 h_c), .val (.int .i64 h_p), .val (.bool h_o)]] (hands (.sa (.one (B (Fs.std.f_open h_l h_c h_p h_o))))) := by
  intro W S
  generalize hF : Fs.std = F
  generalize hA : Ar.std = A
  generalize Lp _ _ _ = L
  cbv
  subst hF hA
  simp only [Fs.std, Ar.std]
  grind [stdCmp, stdBin, wr, openB]
theorem ok_open : ConOk Try.prog 54 (c_open Fs.std) := by
  refine con_of FsOk.nil Try.func54 rfl rfl fun xs C r h => ?_
  unfold c_open at h
  split at h
  · cases h
    exact ⟨⟨rfl, rfl, Nat.le_of_ble_eq_true rfl⟩, fun _ => x_open _ _ _ _⟩
  · cases h

def c_opening (F : Fs) : Con := fun xs => match xs with
  | [.agg [.val (.int .i64 h_l), .val (.int .i64 h_c), .val (.int .i64 h_p), .val (.bool h_o)]] => some (True, .sa (.one (B (F.f_opening h_l h_c h_p h_o))))
  | _ => none
set_option maxRecDepth 100000 in
theorem x_opening (h_l : Int) (h_c : Int) (h_p : Int) (h_o : Bool) : Does [] Try.f55 [.agg [.val (.int .i64 h_l), .val (.int .i64 h_c), .val (.int .i64 h_p), .val (.bool h_o)]] (hands (.sa (.one (B (Fs.std.f_opening h_l h_c h_p h_o))))) := by
  intro W S
  generalize hF : Fs.std = F
  generalize hA : Ar.std = A
  generalize Lp _ _ _ = L
  cbv
  subst hF hA
  simp only [Fs.std, Ar.std]
  grind [stdCmp, stdBin, wr, openingB]
theorem ok_opening : ConOk Try.prog 55 (c_opening Fs.std) := by
  refine con_of FsOk.nil Try.func55 rfl rfl fun xs C r h => ?_
  unfold c_opening at h
  split at h
  · cases h
    exact ⟨⟨rfl, rfl, Nat.le_of_ble_eq_true rfl⟩, fun _ => x_opening _ _ _ _⟩
  · cases h

def c_over (F : Fs) : Con := fun xs => match xs with
  | [.agg [.val (.int .i64 _), .val (.int .i64 h_c), .val (.int .i64 h_p), .val (.bool h_o)]] => some (True, .sa (.one (B (F.f_over h_c h_p h_o))))
  | _ => none
set_option maxRecDepth 100000 in
theorem x_over (h_l : Int) (h_c : Int) (h_p : Int) (h_o : Bool) : Does [] Try.f56 [.agg [.val (.int .i64 h_l), .val (.int .i64 h_c), .val (.int .i64 h_p), .val (.bool h_o)]] (hands (.sa (.one (B (Fs.std.f_over h_c h_p h_o))))) := by
  intro W S
  generalize hF : Fs.std = F
  generalize hA : Ar.std = A
  generalize Lp _ _ _ = L
  cbv
  subst hF hA
  simp only [Fs.std, Ar.std]
  grind [stdCmp, stdBin, wr, overB]
theorem ok_over : ConOk Try.prog 56 (c_over Fs.std) := by
  refine con_of FsOk.nil Try.func56 rfl rfl fun xs C r h => ?_
  unfold c_over at h
  split at h
  · cases h
    exact ⟨⟨rfl, rfl, Nat.le_of_ble_eq_true rfl⟩, fun _ => x_over _ _ _ _⟩
  · cases h

def c_check (F : Fs) : Con := fun xs => match xs with
  | [.agg [.val (.int .i64 h_l), .val (.int .i64 h_c), .val (.int .i64 h_p), .val (.bool h_o)]] => some (True, .sa (.one (I (F.f_chk h_l h_c h_p h_o))))
  | _ => none
set_option maxRecDepth 100000 in
theorem x_check (h_l : Int) (h_c : Int) (h_p : Int) (h_o : Bool) : Does [(54, c_open Fs.std), (55, c_opening Fs.std), (56, c_over Fs.std)] Try.f41 [.agg [.val (.int .i64 h_l), .val (.int .i64 h_c), .val (.int .i64 h_p), .val (.bool h_o)]] (hands (.sa (.one (I (Fs.std.f_chk h_l h_c h_p h_o))))) := by
  intro W S
  generalize hF : Fs.std = F
  generalize hA : Ar.std = A
  generalize Lp _ _ _ = L
  cbv
  subst hF hA
  simp only [Fs.std, Ar.std]
  grind [stdCmp, stdBin, wr, chkH, mayH]
theorem ok_check : ConOk Try.prog 41 (c_check Fs.std) := by
  refine con_of (FsOk.cons ok_open (FsOk.cons ok_opening (FsOk.cons ok_over FsOk.nil))) Try.func41 rfl rfl fun xs C r h => ?_
  unfold c_check at h
  split at h
  · cases h
    exact ⟨⟨rfl, rfl, Nat.le_of_ble_eq_true rfl⟩, fun _ => x_check _ _ _ _⟩
  · cases h

def c_may (F : Fs) : Con := fun xs => match xs with
  | [.agg [.val (.int .i64 h_l), .val (.int .i64 h_c), .val (.int .i64 h_p), .val (.bool h_o)]] => some (True, .sa (.one (B (F.f_may h_l h_c h_p h_o))))
  | _ => none
set_option maxRecDepth 100000 in
theorem x_may (h_l : Int) (h_c : Int) (h_p : Int) (h_o : Bool) : Does [] Try.f42 [.agg [.val (.int .i64 h_l), .val (.int .i64 h_c), .val (.int .i64 h_p), .val (.bool h_o)]] (hands (.sa (.one (B (Fs.std.f_may h_l h_c h_p h_o))))) := by
  intro W S
  generalize hF : Fs.std = F
  generalize hA : Ar.std = A
  generalize Lp _ _ _ = L
  cbv
  subst hF hA
  simp only [Fs.std, Ar.std]
  grind [stdCmp, stdBin, wr, mayH, openB, openingB, overB]
theorem ok_may : ConOk Try.prog 42 (c_may Fs.std) := by
  refine con_of FsOk.nil Try.func42 rfl rfl fun xs C r h => ?_
  unfold c_may at h
  split at h
  · cases h
    exact ⟨⟨rfl, rfl, Nat.le_of_ble_eq_true rfl⟩, fun _ => x_may _ _ _ _⟩
  · cases h

def c_new (F : Fs) : Con := fun xs => match xs with
  | [.one (.val (.int .i64 last)), .one (.val (.int .i64 limit))] => some (True, .tup [.agg [.val (.int .i64 (F.f_new last limit).l), .val (.int .i64 (F.f_new last limit).c), .val (.int .i64 (F.f_new last limit).p), .val (.bool (F.f_new last limit).o)], .one (I (F.f_new last limit).e)])
  | _ => none
set_option maxRecDepth 100000 in
theorem x_new (last : Int) (limit : Int) : Does [(53, c_limit Fs.std)] Try.f39 [.one (.val (.int .i64 last)), .one (.val (.int .i64 limit))] (hands (.tup [.agg [.val (.int .i64 (Fs.std.f_new last limit).l), .val (.int .i64 (Fs.std.f_new last limit).c), .val (.int .i64 (Fs.std.f_new last limit).p), .val (.bool (Fs.std.f_new last limit).o)], .one (I (Fs.std.f_new last limit).e)])) := by
  intro W S
  generalize hF : Fs.std = F
  generalize hA : Ar.std = A
  generalize Lp _ _ _ = L
  cbv
  subst hF hA
  simp only [Fs.std, Ar.std]
  grind [stdCmp, stdBin, wr, newF, newH, limitB]
theorem ok_new : ConOk Try.prog 39 (c_new Fs.std) := by
  refine con_of (FsOk.cons ok_limit FsOk.nil) Try.func39 rfl rfl fun xs C r h => ?_
  unfold c_new at h
  split at h
  · cases h
    exact ⟨⟨rfl, rfl, Nat.le_of_ble_eq_true rfl⟩, fun _ => x_new _ _⟩
  · cases h

def c_close (F : Fs) : Con := fun xs => match xs with
  | [.agg [.val (.int .i64 h_l), .val (.int .i64 h_c), .val (.int .i64 h_p), .val (.bool h_o)], .one (.val (.int .i64 limit))] => some (True, .tup [.agg [.val (.int .i64 (F.f_close h_l h_c h_p h_o limit).l), .val (.int .i64 (F.f_close h_l h_c h_p h_o limit).c), .val (.int .i64 (F.f_close h_l h_c h_p h_o limit).p), .val (.bool (F.f_close h_l h_c h_p h_o limit).o)], .one (I (F.f_close h_l h_c h_p h_o limit).e)])
  | _ => none
set_option maxRecDepth 100000 in
theorem x_close (h_l : Int) (h_c : Int) (h_p : Int) (h_o : Bool) (limit : Int) : Does [(41, c_check Fs.std), (53, c_limit Fs.std), (39, c_new Fs.std), (54, c_open Fs.std), (56, c_over Fs.std), (55, c_opening Fs.std)] Try.f40 [.agg [.val (.int .i64 h_l), .val (.int .i64 h_c), .val (.int .i64 h_p), .val (.bool h_o)], .one (.val (.int .i64 limit))] (hands (.tup [.agg [.val (.int .i64 (Fs.std.f_close h_l h_c h_p h_o limit).l), .val (.int .i64 (Fs.std.f_close h_l h_c h_p h_o limit).c), .val (.int .i64 (Fs.std.f_close h_l h_c h_p h_o limit).p), .val (.bool (Fs.std.f_close h_l h_c h_p h_o limit).o)], .one (I (Fs.std.f_close h_l h_c h_p h_o limit).e)])) := by
  intro W S
  generalize hF : Fs.std = F
  generalize hA : Ar.std = A
  generalize Lp _ _ _ = L
  cbv
  subst hF hA
  simp only [Fs.std, Ar.std]
  grind [stdCmp, stdBin, wr, closeF, closeH, newF, newH, chkH, mayH, openB, openingB, overB, limitB]
theorem ok_close : ConOk Try.prog 40 (c_close Fs.std) := by
  refine con_of (FsOk.cons ok_check (FsOk.cons ok_limit (FsOk.cons ok_new (FsOk.cons ok_open (FsOk.cons ok_over (FsOk.cons ok_opening FsOk.nil)))))) Try.func40 rfl rfl fun xs C r h => ?_
  unfold c_close at h
  split at h
  · cases h
    exact ⟨⟨rfl, rfl, Nat.le_of_ble_eq_true rfl⟩, fun _ => x_close _ _ _ _ _⟩
  · cases h

def c_rnew (F : Fs) : Con := fun xs => match xs with
  | [.one (.val (.int .i64 last)), .one (.val (.int .i64 limit))] => some (F.f_cnt last = true, .sa (.agg [.val (.int .i64 (F.f_newH last limit).l), .val (.int .i64 (F.f_newH last limit).c), .val (.int .i64 (F.f_newH last limit).p), .val (.bool (F.f_newH last limit).o)]))
  | _ => none
set_option maxRecDepth 100000 in
theorem x_rnew (last : Int) (limit : Int) (hC : Fs.std.f_cnt last = true) : Does [] Try.f44 [.one (.val (.int .i64 last)), .one (.val (.int .i64 limit))] (hands (.sa (.agg [.val (.int .i64 (Fs.std.f_newH last limit).l), .val (.int .i64 (Fs.std.f_newH last limit).c), .val (.int .i64 (Fs.std.f_newH last limit).p), .val (.bool (Fs.std.f_newH last limit).o)]))) := by
  intro W S
  generalize hF : Fs.std = F
  generalize hA : Ar.std = A
  generalize Lp _ _ _ = L
  cbv
  subst hF hA
  simp only [Fs.std, Ar.std] at hC ⊢
  grind [stdCmp, stdBin, wr, newH, cntB]
theorem ok_rnew : ConOk Try.prog 44 (c_rnew Fs.std) := by
  refine con_of FsOk.nil Try.func44 rfl rfl fun xs C r h => ?_
  unfold c_rnew at h
  split at h
  · cases h
    exact ⟨⟨rfl, rfl, Nat.le_of_ble_eq_true rfl⟩, fun hC => x_rnew _ _ hC⟩
  · cases h

def c_rclose (F : Fs) : Con := fun xs => match xs with
  | [.agg [.val (.int .i64 h_l), .val (.int .i64 h_c), .val (.int .i64 h_p), .val (.bool h_o)], .one (.val (.int .i64 limit))] => some (F.f_cnt h_l = true, .sa (.agg [.val (.int .i64 (F.f_closeH h_l h_c h_p h_o limit).l), .val (.int .i64 (F.f_closeH h_l h_c h_p h_o limit).c), .val (.int .i64 (F.f_closeH h_l h_c h_p h_o limit).p), .val (.bool (F.f_closeH h_l h_c h_p h_o limit).o)]))
  | _ => none
set_option maxRecDepth 100000 in
theorem x_rclose (h_l : Int) (h_c : Int) (h_p : Int) (h_o : Bool) (limit : Int) (hC : Fs.std.f_cnt h_l = true) : Does [(44, c_rnew Fs.std)] Try.f46 [.agg [.val (.int .i64 h_l), .val (.int .i64 h_c), .val (.int .i64 h_p), .val (.bool h_o)], .one (.val (.int .i64 limit))] (hands (.sa (.agg [.val (.int .i64 (Fs.std.f_closeH h_l h_c h_p h_o limit).l), .val (.int .i64 (Fs.std.f_closeH h_l h_c h_p h_o limit).c), .val (.int .i64 (Fs.std.f_closeH h_l h_c h_p h_o limit).p), .val (.bool (Fs.std.f_closeH h_l h_c h_p h_o limit).o)]))) := by
  intro W S
  generalize hF : Fs.std = F
  generalize hA : Ar.std = A
  generalize Lp _ _ _ = L
  cbv
  subst hF hA
  simp only [Fs.std, Ar.std] at hC ⊢
  grind [stdCmp, stdBin, wr, closeH, newH, cntB]
theorem ok_rclose : ConOk Try.prog 46 (c_rclose Fs.std) := by
  refine con_of (FsOk.cons ok_rnew FsOk.nil) Try.func46 rfl rfl fun xs C r h => ?_
  unfold c_rclose at h
  split at h
  · cases h
    exact ⟨⟨rfl, rfl, Nat.le_of_ble_eq_true rfl⟩, fun hC => x_rclose _ _ _ _ _ hC⟩
  · cases h

def c_wel (F : Fs) : Con := fun xs => match xs with
  | [.agg [.val (.int .i64 h_l), .val (.int .i64 h_c), .val (.int .i64 h_p), .val (.bool h_o)], .one (.val (.int .i64 q))] => some (True, .tup [.agg [.val (.int .i64 (F.f_wel h_l h_c h_p h_o q).l), .val (.int .i64 (F.f_wel h_l h_c h_p h_o q).c), .val (.int .i64 (F.f_wel h_l h_c h_p h_o q).p), .val (.bool (F.f_wel h_l h_c h_p h_o q).o)], .one (B (F.f_wel h_l h_c h_p h_o q).a), .one (I (F.f_wel h_l h_c h_p h_o q).e)])
  | _ => none
set_option maxRecDepth 100000 in
theorem x_wel (h_l : Int) (h_c : Int) (h_p : Int) (h_o : Bool) (q : Int) : Does [(41, c_check Fs.std), (55, c_opening Fs.std)] Try.f48 [.agg [.val (.int .i64 h_l), .val (.int .i64 h_c), .val (.int .i64 h_p), .val (.bool h_o)], .one (.val (.int .i64 q))] (hands (.tup [.agg [.val (.int .i64 (Fs.std.f_wel h_l h_c h_p h_o q).l), .val (.int .i64 (Fs.std.f_wel h_l h_c h_p h_o q).c), .val (.int .i64 (Fs.std.f_wel h_l h_c h_p h_o q).p), .val (.bool (Fs.std.f_wel h_l h_c h_p h_o q).o)], .one (B (Fs.std.f_wel h_l h_c h_p h_o q).a), .one (I (Fs.std.f_wel h_l h_c h_p h_o q).e)])) := by
  intro W S
  generalize hF : Fs.std = F
  generalize hA : Ar.std = A
  generalize Lp _ _ _ = L
  cbv
  subst hF hA
  simp only [Fs.std, Ar.std]
  grind [stdCmp, stdBin, wr, welF, welH, chkH, mayH, openB, openingB, overB]
theorem ok_wel : ConOk Try.prog 48 (c_wel Fs.std) := by
  refine con_of (FsOk.cons ok_check (FsOk.cons ok_opening FsOk.nil)) Try.func48 rfl rfl fun xs C r h => ?_
  unfold c_wel at h
  split at h
  · cases h
    exact ⟨⟨rfl, rfl, Nat.le_of_ble_eq_true rfl⟩, fun _ => x_wel _ _ _ _ _⟩
  · cases h

def c_hel (F : Fs) : Con := fun xs => match xs with
  | [.agg [.val (.int .i64 h_l), .val (.int .i64 h_c), .val (.int .i64 h_p), .val (.bool h_o)], .one (.val (.int .i64 q)), .one (.val (.int .i64 limit))] => some (True, .tup [.agg [.val (.int .i64 (F.f_hel h_l h_c h_p h_o q limit).l), .val (.int .i64 (F.f_hel h_l h_c h_p h_o q limit).c), .val (.int .i64 (F.f_hel h_l h_c h_p h_o q limit).p), .val (.bool (F.f_hel h_l h_c h_p h_o q limit).o)], .one (B (F.f_hel h_l h_c h_p h_o q limit).a), .one (B (F.f_hel h_l h_c h_p h_o q limit).b), .one (I (F.f_hel h_l h_c h_p h_o q limit).e)])
  | _ => none
set_option maxRecDepth 100000 in
theorem x_hel (h_l : Int) (h_c : Int) (h_p : Int) (h_o : Bool) (q : Int) (limit : Int) : Does [(41, c_check Fs.std), (53, c_limit Fs.std), (56, c_over Fs.std), (55, c_opening Fs.std)] Try.f47 [.agg [.val (.int .i64 h_l), .val (.int .i64 h_c), .val (.int .i64 h_p), .val (.bool h_o)], .one (.val (.int .i64 q)), .one (.val (.int .i64 limit))] (hands (.tup [.agg [.val (.int .i64 (Fs.std.f_hel h_l h_c h_p h_o q limit).l), .val (.int .i64 (Fs.std.f_hel h_l h_c h_p h_o q limit).c), .val (.int .i64 (Fs.std.f_hel h_l h_c h_p h_o q limit).p), .val (.bool (Fs.std.f_hel h_l h_c h_p h_o q limit).o)], .one (B (Fs.std.f_hel h_l h_c h_p h_o q limit).a), .one (B (Fs.std.f_hel h_l h_c h_p h_o q limit).b), .one (I (Fs.std.f_hel h_l h_c h_p h_o q limit).e)])) := by
  intro W S
  generalize hF : Fs.std = F
  generalize hA : Ar.std = A
  generalize Lp _ _ _ = L
  cbv
  subst hF hA
  simp only [Fs.std, Ar.std]
  grind (splits := 30) [stdCmp, stdBin, wr, helF, helH, chkH, mayH, openB, openingB, overB]
theorem ok_hel : ConOk Try.prog 47 (c_hel Fs.std) := by
  refine con_of (FsOk.cons ok_check (FsOk.cons ok_limit (FsOk.cons ok_over (FsOk.cons ok_opening FsOk.nil)))) Try.func47 rfl rfl fun xs C r h => ?_
  unfold c_hel at h
  split at h
  · cases h
    exact ⟨⟨rfl, rfl, Nat.le_of_ble_eq_true rfl⟩, fun _ => x_hel _ _ _ _ _ _⟩
  · cases h

def c_awake (_ : Fs) : Con := fun xs => match xs with
  | [] => some (True, .sa (.one (B true)))
  | _ => none
set_option maxRecDepth 100000 in
theorem x_awake  : Does [(39, c_new Fs.std), (47, c_hel Fs.std), (48, c_wel Fs.std)] Try.f45 [] (hands (.sa (.one (B true)))) := by
  intro W S
  generalize hF : Fs.std = F
  generalize hA : Ar.std = A
  generalize Lp _ _ _ = L
  cbv
  subst hF hA
  simp only [Fs.std, Ar.std]
  grind [stdCmp, stdBin, wr, newF, newH, helF, helH, welF, welH, mayH, openB, openingB, overB, limitB]
theorem ok_awake : ConOk Try.prog 45 (c_awake Fs.std) := by
  refine con_of (FsOk.cons ok_new (FsOk.cons ok_hel (FsOk.cons ok_wel FsOk.nil))) Try.func45 rfl rfl fun xs C r h => ?_
  unfold c_awake at h
  split at h
  · cases h
    exact ⟨⟨rfl, rfl, Nat.le_of_ble_eq_true rfl⟩, fun _ => x_awake ⟩
  · cases h

def c_rwel (F : Fs) : Con := fun xs => match xs with
  | [.agg [.val (.int .i64 h_l), .val (.int .i64 h_c), .val (.int .i64 h_p), .val (.bool h_o)], .one (.val (.int .i64 q))] => some (True, .tup [.agg [.val (.int .i64 (F.f_welH h_l h_c h_p h_o q).l), .val (.int .i64 (F.f_welH h_l h_c h_p h_o q).c), .val (.int .i64 (F.f_welH h_l h_c h_p h_o q).p), .val (.bool (F.f_welH h_l h_c h_p h_o q).o)], .one (B (F.f_welH h_l h_c h_p h_o q).a)])
  | _ => none
set_option maxRecDepth 100000 in
theorem x_rwel (h_l : Int) (h_c : Int) (h_p : Int) (h_o : Bool) (q : Int) : Does [] Try.f49 [.agg [.val (.int .i64 h_l), .val (.int .i64 h_c), .val (.int .i64 h_p), .val (.bool h_o)], .one (.val (.int .i64 q))] (hands (.tup [.agg [.val (.int .i64 (Fs.std.f_welH h_l h_c h_p h_o q).l), .val (.int .i64 (Fs.std.f_welH h_l h_c h_p h_o q).c), .val (.int .i64 (Fs.std.f_welH h_l h_c h_p h_o q).p), .val (.bool (Fs.std.f_welH h_l h_c h_p h_o q).o)], .one (B (Fs.std.f_welH h_l h_c h_p h_o q).a)])) := by
  intro W S
  generalize hF : Fs.std = F
  generalize hA : Ar.std = A
  generalize Lp _ _ _ = L
  cbv
  subst hF hA
  simp only [Fs.std, Ar.std]
  grind [stdCmp, stdBin, wr, welH]
theorem ok_rwel : ConOk Try.prog 49 (c_rwel Fs.std) := by
  refine con_of FsOk.nil Try.func49 rfl rfl fun xs C r h => ?_
  unfold c_rwel at h
  split at h
  · cases h
    exact ⟨⟨rfl, rfl, Nat.le_of_ble_eq_true rfl⟩, fun _ => x_rwel _ _ _ _ _⟩
  · cases h

def c_rhel (F : Fs) : Con := fun xs => match xs with
  | [.agg [.val (.int .i64 h_l), .val (.int .i64 h_c), .val (.int .i64 h_p), .val (.bool h_o)], .one (.val (.int .i64 q)), .one (.val (.int .i64 limit))] => some (True, .tup [.agg [.val (.int .i64 (F.f_helH h_l h_c h_p h_o q limit).l), .val (.int .i64 (F.f_helH h_l h_c h_p h_o q limit).c), .val (.int .i64 (F.f_helH h_l h_c h_p h_o q limit).p), .val (.bool (F.f_helH h_l h_c h_p h_o q limit).o)], .one (B (F.f_helH h_l h_c h_p h_o q limit).a), .one (B (F.f_helH h_l h_c h_p h_o q limit).b)])
  | _ => none
set_option maxRecDepth 100000 in
theorem x_rhel (h_l : Int) (h_c : Int) (h_p : Int) (h_o : Bool) (q : Int) (limit : Int) : Does [] Try.f50 [.agg [.val (.int .i64 h_l), .val (.int .i64 h_c), .val (.int .i64 h_p), .val (.bool h_o)], .one (.val (.int .i64 q)), .one (.val (.int .i64 limit))] (hands (.tup [.agg [.val (.int .i64 (Fs.std.f_helH h_l h_c h_p h_o q limit).l), .val (.int .i64 (Fs.std.f_helH h_l h_c h_p h_o q limit).c), .val (.int .i64 (Fs.std.f_helH h_l h_c h_p h_o q limit).p), .val (.bool (Fs.std.f_helH h_l h_c h_p h_o q limit).o)], .one (B (Fs.std.f_helH h_l h_c h_p h_o q limit).a), .one (B (Fs.std.f_helH h_l h_c h_p h_o q limit).b)])) := by
  intro W S
  generalize hF : Fs.std = F
  generalize hA : Ar.std = A
  generalize Lp _ _ _ = L
  cbv
  subst hF hA
  simp only [Fs.std, Ar.std]
  grind [stdCmp, stdBin, wr, helH]
theorem ok_rhel : ConOk Try.prog 50 (c_rhel Fs.std) := by
  refine con_of FsOk.nil Try.func50 rfl rfl fun xs C r h => ?_
  unfold c_rhel at h
  split at h
  · cases h
    exact ⟨⟨rfl, rfl, Nat.le_of_ble_eq_true rfl⟩, fun _ => x_rhel _ _ _ _ _ _⟩
  · cases h
end Go.Proofs.Ytcbfccadodikgaa.HnR
