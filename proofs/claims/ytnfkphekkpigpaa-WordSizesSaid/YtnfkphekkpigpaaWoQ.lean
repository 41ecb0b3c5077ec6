/-
  the answer of words over the reckoner. No condition.
-/
import Derived.Test.YtnfkphekkpigpaaWoD
namespace Go.Proofs.Ytnfkphekkpigpaa.WoQ
open Go Go.Proofs.Ytnfkphekkpigpaa.Ry Go.Proofs.Ytnfkphekkpigpaa.ViR Go.Proofs.Ytnfkphekkpigpaa.ViC Go.Proofs.Ytnfkphekkpigpaa.OctR Go.Proofs.Ytnfkphekkpigpaa.OctP Go.Proofs.Ytnfkphekkpigpaa.OctQ Go.Proofs.Ytnfkphekkpigpaa.WoR Go.Proofs.Ytnfkphekkpigpaa.WoD

theorem fit1 {n : Int} (h : nodB n = true) : fits n 1 = true := by
  have h := of_decide_eq_true h
  have g : grI 1 = 255 := rfl
  have e : isW 1 = true := rfl
  unfold fits
  rw [e, Bool.and_true, decide_eq_true_eq, g]
  omega
theorem fitn {n : Int} (w : Int) (hw : w = 1 ∨ w = 2 ∨ w = 4) (h : 0 ≤ n ∧ n ≤ 255 ∨ (w = 2 ∧ 0 ≤ n ∧ n ≤ 65535) ∨ (w = 4 ∧ 0 ≤ n ∧ n ≤ 2147483647)) : fits n w = true := by
  have g1 : grI 1 = 255 := rfl
  have g2 : grI 2 = 65535 := rfl
  have g4 : grI 4 = 2147483647 := rfl
  have e1 : isW 1 = true := rfl
  have e2 : isW 2 = true := rfl
  have e4 : isW 4 = true := rfl
  unfold fits
  rcases hw with rfl | rfl | rfl
  · rw [e1, Bool.and_true, decide_eq_true_eq, g1]
    omega
  · rw [e2, Bool.and_true, decide_eq_true_eq, g2]
    omega
  · rw [e4, Bool.and_true, decide_eq_true_eq, g4]
    omega
structure Fit (w : WD) : Prop where
  k : fits w.k 1 = true
  e : fits w.e 4 = true
  r : fits w.r 1 = true
  ck : fits w.ck 1 = true
  ca : fits w.ca 1 = true
  cb : fits w.cb 1 = true
  cs : fits w.cs 4 = true
  nl : fits w.n.length 1 = true
  ll : fits w.l.length 2 = true
  n : ∀ x ∈ w.n, fits x 1 = true
  l : ∀ y ∈ w.l, fits (ri y 0) 1 = true ∧ fits (ri y 1) 1 = true ∧ fits (ri y 2) 4 = true ∧ fits (ri y 3) 4 = true
theorem may_fit {w : WD} (h : mayW w = true) : Fit w := by
  have hlen := may_len h
  unfold mayW at h
  simp only [Bool.and_eq_true, decide_eq_true_eq] at h
  obtain ⟨h1, h2, h3, h4⟩ := h
  unfold okE at h2
  rw [Bool.and_eq_true] at h2
  have h5 : w.e = 0 ∧ w.r = 0 ∨ 1 ≤ w.e ∧ w.e ≤ 2147483647 ∧ nodB w.r = true := of_decide_eq_true h2.2
  have nb : ∀ n, nodB n = true → 1 ≤ n ∧ n ≤ 64 := fun n h => of_decide_eq_true h
  have h6 : (w.ck = 0 ∨ w.ck = 1 ∨ w.ck = 2 ∨ w.ck = 3) ∧ 0 ≤ w.ca ∧ w.ca ≤ 64 ∧ 0 ≤ w.cb ∧ w.cb ≤ 64 ∧ 0 ≤ w.cs ∧ w.cs ≤ 2147483647 := by
    unfold okC at h4
    split at h4
    · have h4 := of_decide_eq_true h4
      rcases h4 with ⟨a, b, c, d⟩ | ⟨a, b, c, d⟩
      · omega
      · have b := nb _ b
        have c := nb _ c
        omega
    · have h4 := of_decide_eq_true h4
      omega
  have h7 : (w.n = [] ∧ w.l = []) ∨ mayV w.n w.l = true := by
    unfold okV at h3
    split at h3
    · rw [Bool.and_eq_true] at h3
      exact .inr h3.2
    · have h3 := of_decide_eq_true h3
      exact .inl ⟨List.eq_nil_of_length_eq_zero h3.1, List.eq_nil_of_length_eq_zero h3.2⟩
  refine ⟨fitn 1 (.inl rfl) (by omega), fitn 4 (.inr (.inr rfl)) (by omega), ?_, fitn 1 (.inl rfl) (by omega), fitn 1 (.inl rfl) (by omega), fitn 1 (.inl rfl) (by omega), fitn 4 (.inr (.inr rfl)) (by omega), fitn 1 (.inl rfl) (by omega), fitn 2 (.inr (.inl rfl)) (by omega), fun x hx => ?_, fun y hy => ?_⟩
  · rcases h5 with ⟨_, a⟩ | ⟨_, _, a⟩
    · exact fitn 1 (.inl rfl) (by omega)
    · exact fit1 a
  · rcases h7 with ⟨a, _⟩ | a
    · rw [a] at hx
      cases hx
    · unfold mayV at a
      rw [Bool.and_eq_true] at a
      exact fit1 (rise_node a.1 x (by rw [List.contains_iff_mem]; exact hx))
  · rcases h7 with ⟨_, a⟩ | a
    · rw [a] at hy
      cases hy
    · unfold mayV at a
      rw [Bool.and_eq_true] at a
      obtain ⟨i, hi, e⟩ := List.getElem_of_mem hy
      have g := all_iff.1 a.2 i hi
      have g := (of_decide_eq_true g).1
      rw [at_rec _ _ hi, e] at g
      have g : nodB (ri y 0) = true ∧ nodB (ri y 1) = true ∧ ri y 0 ≠ ri y 1 ∧ 0 ≤ ri y 2 ∧ ri y 2 ≤ 2147483647 ∧ 1 ≤ ri y 3 ∧ ri y 3 ≤ 2147483647 := of_decide_eq_true g
      exact ⟨fit1 g.1, fit1 g.2.1, fitn 4 (.inr (.inr rfl)) (by omega), fitn 4 (.inr (.inr rfl)) (by omega)⟩
theorem pt_num {n w : Int} (h : fits n w = true) (b : List Int) : pt b n w = b ++ numL n w := by
  unfold pt
  rw [(put_num h).2]
theorem fit_okN {n w : Int} (h : fits n w = true) : okN n w = true := by
  unfold fits at h
  rw [Bool.and_eq_true, decide_eq_true_eq] at h
  have hg : grI w ≤ 2147483647 := by unfold grI; split <;> (try split) <;> (try split) <;> omega
  unfold OctP.okN
  rw [h.2, Bool.and_true, decide_eq_true_eq]
  omega
theorem fitB (b : Bool) : fits (if b = true then 1 else 0) 1 = true := by cases b <;> rfl
noncomputable def q1I (w : WD) (y : XO) : St := stOf Try.f39.ntmps [(1, .ptr 1 0), (3, .sl (some (2, 5)) (.ints .u8 y.b)), (4, .val (.int .i64 y.i))] [(1, .cells 55 [.val (.int .i64 w.k), .val (.int .i64 w.e), .val (.int .i64 w.r), .sl none (.ints .i64 w.n), .sl none (.recs (.int .i64 (.int .i64 (.int .i64 (.int .i64 (.bool .nil))))) w.l), .val (.int .i64 w.ck), .val (.int .i64 w.ca), .val (.int .i64 w.cb), .val (.int .i64 w.cs)]), (2, .tok)] [Any]
noncomputable def q2I (w : WD) (y : XO) : St := stOf Try.f39.ntmps [(1, .ptr 1 0), (3, .sl (some (2, 5)) (.ints .u8 y.b)), (5, .val (.int .i64 y.i))] [(1, .cells 55 [.val (.int .i64 w.k), .val (.int .i64 w.e), .val (.int .i64 w.r), .sl none (.ints .i64 w.n), .sl none (.recs (.int .i64 (.int .i64 (.int .i64 (.int .i64 (.bool .nil))))) w.l), .val (.int .i64 w.ck), .val (.int .i64 w.ca), .val (.int .i64 w.cb), .val (.int .i64 w.cs)]), (2, .tok)] [Any]
theorem q1_step {w : WD} (hf : Fit w) (hw : w.n.length ≤ 64) {i : Int} {b : List Int} (hq : e1Q w ⟨i, b⟩) (h : i < w.n.length) : okN (w.n.getD i.toNat 0) 1 = true ∧ stdBin .add .i64 i 1 = i + 1 ∧ (∀ c, e1M w ⟨i + 1, c⟩ < e1M w ⟨i, b⟩) ∧ e1Q w ⟨i + 1, b ++ numL (w.n.getD i.toNat 0) 1⟩ := by
  obtain ⟨a, c, d⟩ := e1_step hw hq h
  have h0 := hq.1
  simp only at h0
  have hi : i.toNat < w.n.length := by omega
  have g := hf.n _ (List.getElem_mem hi)
  rw [← at_list _ _ hi] at g
  rw [pt_num g] at d
  exact ⟨fit_okN g, a, c, d⟩
theorem q2_step {w : WD} (hf : Fit w) (hw : w.l.length ≤ 1024) {i : Int} {b : List Int} (hq : e2Q w ⟨i, b⟩) (h : i < w.l.length) : okN (ri (w.l.getD i.toNat []) 0) 1 = true ∧ okN (ri (w.l.getD i.toNat []) 1) 1 = true ∧ okN (ri (w.l.getD i.toNat []) 2) 4 = true ∧ okN (ri (w.l.getD i.toNat []) 3) 4 = true ∧ okN 1 1 = true ∧ okN 0 1 = true ∧ stdBin .add .i64 i 1 = i + 1 ∧ (∀ c, e2M w ⟨i + 1, c⟩ < e2M w ⟨i, b⟩) ∧
    (rb (w.l.getD i.toNat []) 4 = true → e2Q w ⟨i + 1, b ++ numL (ri (w.l.getD i.toNat []) 0) 1 ++ numL (ri (w.l.getD i.toNat []) 1) 1 ++ numL (ri (w.l.getD i.toNat []) 2) 4 ++ numL (ri (w.l.getD i.toNat []) 3) 4 ++ numL 1 1⟩) ∧
    (rb (w.l.getD i.toNat []) 4 = false → e2Q w ⟨i + 1, b ++ numL (ri (w.l.getD i.toNat []) 0) 1 ++ numL (ri (w.l.getD i.toNat []) 1) 1 ++ numL (ri (w.l.getD i.toNat []) 2) 4 ++ numL (ri (w.l.getD i.toNat []) 3) 4 ++ numL 0 1⟩) := by
  obtain ⟨a, c, d⟩ := e2_step hw hq h
  have h0 := hq.1
  simp only at h0
  have hi : i.toNat < w.l.length := by omega
  have g := hf.l _ (List.getElem_mem hi)
  rw [← at_rec _ _ hi] at g
  obtain ⟨g1, g2, g3, g4⟩ := g
  unfold lk5 at d
  rw [pt_num g1, pt_num g2, pt_num g3, pt_num g4, pt_num (fitB _)] at d
  refine ⟨fit_okN g1, fit_okN g2, fit_okN g3, fit_okN g4, rfl, rfl, a, c, fun t => ?_, fun t => ?_⟩
  · rw [t] at d
    exact d
  · rw [t] at d
    exact d
theorem q_hd {w : WD} (hf : Fit w) : numL w.k 1 ++ numL w.e 4 ++ numL w.r 1 ++ numL w.ck 1 ++ numL w.ca 1 ++ numL w.cb 1 ++ numL w.cs 4 ++ numL w.n.length 1 = hdP w := by
  unfold hdP
  rw [(put_num hf.k).2, pt_num hf.e, pt_num hf.r, pt_num hf.ck, pt_num hf.ca, pt_num hf.cb, pt_num hf.cs, pt_num hf.nl]
structure RQ where
  w : WD
  b : Bool
def rn : Nat → RS → List Int → RN
  | 0, s, n => ⟨s, n⟩
  | k + 1, s, n => if s.e = 0 then rn k (tk s 1) (n ++ [tn s 1]) else ⟨s, n⟩
def rl : Nat → RS → List E → RL
  | 0, s, l => ⟨s, l, true⟩
  | n + 1, s, l => if s.e = 0 then rl n (lkT s).t (l ++ [lkD s]) else ⟨s, l, true⟩
def rfin (b : List Int) (w : WD) (s : RS) : RQ := if s.e = 0 ∧ mayW w = true ∧ encW w = b then ⟨w, true⟩ else ⟨zW, false⟩
def rcon2 (b : List Int) (w : WD) (n : Nat) (s : RS) : RQ := rfin b ⟨w.k, w.e, w.r, w.n, (rl n s w.l).l, w.ck, w.ca, w.cb, w.cs⟩ (rl n s w.l).s
def rlink (b : List Int) (w : WD) (s : RS) : RQ := rcon2 b ⟨w.k, w.e, w.r, w.n, [], w.ck, w.ca, w.cb, w.cs⟩ (tn s 2).toNat (tk s 2)
def rcon1 (b : List Int) (w : WD) (c : Nat) (s : RS) : RQ := rlink b ⟨w.k, w.e, w.r, (rn c s w.n).n, [], w.ck, w.ca, w.cb, w.cs⟩ (rn c s w.n).s
def rdecW (l : List Int) : RQ :=
  let s0 : RS := ⟨l, 0⟩
  let s1 := tk s0 1
  let s2 := tk s1 4
  let s3 := tk s2 1
  let s4 := tk s3 1
  let s5 := tk s4 1
  let s6 := tk s5 1
  let s7 := tk s6 4
  rcon1 l ⟨tn s0 1, tn s1 4, tn s2 1, [], [], tn s3 1, tn s4 1, tn s5 1, tn s6 4⟩ (tn s7 1).toNat (tk s7 1)
theorem lk_by {y : E} {b : List Int} (hb : byB b = true) (h : fits (ri y 0) 1 = true ∧ fits (ri y 1) 1 = true ∧ fits (ri y 2) 4 = true ∧ fits (ri y 3) 4 = true) : byB (lkP b y) = true := by
  obtain ⟨h1, h2, h3, h4⟩ := h
  unfold lkP
  rw [pt_num h1, pt_num h2, pt_num h3, pt_num h4, pt_num (fitB _)]
  have hb := of_decide_eq_true hb
  refine decide_eq_true fun x hx => ?_
  simp only [List.mem_append] at hx
  rcases hx with ((((hx | hx) | hx) | hx) | hx) | hx
  · exact hb x hx
  · exact num_by h1 x hx
  · exact num_by h2 x hx
  · exact num_by h3 x hx
  · exact num_by h4 x hx
  · exact num_by (fitB _) x hx
theorem pt_by {n w : Int} {b : List Int} (hb : byB b = true) (h : fits n w = true) : byB (pt b n w) = true := by
  rw [pt_num h]
  have hb := of_decide_eq_true hb
  refine decide_eq_true fun x hx => ?_
  rcases List.mem_append.1 hx with hx | hx
  · exact hb x hx
  · exact num_by h x hx
theorem nd_by : ∀ (n b : List Int), byB b = true → (∀ x ∈ n, fits x 1 = true) → byB (ndP b n) = true
  | [], _, hb, _ => hb
  | x :: n, b, hb, h => nd_by n (pt b x 1) (pt_by hb (h x (List.mem_cons_self ..))) fun y hy => h y (List.mem_cons_of_mem _ hy)
theorem la_by : ∀ (l : List E) (b : List Int), byB b = true → (∀ y ∈ l, fits (ri y 0) 1 = true ∧ fits (ri y 1) 1 = true ∧ fits (ri y 2) 4 = true ∧ fits (ri y 3) 4 = true) → byB (lkA b l) = true
  | [], _, hb, _ => hb
  | x :: n, b, hb, h => la_by n (lkP b x) (lk_by hb (h x (List.mem_cons_self ..))) fun y hy => h y (List.mem_cons_of_mem _ hy)
theorem enc_by {w : WD} (h : mayW w = true) : byB (encW w) = true := by
  have f := may_fit h
  unfold encW
  rw [if_pos h]
  unfold encP
  refine la_by _ _ (pt_by (nd_by _ _ ?_ f.n) f.ll) f.l
  unfold hdP
  refine pt_by (pt_by (pt_by (pt_by (pt_by (pt_by (pt_by ?_ f.e) f.r) f.ck) f.ca) f.cb) f.cs) f.nl
  rw [(put_num f.k).2]
  exact decide_eq_true (num_by f.k)
theorem byt_by {l : List Int} (h : byB l = true) : l.map (fun n => ((UInt8.ofNat n.toNat).toNat : Int)) = l := byt_id (of_decide_eq_true h)
structure Y1 where
  w : WD
  c : Int
  i : Int
  r : List Int
  e : Int
def r1Q (l : List Int) (y : Y1) : Prop := 0 ≤ y.i ∧ y.i ≤ y.c ∧ y.c ≤ 65535 ∧ byB y.r = true ∧ y.w.n.length = y.i.toNat ∧ rdecW l = rcon1 l y.w (y.c - y.i).toNat ⟨y.r, y.e⟩
def r1M (y : Y1) : Nat := (y.c - y.i).toNat
noncomputable def r1I (l : List Int) (y : Y1) : St := stOf Try.f41.ntmps [(0, .sl none (.ints .u8 l)), (2, .ptr 4 0), (4, .ptr 1 0), (5, .ptr 2 0), (6, .val (.int .i64 y.c)), (7, .val (.int .i64 y.i))] [(1, .cells 112 [.sl none (.ints .u8 y.r), .val (.int .i64 y.e)]), (2, .cells 55 [.val (.int .i64 y.w.k), .val (.int .i64 y.w.e), .val (.int .i64 y.w.r), .sl (some (3, 3)) (.ints .i64 y.w.n), .val (.slice none 0 0), .val (.int .i64 y.w.ck), .val (.int .i64 y.w.ca), .val (.int .i64 y.w.cb), .val (.int .i64 y.w.cs)]), (3, .tok), (4, .cells 55 [.val (.int .i64 0), .val (.int .i64 0), .val (.int .i64 0), .val (.slice none 0 0), .val (.slice none 0 0), .val (.int .i64 0), .val (.int .i64 0), .val (.int .i64 0), .val (.int .i64 0)])] [Any]
def r1R (st : St) : Y1 := ⟨⟨cI st 0, cI st 1, cI st 2, match cellC st 5 3 with | .sl _ (.ints _ l) => l | _ => [], [], cI st 5, cI st 6, cI st 7, cI st 8⟩, slotI st 6, slotI st 7, valL st.heap (cellC st 4 0), valI (cellC st 4 1)⟩
theorem r1_zero {l : List Int} (v1 v2 v3 v4 v5 v6 v7 c : Int) (r q : List Int) (e f : Int) (hr : r = tkR q f 1) (hq : byB q = true) (hc : c = tkN q f 1) (h : rdecW l = rcon1 l ⟨v1, v2, v3, [], [], v4, v5, v6, v7⟩ c.toNat ⟨r, e⟩) : r1Q l ⟨⟨v1, v2, v3, [], [], v4, v5, v6, v7⟩, c, 0, r, e⟩ := by
  have hd := tkN_bd hq f 1 (.inl rfl)
  rw [← hc] at hd
  refine ⟨Int.le_refl 0, hd.1, hd.2, by simp only; rw [hr]; exact tkR_by hq _ _, rfl, ?_⟩
  simp only [Int.sub_zero]
  exact h
theorem r1_step {l : List Int} {w : WD} {c i : Int} {r : List Int} {e : Int} (hq : r1Q l ⟨w, c, i, r, e⟩) (h : i < c) (he : e = 0) : stdBin .add .i64 i 1 = i + 1 ∧ w.n.length ≤ 100000 ∧ byB r = true ∧ (∀ a b f, r1M ⟨a, c, i + 1, b, f⟩ < r1M ⟨w, c, i, r, e⟩) ∧ r1Q l ⟨⟨w.k, w.e, w.r, w.n ++ [tkN r e 1], [], w.ck, w.ca, w.cb, w.cs⟩, c, i + 1, tkR r e 1, tkE r e 1⟩ := by
  obtain ⟨h0, h1, h2, h3, h4, h5⟩ := hq
  simp only at h0 h1 h2 h3 h4 h5
  have e1 : (c - i).toNat = (c - (i + 1)).toNat + 1 := by omega
  refine ⟨by rw [b_add, wr _ (by omega) (by omega)], by omega, h3, fun a b f => by simp only [r1M]; omega, by simp only; omega, by simp only; omega, h2, tkR_by h3 _ _, by simp only [List.length_append, List.length_singleton]; omega, ?_⟩
  rw [h5, e1]
  unfold rcon1
  simp only [rn]
  rw [if_pos he]
  rfl
theorem r1_end {l : List Int} {w : WD} {c i : Int} {r : List Int} {e : Int} (hq : r1Q l ⟨w, c, i, r, e⟩) (h : ¬ (i < c ∧ e = 0)) : rdecW l = rlink l w ⟨r, e⟩ ∧ byB r = true ∧ w.n.length ≤ 100000 := by
  obtain ⟨h0, h1, h2, h3, h4, h5⟩ := hq
  simp only at h0 h1 h2 h3 h4 h5
  refine ⟨?_, h3, by omega⟩
  rw [h5]
  cases hk : (c - i).toNat with
  | zero => rfl
  | succ k =>
    unfold rcon1
    simp only [rn]
    rw [if_neg (fun g => h ⟨by omega, g⟩)]
    rfl
def r2Q (l : List Int) (y : Y1) : Prop := 0 ≤ y.i ∧ y.i ≤ y.c ∧ y.c ≤ 65535 ∧ byB y.r = true ∧ y.w.l.length = y.i.toNat ∧ y.w.n.length ≤ 100000 ∧ rdecW l = rcon2 l y.w (y.c - y.i).toNat ⟨y.r, y.e⟩
noncomputable def r2I (l : List Int) (y : Y1) : St := stOf Try.f41.ntmps [(0, .sl none (.ints .u8 l)), (2, .ptr 4 0), (4, .ptr 1 0), (5, .ptr 2 0), (6, .val (.int .i64 y.c)), (8, .val (.int .i64 y.i))] [(1, .cells 112 [.sl none (.ints .u8 y.r), .val (.int .i64 y.e)]), (2, .cells 55 [.val (.int .i64 y.w.k), .val (.int .i64 y.w.e), .val (.int .i64 y.w.r), .sl none (.ints .i64 y.w.n), .sl (some (3, 44)) (.recs (.int .i64 (.int .i64 (.int .i64 (.int .i64 (.bool .nil))))) y.w.l), .val (.int .i64 y.w.ck), .val (.int .i64 y.w.ca), .val (.int .i64 y.w.cb), .val (.int .i64 y.w.cs)]), (3, .tok), (4, .cells 55 [.val (.int .i64 0), .val (.int .i64 0), .val (.int .i64 0), .val (.slice none 0 0), .val (.slice none 0 0), .val (.int .i64 0), .val (.int .i64 0), .val (.int .i64 0), .val (.int .i64 0)])] [Any]
def r2R (st : St) : Y1 := ⟨⟨cI st 0, cI st 1, cI st 2, match cellC st 5 3 with | .sl _ (.ints _ l) => l | _ => [], match cellC st 5 4 with | .sl _ (.recs _ l) => l | _ => [], cI st 5, cI st 6, cI st 7, cI st 8⟩, slotI st 6, slotI st 8, valL st.heap (cellC st 4 0), valI (cellC st 4 1)⟩
theorem r2_zero {l : List Int} {w : WD} {r : List Int} {e : Int} (h : rdecW l = rlink l w ⟨r, e⟩) (hb : byB r = true) (hn : w.n.length ≤ 100000) : r2Q l ⟨⟨w.k, w.e, w.r, w.n, [], w.ck, w.ca, w.cb, w.cs⟩, tkN r e 2, 0, tkR r e 2, tkE r e 2⟩ := by
  have hd := tkN_bd hb e 2 (.inr rfl)
  refine ⟨Int.le_refl 0, hd.1, hd.2, tkR_by hb _ _, rfl, hn, ?_⟩
  simp only [Int.sub_zero]
  exact h
theorem r2_step0 {l : List Int} {w : WD} {c i : Int} {r : List Int} {e : Int} (hq : r2Q l ⟨w, c, i, r, e⟩) (h : i < c) (he : e = 0) : stdBin .add .i64 i 1 = i + 1 ∧ w.l.length ≤ 100000 ∧ byB r = true ∧ (∀ a b f, r1M ⟨a, c, i + 1, b, f⟩ < r1M ⟨w, c, i, r, e⟩) ∧
    r2Q l ⟨⟨w.k, w.e, w.r, w.n, w.l ++ [[D.int (lkT ⟨r, e⟩).n, D.int (lkT ⟨r, e⟩).p, D.int (lkT ⟨r, e⟩).w, D.int (lkT ⟨r, e⟩).s, D.bool (lkM ⟨r, e⟩)]], w.ck, w.ca, w.cb, w.cs⟩, c, i + 1, (lkT ⟨r, e⟩).t.r, (lkT ⟨r, e⟩).t.e⟩ := by
  obtain ⟨h0, h1, h2, h3, h4, h6, h5⟩ := hq
  simp only at h0 h1 h2 h3 h4 h5 h6
  have e1 : (c - i).toNat = (c - (i + 1)).toNat + 1 := by omega
  refine ⟨by rw [b_add, wr _ (by omega) (by omega)], by omega, h3, fun a b f => by simp only [r1M]; omega, by simp only; omega, by simp only; omega, h2, lkT_by (s := ⟨r, e⟩) h3, by simp only [List.length_append, List.length_singleton]; omega, h6, ?_⟩
  rw [h5, e1]
  unfold rcon2
  simp only [rl]
  rw [if_pos he]
  rfl
theorem r2_step {l : List Int} {w : WD} {c i : Int} {r : List Int} {e : Int} (hq : r2Q l ⟨w, c, i, r, e⟩) (h : i < c) (he : e = 0) : stdBin .add .i64 i 1 = i + 1 ∧ w.l.length ≤ 100000 ∧ (∀ a b f, r1M ⟨a, c, i + 1, b, f⟩ < r1M ⟨w, c, i, r, e⟩) ∧
    r2Q l ⟨⟨w.k, w.e, w.r, w.n, w.l ++ [[D.int (tkN r e 1), D.int (tkN (tkR r e 1) (tkE r e 1) 1), D.int (tkN (tkR (tkR r e 1) (tkE r e 1) 1) (tkE (tkR r e 1) (tkE r e 1) 1) 4), D.int (tkN (tkR (tkR (tkR r e 1) (tkE r e 1) 1) (tkE (tkR r e 1) (tkE r e 1) 1) 4) (tkE (tkR (tkR r e 1) (tkE r e 1) 1) (tkE (tkR r e 1) (tkE r e 1) 1) 4) 4), D.bool (stdCmp .eql (tkN (tkR (tkR (tkR (tkR r e 1) (tkE r e 1) 1) (tkE (tkR r e 1) (tkE r e 1) 1) 4) (tkE (tkR (tkR r e 1) (tkE r e 1) 1) (tkE (tkR r e 1) (tkE r e 1) 1) 4) 4) (tkE (tkR (tkR (tkR r e 1) (tkE r e 1) 1) (tkE (tkR r e 1) (tkE r e 1) 1) 4) (tkE (tkR (tkR r e 1) (tkE r e 1) 1) (tkE (tkR r e 1) (tkE r e 1) 1) 4) 4) 1) 1)]], w.ck, w.ca, w.cb, w.cs⟩, c, i + 1, (tkR (tkR (tkR (tkR (tkR r e 1) (tkE r e 1) 1) (tkE (tkR r e 1) (tkE r e 1) 1) 4) (tkE (tkR (tkR r e 1) (tkE r e 1) 1) (tkE (tkR r e 1) (tkE r e 1) 1) 4) 4) (tkE (tkR (tkR (tkR r e 1) (tkE r e 1) 1) (tkE (tkR r e 1) (tkE r e 1) 1) 4) (tkE (tkR (tkR r e 1) (tkE r e 1) 1) (tkE (tkR r e 1) (tkE r e 1) 1) 4) 4) 1), (tkE (tkR (tkR (tkR (tkR r e 1) (tkE r e 1) 1) (tkE (tkR r e 1) (tkE r e 1) 1) 4) (tkE (tkR (tkR r e 1) (tkE r e 1) 1) (tkE (tkR r e 1) (tkE r e 1) 1) 4) 4) (tkE (tkR (tkR (tkR r e 1) (tkE r e 1) 1) (tkE (tkR r e 1) (tkE r e 1) 1) 4) (tkE (tkR (tkR r e 1) (tkE r e 1) 1) (tkE (tkR r e 1) (tkE r e 1) 1) 4) 4) 1)⟩ := by
  obtain ⟨a, b, _, d, f⟩ := r2_step0 hq h he
  exact ⟨a, b, d, f⟩
theorem r2_end {l : List Int} {w : WD} {c i : Int} {r : List Int} {e : Int} (hq : r2Q l ⟨w, c, i, r, e⟩) (h : ¬ (i < c ∧ e = 0)) : rdecW l = rfin l w ⟨r, e⟩ ∧ w.n.length ≤ 100000 ∧ w.l.length ≤ 100000 := by
  obtain ⟨h0, h1, h2, h3, h4, h6, h5⟩ := hq
  simp only at h0 h1 h2 h3 h4 h5 h6
  refine ⟨?_, h6, by omega⟩
  rw [h5]
  cases hk : (c - i).toNat with
  | zero => rfl
  | succ k =>
    unfold rcon2
    simp only [rl]
    rw [if_neg (fun g => h ⟨by omega, g⟩)]

structure Wq where
  q_enc : WD → List Int
  q_may : WD → Bool
  q_dec : List Int → RQ
  q_by : List Int → Bool
def Wq.std : Wq := ⟨encW, fun w => okS w && mayW w, rdecW, byL⟩

def c_rwbytes (F : Wq) : Con := fun xs h => match xs, h with
  | [.agg [.val (.int .i64 w_k), .val (.int .i64 w_e), .val (.int .i64 w_r), .sl none (.ints .i64 w_n), .sl none (.recs (.int .i64 (.int .i64 (.int .i64 (.int .i64 (.bool .nil))))) w_l), .val (.int .i64 w_ck), .val (.int .i64 w_ca), .val (.int .i64 w_cb), .val (.int .i64 w_cs)]], [] => some ⟨F.q_may ⟨w_k, w_e, w_r, w_n, w_l, w_ck, w_ca, w_cb, w_cs⟩ = true, .sa (Bytes (F.q_enc ⟨w_k, w_e, w_r, w_n, w_l, w_ck, w_ca, w_cb, w_cs⟩)), [], [Any]⟩
  | _, _ => none
set_option cbv.maxSteps 4000000 in
set_option maxHeartbeats 8000000 in
set_option maxRecDepth 100000 in
theorem x_rwbytes (w_k : Int) (w_e : Int) (w_r : Int) (w_n : List Int) (w_l : List E) (w_ck : Int) (w_ca : Int) (w_cb : Int) (w_cs : Int) (hC : Wq.std.q_may ⟨w_k, w_e, w_r, w_n, w_l, w_ck, w_ca, w_cb, w_cs⟩ = true) : Does [(83, c_rnumc OctP.Hs.std)] Try.f39 [.agg [.val (.int .i64 w_k), .val (.int .i64 w_e), .val (.int .i64 w_r), .sl none (.ints .i64 w_n), .sl none (.recs (.int .i64 (.int .i64 (.int .i64 (.int .i64 (.bool .nil))))) w_l), .val (.int .i64 w_ck), .val (.int .i64 w_ca), .val (.int .i64 w_cb), .val (.int .i64 w_cs)]] [] ⟨Wq.std.q_may ⟨w_k, w_e, w_r, w_n, w_l, w_ck, w_ca, w_cb, w_cs⟩ = true, .sa (Bytes (Wq.std.q_enc ⟨w_k, w_e, w_r, w_n, w_l, w_ck, w_ca, w_cb, w_cs⟩)), [], [Any]⟩ := by
  intro b gv
  have hk : okS ⟨w_k, w_e, w_r, w_n, w_l, w_ck, w_ca, w_cb, w_cs⟩ = true ∧ mayW ⟨w_k, w_e, w_r, w_n, w_l, w_ck, w_ca, w_cb, w_cs⟩ = true := by
    have h : (okS ⟨w_k, w_e, w_r, w_n, w_l, w_ck, w_ca, w_cb, w_cs⟩ && mayW ⟨w_k, w_e, w_r, w_n, w_l, w_ck, w_ca, w_cb, w_cs⟩) = true := hC
    rw [Bool.and_eq_true] at h
    exact h
  have hw := hk.2
  have hl := may_len hw
  have hf := may_fit hw
  have f1 := fit_okN hf.k
  have f2 := fit_okN hf.e
  have f3 := fit_okN hf.r
  have f4 := fit_okN hf.ck
  have f5 := fit_okN hf.ca
  have f6 := fit_okN hf.cb
  have f7 := fit_okN hf.cs
  have f8 := fit_okN hf.nl
  have f9 := fit_okN hf.ll
  have n1 := num_len w_k 1
  have n2 := num_len w_e 4
  have n3 := num_len w_r 1
  have n4 := num_len w_ck 1
  have n5 := num_len w_ca 1
  have n6 := num_len w_cb 1
  have n7 := num_len w_cs 4
  have n8 := num_len w_n.length 1
  dsimp only at hl f1 f2 f3 f4 f5 f6 f7 f8 f9
  have hfs := (FsOk.cons ok_rnumc FsOk.nil rfl)
  generalize hF : Wq.std = F at hC hfs ⊢
  generalize hG0 : WoR.Ws.std = G0 at hC hfs ⊢
  generalize hG1 : OctR.Gs.std = G1 at hC hfs ⊢
  generalize hG2 : OctP.Hs.std = G2 at hC hfs ⊢
  generalize hA : Ar.std = A
  generalize hL : Lp _ _ _ = L
  obtain ⟨Z, zq⟩ := z_all
  refine cd_open (lp_mono hL) zq rfl ?_
  repeat' (first
    | (refine z_open zq ?_; try dsimp only)
    | refine cd_seq zq ?_ (lp_mono hL)
    | refine cd_blk zq ?_
    | refine cd_ret ?_
    | refine cd_skip ?_
    | refine cd_exit ?_
    | refine cd_loop ?_
    | refine cd_cond rfl ?_
    | refine cd_condT rfl ?_
    | refine cd_condF rfl ?_
    | (refine Cd.mk ?_; cbv)
    | (refine Ends1.mk ?_; cbv)
    | (refine Fin1.mk ?_; cbv)
    | exact trivial
    | refine And.intro ?_ ?_
    | refine orf fun _ => ?_
    | refine ort fun _ => ?_)
  all_goals first | (show L _ _ _; skip) | (clear hL hfs zq Z; subst hA hF hG0 hG1 hG2; simp only [Wq.std, OctP.Hs.std, Ar.std] at * <;> grind [stdCmp, List.length_append]; done)
  clear f1 f2 f3 f4 f5 f6 f7 f8 n1 n2 n3 n4 n5 n6 n7 n8
  subst hL
  refine loop_z (cx_ok hfs) (e1Q ⟨w_k, w_e, w_r, w_n, w_l, w_ck, w_ca, w_cb, w_cs⟩) (q1I ⟨w_k, w_e, w_r, w_n, w_l, w_ck, w_ca, w_cb, w_cs⟩) (e1M ⟨w_k, w_e, w_r, w_n, w_l, w_ck, w_ca, w_cb, w_cs⟩) (oR 4 3) ⟨0, (A.appI (A.appI (A.appI (A.appI (A.appI (A.appI (A.appI (G2.h_num w_k 1) (G2.h_num w_e 4)) (G2.h_num w_r 1)) (G2.h_num w_ck 1)) (G2.h_num w_ca 1)) (G2.h_num w_cb 1)) (G2.h_num w_cs 4)) (G2.h_num (A.lenI w_n) 1))⟩ ?_ ?_ ?_
  · (subst hA hG2; exact ⟨Int.le_refl 0, Int.natCast_nonneg _, q_hd hf⟩)
  · cbv
    repeat' (first | exact trivial | exact rfl | refine And.intro ?_ ?_)
  rintro ⟨i, c⟩ hq O hO
  have hst := fun h => q1_step hf hl.1 hq h
  have hln := e1_len hl.1 hq
  have hen := fun h => e1_end hq h
  have q0 := hq.1
  have q1 := hq.2.1
  have n9 := num_len (w_n.getD i.toNat 0) 1
  have n10 := num_len w_l.length 2
  dsimp only at q0 q1 hst hen
  subst hA
  generalize hA : Ar.std = A
  generalize hL : Lp _ _ _ = L
  refine cd_close zq ?_
  repeat' (first
    | (refine z_open zq ?_; try dsimp only)
    | refine cd_seq zq ?_ (lp_mono hL)
    | refine cd_blk zq ?_
    | refine cd_ret ?_
    | refine cd_skip ?_
    | refine cd_exit ?_
    | refine cd_loop ?_
    | refine cd_cond rfl ?_
    | refine cd_condT rfl ?_
    | refine cd_condF rfl ?_
    | (refine Cd.mk ?_; cbv)
    | (refine Ends1.mk ?_; cbv)
    | (refine Fin1.mk ?_; cbv)
    | exact trivial
    | refine And.intro ?_ ?_
    | refine orf fun _ => ?_
    | refine ort fun _ => ?_)
  all_goals first | (show L _ _ _; skip) | (clear hL hfs zq Z hq hf hw hk; subst hA hF hG0 hG1 hG2 hO; simp only [Wq.std, OctP.Hs.std, Ar.std] at * <;> grind [stdCmp, List.length_append]; done)
  rename_i hx
  have hi : ¬ i < w_n.length := by
    clear hL hfs zq Z hO hst hen hf hw hk
    subst hA hF hG0 hG1 hG2
    simp only [Ar.std] at hx
    grind [stdCmp]
  have hc := hen hi
  clear hx hst hen n9 n10
  subst hL
  refine loop_z (cx_ok hfs) (e2Q ⟨w_k, w_e, w_r, w_n, w_l, w_ck, w_ca, w_cb, w_cs⟩) (q2I ⟨w_k, w_e, w_r, w_n, w_l, w_ck, w_ca, w_cb, w_cs⟩) (e2M ⟨w_k, w_e, w_r, w_n, w_l, w_ck, w_ca, w_cb, w_cs⟩) (oR 5 3) ⟨0, A.appI c (G2.h_num (A.lenE w_l) 2)⟩ ?_ ?_ ?_
  · (subst hA hG2; rw [hc]; have := e2_zero ⟨w_k, w_e, w_r, w_n, w_l, w_ck, w_ca, w_cb, w_cs⟩; rw [pt_num hf.ll] at this; exact this)
  · cbv
    repeat' (first | exact trivial | exact rfl | refine And.intro ?_ ?_)
  rintro ⟨j, d⟩ hq2 O2 hO2
  have hst := fun h => q2_step hf hl.2 hq2 h
  have hln2 := e2_len hl hq2
  have hen := fun h => e2_end hq2 h
  have k0 := hq2.1
  have k1 := hq2.2.1
  have m1 := num_len (ri (w_l.getD j.toNat []) 0) 1
  have m2 := num_len (ri (w_l.getD j.toNat []) 1) 1
  have m3 := num_len (ri (w_l.getD j.toNat []) 2) 4
  have m4 := num_len (ri (w_l.getD j.toNat []) 3) 4
  have m5 := num_len 1 1
  have m6 := num_len 0 1
  have hee : encW ⟨w_k, w_e, w_r, w_n, w_l, w_ck, w_ca, w_cb, w_cs⟩ = encP ⟨w_k, w_e, w_r, w_n, w_l, w_ck, w_ca, w_cb, w_cs⟩ := if_pos hw
  dsimp only at k0 k1 hst hen
  subst hA
  generalize hA : Ar.std = A
  generalize hL : Lp _ _ _ = L
  refine cd_close zq ?_
  repeat' (first
    | (refine z_open zq ?_; try dsimp only)
    | refine cd_seq zq ?_ (lp_mono hL)
    | refine cd_blk zq ?_
    | refine cd_ret ?_
    | refine cd_skip ?_
    | refine cd_exit ?_
    | refine cd_loop ?_
    | refine cd_cond rfl ?_
    | refine cd_condT rfl ?_
    | refine cd_condF rfl ?_
    | (refine Cd.mk ?_; cbv)
    | (refine Ends1.mk ?_; cbv)
    | (refine Fin1.mk ?_; cbv)
    | exact trivial
    | refine And.intro ?_ ?_
    | refine orf fun _ => ?_
    | refine ort fun _ => ?_)
  all_goals (clear hL hfs zq Z hq hq2 hc hf hw hk; subst hA hF hG0 hG1 hG2 hO hO2; simp only [Wq.std, OctP.Hs.std, Ar.std] at * <;> grind [stdCmp, List.length_append])
theorem ok_rwbytes : ConOk Try.prog 39 (c_rwbytes Wq.std) := by
  refine con_of (FsOk.cons ok_rnumc FsOk.nil rfl) Try.func39 rfl rfl fun xs h p hp => ?_
  unfold c_rwbytes at hp
  split at hp
  · cases hp
    exact ⟨lee_le rfl, fun hC _ => x_rwbytes _ _ _ _ _ _ _ _ _ hC⟩
  · cases hp
end Go.Proofs.Ytnfkphekkpigpaa.WoQ
