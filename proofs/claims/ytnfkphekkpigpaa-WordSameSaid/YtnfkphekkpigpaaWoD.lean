/-
  words over the reckoner: bytes that are read. No condition.
-/
import Derived.Test.YtnfkphekkpigpaaWoR
namespace Go.Proofs.Ytnfkphekkpigpaa.WoD
open Go Go.Proofs.Ytnfkphekkpigpaa.Ry Go.Proofs.Ytnfkphekkpigpaa.ViR Go.Proofs.Ytnfkphekkpigpaa.ViC Go.Proofs.Ytnfkphekkpigpaa.OctR Go.Proofs.Ytnfkphekkpigpaa.OctP Go.Proofs.Ytnfkphekkpigpaa.OctQ Go.Proofs.Ytnfkphekkpigpaa.WoR

structure RS where
  r : List Int
  e : Int
def tk (s : RS) (w : Int) : RS := ⟨tkR s.r s.e w, tkE s.r s.e w⟩
def tn (s : RS) (w : Int) : Int := tkN s.r s.e w
structure LK where
  n : Int
  p : Int
  w : Int
  s : Int
  m : Int
  t : RS
def lkT (s : RS) : LK := ⟨tn s 1, tn (tk s 1) 1, tn (tk (tk s 1) 1) 4, tn (tk (tk (tk s 1) 1) 4) 4, tn (tk (tk (tk (tk s 1) 1) 4) 4) 1, tk (tk (tk (tk (tk s 1) 1) 4) 4) 1⟩
def lkM (s : RS) : Bool := decide ((lkT s).m = 1)
def lkK (s : RS) : Bool := decide ((lkT s).m ≤ 1 ∧ (lkT s).t.e = 0)
def lkD (s : RS) : E := [D.int (lkT s).n, D.int (lkT s).p, D.int (lkT s).w, D.int (lkT s).s, D.bool (lkM s)]
structure RN where
  s : RS
  n : List Int
def ndF : Nat → RS → List Int → RN
  | 0, s, n => ⟨s, n⟩
  | k + 1, s, n => ndF k (tk s 1) (n ++ [tn s 1])
structure RL where
  s : RS
  l : List E
  k : Bool
def lkF : Nat → RS → List E → RL
  | 0, s, l => ⟨s, l, true⟩
  | n + 1, s, l => if lkK s = true then lkF n (lkT s).t (l ++ [lkD s]) else ⟨(lkT s).t, l ++ [lkD s], false⟩
structure DW where
  w : WD
  e : Int
def zW : WD := ⟨0, 0, 0, [], [], 0, 0, 0, 0⟩
def finW (w : WD) (s : RS) (k : Bool) : DW := if endI s.r s.e = 0 ∧ k = true ∧ mayW w = true then ⟨w, 0⟩ else ⟨zW, 5⟩
def con2 (w : WD) (n : Int) (k : Bool) (s : RS) : DW := if k = true then finW ⟨w.k, w.e, w.r, w.n, (lkF n.toNat s w.l).l, w.ck, w.ca, w.cb, w.cs⟩ (lkF n.toNat s w.l).s (lkF n.toNat s w.l).k else finW w s false
def linkW (w : WD) (s : RS) : DW := con2 ⟨w.k, w.e, w.r, w.n, [], w.ck, w.ca, w.cb, w.cs⟩ (tn s 2) true (tk s 2)
def con1 (w : WD) (c : Nat) (s : RS) : DW := linkW ⟨w.k, w.e, w.r, (ndF c s w.n).n, [], w.ck, w.ca, w.cb, w.cs⟩ (ndF c s w.n).s
def decW (l : List Int) : DW :=
  let s0 : RS := ⟨l, 0⟩
  let s1 := tk s0 1
  let s2 := tk s1 4
  let s3 := tk s2 1
  let s4 := tk s3 1
  let s5 := tk s4 1
  let s6 := tk s5 1
  let s7 := tk s6 4
  con1 ⟨tn s0 1, tn s1 4, tn s2 1, [], [], tn s3 1, tn s4 1, tn s5 1, tn s6 4⟩ (tn s7 1).toNat (tk s7 1)
def byL (l : List Int) : Bool := decide (l.length ≤ 1000000) && byB l
theorem tkR_by {r : List Int} (h : byB r = true) (e w : Int) : byB (tkR r e w) = true := by
  unfold tkR
  split
  · have h := of_decide_eq_true h
    exact decide_eq_true fun x hx => h x (List.mem_of_mem_drop hx)
  · exact h
theorem tkN_bd {r : List Int} (h : byB r = true) (e w : Int) (hw : w = 1 ∨ w = 2) : 0 ≤ tkN r e w ∧ tkN r e w ≤ 65535 := by
  unfold tkN
  split
  · rename_i g
    have g2 := of_decide_eq_false g.2.2
    have hb := num_bound r h w.toNat (by omega) (by omega)
    rcases hw with rfl | rfl
    · have : grI 1 = 255 := rfl
      omega
    · have : grI 2 = 65535 := rfl
      omega
  · omega
theorem lkT_by {s : RS} (h : byB s.r = true) : byB (lkT s).t.r = true := tkR_by (tkR_by (tkR_by (tkR_by (tkR_by h _ _) _ _) _ _) _ _) _ _
theorem lkF_len : ∀ (n : Nat) (s : RS) (l : List E), (lkF n s l).l.length ≤ l.length + n
  | 0, _, _ => Nat.le_refl _
  | n + 1, s, l => by
    have := lkF_len n (lkT s).t (l ++ [lkD s])
    rw [List.length_append, List.length_singleton] at this
    unfold lkF
    split
    · omega
    · simp only [List.length_append, List.length_singleton]
      omega
structure X1 where
  w : WD
  c : Int
  i : Int
  r : List Int
  e : Int
def d1Q (l : List Int) (y : X1) : Prop := 0 ≤ y.i ∧ y.i ≤ y.c ∧ y.c ≤ 65535 ∧ byB y.r = true ∧ y.w.n.length = y.i.toNat ∧ decW l = con1 y.w (y.c - y.i).toNat ⟨y.r, y.e⟩
def d1M (y : X1) : Nat := (y.c - y.i).toNat
noncomputable def d1I (y : X1) : St := stOf Try.f38.ntmps [(2, .ptr 4 0), (4, .ptr 1 0), (5, .ptr 2 0), (39, .val (.int .i64 y.c)), (40, .val (.int .i64 y.i))] [(1, .cells 142 [.sl none (.ints .u8 y.r), .val (.int .i64 y.e)]), (2, .cells 55 [.val (.int .i64 y.w.k), .val (.int .i64 y.w.e), .val (.int .i64 y.w.r), .sl (some (3, 3)) (.ints .i64 y.w.n), .val (.slice none 0 0), .val (.int .i64 y.w.ck), .val (.int .i64 y.w.ca), .val (.int .i64 y.w.cb), .val (.int .i64 y.w.cs)]), (3, .tok), (4, .cells 55 [.val (.int .i64 0), .val (.int .i64 0), .val (.int .i64 0), .val (.slice none 0 0), .val (.slice none 0 0), .val (.int .i64 0), .val (.int .i64 0), .val (.int .i64 0), .val (.int .i64 0)])] [Any]
def cI (st : St) (k : Nat) : Int := valI (cellC st 5 k)
def d1R (st : St) : X1 := ⟨⟨cI st 0, cI st 1, cI st 2, match cellC st 5 3 with | .sl _ (.ints _ l) => l | _ => [], [], cI st 5, cI st 6, cI st 7, cI st 8⟩, slotI st 39, slotI st 40, valL st.heap (cellC st 4 0), valI (cellC st 4 1)⟩
theorem d1_zero {l : List Int} (v1 v2 v3 v4 v5 v6 v7 c : Int) (r q : List Int) (e f : Int) (hr : r = tkR q f 1) (hq : byB q = true) (hc : c = tkN q f 1) (h : decW l = con1 ⟨v1, v2, v3, [], [], v4, v5, v6, v7⟩ c.toNat ⟨r, e⟩) : d1Q l ⟨⟨v1, v2, v3, [], [], v4, v5, v6, v7⟩, c, 0, r, e⟩ := by
  have hd := tkN_bd hq f 1 (.inl rfl)
  rw [← hc] at hd
  refine ⟨Int.le_refl 0, hd.1, hd.2, by simp only; rw [hr]; exact tkR_by hq _ _, rfl, ?_⟩
  simp only [Int.sub_zero]
  exact h
theorem d1_step {l : List Int} {w : WD} {c i : Int} {r : List Int} {e : Int} (hq : d1Q l ⟨w, c, i, r, e⟩) (h : i < c) : stdBin .add .i64 i 1 = i + 1 ∧ w.n.length ≤ 100000 ∧ (∀ a b f, d1M ⟨a, c, i + 1, b, f⟩ < d1M ⟨w, c, i, r, e⟩) ∧ d1Q l ⟨⟨w.k, w.e, w.r, w.n ++ [tkN r e 1], [], w.ck, w.ca, w.cb, w.cs⟩, c, i + 1, tkR r e 1, tkE r e 1⟩ := by
  obtain ⟨h0, h1, h2, h3, h4, h5⟩ := hq
  simp only at h0 h1 h2 h3 h4 h5
  have e1 : (c - i).toNat = (c - (i + 1)).toNat + 1 := by omega
  refine ⟨by rw [b_add, wr _ (by omega) (by omega)], by omega, fun a b f => by simp only [d1M]; omega, by simp only; omega, by simp only; omega, h2, tkR_by h3 _ _, by simp only [List.length_append, List.length_singleton]; omega, ?_⟩
  rw [h5, e1]
  rfl
theorem d1_end {l : List Int} {w : WD} {c i : Int} {r : List Int} {e : Int} (hq : d1Q l ⟨w, c, i, r, e⟩) (h : ¬ i < c) : decW l = linkW w ⟨r, e⟩ ∧ byB r = true ∧ w.n.length ≤ 100000 := by
  obtain ⟨h0, h1, h2, h3, h4, h5⟩ := hq
  simp only at h0 h1 h2 h3 h4 h5
  have e1 : (c - i).toNat = 0 := by omega
  rw [e1] at h5
  exact ⟨h5, h3, by omega⟩
structure X2 where
  w : WD
  n : Int
  k : Bool
  r : List Int
  e : Int
def d2Q (l : List Int) (y : X2) : Prop := 0 ≤ y.n ∧ y.n ≤ 65535 ∧ y.w.l.length + y.n.toNat ≤ 65535 ∧ y.w.n.length ≤ 100000 ∧ byB y.r = true ∧ decW l = con2 y.w y.n y.k ⟨y.r, y.e⟩
def d2M (y : X2) : Nat := y.n.toNat
noncomputable def d2I (y : X2) : St := stOf Try.f38.ntmps [(2, .ptr 4 0), (4, .ptr 1 0), (5, .ptr 2 0), (6, .val (.bool y.k)), (7, .val (.int .i64 y.n))] [(1, .cells 142 [.sl none (.ints .u8 y.r), .val (.int .i64 y.e)]), (2, .cells 55 [.val (.int .i64 y.w.k), .val (.int .i64 y.w.e), .val (.int .i64 y.w.r), .sl none (.ints .i64 y.w.n), .sl (some (3, 44)) (.recs (.int .i64 (.int .i64 (.int .i64 (.int .i64 (.bool .nil))))) y.w.l), .val (.int .i64 y.w.ck), .val (.int .i64 y.w.ca), .val (.int .i64 y.w.cb), .val (.int .i64 y.w.cs)]), (3, .tok), (4, .cells 55 [.val (.int .i64 0), .val (.int .i64 0), .val (.int .i64 0), .val (.slice none 0 0), .val (.slice none 0 0), .val (.int .i64 0), .val (.int .i64 0), .val (.int .i64 0), .val (.int .i64 0)])] [Any]
def d2R (st : St) : X2 := ⟨⟨cI st 0, cI st 1, cI st 2, match cellC st 5 3 with | .sl _ (.ints _ l) => l | _ => [], match cellC st 5 4 with | .sl _ (.recs _ l) => l | _ => [], cI st 5, cI st 6, cI st 7, cI st 8⟩, slotI st 7, match slotC st 6 with | .val (.bool b) => b | .tf b => b | _ => false, valL st.heap (cellC st 4 0), valI (cellC st 4 1)⟩
theorem d2_zero {l : List Int} {w : WD} {r : List Int} {e : Int} (h : decW l = linkW w ⟨r, e⟩) (hb : byB r = true) (hn : w.n.length ≤ 100000) : d2Q l ⟨⟨w.k, w.e, w.r, w.n, [], w.ck, w.ca, w.cb, w.cs⟩, tkN r e 2, true, tkR r e 2, tkE r e 2⟩ := by
  have hd := tkN_bd hb e 2 (.inr rfl)
  exact ⟨hd.1, hd.2, by simp only [List.length_nil]; omega, hn, tkR_by hb _ _, h⟩
theorem d2_step {l : List Int} {w : WD} {n : Int} {k : Bool} {r : List Int} {e : Int} (hq : d2Q l ⟨w, n, k, r, e⟩) : w.l.length ≤ 100000 ∧ w.n.length ≤ 100000 ∧ (n > 0 → k = true → stdBin .sub .i64 n 1 = n - 1 ∧ (∀ a b f g, d2M ⟨a, n - 1, b, f, g⟩ < d2M ⟨w, n, k, r, e⟩) ∧ d2Q l ⟨⟨w.k, w.e, w.r, w.n, w.l ++ [[D.int (lkT ⟨r, e⟩).n, D.int (lkT ⟨r, e⟩).p, D.int (lkT ⟨r, e⟩).w, D.int (lkT ⟨r, e⟩).s, D.bool (lkM ⟨r, e⟩)]], w.ck, w.ca, w.cb, w.cs⟩, n - 1, lkK ⟨r, e⟩, (lkT ⟨r, e⟩).t.r, (lkT ⟨r, e⟩).t.e⟩) ∧
    (¬ (n > 0 ∧ k = true) → decW l = finW w ⟨r, e⟩ k) := by
  obtain ⟨h0, h1, h2, h3, h4, h5⟩ := hq
  simp only at h0 h1 h2 h3 h4 h5
  refine ⟨by omega, h3, fun g gk => ⟨by rw [b_sub, wr _ (by omega) (by omega)], fun a b f g => by simp only [d2M]; omega, by simp only; omega, by simp only; omega, by simp only [List.length_append, List.length_singleton]; omega, h3, lkT_by (s := ⟨r, e⟩) h4, ?_⟩, fun g => ?_⟩
  · have e1 : n.toNat = (n - 1).toNat + 1 := by omega
    rw [h5]
    unfold con2
    rw [if_pos gk, e1]
    simp only [lkF]
    cases hk : lkK ⟨r, e⟩ with
    | true =>
      simp only [if_true]
      rfl
    | false =>
      simp only [Bool.false_eq_true, if_false]
      rfl
  · rw [h5]
    unfold con2
    cases k with
    | false => rfl
    | true =>
      have e1 : n.toNat = 0 := by
        have : ¬ n > 0 := fun q => g ⟨q, rfl⟩
        omega
      rw [e1]
      rfl

structure Wd where
  d_lk : RS → LK
  d_m : RS → Bool
  d_k : RS → Bool
  d_dec : List Int → DW
  d_by : List Int → Bool
def Wd.std : Wd := ⟨lkT, lkM, lkK, decW, byL⟩

def c_tlink (F : Wd) : Con := fun xs h => match xs, h with
  | [.one (.ptr 0 0)], [(0, .cells 142 [.sl none (.ints .u8 r), .val (.int .i64 e)])] => some ⟨True, .tup [.agg [.val (.int .i64 (F.d_lk ⟨r, e⟩).n), .val (.int .i64 (F.d_lk ⟨r, e⟩).p), .val (.int .i64 (F.d_lk ⟨r, e⟩).w), .val (.int .i64 (F.d_lk ⟨r, e⟩).s), .val (.bool (F.d_m ⟨r, e⟩))], B (F.d_k ⟨r, e⟩)], [(0, .cells 142 [.sl none (.ints .u8 ((F.d_lk ⟨r, e⟩).t.r)), .val (.int .i64 ((F.d_lk ⟨r, e⟩).t.e))])], [.one (.ptr 0 0)]⟩
  | _, _ => none
set_option cbv.maxSteps 4000000 in
set_option maxHeartbeats 8000000 in
set_option maxRecDepth 100000 in
theorem x_tlink (r : List Int) (e : Int) : Does [(80, c_take OctR.Fs.std), (110, c_err OctR.Fs.std), (keepKey 110, noCon)] Try.f81 [.one (.ptr 0 0)] [(0, .cells 142 [.sl none (.ints .u8 r), .val (.int .i64 e)])] ⟨True, .tup [.agg [.val (.int .i64 (Wd.std.d_lk ⟨r, e⟩).n), .val (.int .i64 (Wd.std.d_lk ⟨r, e⟩).p), .val (.int .i64 (Wd.std.d_lk ⟨r, e⟩).w), .val (.int .i64 (Wd.std.d_lk ⟨r, e⟩).s), .val (.bool (Wd.std.d_m ⟨r, e⟩))], B (Wd.std.d_k ⟨r, e⟩)], [(0, .cells 142 [.sl none (.ints .u8 ((Wd.std.d_lk ⟨r, e⟩).t.r)), .val (.int .i64 ((Wd.std.d_lk ⟨r, e⟩).t.e))])], [.one (.ptr 0 0)]⟩ := by
  intro b gv
  have hfs := (FsOk.cons ok_take (FsOk.keeps ok_err kp_err FsOk.nil) rfl)
  generalize hF : Wd.std = F at hfs ⊢
  generalize hG0 : WoR.Ws.std = G0 at hfs ⊢
  generalize hG1 : OctR.Fs.std = G1 at hfs ⊢
  generalize hA : Ar.std = A
  generalize hL : Lp _ _ _ = L
  obtain ⟨Z, zq⟩ := z_all
  refine cd_open (lp_mono hL) zq rfl ?_
  repeat' (first
    | (refine z_open zq ?_; try dsimp only)
    | refine cd_seq zq ?_ (lp_mono hL)
    | refine cd_blk zq ?_
    | refine cd_ret ?_
    | refine cd_skip ?_
    | refine cd_exit ?_
    | refine cd_loop ?_
    | refine cd_cond rfl ?_
    | refine cd_condT rfl ?_
    | refine cd_condF rfl ?_
    | (refine Cd.mk ?_; cbv)
    | (refine Ends1.mk ?_; cbv)
    | (refine Fin1.mk ?_; cbv)
    | exact trivial
    | refine And.intro ?_ ?_
    | refine orf fun _ => ?_
    | refine ort fun _ => ?_)
  all_goals
    clear hL zq Z
    try clear hfs
    subst hA hF hG0 hG1
    simp only [Wd.std, OctR.Fs.std, Ar.std] at *
    try (grind [stdCmp, lkT, lkM, lkK, tk, tn])
theorem ok_tlink : ConOk Try.prog 81 (c_tlink Wd.std) := by
  refine con_of (FsOk.cons ok_take (FsOk.keeps ok_err kp_err FsOk.nil) rfl) Try.func81 rfl rfl fun xs h p hp => ?_
  unfold c_tlink at hp
  split at hp
  · cases hp
    exact ⟨lee_le rfl, fun _ _ => x_tlink _ _⟩
  · cases hp

def c_wdecode (F : Wd) : Con := fun xs h => match xs, h with
  | [.one (.sl none (.ints .u8 l))], [] => some ⟨F.d_by l = true, .tup [.agg [.val (.int .i64 ((F.d_dec l).w).k), .val (.int .i64 ((F.d_dec l).w).e), .val (.int .i64 ((F.d_dec l).w).r), .sl none (.ints .i64 ((F.d_dec l).w).n), .sl none (.recs (.int .i64 (.int .i64 (.int .i64 (.int .i64 (.bool .nil))))) ((F.d_dec l).w).l), .val (.int .i64 ((F.d_dec l).w).ck), .val (.int .i64 ((F.d_dec l).w).ca), .val (.int .i64 ((F.d_dec l).w).cb), .val (.int .i64 ((F.d_dec l).w).cs)], I (F.d_dec l).e], [], [Any]⟩
  | _, _ => none
set_option cbv.maxSteps 4000000 in
set_option maxHeartbeats 8000000 in
set_option maxRecDepth 100000 in
theorem x_wdecode (l : List Int) (hC : Wd.std.d_by l = true) : Does [(79, c_new OctR.Fs.std), (80, c_take OctR.Fs.std), (81, c_tlink Wd.std), (82, c_end OctR.Fs.std), (keepKey 82, noCon), (37, c_wcheck WoR.Ws.std)] Try.f38 [.one (.sl none (.ints .u8 l))] [] ⟨Wd.std.d_by l = true, .tup [.agg [.val (.int .i64 ((Wd.std.d_dec l).w).k), .val (.int .i64 ((Wd.std.d_dec l).w).e), .val (.int .i64 ((Wd.std.d_dec l).w).r), .sl none (.ints .i64 ((Wd.std.d_dec l).w).n), .sl none (.recs (.int .i64 (.int .i64 (.int .i64 (.int .i64 (.bool .nil))))) ((Wd.std.d_dec l).w).l), .val (.int .i64 ((Wd.std.d_dec l).w).ck), .val (.int .i64 ((Wd.std.d_dec l).w).ca), .val (.int .i64 ((Wd.std.d_dec l).w).cb), .val (.int .i64 ((Wd.std.d_dec l).w).cs)], I (Wd.std.d_dec l).e], [], [Any]⟩ := by
  intro b gv
  have hk : l.length ≤ 1000000 ∧ byB l = true := by
    have h : (decide (l.length ≤ 1000000) && byB l) = true := hC
    rw [Bool.and_eq_true, decide_eq_true_eq] at h
    exact h
  have hfs := (FsOk.cons ok_new (FsOk.cons ok_take (FsOk.cons ok_tlink (FsOk.keeps ok_end kp_end (FsOk.cons ok_wcheck FsOk.nil rfl)) rfl) rfl) rfl)
  generalize hF : Wd.std = F at hC hfs ⊢
  generalize hG0 : WoR.Ws.std = G0 at hC hfs ⊢
  generalize hG1 : OctR.Fs.std = G1 at hC hfs ⊢
  generalize hA : Ar.std = A
  generalize hL : Lp _ _ _ = L
  obtain ⟨Z, zq⟩ := z_all
  refine cd_open (lp_mono hL) zq rfl ?_
  repeat' (first
    | (refine z_open zq ?_; try dsimp only)
    | refine cd_seq zq ?_ (lp_mono hL)
    | refine cd_blk zq ?_
    | refine cd_ret ?_
    | refine cd_skip ?_
    | refine cd_exit ?_
    | refine cd_loop ?_
    | refine cd_cond rfl ?_
    | refine cd_condT rfl ?_
    | refine cd_condF rfl ?_
    | (refine Cd.mk ?_; cbv)
    | (refine Ends1.mk ?_; cbv)
    | (refine Fin1.mk ?_; cbv)
    | exact trivial
    | refine And.intro ?_ ?_
    | refine orf fun _ => ?_
    | refine ort fun _ => ?_)
  all_goals first | (show L _ _ _; skip) | (clear hL hfs zq Z; subst hA hF hG0 hG1; simp only [Wd.std, OctR.Fs.std] at * <;> grind [stdCmp, shB]; done)
  subst hL
  refine loop_z (cx_ok hfs) (d1Q l) (d1I) (d1M) d1R ⟨⟨(G1.f_tkN l 0 1), (G1.f_tkN (G1.f_tkR l 0 1) (G1.f_tkE l 0 1) 4), (G1.f_tkN (G1.f_tkR (G1.f_tkR l 0 1) (G1.f_tkE l 0 1) 4) (G1.f_tkE (G1.f_tkR l 0 1) (G1.f_tkE l 0 1) 4) 1), [], [], (G1.f_tkN (G1.f_tkR (G1.f_tkR (G1.f_tkR l 0 1) (G1.f_tkE l 0 1) 4) (G1.f_tkE (G1.f_tkR l 0 1) (G1.f_tkE l 0 1) 4) 1) (G1.f_tkE (G1.f_tkR (G1.f_tkR l 0 1) (G1.f_tkE l 0 1) 4) (G1.f_tkE (G1.f_tkR l 0 1) (G1.f_tkE l 0 1) 4) 1) 1), (G1.f_tkN (G1.f_tkR (G1.f_tkR (G1.f_tkR (G1.f_tkR l 0 1) (G1.f_tkE l 0 1) 4) (G1.f_tkE (G1.f_tkR l 0 1) (G1.f_tkE l 0 1) 4) 1) (G1.f_tkE (G1.f_tkR (G1.f_tkR l 0 1) (G1.f_tkE l 0 1) 4) (G1.f_tkE (G1.f_tkR l 0 1) (G1.f_tkE l 0 1) 4) 1) 1) (G1.f_tkE (G1.f_tkR (G1.f_tkR (G1.f_tkR l 0 1) (G1.f_tkE l 0 1) 4) (G1.f_tkE (G1.f_tkR l 0 1) (G1.f_tkE l 0 1) 4) 1) (G1.f_tkE (G1.f_tkR (G1.f_tkR l 0 1) (G1.f_tkE l 0 1) 4) (G1.f_tkE (G1.f_tkR l 0 1) (G1.f_tkE l 0 1) 4) 1) 1) 1), (G1.f_tkN (G1.f_tkR (G1.f_tkR (G1.f_tkR (G1.f_tkR (G1.f_tkR l 0 1) (G1.f_tkE l 0 1) 4) (G1.f_tkE (G1.f_tkR l 0 1) (G1.f_tkE l 0 1) 4) 1) (G1.f_tkE (G1.f_tkR (G1.f_tkR l 0 1) (G1.f_tkE l 0 1) 4) (G1.f_tkE (G1.f_tkR l 0 1) (G1.f_tkE l 0 1) 4) 1) 1) (G1.f_tkE (G1.f_tkR (G1.f_tkR (G1.f_tkR l 0 1) (G1.f_tkE l 0 1) 4) (G1.f_tkE (G1.f_tkR l 0 1) (G1.f_tkE l 0 1) 4) 1) (G1.f_tkE (G1.f_tkR (G1.f_tkR l 0 1) (G1.f_tkE l 0 1) 4) (G1.f_tkE (G1.f_tkR l 0 1) (G1.f_tkE l 0 1) 4) 1) 1) 1) (G1.f_tkE (G1.f_tkR (G1.f_tkR (G1.f_tkR (G1.f_tkR l 0 1) (G1.f_tkE l 0 1) 4) (G1.f_tkE (G1.f_tkR l 0 1) (G1.f_tkE l 0 1) 4) 1) (G1.f_tkE (G1.f_tkR (G1.f_tkR l 0 1) (G1.f_tkE l 0 1) 4) (G1.f_tkE (G1.f_tkR l 0 1) (G1.f_tkE l 0 1) 4) 1) 1) (G1.f_tkE (G1.f_tkR (G1.f_tkR (G1.f_tkR l 0 1) (G1.f_tkE l 0 1) 4) (G1.f_tkE (G1.f_tkR l 0 1) (G1.f_tkE l 0 1) 4) 1) (G1.f_tkE (G1.f_tkR (G1.f_tkR l 0 1) (G1.f_tkE l 0 1) 4) (G1.f_tkE (G1.f_tkR l 0 1) (G1.f_tkE l 0 1) 4) 1) 1) 1) 1), (G1.f_tkN (G1.f_tkR (G1.f_tkR (G1.f_tkR (G1.f_tkR (G1.f_tkR (G1.f_tkR l 0 1) (G1.f_tkE l 0 1) 4) (G1.f_tkE (G1.f_tkR l 0 1) (G1.f_tkE l 0 1) 4) 1) (G1.f_tkE (G1.f_tkR (G1.f_tkR l 0 1) (G1.f_tkE l 0 1) 4) (G1.f_tkE (G1.f_tkR l 0 1) (G1.f_tkE l 0 1) 4) 1) 1) (G1.f_tkE (G1.f_tkR (G1.f_tkR (G1.f_tkR l 0 1) (G1.f_tkE l 0 1) 4) (G1.f_tkE (G1.f_tkR l 0 1) (G1.f_tkE l 0 1) 4) 1) (G1.f_tkE (G1.f_tkR (G1.f_tkR l 0 1) (G1.f_tkE l 0 1) 4) (G1.f_tkE (G1.f_tkR l 0 1) (G1.f_tkE l 0 1) 4) 1) 1) 1) (G1.f_tkE (G1.f_tkR (G1.f_tkR (G1.f_tkR (G1.f_tkR l 0 1) (G1.f_tkE l 0 1) 4) (G1.f_tkE (G1.f_tkR l 0 1) (G1.f_tkE l 0 1) 4) 1) (G1.f_tkE (G1.f_tkR (G1.f_tkR l 0 1) (G1.f_tkE l 0 1) 4) (G1.f_tkE (G1.f_tkR l 0 1) (G1.f_tkE l 0 1) 4) 1) 1) (G1.f_tkE (G1.f_tkR (G1.f_tkR (G1.f_tkR l 0 1) (G1.f_tkE l 0 1) 4) (G1.f_tkE (G1.f_tkR l 0 1) (G1.f_tkE l 0 1) 4) 1) (G1.f_tkE (G1.f_tkR (G1.f_tkR l 0 1) (G1.f_tkE l 0 1) 4) (G1.f_tkE (G1.f_tkR l 0 1) (G1.f_tkE l 0 1) 4) 1) 1) 1) 1) (G1.f_tkE (G1.f_tkR (G1.f_tkR (G1.f_tkR (G1.f_tkR (G1.f_tkR l 0 1) (G1.f_tkE l 0 1) 4) (G1.f_tkE (G1.f_tkR l 0 1) (G1.f_tkE l 0 1) 4) 1) (G1.f_tkE (G1.f_tkR (G1.f_tkR l 0 1) (G1.f_tkE l 0 1) 4) (G1.f_tkE (G1.f_tkR l 0 1) (G1.f_tkE l 0 1) 4) 1) 1) (G1.f_tkE (G1.f_tkR (G1.f_tkR (G1.f_tkR l 0 1) (G1.f_tkE l 0 1) 4) (G1.f_tkE (G1.f_tkR l 0 1) (G1.f_tkE l 0 1) 4) 1) (G1.f_tkE (G1.f_tkR (G1.f_tkR l 0 1) (G1.f_tkE l 0 1) 4) (G1.f_tkE (G1.f_tkR l 0 1) (G1.f_tkE l 0 1) 4) 1) 1) 1) (G1.f_tkE (G1.f_tkR (G1.f_tkR (G1.f_tkR (G1.f_tkR l 0 1) (G1.f_tkE l 0 1) 4) (G1.f_tkE (G1.f_tkR l 0 1) (G1.f_tkE l 0 1) 4) 1) (G1.f_tkE (G1.f_tkR (G1.f_tkR l 0 1) (G1.f_tkE l 0 1) 4) (G1.f_tkE (G1.f_tkR l 0 1) (G1.f_tkE l 0 1) 4) 1) 1) (G1.f_tkE (G1.f_tkR (G1.f_tkR (G1.f_tkR l 0 1) (G1.f_tkE l 0 1) 4) (G1.f_tkE (G1.f_tkR l 0 1) (G1.f_tkE l 0 1) 4) 1) (G1.f_tkE (G1.f_tkR (G1.f_tkR l 0 1) (G1.f_tkE l 0 1) 4) (G1.f_tkE (G1.f_tkR l 0 1) (G1.f_tkE l 0 1) 4) 1) 1) 1) 1) 4)⟩, (G1.f_tkN (G1.f_tkR (G1.f_tkR (G1.f_tkR (G1.f_tkR (G1.f_tkR (G1.f_tkR (G1.f_tkR l 0 1) (G1.f_tkE l 0 1) 4) (G1.f_tkE (G1.f_tkR l 0 1) (G1.f_tkE l 0 1) 4) 1) (G1.f_tkE (G1.f_tkR (G1.f_tkR l 0 1) (G1.f_tkE l 0 1) 4) (G1.f_tkE (G1.f_tkR l 0 1) (G1.f_tkE l 0 1) 4) 1) 1) (G1.f_tkE (G1.f_tkR (G1.f_tkR (G1.f_tkR l 0 1) (G1.f_tkE l 0 1) 4) (G1.f_tkE (G1.f_tkR l 0 1) (G1.f_tkE l 0 1) 4) 1) (G1.f_tkE (G1.f_tkR (G1.f_tkR l 0 1) (G1.f_tkE l 0 1) 4) (G1.f_tkE (G1.f_tkR l 0 1) (G1.f_tkE l 0 1) 4) 1) 1) 1) (G1.f_tkE (G1.f_tkR (G1.f_tkR (G1.f_tkR (G1.f_tkR l 0 1) (G1.f_tkE l 0 1) 4) (G1.f_tkE (G1.f_tkR l 0 1) (G1.f_tkE l 0 1) 4) 1) (G1.f_tkE (G1.f_tkR (G1.f_tkR l 0 1) (G1.f_tkE l 0 1) 4) (G1.f_tkE (G1.f_tkR l 0 1) (G1.f_tkE l 0 1) 4) 1) 1) (G1.f_tkE (G1.f_tkR (G1.f_tkR (G1.f_tkR l 0 1) (G1.f_tkE l 0 1) 4) (G1.f_tkE (G1.f_tkR l 0 1) (G1.f_tkE l 0 1) 4) 1) (G1.f_tkE (G1.f_tkR (G1.f_tkR l 0 1) (G1.f_tkE l 0 1) 4) (G1.f_tkE (G1.f_tkR l 0 1) (G1.f_tkE l 0 1) 4) 1) 1) 1) 1) (G1.f_tkE (G1.f_tkR (G1.f_tkR (G1.f_tkR (G1.f_tkR (G1.f_tkR l 0 1) (G1.f_tkE l 0 1) 4) (G1.f_tkE (G1.f_tkR l 0 1) (G1.f_tkE l 0 1) 4) 1) (G1.f_tkE (G1.f_tkR (G1.f_tkR l 0 1) (G1.f_tkE l 0 1) 4) (G1.f_tkE (G1.f_tkR l 0 1) (G1.f_tkE l 0 1) 4) 1) 1) (G1.f_tkE (G1.f_tkR (G1.f_tkR (G1.f_tkR l 0 1) (G1.f_tkE l 0 1) 4) (G1.f_tkE (G1.f_tkR l 0 1) (G1.f_tkE l 0 1) 4) 1) (G1.f_tkE (G1.f_tkR (G1.f_tkR l 0 1) (G1.f_tkE l 0 1) 4) (G1.f_tkE (G1.f_tkR l 0 1) (G1.f_tkE l 0 1) 4) 1) 1) 1) (G1.f_tkE (G1.f_tkR (G1.f_tkR (G1.f_tkR (G1.f_tkR l 0 1) (G1.f_tkE l 0 1) 4) (G1.f_tkE (G1.f_tkR l 0 1) (G1.f_tkE l 0 1) 4) 1) (G1.f_tkE (G1.f_tkR (G1.f_tkR l 0 1) (G1.f_tkE l 0 1) 4) (G1.f_tkE (G1.f_tkR l 0 1) (G1.f_tkE l 0 1) 4) 1) 1) (G1.f_tkE (G1.f_tkR (G1.f_tkR (G1.f_tkR l 0 1) (G1.f_tkE l 0 1) 4) (G1.f_tkE (G1.f_tkR l 0 1) (G1.f_tkE l 0 1) 4) 1) (G1.f_tkE (G1.f_tkR (G1.f_tkR l 0 1) (G1.f_tkE l 0 1) 4) (G1.f_tkE (G1.f_tkR l 0 1) (G1.f_tkE l 0 1) 4) 1) 1) 1) 1) 4) (G1.f_tkE (G1.f_tkR (G1.f_tkR (G1.f_tkR (G1.f_tkR (G1.f_tkR (G1.f_tkR l 0 1) (G1.f_tkE l 0 1) 4) (G1.f_tkE (G1.f_tkR l 0 1) (G1.f_tkE l 0 1) 4) 1) (G1.f_tkE (G1.f_tkR (G1.f_tkR l 0 1) (G1.f_tkE l 0 1) 4) (G1.f_tkE (G1.f_tkR l 0 1) (G1.f_tkE l 0 1) 4) 1) 1) (G1.f_tkE (G1.f_tkR (G1.f_tkR (G1.f_tkR l 0 1) (G1.f_tkE l 0 1) 4) (G1.f_tkE (G1.f_tkR l 0 1) (G1.f_tkE l 0 1) 4) 1) (G1.f_tkE (G1.f_tkR (G1.f_tkR l 0 1) (G1.f_tkE l 0 1) 4) (G1.f_tkE (G1.f_tkR l 0 1) (G1.f_tkE l 0 1) 4) 1) 1) 1) (G1.f_tkE (G1.f_tkR (G1.f_tkR (G1.f_tkR (G1.f_tkR l 0 1) (G1.f_tkE l 0 1) 4) (G1.f_tkE (G1.f_tkR l 0 1) (G1.f_tkE l 0 1) 4) 1) (G1.f_tkE (G1.f_tkR (G1.f_tkR l 0 1) (G1.f_tkE l 0 1) 4) (G1.f_tkE (G1.f_tkR l 0 1) (G1.f_tkE l 0 1) 4) 1) 1) (G1.f_tkE (G1.f_tkR (G1.f_tkR (G1.f_tkR l 0 1) (G1.f_tkE l 0 1) 4) (G1.f_tkE (G1.f_tkR l 0 1) (G1.f_tkE l 0 1) 4) 1) (G1.f_tkE (G1.f_tkR (G1.f_tkR l 0 1) (G1.f_tkE l 0 1) 4) (G1.f_tkE (G1.f_tkR l 0 1) (G1.f_tkE l 0 1) 4) 1) 1) 1) 1) (G1.f_tkE (G1.f_tkR (G1.f_tkR (G1.f_tkR (G1.f_tkR (G1.f_tkR l 0 1) (G1.f_tkE l 0 1) 4) (G1.f_tkE (G1.f_tkR l 0 1) (G1.f_tkE l 0 1) 4) 1) (G1.f_tkE (G1.f_tkR (G1.f_tkR l 0 1) (G1.f_tkE l 0 1) 4) (G1.f_tkE (G1.f_tkR l 0 1) (G1.f_tkE l 0 1) 4) 1) 1) (G1.f_tkE (G1.f_tkR (G1.f_tkR (G1.f_tkR l 0 1) (G1.f_tkE l 0 1) 4) (G1.f_tkE (G1.f_tkR l 0 1) (G1.f_tkE l 0 1) 4) 1) (G1.f_tkE (G1.f_tkR (G1.f_tkR l 0 1) (G1.f_tkE l 0 1) 4) (G1.f_tkE (G1.f_tkR l 0 1) (G1.f_tkE l 0 1) 4) 1) 1) 1) (G1.f_tkE (G1.f_tkR (G1.f_tkR (G1.f_tkR (G1.f_tkR l 0 1) (G1.f_tkE l 0 1) 4) (G1.f_tkE (G1.f_tkR l 0 1) (G1.f_tkE l 0 1) 4) 1) (G1.f_tkE (G1.f_tkR (G1.f_tkR l 0 1) (G1.f_tkE l 0 1) 4) (G1.f_tkE (G1.f_tkR l 0 1) (G1.f_tkE l 0 1) 4) 1) 1) (G1.f_tkE (G1.f_tkR (G1.f_tkR (G1.f_tkR l 0 1) (G1.f_tkE l 0 1) 4) (G1.f_tkE (G1.f_tkR l 0 1) (G1.f_tkE l 0 1) 4) 1) (G1.f_tkE (G1.f_tkR (G1.f_tkR l 0 1) (G1.f_tkE l 0 1) 4) (G1.f_tkE (G1.f_tkR l 0 1) (G1.f_tkE l 0 1) 4) 1) 1) 1) 1) 4) 1), 0, (G1.f_tkR (G1.f_tkR (G1.f_tkR (G1.f_tkR (G1.f_tkR (G1.f_tkR (G1.f_tkR (G1.f_tkR l 0 1) (G1.f_tkE l 0 1) 4) (G1.f_tkE (G1.f_tkR l 0 1) (G1.f_tkE l 0 1) 4) 1) (G1.f_tkE (G1.f_tkR (G1.f_tkR l 0 1) (G1.f_tkE l 0 1) 4) (G1.f_tkE (G1.f_tkR l 0 1) (G1.f_tkE l 0 1) 4) 1) 1) (G1.f_tkE (G1.f_tkR (G1.f_tkR (G1.f_tkR l 0 1) (G1.f_tkE l 0 1) 4) (G1.f_tkE (G1.f_tkR l 0 1) (G1.f_tkE l 0 1) 4) 1) (G1.f_tkE (G1.f_tkR (G1.f_tkR l 0 1) (G1.f_tkE l 0 1) 4) (G1.f_tkE (G1.f_tkR l 0 1) (G1.f_tkE l 0 1) 4) 1) 1) 1) (G1.f_tkE (G1.f_tkR (G1.f_tkR (G1.f_tkR (G1.f_tkR l 0 1) (G1.f_tkE l 0 1) 4) (G1.f_tkE (G1.f_tkR l 0 1) (G1.f_tkE l 0 1) 4) 1) (G1.f_tkE (G1.f_tkR (G1.f_tkR l 0 1) (G1.f_tkE l 0 1) 4) (G1.f_tkE (G1.f_tkR l 0 1) (G1.f_tkE l 0 1) 4) 1) 1) (G1.f_tkE (G1.f_tkR (G1.f_tkR (G1.f_tkR l 0 1) (G1.f_tkE l 0 1) 4) (G1.f_tkE (G1.f_tkR l 0 1) (G1.f_tkE l 0 1) 4) 1) (G1.f_tkE (G1.f_tkR (G1.f_tkR l 0 1) (G1.f_tkE l 0 1) 4) (G1.f_tkE (G1.f_tkR l 0 1) (G1.f_tkE l 0 1) 4) 1) 1) 1) 1) (G1.f_tkE (G1.f_tkR (G1.f_tkR (G1.f_tkR (G1.f_tkR (G1.f_tkR l 0 1) (G1.f_tkE l 0 1) 4) (G1.f_tkE (G1.f_tkR l 0 1) (G1.f_tkE l 0 1) 4) 1) (G1.f_tkE (G1.f_tkR (G1.f_tkR l 0 1) (G1.f_tkE l 0 1) 4) (G1.f_tkE (G1.f_tkR l 0 1) (G1.f_tkE l 0 1) 4) 1) 1) (G1.f_tkE (G1.f_tkR (G1.f_tkR (G1.f_tkR l 0 1) (G1.f_tkE l 0 1) 4) (G1.f_tkE (G1.f_tkR l 0 1) (G1.f_tkE l 0 1) 4) 1) (G1.f_tkE (G1.f_tkR (G1.f_tkR l 0 1) (G1.f_tkE l 0 1) 4) (G1.f_tkE (G1.f_tkR l 0 1) (G1.f_tkE l 0 1) 4) 1) 1) 1) (G1.f_tkE (G1.f_tkR (G1.f_tkR (G1.f_tkR (G1.f_tkR l 0 1) (G1.f_tkE l 0 1) 4) (G1.f_tkE (G1.f_tkR l 0 1) (G1.f_tkE l 0 1) 4) 1) (G1.f_tkE (G1.f_tkR (G1.f_tkR l 0 1) (G1.f_tkE l 0 1) 4) (G1.f_tkE (G1.f_tkR l 0 1) (G1.f_tkE l 0 1) 4) 1) 1) (G1.f_tkE (G1.f_tkR (G1.f_tkR (G1.f_tkR l 0 1) (G1.f_tkE l 0 1) 4) (G1.f_tkE (G1.f_tkR l 0 1) (G1.f_tkE l 0 1) 4) 1) (G1.f_tkE (G1.f_tkR (G1.f_tkR l 0 1) (G1.f_tkE l 0 1) 4) (G1.f_tkE (G1.f_tkR l 0 1) (G1.f_tkE l 0 1) 4) 1) 1) 1) 1) 4) (G1.f_tkE (G1.f_tkR (G1.f_tkR (G1.f_tkR (G1.f_tkR (G1.f_tkR (G1.f_tkR l 0 1) (G1.f_tkE l 0 1) 4) (G1.f_tkE (G1.f_tkR l 0 1) (G1.f_tkE l 0 1) 4) 1) (G1.f_tkE (G1.f_tkR (G1.f_tkR l 0 1) (G1.f_tkE l 0 1) 4) (G1.f_tkE (G1.f_tkR l 0 1) (G1.f_tkE l 0 1) 4) 1) 1) (G1.f_tkE (G1.f_tkR (G1.f_tkR (G1.f_tkR l 0 1) (G1.f_tkE l 0 1) 4) (G1.f_tkE (G1.f_tkR l 0 1) (G1.f_tkE l 0 1) 4) 1) (G1.f_tkE (G1.f_tkR (G1.f_tkR l 0 1) (G1.f_tkE l 0 1) 4) (G1.f_tkE (G1.f_tkR l 0 1) (G1.f_tkE l 0 1) 4) 1) 1) 1) (G1.f_tkE (G1.f_tkR (G1.f_tkR (G1.f_tkR (G1.f_tkR l 0 1) (G1.f_tkE l 0 1) 4) (G1.f_tkE (G1.f_tkR l 0 1) (G1.f_tkE l 0 1) 4) 1) (G1.f_tkE (G1.f_tkR (G1.f_tkR l 0 1) (G1.f_tkE l 0 1) 4) (G1.f_tkE (G1.f_tkR l 0 1) (G1.f_tkE l 0 1) 4) 1) 1) (G1.f_tkE (G1.f_tkR (G1.f_tkR (G1.f_tkR l 0 1) (G1.f_tkE l 0 1) 4) (G1.f_tkE (G1.f_tkR l 0 1) (G1.f_tkE l 0 1) 4) 1) (G1.f_tkE (G1.f_tkR (G1.f_tkR l 0 1) (G1.f_tkE l 0 1) 4) (G1.f_tkE (G1.f_tkR l 0 1) (G1.f_tkE l 0 1) 4) 1) 1) 1) 1) (G1.f_tkE (G1.f_tkR (G1.f_tkR (G1.f_tkR (G1.f_tkR (G1.f_tkR l 0 1) (G1.f_tkE l 0 1) 4) (G1.f_tkE (G1.f_tkR l 0 1) (G1.f_tkE l 0 1) 4) 1) (G1.f_tkE (G1.f_tkR (G1.f_tkR l 0 1) (G1.f_tkE l 0 1) 4) (G1.f_tkE (G1.f_tkR l 0 1) (G1.f_tkE l 0 1) 4) 1) 1) (G1.f_tkE (G1.f_tkR (G1.f_tkR (G1.f_tkR l 0 1) (G1.f_tkE l 0 1) 4) (G1.f_tkE (G1.f_tkR l 0 1) (G1.f_tkE l 0 1) 4) 1) (G1.f_tkE (G1.f_tkR (G1.f_tkR l 0 1) (G1.f_tkE l 0 1) 4) (G1.f_tkE (G1.f_tkR l 0 1) (G1.f_tkE l 0 1) 4) 1) 1) 1) (G1.f_tkE (G1.f_tkR (G1.f_tkR (G1.f_tkR (G1.f_tkR l 0 1) (G1.f_tkE l 0 1) 4) (G1.f_tkE (G1.f_tkR l 0 1) (G1.f_tkE l 0 1) 4) 1) (G1.f_tkE (G1.f_tkR (G1.f_tkR l 0 1) (G1.f_tkE l 0 1) 4) (G1.f_tkE (G1.f_tkR l 0 1) (G1.f_tkE l 0 1) 4) 1) 1) (G1.f_tkE (G1.f_tkR (G1.f_tkR (G1.f_tkR l 0 1) (G1.f_tkE l 0 1) 4) (G1.f_tkE (G1.f_tkR l 0 1) (G1.f_tkE l 0 1) 4) 1) (G1.f_tkE (G1.f_tkR (G1.f_tkR l 0 1) (G1.f_tkE l 0 1) 4) (G1.f_tkE (G1.f_tkR l 0 1) (G1.f_tkE l 0 1) 4) 1) 1) 1) 1) 4) 1), (G1.f_tkE (G1.f_tkR (G1.f_tkR (G1.f_tkR (G1.f_tkR (G1.f_tkR (G1.f_tkR (G1.f_tkR l 0 1) (G1.f_tkE l 0 1) 4) (G1.f_tkE (G1.f_tkR l 0 1) (G1.f_tkE l 0 1) 4) 1) (G1.f_tkE (G1.f_tkR (G1.f_tkR l 0 1) (G1.f_tkE l 0 1) 4) (G1.f_tkE (G1.f_tkR l 0 1) (G1.f_tkE l 0 1) 4) 1) 1) (G1.f_tkE (G1.f_tkR (G1.f_tkR (G1.f_tkR l 0 1) (G1.f_tkE l 0 1) 4) (G1.f_tkE (G1.f_tkR l 0 1) (G1.f_tkE l 0 1) 4) 1) (G1.f_tkE (G1.f_tkR (G1.f_tkR l 0 1) (G1.f_tkE l 0 1) 4) (G1.f_tkE (G1.f_tkR l 0 1) (G1.f_tkE l 0 1) 4) 1) 1) 1) (G1.f_tkE (G1.f_tkR (G1.f_tkR (G1.f_tkR (G1.f_tkR l 0 1) (G1.f_tkE l 0 1) 4) (G1.f_tkE (G1.f_tkR l 0 1) (G1.f_tkE l 0 1) 4) 1) (G1.f_tkE (G1.f_tkR (G1.f_tkR l 0 1) (G1.f_tkE l 0 1) 4) (G1.f_tkE (G1.f_tkR l 0 1) (G1.f_tkE l 0 1) 4) 1) 1) (G1.f_tkE (G1.f_tkR (G1.f_tkR (G1.f_tkR l 0 1) (G1.f_tkE l 0 1) 4) (G1.f_tkE (G1.f_tkR l 0 1) (G1.f_tkE l 0 1) 4) 1) (G1.f_tkE (G1.f_tkR (G1.f_tkR l 0 1) (G1.f_tkE l 0 1) 4) (G1.f_tkE (G1.f_tkR l 0 1) (G1.f_tkE l 0 1) 4) 1) 1) 1) 1) (G1.f_tkE (G1.f_tkR (G1.f_tkR (G1.f_tkR (G1.f_tkR (G1.f_tkR l 0 1) (G1.f_tkE l 0 1) 4) (G1.f_tkE (G1.f_tkR l 0 1) (G1.f_tkE l 0 1) 4) 1) (G1.f_tkE (G1.f_tkR (G1.f_tkR l 0 1) (G1.f_tkE l 0 1) 4) (G1.f_tkE (G1.f_tkR l 0 1) (G1.f_tkE l 0 1) 4) 1) 1) (G1.f_tkE (G1.f_tkR (G1.f_tkR (G1.f_tkR l 0 1) (G1.f_tkE l 0 1) 4) (G1.f_tkE (G1.f_tkR l 0 1) (G1.f_tkE l 0 1) 4) 1) (G1.f_tkE (G1.f_tkR (G1.f_tkR l 0 1) (G1.f_tkE l 0 1) 4) (G1.f_tkE (G1.f_tkR l 0 1) (G1.f_tkE l 0 1) 4) 1) 1) 1) (G1.f_tkE (G1.f_tkR (G1.f_tkR (G1.f_tkR (G1.f_tkR l 0 1) (G1.f_tkE l 0 1) 4) (G1.f_tkE (G1.f_tkR l 0 1) (G1.f_tkE l 0 1) 4) 1) (G1.f_tkE (G1.f_tkR (G1.f_tkR l 0 1) (G1.f_tkE l 0 1) 4) (G1.f_tkE (G1.f_tkR l 0 1) (G1.f_tkE l 0 1) 4) 1) 1) (G1.f_tkE (G1.f_tkR (G1.f_tkR (G1.f_tkR l 0 1) (G1.f_tkE l 0 1) 4) (G1.f_tkE (G1.f_tkR l 0 1) (G1.f_tkE l 0 1) 4) 1) (G1.f_tkE (G1.f_tkR (G1.f_tkR l 0 1) (G1.f_tkE l 0 1) 4) (G1.f_tkE (G1.f_tkR l 0 1) (G1.f_tkE l 0 1) 4) 1) 1) 1) 1) 4) (G1.f_tkE (G1.f_tkR (G1.f_tkR (G1.f_tkR (G1.f_tkR (G1.f_tkR (G1.f_tkR l 0 1) (G1.f_tkE l 0 1) 4) (G1.f_tkE (G1.f_tkR l 0 1) (G1.f_tkE l 0 1) 4) 1) (G1.f_tkE (G1.f_tkR (G1.f_tkR l 0 1) (G1.f_tkE l 0 1) 4) (G1.f_tkE (G1.f_tkR l 0 1) (G1.f_tkE l 0 1) 4) 1) 1) (G1.f_tkE (G1.f_tkR (G1.f_tkR (G1.f_tkR l 0 1) (G1.f_tkE l 0 1) 4) (G1.f_tkE (G1.f_tkR l 0 1) (G1.f_tkE l 0 1) 4) 1) (G1.f_tkE (G1.f_tkR (G1.f_tkR l 0 1) (G1.f_tkE l 0 1) 4) (G1.f_tkE (G1.f_tkR l 0 1) (G1.f_tkE l 0 1) 4) 1) 1) 1) (G1.f_tkE (G1.f_tkR (G1.f_tkR (G1.f_tkR (G1.f_tkR l 0 1) (G1.f_tkE l 0 1) 4) (G1.f_tkE (G1.f_tkR l 0 1) (G1.f_tkE l 0 1) 4) 1) (G1.f_tkE (G1.f_tkR (G1.f_tkR l 0 1) (G1.f_tkE l 0 1) 4) (G1.f_tkE (G1.f_tkR l 0 1) (G1.f_tkE l 0 1) 4) 1) 1) (G1.f_tkE (G1.f_tkR (G1.f_tkR (G1.f_tkR l 0 1) (G1.f_tkE l 0 1) 4) (G1.f_tkE (G1.f_tkR l 0 1) (G1.f_tkE l 0 1) 4) 1) (G1.f_tkE (G1.f_tkR (G1.f_tkR l 0 1) (G1.f_tkE l 0 1) 4) (G1.f_tkE (G1.f_tkR l 0 1) (G1.f_tkE l 0 1) 4) 1) 1) 1) 1) (G1.f_tkE (G1.f_tkR (G1.f_tkR (G1.f_tkR (G1.f_tkR (G1.f_tkR l 0 1) (G1.f_tkE l 0 1) 4) (G1.f_tkE (G1.f_tkR l 0 1) (G1.f_tkE l 0 1) 4) 1) (G1.f_tkE (G1.f_tkR (G1.f_tkR l 0 1) (G1.f_tkE l 0 1) 4) (G1.f_tkE (G1.f_tkR l 0 1) (G1.f_tkE l 0 1) 4) 1) 1) (G1.f_tkE (G1.f_tkR (G1.f_tkR (G1.f_tkR l 0 1) (G1.f_tkE l 0 1) 4) (G1.f_tkE (G1.f_tkR l 0 1) (G1.f_tkE l 0 1) 4) 1) (G1.f_tkE (G1.f_tkR (G1.f_tkR l 0 1) (G1.f_tkE l 0 1) 4) (G1.f_tkE (G1.f_tkR l 0 1) (G1.f_tkE l 0 1) 4) 1) 1) 1) (G1.f_tkE (G1.f_tkR (G1.f_tkR (G1.f_tkR (G1.f_tkR l 0 1) (G1.f_tkE l 0 1) 4) (G1.f_tkE (G1.f_tkR l 0 1) (G1.f_tkE l 0 1) 4) 1) (G1.f_tkE (G1.f_tkR (G1.f_tkR l 0 1) (G1.f_tkE l 0 1) 4) (G1.f_tkE (G1.f_tkR l 0 1) (G1.f_tkE l 0 1) 4) 1) 1) (G1.f_tkE (G1.f_tkR (G1.f_tkR (G1.f_tkR l 0 1) (G1.f_tkE l 0 1) 4) (G1.f_tkE (G1.f_tkR l 0 1) (G1.f_tkE l 0 1) 4) 1) (G1.f_tkE (G1.f_tkR (G1.f_tkR l 0 1) (G1.f_tkE l 0 1) 4) (G1.f_tkE (G1.f_tkR l 0 1) (G1.f_tkE l 0 1) 4) 1) 1) 1) 1) 4) 1)⟩ ?_ ?_ ?_
  · subst hG1; exact d1_zero _ _ _ _ _ _ _ _ _ _ _ _ rfl (tkR_by (tkR_by (tkR_by (tkR_by (tkR_by (tkR_by (tkR_by hk.2 _ _) _ _) _ _) _ _) _ _) _ _) _ _) rfl rfl
  · cbv
    repeat' (first | exact trivial | exact rfl | refine And.intro ?_ ?_)
  rintro ⟨⟨k1, e1, r1, n, ll, ck, ca, cb, cs⟩, c, i, r, e⟩ hq O hO
  have hst := fun h => d1_step hq h
  have hen := fun h => d1_end hq h
  have q0 := hq.1
  have q1 := hq.2.1
  dsimp only at q0 q1 hen hst
  subst hA
  generalize hA : Ar.std = A
  generalize hL : Lp _ _ _ = L
  refine cd_close zq ?_
  repeat' (first
    | (refine z_open zq ?_; try dsimp only)
    | refine cd_seq zq ?_ (lp_mono hL)
    | refine cd_blk zq ?_
    | refine cd_ret ?_
    | refine cd_skip ?_
    | refine cd_exit ?_
    | refine cd_loop ?_
    | refine cd_cond rfl ?_
    | refine cd_condT rfl ?_
    | refine cd_condF rfl ?_
    | (refine Cd.mk ?_; cbv)
    | (refine Ends1.mk ?_; cbv)
    | (refine Fin1.mk ?_; cbv)
    | exact trivial
    | refine And.intro ?_ ?_
    | refine orf fun _ => ?_
    | refine ort fun _ => ?_)
  all_goals first | (show L _ _ _; skip) | (clear hL hfs zq Z hq hen; subst hA hF hG0 hG1 hO; simp only [Wd.std, OctR.Fs.std, Ar.std] at * <;> grind [stdCmp]; done)
  rename_i hx
  have hi : ¬ i < c := by
    clear hL hfs zq Z hst hen
    subst hA hO
    simp only [Ar.std] at hx
    grind [stdCmp]
  obtain ⟨hd, hbr, hnl⟩ := hen hi
  clear hx hst hq hen
  subst hL
  refine loop_z (cx_ok hfs) (d2Q l) (d2I) (d2M) d2R ⟨⟨k1, e1, r1, n, [], ck, ca, cb, cs⟩, G1.f_tkN r e 2, true, G1.f_tkR r e 2, G1.f_tkE r e 2⟩ ?_ ?_ ?_
  · subst hG1; exact d2_zero hd hbr hnl
  · cbv
    repeat' (first | exact trivial | exact rfl | refine And.intro ?_ ?_)
  rintro ⟨⟨k2, e2, r2, n2, l2, ck2, ca2, cb2, cs2⟩, m, c2, p, f⟩ hq2 O2 hO2
  obtain ⟨hl, hn2, hst, hen⟩ := d2_step hq2
  have k0 := hq2.1
  dsimp only at k0 hl hst hen hn2
  subst hA
  generalize hA : Ar.std = A
  generalize hL : Lp _ _ _ = L
  refine cd_close zq ?_
  repeat' (first
    | (refine z_open zq ?_; try dsimp only)
    | refine cd_seq zq ?_ (lp_mono hL)
    | refine cd_blk zq ?_
    | refine cd_ret ?_
    | refine cd_skip ?_
    | refine cd_exit ?_
    | refine cd_loop ?_
    | refine cd_cond rfl ?_
    | refine cd_condT rfl ?_
    | refine cd_condF rfl ?_
    | (refine Cd.mk ?_; cbv)
    | (refine Ends1.mk ?_; cbv)
    | (refine Fin1.mk ?_; cbv)
    | exact trivial
    | refine And.intro ?_ ?_
    | refine orf fun _ => ?_
    | refine ort fun _ => ?_)
  all_goals (clear hL hfs zq Z hq2 hd; subst hA hF hG0 hG1 hO hO2; simp only [Wd.std, WoR.Ws.std, OctR.Fs.std, Ar.std] at * <;> grind [stdCmp, finW, er, okS, zW])
theorem ok_wdecode : ConOk Try.prog 38 (c_wdecode Wd.std) := by
  refine con_of (FsOk.cons ok_new (FsOk.cons ok_take (FsOk.cons ok_tlink (FsOk.keeps ok_end kp_end (FsOk.cons ok_wcheck FsOk.nil rfl)) rfl) rfl) rfl) Try.func38 rfl rfl fun xs h p hp => ?_
  unfold c_wdecode at hp
  split at hp
  · cases hp
    exact ⟨lee_le rfl, fun hC _ => x_wdecode _ hC⟩
  · cases hp
end Go.Proofs.Ytnfkphekkpigpaa.WoD
