/-
  Words: written, they are read; what is read is written so. No condition.
-/
import Derived.Test.YtnfkphekkpigpaaWoQ
import Derived.Test.YtnfkphekkpigpaaViS
namespace Go.Proofs.Ytnfkphekkpigpaa.WoT
open Go Go.Proofs.Ytnfkphekkpigpaa.Ry Go.Proofs.Ytnfkphekkpigpaa.ViR Go.Proofs.Ytnfkphekkpigpaa.ViS Go.Proofs.Ytnfkphekkpigpaa.OctR Go.Proofs.Ytnfkphekkpigpaa.OctP Go.Proofs.Ytnfkphekkpigpaa.OctQ Go.Proofs.Ytnfkphekkpigpaa.WoR Go.Proofs.Ytnfkphekkpigpaa.WoD Go.Proofs.Ytnfkphekkpigpaa.WoQ

theorem num_back {l : List Int} {w : Int} (hw : w = 1 ∨ w = 2 ∨ w = 4) (hl : (l.length : Int) = w) (hb : ∀ x ∈ l, 0 ≤ x ∧ x ≤ 255) : numL (numI l) w = l := by
  rcases hw with rfl | rfl | rfl
  · match l, hl with
    | [x], _ =>
      have h0 := hb x (by simp)
      have e : numI [x] = x := by
        simp only [numI, List.foldl_cons, List.foldl_nil]
        rw [num_one 0 _ (by omega) (by omega) h0]
        omega
      rw [e, num_1 x h0.1]
      simp only [List.cons.injEq, and_true]
      omega
  · match l, hl with
    | [x, y], _ =>
      have h0 := hb x (by simp)
      have h1 := hb y (by simp)
      have e : numI [x, y] = x * 256 + y := by
        simp only [numI, List.foldl_cons, List.foldl_nil]
        rw [num_one 0 _ (by omega) (by omega) h0, num_one (0 * 256 + _) _ (by omega) (by omega) h1]
        omega
      rw [e, num_2 _ (by omega)]
      simp only [List.cons.injEq, and_true]
      omega
  · match l, hl with
    | [x, y, z, t], _ =>
      have h0 := hb x (by simp)
      have h1 := hb y (by simp)
      have h2 := hb z (by simp)
      have h3 := hb t (by simp)
      have e : numI [x, y, z, t] = ((x * 256 + y) * 256 + z) * 256 + t := by
        simp only [numI, List.foldl_cons, List.foldl_nil]
        rw [num_one 0 _ (by omega) (by omega) h0, num_one (0 * 256 + _) _ (by omega) (by omega) h1, num_one ((0 * 256 + _) * 256 + _) _ (by omega) (by omega) h2, num_one (((0 * 256 + _) * 256 + _) * 256 + _) _ (by omega) (by omega) h3]
        omega
      rw [e, num_4 _ (by omega)]
      simp only [List.cons.injEq, and_true]
      omega
theorem tk_e {r : List Int} {e w : Int} (h : tkE r e w = 0) : e = 0 := by
  unfold tkE at h
  by_cases he : e = 0
  · exact he
  · rw [if_neg he] at h
    exact absurd h he
/-- A step of reading that went well. -/
theorem tk_back {r : List Int} {e w : Int} (hw : w = 1 ∨ w = 2 ∨ w = 4) (hb : ∀ x ∈ r, 0 ≤ x ∧ x ≤ 255) (h : tkE r e w = 0) :
    r = numL (tkN r e w) w ++ tkR r e w ∧ (∀ x ∈ tkR r e w, 0 ≤ x ∧ x ≤ 255) ∧ r.length = w.toNat + (tkR r e w).length := by
  have hW : isW w = true := decide_eq_true (by omega)
  unfold tkE at h
  by_cases he : e = 0
  · subst he
    rw [if_pos rfl, if_pos hW] at h
    by_cases hB : tkBad r w = true
    · rw [if_pos hB] at h
      exact absurd h (by decide)
    · have hB : tkBad r w = false := by simpa using hB
      have h1 : tkN r 0 w = numI (r.take w.toNat) := by
        unfold tkN
        rw [if_pos ⟨rfl, hW, hB⟩]
      have h2 : tkR r 0 w = r.drop w.toNat := by
        unfold tkR
        rw [if_pos ⟨rfl, hW, hB⟩]
      have h3 := of_decide_eq_false hB
      have hl : ((r.take w.toNat).length : Int) = w := by
        rw [List.length_take]
        omega
      have hb1 : ∀ x ∈ r.take w.toNat, 0 ≤ x ∧ x ≤ 255 := fun x hx => hb x (List.mem_of_mem_take hx)
      refine ⟨?_, ?_, ?_⟩
      · rw [h1, h2, num_back hw hl hb1, List.take_append_drop]
      · rw [h2]
        exact fun x hx => hb x (List.mem_of_mem_drop hx)
      · rw [h2, List.length_drop]
        omega
  · rw [if_neg he] at h
    exact absurd h he
theorem tk_fit {r : List Int} {e w : Int} (hw : w = 1 ∨ w = 2 ∨ w = 4) (hb : ∀ x ∈ r, 0 ≤ x ∧ x ≤ 255) (h : tkE r e w = 0) : fits (tkN r e w) w = true := by
  have hW : isW w = true := decide_eq_true (by omega)
  unfold tkE at h
  by_cases he : e = 0
  · subst he
    rw [if_pos rfl, if_pos hW] at h
    by_cases hB : tkBad r w = true
    · rw [if_pos hB] at h
      exact absurd h (by decide)
    · have hB : tkBad r w = false := by simpa using hB
      have h1 : tkN r 0 w = numI (r.take w.toNat) := by
        unfold tkN
        rw [if_pos ⟨rfl, hW, hB⟩]
      have h3 := of_decide_eq_false hB
      have hn := num_bound r (decide_eq_true hb) w.toNat (by omega) (by omega)
      unfold fits
      rw [hW, Bool.and_true, decide_eq_true_eq, h1]
      omega
  · rw [if_neg he] at h
    exact absurd h he
def nN (n : List Int) : List Int := n.flatMap fun x => numL x 1
def lk1 (y : E) : List Int := numL (ri y 0) 1 ++ (numL (ri y 1) 1 ++ (numL (ri y 2) 4 ++ (numL (ri y 3) 4 ++ numL (if rb y 4 = true then 1 else 0) 1)))
def lL (l : List E) : List Int := l.flatMap lk1
def flat (w : WD) (nl ll : Int) (N L : List Int) : List Int := numL w.k 1 ++ (numL w.e 4 ++ (numL w.r 1 ++ (numL w.ck 1 ++ (numL w.ca 1 ++ (numL w.cb 1 ++ (numL w.cs 4 ++ (numL nl 1 ++ (N ++ (numL ll 2 ++ L)))))))))
theorem nd_flat : ∀ (n b : List Int), (∀ x ∈ n, fits x 1 = true) → ndP b n = b ++ nN n
  | [], b, _ => by simp [ndP, nN]
  | x :: n, b, h => by
    have ih := nd_flat n (pt b x 1) fun y hy => h y (List.mem_cons_of_mem _ hy)
    show ndP (pt b x 1) n = _
    rw [ih, pt_num (h x (List.mem_cons_self ..))]
    simp [nN]
theorem lk_flat {y : E} (b : List Int) (h : fits (ri y 0) 1 = true ∧ fits (ri y 1) 1 = true ∧ fits (ri y 2) 4 = true ∧ fits (ri y 3) 4 = true) : lkP b y = b ++ lk1 y := by
  obtain ⟨h1, h2, h3, h4⟩ := h
  unfold lkP
  rw [pt_num h1, pt_num h2, pt_num h3, pt_num h4, pt_num (fitB _)]
  simp [lk1]
theorem la_flat : ∀ (l : List E) (b : List Int), (∀ y ∈ l, fits (ri y 0) 1 = true ∧ fits (ri y 1) 1 = true ∧ fits (ri y 2) 4 = true ∧ fits (ri y 3) 4 = true) → lkA b l = b ++ lL l
  | [], b, _ => by simp [lkA, lL]
  | y :: l, b, h => by
    have ih := la_flat l (lkP b y) fun z hz => h z (List.mem_cons_of_mem _ hz)
    show lkA (lkP b y) l = _
    rw [ih, lk_flat b (h y (List.mem_cons_self ..))]
    simp [lL]
theorem enc_flat {w : WD} (f : Fit w) : encP w = flat w w.n.length w.l.length (nN w.n) (lL w.l) := by
  unfold encP
  rw [la_flat _ _ f.l, pt_num f.ll, nd_flat _ _ f.n, ← q_hd f]
  simp [flat]
theorem tk_num {m w : Int} (h : fits m w = true) (r : List Int) : tk ⟨numL m w ++ r, 0⟩ w = ⟨r, 0⟩ ∧ tn ⟨numL m w ++ r, 0⟩ w = m := by
  obtain ⟨a, b, c⟩ := take_num h r
  unfold tk tn
  simp only
  rw [a, b, c]
  exact ⟨rfl, rfl⟩
def cE (y : E) : E := [D.int (ri y 0), D.int (ri y 1), D.int (ri y 2), D.int (ri y 3), D.bool (rb y 4)]
def cW (w : WD) : WD := ⟨w.k, w.e, w.r, w.n, w.l.map cE, w.ck, w.ca, w.cb, w.cs⟩
theorem cE_at (l : List E) (i : Nat) (h : i < l.length) : (l.map cE).getD i [] = cE (l.getD i []) := by
  rw [at_rec _ _ (by rw [List.length_map]; exact h), at_rec _ _ h, List.getElem_map]
theorem cV (n : List Int) (l : List E) : mayV n (l.map cE) = mayV n l := by
  unfold mayV
  rw [List.length_map]
  congr 1
  rw [Bool.eq_iff_iff, all_iff, all_iff]
  have key : ∀ i, i < l.length → okL n (l.map cE) i = okL n l i := by
    intro i hi
    unfold okL mb1
    rw [cE_at _ _ hi]
    by_cases h0 : 0 < i
    · rw [cE_at _ _ (show i - 1 < l.length by omega)]
      rfl
    · have e0 : i = 0 := by omega
      subst e0
      have : ∀ (a b : Prop), (0 < 0 → a) ↔ (0 < 0 → b) := fun a b => ⟨fun _ h => absurd h (Nat.lt_irrefl 0), fun _ h => absurd h (Nat.lt_irrefl 0)⟩
      rw [decide_eq_decide]
      constructor
      · rintro ⟨a, b, _⟩
        exact ⟨a, b, fun h => absurd h (Nat.lt_irrefl 0)⟩
      · rintro ⟨a, b, _⟩
        exact ⟨a, b, fun h => absurd h (Nat.lt_irrefl 0)⟩
  exact ⟨fun h i hi => by rw [← key i hi]; exact h i hi, fun h i hi => by rw [key i hi]; exact h i hi⟩
theorem cMay (w : WD) : mayW (cW w) = mayW w := by
  unfold mayW okV
  show (_ && (_ && ((if full (cW w) = true then decide (0 < w.n.length ∧ (w.l.map cE).length ≤ 1024) && mayV w.n (w.l.map cE) else decide (w.n.length = 0 ∧ (w.l.map cE).length = 0)) && _))) = _
  rw [List.length_map, cV]
  rfl
theorem cLA : ∀ (l : List E) (b : List Int), lkA b (l.map cE) = lkA b l
  | [], _ => rfl
  | y :: l, b => by
    rw [List.map_cons]
    show lkA (lkP b (cE y)) (l.map cE) = lkA (lkP b y) l
    rw [cLA l]
    rfl
theorem cEnc (w : WD) : encW (cW w) = encW w := by
  unfold encW
  rw [cMay]
  unfold encP
  show (if mayW w = true then lkA (pt (ndP (hdP (cW w)) w.n) ((w.l.map cE).length : Nat) 2) (w.l.map cE) else []) = _
  rw [cLA, List.length_map]
  rfl
theorem nd_read : ∀ (n a r : List Int), (∀ x ∈ n, fits x 1 = true) → ndF n.length ⟨nN n ++ r, 0⟩ a = ⟨⟨r, 0⟩, a ++ n⟩
  | [], a, r, _ => by simp [ndF, nN]
  | x :: n, a, r, h => by
    have e : nN (x :: n) ++ r = numL x 1 ++ (nN n ++ r) := by simp [nN]
    obtain ⟨t1, t2⟩ := tk_num (h x (List.mem_cons_self ..)) (nN n ++ r)
    rw [List.length_cons, e]
    unfold ndF
    rw [t1, t2, nd_read n _ r fun y hy => h y (List.mem_cons_of_mem _ hy)]
    simp
theorem rn_read : ∀ (n a r : List Int), (∀ x ∈ n, fits x 1 = true) → rn n.length ⟨nN n ++ r, 0⟩ a = ⟨⟨r, 0⟩, a ++ n⟩
  | [], a, r, _ => by simp [rn, nN]
  | x :: n, a, r, h => by
    have e : nN (x :: n) ++ r = numL x 1 ++ (nN n ++ r) := by simp [nN]
    obtain ⟨t1, t2⟩ := tk_num (h x (List.mem_cons_self ..)) (nN n ++ r)
    rw [List.length_cons, e]
    unfold rn
    rw [if_pos rfl, t1, t2, rn_read n _ r fun y hy => h y (List.mem_cons_of_mem _ hy)]
    simp
theorem lk_read {y : E} (r : List Int) (h : fits (ri y 0) 1 = true ∧ fits (ri y 1) 1 = true ∧ fits (ri y 2) 4 = true ∧ fits (ri y 3) 4 = true) : lkT ⟨lk1 y ++ r, 0⟩ = ⟨ri y 0, ri y 1, ri y 2, ri y 3, if rb y 4 = true then 1 else 0, ⟨r, 0⟩⟩ := by
  obtain ⟨h1, h2, h3, h4⟩ := h
  have e : lk1 y ++ r = numL (ri y 0) 1 ++ (numL (ri y 1) 1 ++ (numL (ri y 2) 4 ++ (numL (ri y 3) 4 ++ (numL (if rb y 4 = true then 1 else 0) 1 ++ r)))) := by simp [lk1]
  unfold lkT
  rw [e]
  obtain ⟨a1, b1⟩ := tk_num h1 (numL (ri y 1) 1 ++ (numL (ri y 2) 4 ++ (numL (ri y 3) 4 ++ (numL (if rb y 4 = true then 1 else 0) 1 ++ r))))
  obtain ⟨a2, b2⟩ := tk_num h2 (numL (ri y 2) 4 ++ (numL (ri y 3) 4 ++ (numL (if rb y 4 = true then 1 else 0) 1 ++ r)))
  obtain ⟨a3, b3⟩ := tk_num h3 (numL (ri y 3) 4 ++ (numL (if rb y 4 = true then 1 else 0) 1 ++ r))
  obtain ⟨a4, b4⟩ := tk_num h4 (numL (if rb y 4 = true then 1 else 0) 1 ++ r)
  obtain ⟨a5, b5⟩ := tk_num (fitB (rb y 4)) r
  rw [a1, b1, a2, b2, a3, b3, a4, b4, a5, b5]
theorem lk_is {y : E} (r : List Int) (h : fits (ri y 0) 1 = true ∧ fits (ri y 1) 1 = true ∧ fits (ri y 2) 4 = true ∧ fits (ri y 3) 4 = true) : lkK ⟨lk1 y ++ r, 0⟩ = true ∧ lkD ⟨lk1 y ++ r, 0⟩ = cE y := by
  unfold lkK lkD lkM
  rw [lk_read r h]
  unfold cE
  cases rb y 4
  · exact ⟨rfl, rfl⟩
  · exact ⟨rfl, rfl⟩
theorem la_read : ∀ (l a : List E) (r : List Int), (∀ y ∈ l, fits (ri y 0) 1 = true ∧ fits (ri y 1) 1 = true ∧ fits (ri y 2) 4 = true ∧ fits (ri y 3) 4 = true) → lkF l.length ⟨lL l ++ r, 0⟩ a = ⟨⟨r, 0⟩, a ++ l.map cE, true⟩
  | [], a, r, _ => by simp [lkF, lL]
  | y :: l, a, r, h => by
    have hy := h y (List.mem_cons_self ..)
    have e : lL (y :: l) ++ r = lk1 y ++ (lL l ++ r) := by simp [lL]
    obtain ⟨t1, t2⟩ := lk_is (lL l ++ r) hy
    rw [List.length_cons, e]
    unfold lkF
    rw [if_pos t1, t2, lk_read _ hy, la_read l _ r fun z hz => h z (List.mem_cons_of_mem _ hz)]
    simp
theorem ra_read : ∀ (l a : List E) (r : List Int), (∀ y ∈ l, fits (ri y 0) 1 = true ∧ fits (ri y 1) 1 = true ∧ fits (ri y 2) 4 = true ∧ fits (ri y 3) 4 = true) → WoQ.rl l.length ⟨lL l ++ r, 0⟩ a = ⟨⟨r, 0⟩, a ++ l.map cE, true⟩
  | [], a, r, _ => by simp [WoQ.rl, lL]
  | y :: l, a, r, h => by
    have hy := h y (List.mem_cons_self ..)
    have e : lL (y :: l) ++ r = lk1 y ++ (lL l ++ r) := by simp [lL]
    obtain ⟨t1, t2⟩ := lk_is (lL l ++ r) hy
    rw [List.length_cons, e]
    unfold WoQ.rl
    rw [if_pos rfl, t2, lk_read _ hy, ra_read l _ r fun z hz => h z (List.mem_cons_of_mem _ hz)]
    simp
/-- What is written is read. -/
theorem dec_enc {w : WD} (h : mayW w = true) : decW (encW w) = ⟨cW w, 0⟩ ∧ rdecW (encW w) = ⟨cW w, true⟩ := by
  have f := may_fit h
  have he : encW w = flat w w.n.length w.l.length (nN w.n) (lL w.l) := by
    unfold encW
    rw [if_pos h, enc_flat f]
  have hl : lL w.l = lL w.l ++ [] := (List.append_nil _).symm
  have t10 := tk_num f.ll (lL w.l)
  have t8 := tk_num f.nl (nN w.n ++ (numL w.l.length 2 ++ lL w.l))
  have t7 := tk_num f.cs (numL w.n.length 1 ++ (nN w.n ++ (numL w.l.length 2 ++ lL w.l)))
  have t6 := tk_num f.cb (numL w.cs 4 ++ (numL w.n.length 1 ++ (nN w.n ++ (numL w.l.length 2 ++ lL w.l))))
  have t5 := tk_num f.ca (numL w.cb 1 ++ (numL w.cs 4 ++ (numL w.n.length 1 ++ (nN w.n ++ (numL w.l.length 2 ++ lL w.l)))))
  have t4 := tk_num f.ck (numL w.ca 1 ++ (numL w.cb 1 ++ (numL w.cs 4 ++ (numL w.n.length 1 ++ (nN w.n ++ (numL w.l.length 2 ++ lL w.l))))))
  have t3 := tk_num f.r (numL w.ck 1 ++ (numL w.ca 1 ++ (numL w.cb 1 ++ (numL w.cs 4 ++ (numL w.n.length 1 ++ (nN w.n ++ (numL w.l.length 2 ++ lL w.l)))))))
  have t2 := tk_num f.e (numL w.r 1 ++ (numL w.ck 1 ++ (numL w.ca 1 ++ (numL w.cb 1 ++ (numL w.cs 4 ++ (numL w.n.length 1 ++ (nN w.n ++ (numL w.l.length 2 ++ lL w.l))))))))
  have t1 := tk_num f.k (numL w.e 4 ++ (numL w.r 1 ++ (numL w.ck 1 ++ (numL w.ca 1 ++ (numL w.cb 1 ++ (numL w.cs 4 ++ (numL w.n.length 1 ++ (nN w.n ++ (numL w.l.length 2 ++ lL w.l)))))))))
  have n1 := nd_read w.n [] (numL w.l.length 2 ++ lL w.l) f.n
  have n2 := rn_read w.n [] (numL w.l.length 2 ++ lL w.l) f.n
  have l1 := la_read w.l [] [] f.l
  have l2 := ra_read w.l [] [] f.l
  rw [List.append_nil] at l1 l2
  have hm : mayW (cW w) = true := by rw [cMay]; exact h
  constructor
  · unfold decW
    rw [he]
    unfold flat
    simp only [t1, t2, t3, t4, t5, t6, t7, t8]
    unfold con1
    simp only [Int.toNat_natCast, n1]
    unfold linkW
    simp only [t10]
    unfold con2
    simp only [Int.toNat_natCast, l1, if_true, List.nil_append]
    unfold finW
    rw [if_pos ⟨rfl, rfl, hm⟩]
    rfl
  · unfold rdecW
    rw [he]
    unfold flat
    simp only [t1, t2, t3, t4, t5, t6, t7, t8]
    unfold rcon1
    simp only [Int.toNat_natCast, n2]
    unfold rlink
    simp only [t10]
    unfold rcon2
    simp only [Int.toNat_natCast, l2, List.nil_append]
    unfold rfin
    have hc := cEnc w
    rw [he] at hc
    unfold flat at hc
    rw [if_pos ⟨rfl, hm, hc⟩]
    rfl
theorem nd_back : ∀ (c : Nat) (s : RS) (n : List Int), (∀ x ∈ s.r, 0 ≤ x ∧ x ≤ 255) → (ndF c s n).s.e = 0 → ∃ a, a.length = c ∧ (ndF c s n).n = n ++ a ∧ s.e = 0 ∧ s.r = nN a ++ (ndF c s n).s.r ∧ (∀ x ∈ (ndF c s n).s.r, 0 ≤ x ∧ x ≤ 255)
  | 0, s, n, hb, h => ⟨[], rfl, (List.append_nil _).symm, h, rfl, hb⟩
  | c + 1, s, n, hb, h => by
    unfold ndF at h ⊢
    have hb1 : ∀ x ∈ (tk s 1).r, 0 ≤ x ∧ x ≤ 255 := of_decide_eq_true (tkR_by (decide_eq_true hb) s.e 1)
    obtain ⟨a, h1, h2, h3, h4, h5⟩ := nd_back c (tk s 1) (n ++ [tn s 1]) hb1 h
    obtain ⟨k1, _, _⟩ := tk_back (.inl rfl) hb h3
    refine ⟨tn s 1 :: a, by rw [List.length_cons, h1], by rw [h2]; simp, tk_e h3, ?_, h5⟩
    have e : nN (tn s 1 :: a) = numL (tn s 1) 1 ++ nN a := by simp [nN]
    rw [e, List.append_assoc, ← h4]
    exact k1
theorem lk_back {s : RS} (hb : ∀ x ∈ s.r, 0 ≤ x ∧ x ≤ 255) (h : (lkT s).t.e = 0) : s.e = 0 ∧ s.r = numL (lkT s).n 1 ++ (numL (lkT s).p 1 ++ (numL (lkT s).w 4 ++ (numL (lkT s).s 4 ++ (numL (lkT s).m 1 ++ (lkT s).t.r)))) ∧ (∀ x ∈ (lkT s).t.r, 0 ≤ x ∧ x ≤ 255) ∧ 0 ≤ (lkT s).m := by
  have g5 : tkE (tk (tk (tk (tk s 1) 1) 4) 4).r (tk (tk (tk (tk s 1) 1) 4) 4).e 1 = 0 := h
  have g4 := tk_e g5
  have g3 := tk_e (r := (tk (tk (tk s 1) 1) 4).r) (w := 4) g4
  have g2 := tk_e (r := (tk (tk s 1) 1).r) (w := 4) g3
  have g1 := tk_e (r := (tk s 1).r) (w := 1) g2
  have g0 := tk_e (r := s.r) (w := 1) g1
  obtain ⟨k1, b1, _⟩ := tk_back (.inl rfl) hb g1
  obtain ⟨k2, b2, _⟩ := tk_back (r := (tk s 1).r) (.inl rfl) b1 g2
  obtain ⟨k3, b3, _⟩ := tk_back (r := (tk (tk s 1) 1).r) (.inr (.inr rfl)) b2 g3
  obtain ⟨k4, b4, _⟩ := tk_back (r := (tk (tk (tk s 1) 1) 4).r) (.inr (.inr rfl)) b3 g4
  obtain ⟨k5, b5, _⟩ := tk_back (r := (tk (tk (tk (tk s 1) 1) 4) 4).r) (.inl rfl) b4 g5
  have nb := tkN_bd (decide_eq_true b4) (tk (tk (tk (tk s 1) 1) 4) 4).e 1 (.inl rfl)
  refine ⟨g0, ?_, b5, nb.1⟩
  refine k1.trans ?_
  congr 1
  refine k2.trans ?_
  congr 1
  refine k3.trans ?_
  congr 1
  refine k4.trans ?_
  congr 1
theorem la_back : ∀ (c : Nat) (s : RS) (l : List E), (∀ x ∈ s.r, 0 ≤ x ∧ x ≤ 255) → (lkF c s l).k = true → (lkF c s l).s.e = 0 → ∃ a, a.length = c ∧ (lkF c s l).l = l ++ a ∧ s.e = 0 ∧ s.r = lL a ++ (lkF c s l).s.r
  | 0, s, l, _, _, h => ⟨[], rfl, (List.append_nil _).symm, h, rfl⟩
  | c + 1, s, l, hb, hk, h => by
    by_cases q : lkK s = true
    · have e : lkF (c + 1) s l = lkF c (lkT s).t (l ++ [lkD s]) := by
        conv => lhs; unfold lkF
        rw [if_pos q]
      rw [e] at hk h ⊢
      have q2 : (lkT s).m ≤ 1 ∧ (lkT s).t.e = 0 := of_decide_eq_true q
      obtain ⟨g0, g1, g2, g3⟩ := lk_back hb q2.2
      obtain ⟨a, h1, h2, h3, h4⟩ := la_back c (lkT s).t (l ++ [lkD s]) g2 hk h
      refine ⟨lkD s :: a, by rw [List.length_cons, h1], by rw [h2]; simp, g0, ?_⟩
      have em : (if rb (lkD s) 4 = true then (1 : Int) else 0) = (lkT s).m := by
        show (if decide ((lkT s).m = 1) = true then (1 : Int) else 0) = _
        by_cases z : (lkT s).m = 1
        · rw [decide_eq_true z, if_pos rfl, z]
        · rw [decide_eq_false z, if_neg (by decide)]
          omega
      have e2 : lL (lkD s :: a) = lk1 (lkD s) ++ lL a := by simp [lL]
      have e3 : lk1 (lkD s) = numL (lkT s).n 1 ++ (numL (lkT s).p 1 ++ (numL (lkT s).w 4 ++ (numL (lkT s).s 4 ++ numL (lkT s).m 1))) := by
        unfold lk1
        rw [em]
        rfl
      rw [e2, e3, List.append_assoc, ← h4, g1]
      simp
    · have e : (lkF (c + 1) s l).k = false := by
        unfold lkF
        rw [if_neg q]
      rw [e] at hk
      cases hk
/-- What is read is written so. -/
theorem dec_back {b : List Int} (hb : byB b = true) (h : ¬ decW b = ⟨zW, 5⟩) : ∃ w, mayW w = true ∧ encW w = b := by
  have hb0 : ∀ x ∈ b, 0 ≤ x ∧ x ≤ 255 := of_decide_eq_true hb
  revert h
  unfold decW
  dsimp only
  generalize e0 : (⟨b, 0⟩ : RS) = s0
  have r0 : s0.r = b := by rw [← e0]
  rw [← r0] at hb0
  generalize e1 : tk s0 1 = s1
  generalize e2 : tk s1 4 = s2
  generalize e3 : tk s2 1 = s3
  generalize e4 : tk s3 1 = s4
  generalize e5 : tk s4 1 = s5
  generalize e6 : tk s5 1 = s6
  generalize e7 : tk s6 4 = s7
  generalize e8 : tk s7 1 = s8
  intro h
  generalize hc : tn s7 1 = c at h
  unfold con1 linkW con2 at h
  simp only [if_true] at h
  generalize e9 : (ndF c.toNat s8 []) = N at h
  generalize e10 : tk N.s 2 = s10 at h
  generalize hc2 : tn N.s 2 = c2 at h
  generalize e11 : lkF c2.toNat s10 [] = L at h
  unfold finW at h
  by_cases q : endI L.s.r L.s.e = 0 ∧ L.k = true ∧ mayW ⟨tn s0 1, tn s1 4, tn s2 1, N.n, L.l, tn s3 1, tn s4 1, tn s5 1, tn s6 4⟩ = true
  · obtain ⟨q1, q2, q3⟩ := q
    have tb : ∀ {s : RS} {w : Int}, (∀ x ∈ s.r, 0 ≤ x ∧ x ≤ 255) → ∀ x ∈ (tk s w).r, 0 ≤ x ∧ x ≤ 255 := fun {s w} hs => of_decide_eq_true (tkR_by (decide_eq_true hs) s.e w)
    have b1 : ∀ x ∈ s1.r, 0 ≤ x ∧ x ≤ 255 := by rw [← e1]; exact tb hb0
    have b2 : ∀ x ∈ s2.r, 0 ≤ x ∧ x ≤ 255 := by rw [← e2]; exact tb b1
    have b3 : ∀ x ∈ s3.r, 0 ≤ x ∧ x ≤ 255 := by rw [← e3]; exact tb b2
    have b4 : ∀ x ∈ s4.r, 0 ≤ x ∧ x ≤ 255 := by rw [← e4]; exact tb b3
    have b5 : ∀ x ∈ s5.r, 0 ≤ x ∧ x ≤ 255 := by rw [← e5]; exact tb b4
    have b6 : ∀ x ∈ s6.r, 0 ≤ x ∧ x ≤ 255 := by rw [← e6]; exact tb b5
    have b7 : ∀ x ∈ s7.r, 0 ≤ x ∧ x ≤ 255 := by rw [← e7]; exact tb b6
    have b8 : ∀ x ∈ s8.r, 0 ≤ x ∧ x ≤ 255 := by rw [← e8]; exact tb b7
    have z : L.s.e = 0 ∧ L.s.r = [] := by
      unfold endI at q1
      by_cases y : L.s.e = 0
      · rw [if_pos y] at q1
        refine ⟨y, ?_⟩
        cases hr : L.s.r with
        | nil => rfl
        | cons x r =>
          rw [hr, List.length_cons, if_pos (Nat.zero_lt_succ _)] at q1
          cases q1
      · rw [if_neg y] at q1
        exact absurd q1 y
    have bN : ∀ {c : Nat} {s : RS} {n : List Int}, (∀ x ∈ s.r, 0 ≤ x ∧ x ≤ 255) → ∀ x ∈ (ndF c s n).s.r, 0 ≤ x ∧ x ≤ 255 := by
      intro c
      induction c with
      | zero => exact fun h => h
      | succ c ih =>
        intro s n hs
        unfold ndF
        exact ih (tb hs)
    have b9 : ∀ x ∈ N.s.r, 0 ≤ x ∧ x ≤ 255 := by rw [← e9]; exact bN b8
    have b10 : ∀ x ∈ s10.r, 0 ≤ x ∧ x ≤ 255 := by rw [← e10]; exact tb b9
    obtain ⟨la, l1, l2, l3, l4⟩ := la_back c2.toNat s10 [] b10 (by rw [e11]; exact q2) (by rw [e11]; exact z.1)
    rw [e11, z.2, List.append_nil] at l4
    rw [e11, List.nil_append] at l2
    rw [← e10] at l3
    obtain ⟨k10, _, _⟩ := tk_back (r := N.s.r) (e := N.s.e) (.inr (.inl rfl)) b9 l3
    have z9 := tk_e (r := N.s.r) (w := 2) l3
    obtain ⟨na, n1, n2, n3, n4, _⟩ := nd_back c.toNat s8 [] b8 (by rw [e9]; exact z9)
    rw [e9] at n4 n2
    rw [List.nil_append] at n2
    rw [← e8] at n3
    obtain ⟨k8, _, _⟩ := tk_back (r := s7.r) (e := s7.e) (.inl rfl) b7 n3
    have z7 := tk_e (r := s7.r) (w := 1) n3
    rw [← e7] at z7
    obtain ⟨k7, _, _⟩ := tk_back (r := s6.r) (e := s6.e) (.inr (.inr rfl)) b6 z7
    have z6 := tk_e (r := s6.r) (w := 4) z7
    rw [← e6] at z6
    obtain ⟨k6, _, _⟩ := tk_back (r := s5.r) (e := s5.e) (.inl rfl) b5 z6
    have z5 := tk_e (r := s5.r) (w := 1) z6
    rw [← e5] at z5
    obtain ⟨k5, _, _⟩ := tk_back (r := s4.r) (e := s4.e) (.inl rfl) b4 z5
    have z4 := tk_e (r := s4.r) (w := 1) z5
    rw [← e4] at z4
    obtain ⟨k4, _, _⟩ := tk_back (r := s3.r) (e := s3.e) (.inl rfl) b3 z4
    have z3 := tk_e (r := s3.r) (w := 1) z4
    rw [← e3] at z3
    obtain ⟨k3, _, _⟩ := tk_back (r := s2.r) (e := s2.e) (.inl rfl) b2 z3
    have z2 := tk_e (r := s2.r) (w := 1) z3
    rw [← e2] at z2
    obtain ⟨k2, _, _⟩ := tk_back (r := s1.r) (e := s1.e) (.inr (.inr rfl)) b1 z2
    have z1 := tk_e (r := s1.r) (w := 4) z2
    rw [← e1] at z1
    obtain ⟨k1, _, _⟩ := tk_back (r := s0.r) (e := s0.e) (.inl rfl) hb0 z1
    refine ⟨_, q3, ?_⟩
    unfold encW
    rw [if_pos q3, enc_flat (may_fit q3)]
    unfold flat
    simp only
    have hcn : ((N.n.length : Nat) : Int) = c := by
      have := tkN_bd (decide_eq_true b7) s7.e 1 (.inl rfl)
      have t : tkN s7.r s7.e 1 = c := hc
      rw [n2, n1]
      omega
    have hcl : ((L.l.length : Nat) : Int) = c2 := by
      have := tkN_bd (decide_eq_true b9) N.s.e 2 (.inr rfl)
      have t : tkN N.s.r N.s.e 2 = c2 := hc2
      rw [l2, l1]
      omega
    have f1 : s0.r = numL (tn s0 1) 1 ++ s1.r := by rw [← e1]; exact k1
    have f2 : s1.r = numL (tn s1 4) 4 ++ s2.r := by rw [← e2]; exact k2
    have f3 : s2.r = numL (tn s2 1) 1 ++ s3.r := by rw [← e3]; exact k3
    have f4 : s3.r = numL (tn s3 1) 1 ++ s4.r := by rw [← e4]; exact k4
    have f5 : s4.r = numL (tn s4 1) 1 ++ s5.r := by rw [← e5]; exact k5
    have f6 : s5.r = numL (tn s5 1) 1 ++ s6.r := by rw [← e6]; exact k6
    have f7 : s6.r = numL (tn s6 4) 4 ++ s7.r := by rw [← e7]; exact k7
    have f8 : s7.r = numL c 1 ++ s8.r := by rw [← e8, ← hc]; exact k8
    have f10 : N.s.r = numL c2 2 ++ s10.r := by rw [← e10, ← hc2]; exact k10
    rw [hcn, hcl, ← r0, f1, f2, f3, f4, f5, f6, f7, f8, n4, f10, l4, n2, l2]
  · rw [if_neg q] at h
    exact absurd rfl h
theorem dec_cases {b : List Int} (hb : byB b = true) : (∃ w, mayW w = true ∧ encW w = b ∧ decW b = ⟨cW w, 0⟩ ∧ rdecW b = ⟨cW w, true⟩) ∨ (decW b = ⟨zW, 5⟩ ∧ rdecW b = ⟨zW, false⟩) := by
  by_cases h : ∃ w, mayW w = true ∧ encW w = b
  · obtain ⟨w, h1, h2⟩ := h
    obtain ⟨a, c⟩ := dec_enc h1
    rw [h2] at a c
    exact .inl ⟨w, h1, h2, a, c⟩
  · right
    constructor
    · by_cases q : decW b = ⟨zW, 5⟩
      · exact q
      · exact absurd (dec_back hb q) h
    · have key : ∀ (w : WD) (s : RS), rfin b w s = ⟨zW, false⟩ := by
        intro w s
        unfold rfin
        rw [if_neg fun q => h ⟨w, q.2⟩]
      exact key _ _
end Go.Proofs.Ytnfkphekkpigpaa.WoT
