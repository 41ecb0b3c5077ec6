/-
  The view of two: it may be, its links are those of both, and the order does not matter. No condition.
-/
import Derived.Test.YtfioaidmgcibaaaMgR
import Derived.Test.YtfioaidmgcibaaaViM
import Derived.Test.YtfioaidmgcibaaaViS
namespace Go.Proofs.Ytfioaidmgcibaaa.MgT
open Go Go.Proofs.Ytfioaidmgcibaaa.Ry Go.Proofs.Ytfioaidmgcibaaa.ViR Go.Proofs.Ytfioaidmgcibaaa.ViC Go.Proofs.Ytfioaidmgcibaaa.ViS Go.Proofs.Ytfioaidmgcibaaa.ViL Go.Proofs.Ytfioaidmgcibaaa.ViT Go.Proofs.Ytfioaidmgcibaaa.ViM Go.Proofs.Ytfioaidmgcibaaa.MgR

/-- Lists in one order, of the same, are one. -/
theorem pw_ext {α : Type} {R : α → α → Prop} (asym : ∀ x y, R x y → R y x → False) : ∀ {p q : List α}, p.Pairwise R → q.Pairwise R → (∀ x, x ∈ p ↔ x ∈ q) → p = q
  | [], [], _, _, _ => rfl
  | [], y :: q, _, _, h => absurd ((h y).2 (List.mem_cons_self ..)) List.not_mem_nil
  | x :: p, [], _, _, h => absurd ((h x).1 (List.mem_cons_self ..)) List.not_mem_nil
  | x :: p, y :: q, hp, hq, h => by
    obtain ⟨p1, p2⟩ := List.pairwise_cons.1 hp
    obtain ⟨q1, q2⟩ := List.pairwise_cons.1 hq
    have e : x = y := by
      rcases List.mem_cons.1 ((h x).1 (List.mem_cons_self ..)) with e | hx
      · exact e
      · rcases List.mem_cons.1 ((h y).2 (List.mem_cons_self ..)) with e | hy
        · exact e.symm
        · exact (asym _ _ (p1 y hy) (q1 x hx)).elim
    subst e
    congr 1
    refine pw_ext asym p2 q2 fun z => ⟨fun hz => ?_, fun hz => ?_⟩
    · rcases List.mem_cons.1 ((h z).1 (List.mem_cons_of_mem _ hz)) with e | hz'
      · rw [e] at hz
        exact (asym _ _ (p1 x hz) (p1 x hz)).elim
      · exact hz'
    · rcases List.mem_cons.1 ((h z).2 (List.mem_cons_of_mem _ hz)) with e | hz'
      · rw [e] at hz
        exact (asym _ _ (q1 x hz) (q1 x hz)).elim
      · exact hz'
theorem lt_asym (x y : Int) (h : x < y) (g : y < x) : False := by omega
theorem ln_asym (x y : E) (h : ln x y) (g : ln y x) : False := by unfold ln at *; omega
/-! ## Numbers that rise -/
theorem nod_iff {t : Int} : nodB t = true ↔ 1 ≤ t ∧ t ≤ 64 := by unfold nodB; rw [decide_eq_true_eq]
theorem rise_pw {n : List Int} (h : riseN n = true) : n.Pairwise (· < ·) := by
  rw [List.pairwise_iff_getElem]
  intro i j hi hj hij
  have := rise_lt h j i hij hj
  rw [at_list n _ hi, at_list n _ hj] at this
  exact this
theorem rise_mem {n : List Int} (h : riseN n = true) {t : Int} (ht : t ∈ n) : 1 ≤ t ∧ t ≤ 64 := nod_iff.1 (rise_node h t (List.contains_iff_mem.2 ht))
theorem rise_of {n : List Int} (h : n.Pairwise (· < ·)) (g : ∀ t ∈ n, 1 ≤ t ∧ t ≤ 64) : riseN n = true := by
  rw [rise_iff]
  intro i hi
  rw [List.pairwise_iff_getElem] at h
  refine ⟨?_, fun h0 => ?_⟩
  · rw [at_list n _ hi]
    exact nod_iff.2 (g _ (List.getElem_mem hi))
  · rw [at_list n _ hi, at_list n _ (show i - 1 < n.length by omega)]
    exact h (i - 1) i (by omega) hi (by omega)
theorem com_iff {n k : List Int} : comB n k = true ↔ ∃ x, x ∈ n ∧ x ∈ k := by
  unfold comB
  rw [List.any_eq_true]
  simp only [List.contains_iff_mem]
theorem com_no {n k : List Int} : comB n k = false ↔ ∀ x, x ∈ n → x ∈ k → False := by
  rw [← Bool.not_eq_true, com_iff]
  exact ⟨fun h x a b => h ⟨x, a, b⟩, fun h ⟨x, a, b⟩ => h x a b⟩
theorem com_eq {n k : List Int} (hn : riseN n = true) : comB n k = cmB n k := by
  rw [Bool.eq_iff_iff, com_iff]
  unfold cmB
  rw [List.any_eq_true]
  unfold bothB
  simp only [Bool.and_eq_true, List.contains_iff_mem]
  constructor
  · rintro ⟨x, a, b⟩
    obtain ⟨h1, h2⟩ := rise_mem hn a
    refine ⟨(x - 1).toNat, List.mem_range.2 (by omega), ?_⟩
    rw [show (((x - 1).toNat : Nat) : Int) + 1 = x by omega]
    exact ⟨a, b⟩
  · rintro ⟨j, _, a, b⟩
    exact ⟨_, a, b⟩
theorem srt_mem (n k : List Int) (x : Int) : x ∈ SoI.srtI (n ++ k) ↔ x ∈ n ∨ x ∈ k := by
  rw [(SoI.srtI_all (n ++ k)).2.1.mem_iff, List.mem_append]
theorem srt_pw {n k : List Int} (hn : riseN n = true) (hk : riseN k = true) (h : comB n k = false) : (SoI.srtI (n ++ k)).Pairwise (· < ·) := by
  obtain ⟨_, hp, hs⟩ := SoI.srtI_all (n ++ k)
  have nd : (n ++ k).Pairwise (· ≠ ·) := by
    rw [List.pairwise_append]
    refine ⟨(rise_pw hn).imp fun {a b} g => by omega, (rise_pw hk).imp fun {a b} g => by omega, fun a ha b hb e => ?_⟩
    subst e
    exact com_no.1 h a ha hb
  have nd2 : (SoI.srtI (n ++ k)).Pairwise (· ≠ ·) := (hp.pairwise_iff fun {x y} g => g.symm).2 nd
  exact (hs.and nd2).imp fun {a b} g => by omega
theorem mgN_mem {n k : List Int} (hn : riseN n = true) (hk : riseN k = true) (x : Int) : x ∈ mgN n k 64 ↔ x ∈ n ∨ x ∈ k := by
  unfold mgN
  rw [List.mem_flatMap]
  unfold oneB
  constructor
  · rintro ⟨j, _, g⟩
    split at g
    · rename_i c
      rw [List.mem_singleton] at g
      subst g
      rw [Bool.or_eq_true, List.contains_iff_mem, List.contains_iff_mem] at c
      exact c
    · cases g
  · intro g
    have hx : 1 ≤ x ∧ x ≤ 64 := g.elim (rise_mem hn) (rise_mem hk)
    refine ⟨(x - 1).toNat, List.mem_range.2 (by omega), ?_⟩
    rw [show (((x - 1).toNat : Nat) : Int) + 1 = x by omega, if_pos (by rw [Bool.or_eq_true, List.contains_iff_mem, List.contains_iff_mem]; exact g)]
    exact List.mem_singleton.2 rfl
theorem range_pw (t : Nat) : (List.range t).Pairwise (· < ·) := List.pairwise_lt_range
theorem mgN_pw (n k : List Int) (t : Nat) : (mgN n k t).Pairwise (· < ·) := by
  unfold mgN
  rw [List.pairwise_flatMap]
  refine ⟨fun j _ => by split <;> simp, (range_pw t).imp fun {a b} h x hx y hy => ?_⟩
  split at hx
  · split at hy
    · rw [List.mem_singleton] at hx hy
      omega
    · cases hy
  · cases hx
theorem nodes_eq {n k : List Int} (hn : riseN n = true) (hk : riseN k = true) (h : comB n k = false) : SoI.srtI (n ++ k) = mgN n k 64 :=
  pw_ext lt_asym (srt_pw hn hk h) (mgN_pw n k 64) fun x => by rw [srt_mem, mgN_mem hn hk]
/-! ## Links -/
theorem may_of {n : List Int} {l : List E} (hn : riseN n = true) (hp : l.Pairwise ln) (g : ∀ y ∈ l, mb1 y = true ∧ n.contains (ri y 0) = true) : mayV n l = true := by
  unfold mayV
  rw [Bool.and_eq_true]
  refine ⟨hn, all_iff.2 fun i hi => ?_⟩
  rw [List.pairwise_iff_getElem] at hp
  unfold okL
  rw [decide_eq_true_eq]
  have := g _ (List.getElem_mem hi)
  rw [at_rec l _ hi]
  refine ⟨this.1, this.2, fun h0 => ?_⟩
  rw [at_rec l _ (show i - 1 < l.length by omega)]
  exact (kcm_lt _ _ _ _).2 (hp (i - 1) i (by omega) hi (by omega))
theorem may_mem {n : List Int} {l : List E} (h : mayV n l = true) {y : E} (hy : y ∈ l) : mb1 y = true ∧ ri y 0 ∈ n := by
  obtain ⟨i, hi, rfl⟩ := List.getElem_of_mem hy
  have := may_l h i hi
  rw [at_rec l _ hi] at this
  exact ⟨this.1, List.contains_iff_mem.1 this.2.1⟩
def kne (x y : E) : Prop := ¬ (ri x 0 = ri y 0 ∧ ri x 1 = ri y 1)
theorem both_kne {n k : List Int} {l q : List E} (h1 : mayV n l = true) (h2 : mayV k q = true) (hc : comB n k = false) : (l ++ q).Pairwise kne := by
  rw [List.pairwise_append]
  refine ⟨(may_pw h1).imp fun {a b} g => by unfold ln at g; unfold kne; omega, (may_pw h2).imp fun {a b} g => by unfold ln at g; unfold kne; omega, fun a ha b hb e => ?_⟩
  have := (may_mem h2 hb).2
  rw [← e.1] at this
  exact com_no.1 hc _ (may_mem h1 ha).2 this
theorem srtV_mem (l : List E) (y : E) : y ∈ SoK.srtV l ↔ y ∈ l := (SoK.srtV_all l).2.1.mem_iff
theorem srtV_pw {l : List E} (h : l.Pairwise kne) : (SoK.srtV l).Pairwise ln := by
  obtain ⟨_, hp, hs⟩ := SoK.srtV_all l
  have k2 : (SoK.srtV l).Pairwise kne := (hp.pairwise_iff fun {x y} g => by unfold kne at *; omega).2 h
  exact (hs.and k2).imp fun {a b} g => by
    obtain ⟨g1, g2⟩ := g
    unfold kne at g2
    unfold ln
    omega
/-- The view of two may be. -/
theorem me_may {n k : List Int} {l q : List E} (h1 : mayV n l = true) (h2 : mayV k q = true) (hc : comB n k = false) : mayV (SoI.srtI (n ++ k)) (SoK.srtV (l ++ q)) = true := by
  refine may_of (rise_of (srt_pw (may_n h1) (may_n h2) hc) fun t ht => ?_) (srtV_pw (both_kne h1 h2 hc)) fun y hy => ?_
  · rcases (srt_mem n k t).1 ht with g | g
    · exact rise_mem (may_n h1) g
    · exact rise_mem (may_n h2) g
  · rw [List.contains_iff_mem, srt_mem]
    rcases List.mem_append.1 ((srtV_mem _ _).1 hy) with g | g
    · exact ⟨(may_mem h1 g).1, .inl (may_mem h1 g).2⟩
    · exact ⟨(may_mem h2 g).1, .inr (may_mem h2 g).2⟩
def lnK (x y : Int × Int × Int × Int × Bool) : Prop := x.1 < y.1 ∨ x.1 = y.1 ∧ x.2.1 < y.2.1
theorem lnK_asym (x y : Int × Int × Int × Int × Bool) (h : lnK x y) (g : lnK y x) : False := by unfold lnK at *; omega
theorem e5_k (y : E) : kT (e5 y) = kT y := rfl
theorem mg1_mem {a : Int} {y t : E} : t ∈ mg1 a y ↔ ri y 0 = a ∧ t = e5 y := by
  unfold mg1
  split
  · rename_i h
    rw [List.mem_singleton]
    exact ⟨fun e => ⟨h, e⟩, fun e => e.2⟩
  · rename_i h
    exact ⟨fun e => absurd e List.not_mem_nil, fun e => absurd e.1 h⟩
theorem mgL_mem {l q : List E} (h1 : ∀ y ∈ l, 1 ≤ ri y 0 ∧ ri y 0 ≤ 64) (h2 : ∀ y ∈ q, 1 ≤ ri y 0 ∧ ri y 0 ≤ 64) (t : E) : t ∈ mgL l q 64 ↔ ∃ y, (y ∈ l ∨ y ∈ q) ∧ t = e5 y := by
  unfold mgL
  rw [List.mem_flatMap]
  unfold mg2
  constructor
  · rintro ⟨j, _, g⟩
    rw [List.mem_append, List.mem_flatMap, List.mem_flatMap] at g
    rcases g with ⟨y, hy, g⟩ | ⟨y, hy, g⟩
    · exact ⟨y, .inl hy, (mg1_mem.1 g).2⟩
    · exact ⟨y, .inr hy, (mg1_mem.1 g).2⟩
  · rintro ⟨y, hy, rfl⟩
    have hb : 1 ≤ ri y 0 ∧ ri y 0 ≤ 64 := hy.elim (h1 y) (h2 y)
    refine ⟨(ri y 0 - 1).toNat, List.mem_range.2 (by omega), ?_⟩
    rw [show (((ri y 0 - 1).toNat : Nat) : Int) + 1 = ri y 0 by omega, List.mem_append, List.mem_flatMap, List.mem_flatMap]
    rcases hy with g | g
    · exact .inl ⟨y, g, mg1_mem.2 ⟨rfl, rfl⟩⟩
    · exact .inr ⟨y, g, mg1_mem.2 ⟨rfl, rfl⟩⟩
theorem fm_pw {a : Int} {l : List E} (h : l.Pairwise ln) : (l.flatMap (mg1 a)).Pairwise fun x y => lnK (kT x) (kT y) := by
  rw [List.pairwise_flatMap]
  refine ⟨fun y _ => by unfold mg1; split <;> simp, h.imp fun {x y} g s hs t ht => ?_⟩
  rw [(mg1_mem.1 hs).2, (mg1_mem.1 ht).2, e5_k, e5_k]
  exact g
theorem mgL_pw {n k : List Int} {l q : List E} (h1 : mayV n l = true) (h2 : mayV k q = true) (hc : comB n k = false) (t : Nat) : (mgL l q t).Pairwise fun x y => lnK (kT x) (kT y) := by
  unfold mgL
  rw [List.pairwise_flatMap]
  have own : ∀ {a : Int} {x : E}, x ∈ mg2 l q a → (kT x).1 = a := fun {a x} hx => by
    unfold mg2 at hx
    rw [List.mem_append, List.mem_flatMap, List.mem_flatMap] at hx
    rcases hx with ⟨y, _, g⟩ | ⟨y, _, g⟩
    · rw [(mg1_mem.1 g).2]
      exact (mg1_mem.1 g).1
    · rw [(mg1_mem.1 g).2]
      exact (mg1_mem.1 g).1
  refine ⟨fun j _ => ?_, (range_pw t).imp fun {a b} h x hx y hy => .inl (by rw [own hx, own hy]; omega)⟩
  unfold mg2
  rw [List.pairwise_append]
  refine ⟨fm_pw (may_pw h1), fm_pw (may_pw h2), fun x hx y hy => ?_⟩
  obtain ⟨x', hx', gx⟩ := List.mem_flatMap.1 hx
  obtain ⟨y', hy', gy⟩ := List.mem_flatMap.1 hy
  have a1 := (may_mem h1 hx').2
  have a2 := (may_mem h2 hy').2
  rw [(mg1_mem.1 gx).1] at a1
  rw [(mg1_mem.1 gy).1] at a2
  exact (com_no.1 hc _ a1 a2).elim
theorem mb_nod {y : E} (h : mb1 y = true) : 1 ≤ ri y 0 ∧ ri y 0 ≤ 64 := by
  unfold mb1 mbB at h
  rw [decide_eq_true_eq] at h
  exact nod_iff.1 h.1
theorem links_eq {n k : List Int} {l q : List E} (h1 : mayV n l = true) (h2 : mayV k q = true) (hc : comB n k = false) : sameK (SoK.srtV (l ++ q)) (mgL l q 64) = true := by
  unfold sameK
  rw [decide_eq_true_eq]
  refine pw_ext lnK_asym ?_ ?_ fun t => ?_
  · rw [List.pairwise_map]
    exact srtV_pw (both_kne h1 h2 hc)
  · rw [List.pairwise_map]
    exact mgL_pw h1 h2 hc 64
  · rw [List.mem_map, List.mem_map]
    constructor
    · rintro ⟨y, hy, rfl⟩
      refine ⟨e5 y, (mgL_mem (fun y g => mb_nod (may_mem h1 g).1) (fun y g => mb_nod (may_mem h2 g).1) _).2 ⟨y, ?_, rfl⟩, e5_k y⟩
      exact List.mem_append.1 ((srtV_mem _ _).1 hy)
    · rintro ⟨y, hy, rfl⟩
      obtain ⟨z, hz, rfl⟩ := (mgL_mem (fun y g => mb_nod (may_mem h1 g).1) (fun y g => mb_nod (may_mem h2 g).1) _).1 hy
      exact ⟨z, (srtV_mem _ _).2 (List.mem_append.2 hz), e5_k z⟩
theorem ok_iff {n k : List Int} {l q : List E} : okM n l k q = true ↔ mayV n l = true ∧ mayV k q = true ∧ comB n k = false := by
  unfold okM
  rw [Bool.and_eq_true, Bool.and_eq_true, Bool.not_eq_true', and_assoc]
/-- What the code makes is what the document asks. -/
theorem me_same {n k : List Int} {l q : List E} (h1 : mayV n l = true) (h2 : mayV k q = true) : sameV (meN n l k q) (meL n l k q) (mgO n k) (mgP n k l q) = true ∧ meE n l k q = (if cmB n k = true then 11 else 0) := by
  have hc := com_eq (k := k) (may_n h1)
  refine ⟨?_, ?_⟩
  · unfold sameV meN meL mgO mgP
    rw [← hc]
    cases h : comB n k with
    | true =>
      have ho : ¬ okM n l k q = true := fun g => by rw [(ok_iff.1 g).2.2] at h; cases h
      rw [if_neg ho, if_neg ho, if_pos rfl, if_pos rfl]
      rfl
    | false =>
      have ho : okM n l k q = true := ok_iff.2 ⟨h1, h2, h⟩
      rw [if_pos ho, if_pos ho, if_neg (by decide), if_neg (by decide), Bool.and_eq_true]
      exact ⟨decide_eq_true (nodes_eq (may_n h1) (may_n h2) h), links_eq h1 h2 h⟩
  · unfold meE
    rw [h1, h2, hc]
    rfl
theorem me_none {n k : List Int} {l q : List E} (h : ¬ (mayV n l = true ∧ mayV k q = true)) : meN n l k q = [] ∧ meL n l k q = [] ∧ meE n l k q = 1 := by
  have ho : ¬ okM n l k q = true := fun g => h ⟨(ok_iff.1 g).1, (ok_iff.1 g).2.1⟩
  exact ⟨if_neg ho, if_neg ho, if_neg (by rw [Bool.and_eq_true]; exact h)⟩
theorem me_len (n k : List Int) (l q : List E) : (meN n l k q).length ≤ n.length + k.length ∧ (meL n l k q).length ≤ l.length + q.length := by
  unfold meN meL
  split
  · rw [(SoI.srtI_all _).1, (SoK.srtV_all _).1, List.length_append, List.length_append]
    exact ⟨Nat.le_refl _, Nat.le_refl _⟩
  · exact ⟨Nat.zero_le _, Nat.zero_le _⟩
theorem mg_lens {n k : List Int} {l q : List E} (h1 : mayV n l = true) (h2 : mayV k q = true) : (mgO n k).length ≤ n.length + k.length ∧ (mgP n k l q).length ≤ l.length + q.length := by
  obtain ⟨h, _⟩ := me_same h1 h2
  unfold sameV sameI sameK at h
  rw [Bool.and_eq_true, decide_eq_true_eq, decide_eq_true_eq] at h
  have e := congrArg List.length h.2
  rw [List.length_map, List.length_map] at e
  rw [← h.1, ← e]
  exact me_len n k l q
theorem me_0 {n k : List Int} {l q : List E} : meE n l k q = 0 ↔ okM n l k q = true := by
  unfold meE okM
  cases mayV n l <;> cases mayV k q <;> cases comB n k <;> simp
/-! ## In any order -/
theorem srtI_eq {p q : List Int} (h : p.Pairwise (· ≠ ·)) (h' : q.Pairwise (· ≠ ·)) (e : ∀ x, x ∈ p ↔ x ∈ q) : SoI.srtI p = SoI.srtI q := by
  have pw : ∀ {p : List Int}, p.Pairwise (· ≠ ·) → (SoI.srtI p).Pairwise (· < ·) := fun {p} h => by
    obtain ⟨_, hp, hs⟩ := SoI.srtI_all p
    have nd2 : (SoI.srtI p).Pairwise (· ≠ ·) := (hp.pairwise_iff fun {x y} g => g.symm).2 h
    exact (hs.and nd2).imp fun {a b} g => by omega
  exact pw_ext lt_asym (pw h) (pw h') fun x => by rw [(SoI.srtI_all p).2.1.mem_iff, (SoI.srtI_all q).2.1.mem_iff, e]
theorem ne_of {n k : List Int} (hn : n.Pairwise (· < ·)) (hk : k.Pairwise (· < ·)) (h : comB n k = false) : (n ++ k).Pairwise (· ≠ ·) := by
  rw [List.pairwise_append]
  refine ⟨hn.imp fun {a b} g => by omega, hk.imp fun {a b} g => by omega, fun a ha b hb e => ?_⟩
  subst e
  exact com_no.1 h a ha hb
theorem com_sym (n k : List Int) : comB n k = comB k n := by
  rw [Bool.eq_iff_iff, com_iff, com_iff]
  exact ⟨fun ⟨x, a, b⟩ => ⟨x, b, a⟩, fun ⟨x, a, b⟩ => ⟨x, b, a⟩⟩
theorem com_l {a b c : List Int} (h : comB b c = false) : comB (SoI.srtI (a ++ b)) c = comB a c := by
  rw [Bool.eq_iff_iff, com_iff, com_iff]
  constructor
  · rintro ⟨x, hx, hc⟩
    rcases (srt_mem a b x).1 hx with g | g
    · exact ⟨x, g, hc⟩
    · exact (com_no.1 h x g hc).elim
  · rintro ⟨x, hx, hc⟩
    exact ⟨x, (srt_mem a b x).2 (.inl hx), hc⟩
theorem com_r {a b c : List Int} (h : comB a b = false) : comB a (SoI.srtI (b ++ c)) = comB a c := by
  rw [Bool.eq_iff_iff, com_iff, com_iff]
  constructor
  · rintro ⟨x, hx, hc⟩
    rcases (srt_mem b c x).1 hc with g | g
    · exact (com_no.1 h x hx g).elim
    · exact ⟨x, hx, g⟩
  · rintro ⟨x, hx, hc⟩
    exact ⟨x, hx, (srt_mem b c x).2 (.inr hc)⟩
theorem srtV_eq {p q : List E} (h : p.Pairwise kne) (h' : q.Pairwise kne) (e : ∀ x, x ∈ p ↔ x ∈ q) : SoK.srtV p = SoK.srtV q :=
  pw_ext ln_asym (srtV_pw h) (srtV_pw h') fun x => by rw [srtV_mem, srtV_mem, e]
/-- The views of three. -/
theorem me_three {a b c : List Int} {l p q : List E} (h1 : okM a l b p = true) (h2 : okM b p c q = true) :
    meE (meN a l b p) (meL a l b p) c q = meE a l (meN b p c q) (meL b p c q) ∧ meN (meN a l b p) (meL a l b p) c q = meN a l (meN b p c q) (meL b p c q) ∧ meL (meN a l b p) (meL a l b p) c q = meL a l (meN b p c q) (meL b p c q) ∧
    meE b p a l = 0 ∧ meN b p a l = meN a l b p ∧ meL b p a l = meL a l b p ∧ mayV a l = true ∧ mayV (meN a l b p) (meL a l b p) = true ∧ ∀ y, y ∈ l → y ∈ meL a l b p := by
  obtain ⟨ma, mb, c1⟩ := ok_iff.1 h1
  obtain ⟨_, mc, c2⟩ := ok_iff.1 h2
  have c1' := c1
  rw [com_sym] at c1'
  have hba : okM b p a l = true := ok_iff.2 ⟨mb, ma, c1'⟩
  have e1 : meN a l b p = SoI.srtI (a ++ b) := if_pos h1
  have e2 : meL a l b p = SoK.srtV (l ++ p) := if_pos h1
  have e3 : meN b p c q = SoI.srtI (b ++ c) := if_pos h2
  have e4 : meL b p c q = SoK.srtV (p ++ q) := if_pos h2
  have m1 := me_may ma mb c1
  have m2 := me_may mb mc c2
  have n1 : SoI.srtI (b ++ a) = SoI.srtI (a ++ b) := srtI_eq (ne_of (rise_pw (may_n mb)) (rise_pw (may_n ma)) c1') (ne_of (rise_pw (may_n ma)) (rise_pw (may_n mb)) c1) fun x => by rw [List.mem_append, List.mem_append, or_comm]
  have n2 : SoK.srtV (p ++ l) = SoK.srtV (l ++ p) := srtV_eq (both_kne mb ma c1') (both_kne ma mb c1) fun x => by rw [List.mem_append, List.mem_append, or_comm]
  have e5 : meN b p a l = SoI.srtI (b ++ a) := if_pos hba
  have e6 : meL b p a l = SoK.srtV (p ++ l) := if_pos hba
  rw [e1, e2, e3, e4, e5, e6]
  have d1 := com_l (a := a) c2
  have d2 := com_r (c := c) c1
  have k1 : okM (SoI.srtI (a ++ b)) (SoK.srtV (l ++ p)) c q = okM a l (SoI.srtI (b ++ c)) (SoK.srtV (p ++ q)) := by
    unfold okM
    rw [m1, m2, ma, mc, d1, d2]
  have k2 : meE (SoI.srtI (a ++ b)) (SoK.srtV (l ++ p)) c q = meE a l (SoI.srtI (b ++ c)) (SoK.srtV (p ++ q)) := by
    unfold meE
    rw [m1, m2, ma, mc, d1, d2]
  refine ⟨k2, ?_, ?_, me_0.2 hba, n1, n2, ma, m1, fun y hy => (srtV_mem _ _).2 (List.mem_append.2 (.inl hy))⟩
  · unfold meN
    rw [k1]
    split
    · rename_i hk
      obtain ⟨_, _, c4⟩ := ok_iff.1 hk
      rw [← k1] at hk
      obtain ⟨_, _, c3⟩ := ok_iff.1 hk
      refine srtI_eq (ne_of (rise_pw (may_n m1)) (rise_pw (may_n mc)) c3) (ne_of (rise_pw (may_n ma)) (rise_pw (may_n m2)) c4) fun x => ?_
      rw [List.mem_append, List.mem_append, srt_mem, srt_mem, or_assoc]
    · rfl
  · unfold meL
    rw [k1]
    split
    · rename_i hk
      obtain ⟨_, _, c4⟩ := ok_iff.1 hk
      rw [← k1] at hk
      obtain ⟨_, _, c3⟩ := ok_iff.1 hk
      refine srtV_eq (both_kne m1 mc c3) (both_kne ma m2 c4) fun x => ?_
      rw [List.mem_append, List.mem_append, srtV_mem, srtV_mem, List.mem_append, List.mem_append, or_assoc]
    · rfl
/-- Inner links of a part are inner links of the whole. -/
theorem in_part {n k : List Int} {l q : List E} (h1 : mayV n l = true) (h2 : mayV k q = true) (hs : ∀ y, y ∈ l → y ∈ q) {t : E} (ht : t ∈ inV n l) : t ∈ inV k q := by
  have e1 : inV n l = rinF l := by rw [in_eq h1]; exact if_pos h1
  have e2 : inV k q = rinF q := by rw [in_eq h2]; exact if_pos h2
  rw [e1] at ht
  rw [e2]
  unfold rinF at *
  rw [List.mem_flatMap] at *
  obtain ⟨y, hy, g⟩ := ht
  rw [List.mem_flatMap] at g
  obtain ⟨z, hz, g⟩ := g
  exact ⟨y, hs y hy, List.mem_flatMap.2 ⟨z, hs z hz, g⟩⟩
end Go.Proofs.Ytfioaidmgcibaaa.MgT
