/-
  Two lines and what is on both ways, in theory: whatever is done, what came of a session is a beginning of what was pushed in it. No condition.
-/
import Derived.Test.YtakebkfhigadiaaLcT
namespace Go.Proofs.Ytakebkfhigadiaa.LcP
open Go Go.Proofs.Ytakebkfhigadiaa.Ry Go.Proofs.Ytakebkfhigadiaa.HaR Go.Proofs.Ytakebkfhigadiaa.FrR Go.Proofs.Ytakebkfhigadiaa.LiR Go.Proofs.Ytakebkfhigadiaa.LcT
open Go.Proofs.Ytakebkfhigadiaa.SeT (byS)

structure PR where
  a : LN
  d : LN
  u : List E
  v : List E
  m : List (Int × Int)
  k : List (Int × Int)
def nf (f : E) : E := [.int (ri f 0), .int (ri f 1), .int (ri f 2), .int (ri f 3), .ints (rl f 4)]
def rsW (w : List E) (k : Int) : List E := w.take k.toNat ++ w.drop (k + 1).toNat
/-- What is on a way behind an act, and whether a frame comes. -/
def wyW (w : List E) (kd k : Int) : List E := if kd = 2 ∨ kd = 3 then rsW w k else if kd = 4 then w ++ [nf (w.getD k.toNat [])] else rsW w k ++ [nf (w.getD k.toNat [])]
def nw0 (st : PR) (r : LD) : PR := ⟨r.x, st.d, st.u ++ r.y.f, st.v, st.m, st.k⟩
def kcF (st : PR) (r : LD) : List (Int × Int) := if r.y.g.length = 0 then st.k else mput st.k r.x.c (mget st.k r.x.c + 1)
def nw1 (st : PR) (r : LD) : PR := ⟨st.a, r.x, st.u, st.v ++ r.y.f, st.m, kcF st r⟩
def hrL (x : LN) (f : E) : LD := hearL x (ri f 0) (ri f 1) (ri f 2) (ri f 3) (rl f 4) 99
def psL (all : List E) (st : PR) : LD := pushL st.a (rl (all.getD (mget st.m st.a.c).toNat []) 0) 2147483647
def puP (all : List E) (st : PR) : PR := if st.a.c = 0 ∨ all.length ≤ mget st.m st.a.c then st else nw0 ⟨st.a, st.d, st.u, st.v, mput st.m st.a.c (mget st.m st.a.c + 1), st.k⟩ (psL all st)
def ac0 (all : List E) (kd n : Int) (st : PR) : PR :=
  if kd = 1 then nw0 (nw0 st (tikL st.a 99)) (fluL (tikL st.a 99).x)
  else if kd = 9 then nw0 st (cloL st.a 99)
  else if kd = 8 then puP all st
  else if st.u.length = 0 ∨ kd < 2 ∨ 5 < kd then st
  else if kd = 2 then nw1 ⟨st.a, st.d, wyW st.u kd n, st.v, st.m, st.k⟩ (hrL st.d (st.u.getD n.toNat []))
  else ⟨st.a, st.d, wyW st.u kd n, st.v, st.m, st.k⟩
def ac1 (all : List E) (kd n : Int) (st : PR) : PR :=
  if kd = 1 then nw1 (nw1 st (tikL st.d 99)) (fluL (tikL st.d 99).x)
  else if kd = 9 then nw1 st (cloL st.d 99)
  else if kd = 8 then puP all st
  else if st.v.length = 0 ∨ kd < 2 ∨ 5 < kd then st
  else if kd = 2 then nw0 ⟨st.a, st.d, st.u, wyW st.v kd n, st.m, st.k⟩ (hrL st.a (st.v.getD n.toNat []))
  else ⟨st.a, st.d, st.u, wyW st.v kd n, st.m, st.k⟩
def PI (all : List E) (st : PR) : Prop := A0 all st.m st.a ∧ A0 [] [] st.d ∧ T1 st.k st.d ∧ MOk all st.m ∧ (∀ f ∈ st.u, FrG all st.m st.a.l f) ∧ ∀ f ∈ st.v, FrG [] [] st.d.l f
/-- What is told of payloads that come in. -/
def AllOk (all : List E) : Prop := (∀ i : Nat, i < all.length → (rl (all.getD i []) 0).length ≤ 16384) ∧ ∀ i : Nat, i < all.length → ∀ y ∈ rl (all.getD i []) 0, 0 ≤ y ∧ y ≤ 255
theorem fr_nf {all : List E} {m : List (Int × Int)} {L : Int} {f : E} (h : FrG all m L f) : FrG all m L (nf f) := h
theorem mok0 : MOk [] [] := ⟨by decide, fun _ => ⟨Int.le_refl 0, Int.le_refl 0⟩⟩
theorem fr_no3 {L : Int} {f : E} (h : FrG [] [] L f) : ri f 0 ≠ 3 := fun e => by
  obtain ⟨_, _, a, b, _⟩ := h.2.2 e
  have : mget [] (ri f 1) = 0 := rfl
  omega
theorem fr_app {all : List E} {m : List (Int × Int)} {L : Int} {w g : List E} (h1 : ∀ f ∈ w, FrG all m L f) (h2 : ∀ f ∈ g, FrG all m L f) : ∀ f ∈ w ++ g, FrG all m L f := fun f hf => (List.mem_append.1 hf).elim (h1 f) (h2 f)
theorem fr_rs {all : List E} {m : List (Int × Int)} {L : Int} {w : List E} (h : ∀ f ∈ w, FrG all m L f) (k : Int) : ∀ f ∈ rsW w k, FrG all m L f := fr_app (fun f hf => h f (List.mem_of_mem_take hf)) fun f hf => h f (List.mem_of_mem_drop hf)
theorem fr_at {all : List E} {m : List (Int × Int)} {L : Int} {w : List E} (h : ∀ f ∈ w, FrG all m L f) {n : Int} (h0 : 0 ≤ n) (h1 : n < w.length) : FrG all m L (w.getD n.toNat []) := by
  have hl : n.toNat < w.length := by omega
  have e : w.getD n.toNat [] = w[n.toNat] := by rw [List.getD_eq_getElem?_getD, List.getElem?_eq_getElem hl]; rfl
  rw [e]
  exact h _ (List.getElem_mem hl)
theorem fr_wy {all : List E} {m : List (Int × Int)} {L : Int} {w : List E} (h : ∀ f ∈ w, FrG all m L f) {n : Int} (h0 : 0 ≤ n) (h1 : n < w.length) (kd : Int) : ∀ f ∈ wyW w kd n, FrG all m L f := by
  have ho : ∀ f ∈ [nf (w.getD n.toNat [])], FrG all m L f := fun f hf => by
    rw [List.mem_singleton] at hf
    subst hf
    exact fr_nf (fr_at h h0 h1)
  unfold wyW
  split
  · exact fr_rs h n
  · split
    · exact fr_app h ho
    · exact fr_app (fr_rs h n) ho
/-- The pusher's news. -/
theorem nw0_ok {all : List E} {st : PR} (h : PI all st) {r : LD} (h1 : A0 all st.m r.x) (hl : st.a.l ≤ r.x.l) (h2 : Nws all st.m r.x.l r) : PI all (nw0 st r) :=
  ⟨h1, h.2.1, h.2.2.1, h.2.2.2.1, fr_app (fun f hf => fr_mono (h.2.2.2.2.1 f hf) hl fun _ => Int.le_refl _) h2.2.2.2, h.2.2.2.2.2⟩
/-- The taker's. -/
theorem nw1_ok {all : List E} {st : PR} (h : PI all st) {r : LD} (h1 : A0 [] [] r.x) (hl : st.d.l ≤ r.x.l) (h2 : ∀ f ∈ r.y.f, FrG [] [] r.x.l f) (ht : T1 (kcF st r) r.x) : PI all (nw1 st r) :=
  ⟨h.1, h1, ht, h.2.2.2.1, h.2.2.2.2.1, fr_app (fun f hf => fr_mono (h.2.2.2.2.2 f hf) hl fun _ => Int.le_refl _) h2⟩
theorem kc_nil {st : PR} {r : LD} (h : r.y.g = []) : kcF st r = st.k := by
  unfold kcF
  rw [h]
  rfl
theorem pu_ok {all : List E} {st : PR} (h : PI all st) (ha : AllOk all) : PI all (puP all st) := by
  unfold puP
  split
  · exact h
  · rename_i hn
    have hc : st.a.c ≠ 0 := fun e => hn (.inl e)
    have hlt : mget st.m st.a.c < all.length := by
      have : ¬ (all.length : Int) ≤ mget st.m st.a.c := fun e => hn (.inr e)
      omega
    obtain ⟨p1, p2, p3, p4, p5, p6⟩ := h
    have hp := fun s => mget_put st.m st.a.c (mget st.m st.a.c + 1) s
    obtain ⟨q1, q2, q3⟩ := push_0 p4 p1 hc hlt ha.1 ha.2 _ hp
    have hmono : ∀ s, mget st.m s ≤ mget (mput st.m st.a.c (mget st.m st.a.c + 1)) s := fun s => by
      rw [hp]
      split
      · rename_i e
        rw [e]
        omega
      · exact Int.le_refl _
    have ql : (psL all st).x.l = st.a.l := q2
    refine ⟨q1, p2, p3, ⟨p4.1, fun s => ?_⟩, fr_app (fun f hf => ?_) fun f hf => ?_, p6⟩
    · show 0 ≤ mget (mput st.m st.a.c (mget st.m st.a.c + 1)) s ∧ mget (mput st.m st.a.c (mget st.m st.a.c + 1)) s ≤ all.length
      rw [hp]
      have := p4.2 s
      have := p4.2 st.a.c
      split <;> omega
    · show FrG all _ (psL all st).x.l f
      rw [ql]
      exact fr_mono (p5 f hf) (Int.le_refl _) hmono
    · show FrG all _ (psL all st).x.l f
      rw [ql]
      exact q3.2.2.2 f hf
theorem ac0_ok {all : List E} {st : PR} (h : PI all st) (ha : AllOk all) (kd : Int) {n : Int} (hn : 2 ≤ kd → kd ≤ 5 → 0 < st.u.length → 0 ≤ n ∧ n < st.u.length) : PI all (ac0 all kd n st) := by
  have h9 := h
  obtain ⟨p1, p2, p3, p4, p5, p6⟩ := h
  unfold ac0
  split
  · obtain ⟨a1, a2, a3, a4⟩ := tik_0 p4 p1
    have k1 := nw0_ok h9 a1 (Int.le_of_eq a2.symm) (by rw [a2]; exact a4)
    obtain ⟨b1, b2, b3, b4⟩ := flu_0 p4 a1
    exact nw0_ok k1 b1 (Int.le_of_eq b2.symm) (by rw [b2]; exact b4)
  · split
    · obtain ⟨a1, a2, a4⟩ := clo_0 p1
      exact nw0_ok h9 a1 (Int.le_of_eq a2.symm) (by rw [a2]; exact a4)
    · split
      · exact pu_ok h9 ha
      · split
        · exact h9
        · rename_i g
          have hn := hn (by omega) (by omega) (by omega)
          have hw := fr_wy p5 hn.1 hn.2 kd
          have k1 : PI all ⟨st.a, st.d, wyW st.u kd n, st.v, st.m, st.k⟩ := ⟨p1, p2, p3, p4, hw, p6⟩
          split
          · have hf := fr_at p5 hn.1 hn.2
            obtain ⟨r1, r2, r3, r4, r5, r6⟩ := hear_1 (L := st.a.l) (all := all) (m := st.m) p2 p3 hf.1 (fun e => by
              obtain ⟨x1, x2, x3, x4, x5⟩ := hf.2.2 e
              exact ⟨x1, x3, x4, x5⟩) (may_h (may_L p1.1).1).1
            refine nw1_ok k1 r1 r2 r5 ?_
            rcases r6 with ⟨g1, g2⟩ | ⟨g1, _, _, g4⟩
            · have g0 : (hrL st.d (st.u.getD n.toNat [])).y.g = [] := g1
              rw [kc_nil g0]
              exact g2
            · unfold kcF
              rw [if_neg (by rw [show (hrL st.d (st.u.getD n.toNat [])).y.g = _ from g1]; simp)]
              exact g4 _ fun z => mget_put _ _ _ _
          · exact k1
theorem ac1_ok {all : List E} {st : PR} (h : PI all st) (ha : AllOk all) (kd : Int) {n : Int} (hn : 2 ≤ kd → kd ≤ 5 → 0 < st.v.length → 0 ≤ n ∧ n < st.v.length) : PI all (ac1 all kd n st) := by
  have h9 := h
  obtain ⟨p1, p2, p3, p4, p5, p6⟩ := h
  unfold ac1
  split
  · obtain ⟨a1, a2, a3, a4⟩ := tik_0 mok0 p2
    have t1 := t1_same p3 (tik_n p2.1).1 (tik_n p2.1).2
    have k1 := nw1_ok h9 a1 (Int.le_of_eq a2.symm) (by rw [a2]; exact a4.2.2.2) (by rw [kc_nil a4.2.1]; exact t1)
    obtain ⟨b1, b2, b3, b4⟩ := flu_0 mok0 a1
    have t2 := t1_same t1 (flu_n a1.1).1 (flu_n a1.1).2
    refine nw1_ok k1 b1 (Int.le_of_eq b2.symm) (by rw [b2]; exact b4.2.2.2) ?_
    rw [kc_nil b4.2.1]
    show T1 (kcF st (tikL st.d 99)) _
    rw [kc_nil a4.2.1]
    exact t2
  · split
    · obtain ⟨a1, a2, a4⟩ := clo_0 p2
      have hc := clo_c p2
      refine nw1_ok h9 a1 (Int.le_of_eq a2.symm) (by rw [a2]; exact a4.2.2.2) ?_
      rw [kc_nil a4.2.1]
      exact t1_same p3 a2 fun g => absurd hc g
    · split
      · exact pu_ok h9 ha
      · split
        · exact h9
        · rename_i g
          have hn := hn (by omega) (by omega) (by omega)
          have hw := fr_wy p6 hn.1 hn.2 kd
          have k1 : PI all ⟨st.a, st.d, st.u, wyW st.v kd n, st.m, st.k⟩ := ⟨p1, p2, p3, p4, p5, hw⟩
          split
          · have hf := fr_at p6 hn.1 hn.2
            obtain ⟨r1, r2, r3⟩ := hear_0 p1 hf.1 (fr_no3 hf)
            exact nw0_ok k1 r1 r2 r3
          · exact k1
end Go.Proofs.Ytakebkfhigadiaa.LcP
