/-
  The reckoner's rules hold in the model: operations of a region that may change places. No condition.
-/
import Derived.Test.YtakebkfhigadiaaRyH
namespace Go.Proofs.Ytakebkfhigadiaa.Ry
open Go Go.RowKit

section
variable {P : Program} {cx : Cx} {bs : Bs} {gv : List Value} {st : St} {ν : Nat → Option (Nat × Nat)} {a : Act} {w : World} {G : Gm}

structure Agree (st st' : St) (ts bs : List Nat) : Prop where
  slot : ∀ t ∈ ts, st'.slots.getD t Ent.nil = st.slots.getD t Ent.nil
  blk : ∀ b ∈ bs, hget st'.heap b = hget st.heap b
theorem Agree.symm {st st' : St} {ts bs : List Nat} (h : Agree st st' ts bs) : Agree st' st ts bs := ⟨fun t ht => (h.slot t ht).symm, fun b hb => (h.blk b hb).symm⟩
theorem Agree.mono {st st' : St} {ts bs ts' bs' : List Nat} (h : Agree st st' ts bs) (ht : ∀ t ∈ ts', t ∈ ts) (hb : ∀ b ∈ bs', b ∈ bs) : Agree st st' ts' bs' := ⟨fun t h' => h.slot t (ht t h'), fun b h' => h.blk b (hb b h')⟩
theorem evalE_agree {st st' : St} {ts bs : List Nat} (h : Agree st st' ts bs) {x : Operand} (hx : ∀ t, x = .tmp t → t ∈ ts) : evalE st' x = evalE st x := by
  cases x with
  | tmp t => exact h.slot t (hx t rfl)
  | _ => rfl
def tmpsOf (l : List Operand) : List Nat := l.filterMap fun x => match x with
  | .tmp t => some t
  | _ => none
theorem mem_tmpsOf {l : List Operand} {t : Nat} (h : Operand.tmp t ∈ l) : t ∈ tmpsOf l := List.mem_filterMap.2 ⟨_, h, rfl⟩
theorem evalE_mem {st st' : St} {l : List Operand} {bs : List Nat} (h : Agree st st' (tmpsOf l) bs) {x : Operand} (hx : x ∈ l) : evalE st' x = evalE st x :=
  evalE_agree h fun _ e => mem_tmpsOf (e ▸ hx)

/-! ## What an operation looks at -/
section
variable {h h' : H}
theorem reach_agree : ∀ (f : Nat) {todo seen : List Nat}, (∀ n ∈ reach f h todo seen, hget h' n = hget h n) → reach f h' todo seen = reach f h todo seen
  | 0, _, _, _ => rfl
  | f + 1, [], _, _ => rfl
  | f + 1, n :: l, seen, ha => by
    have hsub : ∀ (f : Nat) (todo seen : List Nat), ∀ k ∈ seen, k ∈ reach f h todo seen := by
      intro f
      induction f with
      | zero => intro todo seen k hk; exact hk
      | succ f ih =>
        intro todo seen k hk
        cases todo with
        | nil => exact hk
        | cons m todo =>
          unfold reach
          split
          · exact ih _ _ k hk
          · exact ih _ _ k (List.mem_append_left _ hk)
    unfold reach at ha ⊢
    split
    · rename_i hm
      simp only [hm] at ha
      exact reach_agree f ha
    · rename_i hm
      simp only [hm] at ha
      have hn : hget h' n = hget h n := ha n (hsub _ _ _ n (List.mem_append_right _ (List.mem_singleton.2 rfl)))
      rw [hn]
      exact reach_agree f ha
theorem renH_agree {m : List (Nat × Nat)} : ∀ {l : List Nat}, (∀ n ∈ l, hget h' n = hget h n) → renH m h' l = renH m h l
  | [], _ => rfl
  | n :: l, ha => by
    unfold renH
    rw [ha n (List.mem_cons_self ..), renH_agree fun k hk => ha k (List.mem_cons_of_mem _ hk)]
theorem subH_agree : ∀ {l : List Nat}, (∀ n ∈ l, hget h' n = hget h n) → subH h' l = subH h l
  | [], _ => rfl
  | n :: l, ha => by
    unfold subH
    rw [ha n (List.mem_cons_self ..), subH_agree fun k hk => ha k (List.mem_cons_of_mem _ hk)]
theorem rowsOf_agree : ∀ {l : List Nat}, (∀ n ∈ l, hget h' n = hget h n) → rowsOf h' l = rowsOf h l
  | [], _ => rfl
  | n :: l, ha => by
    unfold rowsOf
    rw [ha n (List.mem_cons_self ..), rowsOf_agree fun k hk => ha k (List.mem_cons_of_mem _ hk)]
theorem freeAll_agree {roots : List (Nat × Nat)} : ∀ {l : List (Nat × Nat)}, (∀ n ∈ l.map (·.2), hget h' n = hget h n) → freeAll h' roots l = freeAll h roots l
  | [], _ => rfl
  | (i, n) :: l, ha => by
    unfold freeAll freeAt
    rw [ha n (List.mem_cons_self ..), freeAll_agree fun k hk => ha k (List.mem_cons_of_mem _ hk)]
theorem compats_agree {hp : H} {roots : List (Nat × Nat)} : ∀ {l : List (Nat × Nat)}, (∀ n ∈ l.map (·.2), hget h' n = hget h n) → compats h' hp roots l = compats h hp roots l
  | [], _ => rfl
  | (i, n) :: l, ha => by
    unfold compats
    rw [ha n (List.mem_cons_self ..), compats_agree fun k hk => ha k (List.mem_cons_of_mem _ hk)]
theorem plainC_agree {c : SC} (ha : ∀ n ∈ refsC c, hget h' n = hget h n) : plainC h' c = plainC h c := by
  unfold plainC
  split <;> first | rfl | skip
  rw [ha _ (by simp [refsC])]
theorem plainCs_agree : ∀ {cs : List SC}, (∀ n ∈ cs.flatMap refsC, hget h' n = hget h n) → plainCs h' cs = plainCs h cs
  | [], _ => rfl
  | c :: cs, ha => by
    unfold plainCs
    rw [plainC_agree fun n hn => ha n (by simp [hn]), plainCs_agree fun n hn => ha n (by simp only [List.flatMap_cons, List.mem_append]; exact .inr hn)]
theorem plainA_agree {x : SA} (ha : ∀ n ∈ refsA x, hget h' n = hget h n) : plainA h' x = plainA h x := by
  cases x with
  | one c => simp only [plainA]; rw [plainC_agree ha]
  | agg cs => simp only [plainA]; rw [plainCs_agree ha]
  | blob c => rfl
theorem plainAs_agree : ∀ {cs : List SA}, (∀ n ∈ cs.flatMap refsA, hget h' n = hget h n) → plainAs h' cs = plainAs h cs
  | [], _ => rfl
  | c :: cs, ha => by
    unfold plainAs
    rw [plainA_agree fun n hn => ha n (by simp [hn]), plainAs_agree fun n hn => ha n (by simp only [List.flatMap_cons, List.mem_append]; exact .inr hn)]
theorem ctOf_agree {c : SC} (ha : ∀ n ∈ refsC c, hget h' n = hget h n) : ctOf h' c = ctOf h c := by
  unfold ctOf
  split
  · rfl
  · rw [ha _ (by simp [refsC])]
  · rfl
theorem sndCt_agree {c1 : Ct} {c : SC} (ha : ∀ n ∈ refsC c, hget h' n = hget h n) : sndCt h' c1 c = sndCt h c1 c := by
  unfold sndCt
  split
  · rfl
  · exact ctOf_agree ha
theorem footFull_agree {u : Nat} {con : Con} {vs : List SA} (ha : ∀ n ∈ footFull h u con vs, hget h' n = hget h n) : footFull h' u con vs = footFull h u con vs := by
  unfold footFull at ha ⊢
  simp only at ha ⊢
  have h1 : reach 200 h' (vs.flatMap refsA) [] = reach 200 h (vs.flatMap refsA) [] := reach_agree 200 fun n hn => ha n (by simp only [List.mem_append]; exact .inl (.inl (.inr hn)))
  have h2 : renH (numbered 0 (reach 200 h (vs.flatMap refsA) [])) h' (reach 200 h (vs.flatMap refsA) []) = renH (numbered 0 (reach 200 h (vs.flatMap refsA) [])) h (reach 200 h (vs.flatMap refsA) []) := renH_agree fun n hn => ha n (by simp only [List.mem_append]; exact .inl (.inl (.inr hn)))
  have h3 : plainAs h' vs = plainAs h vs := plainAs_agree fun n hn => ha n (by simp only [List.mem_append]; exact .inl (.inl (.inl hn)))
  rw [h1, h2, h3]
theorem effFull_agree {kp : Bool} {u : Nat} {con : Con} {s : Prop} {vs : List SA} (ha : ∀ n ∈ footFull h u con vs, hget h' n = hget h n) : effFull kp h' u con s vs = effFull kp h u con s vs := by
  unfold footFull at ha
  simp only at ha
  unfold effFull
  simp only
  have h1 : reach 200 h' (vs.flatMap refsA) [] = reach 200 h (vs.flatMap refsA) [] := reach_agree 200 fun n hn => ha n (by simp only [List.mem_append]; exact .inl (.inl (.inr hn)))
  rw [h1]
  generalize hq : reach 200 h (vs.flatMap refsA) [] = seen at ha
  have hseen : ∀ n ∈ seen, hget h' n = hget h n := fun n hn => ha n (by simp only [List.mem_append]; exact .inl (.inl (.inr hn)))
  rw [renH_agree hseen, subH_agree hseen]
  split
  · rename_i args h0 e1 e2
    split
    · rename_i p e3
      have hns : ∀ n ∈ (names (rootsAll seen args h0 p.h vs p.as) (bid u) p.h).map (·.2), hget h' n = hget h n := fun n hn => ha n (by
        simp only [List.mem_append]
        refine .inl (.inr ?_)
        rw [e1, e2]
        simp only
        rw [e3]
        exact hn)
      rw [freeAll_agree hns, compats_agree hns]
    · rfl
  · rfl
theorem effPlain_agree {u : Nat} {con : Con} {s : Prop} {vs : List SA} (ha : ∀ n ∈ footFull h u con vs, hget h' n = hget h n) : effPlain h' u con s vs = effPlain h u con s vs := by
  unfold footFull at ha
  simp only at ha
  unfold effPlain
  simp only
  have hrefs : ∀ n ∈ vs.flatMap refsA, hget h' n = hget h n := fun n hn => ha n (by simp only [List.mem_append]; exact .inl (.inl (.inl hn)))
  rw [plainAs_agree hrefs, rowsOf_agree hrefs]
  split
  · rename_i args e1
    split
    · rename_i p e3
      have hns : ∀ n ∈ (names [] (bid u) p.h).map (·.2), hget h' n = hget h n := fun n hn => ha n (by
        simp only [List.mem_append]
        refine .inr ?_
        rw [e1]
        simp only
        rw [e3]
        exact hn)
      rw [freeAll_agree hns]
    · rfl
  · rfl
theorem effFun_agree {kp : Bool} {u : Nat} {con : Con} {s : Prop} {vs : List SA} (ha : ∀ n ∈ footFull h u con vs, hget h' n = hget h n) : effFun kp h' u con s vs = effFun kp h u con s vs := by
  unfold effFun
  rw [effFull_agree ha, effPlain_agree ha]
theorem freeAt_agree {d : Nat} (ha : hget h' d = hget h d) : freeAt h' d = freeAt h d := by unfold freeAt; rw [ha]
theorem tokAt_agree {d : Nat} (ha : hget h' d = hget h d) : tokAt h' d = tokAt h d := by unfold tokAt; rw [ha]
theorem hasB_agree {d : Nat} (ha : hget h' d = hget h d) : hasB h' d = hasB h d := by unfold hasB; rw [ha]
theorem hasR_agree {d : Nat} (ha : hget h' d = hget h d) : hasR h' d = hasR h d := by unfold hasR; rw [ha]
theorem eqPtr_agree {c d : SC} (ha : ∀ n ∈ refsC c, hget h' n = hget h n) : eqPtr h' c d = eqPtr h c d := by
  unfold eqPtr
  split
  · rfl
  · rw [ha _ (by simp [refsC])]
  · rfl
theorem effB1_agree {A : Ar} {op : BinOp} {xt : TypeId} {s : Prop} {c d : SC} (ha : ∀ n ∈ refsC c, hget h' n = hget h n) : effB1 A cx h' op xt s c d = effB1 A cx h op xt s c d := by
  unfold effB1
  rw [eqPtr_agree ha]
theorem effBin_agree {A : Ar} {op : BinOp} {xt : TypeId} {x y : Ent} (ha : ∀ n ∈ refsE x, hget h' n = hget h n) : effBin A cx h' op xt x y = effBin A cx h op xt x y := by
  unfold effBin
  split
  · rename_i c d hx hy
    exact effB1_agree fun n hn => ha n (by unfold refsE; rw [hx]; exact hn)
  · rfl
  · rfl
theorem effConv_agree {A : Ar} {t u : TypeId} {x : Ent} (ha : ∀ n ∈ refsE x, hget h' n = hget h n) : effConv A cx h' t u x = effConv A cx h t u x := by
  unfold effConv
  split
  · rename_i g c
    have hc : ctOf h' c = ctOf h c := ctOf_agree fun n hn => ha n hn
    split
    · split
      · split
        · rfl
        · rw [hc]
      · rfl
    · rfl
    · split
      · split
        · rename_i id e k l _
          rw [tokAt_agree (ha id (by simp [refsE, refsA, refsC]))]
        · rfl
      · rfl
    · rfl
    · rfl
  · rfl
theorem effLoad_agree {A : Ar} {t : TypeId} {x : Ent} (ha : ∀ n ∈ refsL x, hget h' n = hget h n) : effLoad A cx h' t x = effLoad A cx h t x := by
  unfold effLoad
  split
  · rw [ha _ (by simp [refsL, refsE, refsA, refsC])]
  · rw [ha _ (by simp [refsL, refsE, refsA, refsC])]
  · rfl
  · rfl
  · rfl
  · rfl
theorem effStore_agree {A : Ar} {t : TypeId} {x y : Ent} (ha : ∀ n ∈ refsE x, hget h' n = hget h n) : effStore A cx h' t x y = effStore A cx h t x y := by
  unfold effStore
  split
  · rw [ha _ (by simp [refsE, refsA, refsC])]
  · rw [ha _ (by simp [refsE, refsA, refsC])]
  · rfl
theorem effTake_agree {A : Ar} {u : Nat} {t : TypeId} {x : Ent} (ha : ∀ n ∈ refsL x, hget h' n = hget h n) (hu : hget h' (bid u) = hget h (bid u)) : effTake A cx h' u t x = effTake A cx h u t x := by
  unfold effTake
  split
  · rw [ha _ (by simp [refsL, refsE, refsA, refsC])]
    simp only [freeAt_agree hu]
  · rfl
theorem isOut_agree {x : Ent} (ha : ∀ n ∈ refsE x, hget h' n = hget h n) : isOut h' x = isOut h x := by
  unfold isOut
  split
  · rw [ha _ (by simp [refsE, refsA, refsC])]
  · rfl
theorem effPut_agree {A : Ar} {t : TypeId} {x y : Ent} (ha : ∀ n ∈ refsE x, hget h' n = hget h n) (hy : ∀ n ∈ refsE y, hget h' n = hget h n) : effPut A cx h' t x y = effPut A cx h t x y := by
  unfold effPut
  split
  · rename_i g b i g' id e' d e2 z2 s9 _ _ _ _
    rw [ha b (by simp [refsE, refsA, refsC]), tokAt_agree (hy id (by simp [refsE, refsA, refsC]))]
  · rfl
theorem rrRow_agree {e : TypeId} {c : SC} (ha : ∀ n ∈ refsC c, hget h' n = hget h n) : rrRow h' e c = rrRow h e c := by
  unfold rrRow
  split
  · rw [ha _ (by simp [refsC])]
  · rfl
theorem effAppRN_agree {A : Ar} {u t t' : Nat} {x y : Ent} (hu : hget h' (bid u) = hget h (bid u)) : effAppRN A cx h' u t t' x y = effAppRN A cx h u t t' x y := by
  unfold effAppRN
  split
  · simp only [freeAt_agree hu]
  · rfl
theorem effAppRO_agree {A : Ar} {u n t t' : Nat} {e2 : TypeId} {c1 : Ct} {x y : Ent} (hu : hget h' (bid u) = hget h (bid u)) : effAppRO A cx h' u n e2 c1 t t' x y = effAppRO A cx h u n e2 c1 t t' x y := by
  unfold effAppRO
  split
  · simp only [freeAt_agree hu]
  · rfl
theorem rrCt_agree {c : SC} (ha : ∀ n ∈ refsC c, hget h' n = hget h n) : rrCt h' c = rrCt h c := by
  unfold rrCt
  split
  · rw [ha _ (by simp [refsC])]
  · rfl
theorem effFieldAddr_agree {t : TypeId} {f : Nat} {x : Ent} (ha : ∀ n ∈ rpRefs x, hget h' n = hget h n) : effFieldAddr cx h' t f x = effFieldAddr cx h t f x := by
  unfold effFieldAddr
  split
  · split
    · split
      · rfl
      · split
        · rfl
        · rw [hasR_agree (ha _ (by simp [rpRefs]))]
        · rfl
        · rfl
    · rfl
  · rfl
theorem effIndexAddr_agree {A : Ar} {t : TypeId} {x y : Ent} (ha : ∀ n ∈ refsE x, hget h' n = hget h n) : effIndexAddr A cx h' t x y = effIndexAddr A cx h t x y := by
  unfold effIndexAddr
  split
  · split
    · split
      · rfl
      · rfl
      · rw [ha _ (by simp [refsE, refsA, refsC])]
      · rfl
    · split
      · rw [ha _ (by simp [refsE, refsA, refsC])]
      · rw [ha _ (by simp [refsE, refsA, refsC])]
      · rfl
      · rfl
    · rfl
  · rfl
theorem fstCt_agree {t e : TypeId} {c : SC} (ha : ∀ n ∈ refsC c, hget h' n = hget h n) : fstCt cx h' t e c = fstCt cx h t e c := by
  unfold fstCt
  split
  · rw [tokAt_agree (ha _ (by simp [refsC]))]
  · rfl
  · rfl
theorem effApp_agree {A : Ar} {u t t' : Nat} {x y : Ent} (hx : ∀ n ∈ refsE x, hget h' n = hget h n) (hy : ∀ n ∈ refsE y, hget h' n = hget h n) (hu : hget h' (bid u) = hget h (bid u)) : effApp A cx h' u t t' x y = effApp A cx h u t t' x y := by
  unfold effApp
  split
  · rename_i gx x' gy y'
    have h1 : ∀ c1, sndCt h' c1 y' = sndCt h c1 y' := fun c1 => sndCt_agree fun n hn => hy n hn
    have h2 : ∀ e, fstCt cx h' t e x' = fstCt cx h t e x' := fun e => fstCt_agree fun n hn => hx n hn
    simp only [h1, h2, freeAt_agree hu]
  · rfl
theorem empAt_agree {e : TypeId} {c : SC} (ha : ∀ n ∈ refsC c, hget h' n = hget h n) : empAt h' e c = empAt h e c := by
  unfold empAt
  split
  · rw [ha _ (by simp [refsC])]
  · rfl
theorem effAppE_agree {A : Ar} {u n t t' : Nat} {x y : Ent} (hy : ∀ n ∈ refsE y, hget h' n = hget h n) (hu : hget h' (bid u) = hget h (bid u)) : effAppE A cx h' u n t t' x y = effAppE A cx h u n t t' x y := by
  unfold effAppE
  split
  · rename_i gx _ gy y'
    have h1 : ∀ c1, sndCt h' c1 y' = sndCt h c1 y' := fun c1 => sndCt_agree fun n hn => hy n hn
    simp only [h1, freeAt_agree hu]
  · rfl
theorem effAppN_agree {A : Ar} {u t t' : Nat} {x y : Ent} (hy : ∀ n ∈ refsE y, hget h' n = hget h n) (hu : hget h' (bid u) = hget h (bid u)) : effAppN A cx h' u t t' x y = effAppN A cx h u t t' x y := by
  unfold effAppN
  split
  · rename_i gx gy y'
    have h1 : ∀ c1, sndCt h' c1 y' = sndCt h c1 y' := fun c1 => sndCt_agree fun n hn => hy n hn
    simp only [h1, freeAt_agree hu]
  · rfl
theorem ownRow_agree {e : TypeId} {c : SC} (ha : ∀ n ∈ refsC c, hget h' n = hget h n) : ownRow h' e c = ownRow h e c := by
  unfold ownRow
  split
  · rw [ha _ (by simp [refsC])]
  · rfl
theorem pastRow_agree {e : TypeId} {c : SC} (ha : ∀ n ∈ refsC c, hget h' n = hget h n) (hb : ∀ n ∈ (refsC c).flatMap (pastOf h), hget h' n = hget h n) : pastRow h' e c = pastRow h e c := by
  unfold pastRow
  split
  · rename_i n
    rw [ha n (by simp [refsC])]
    split
    · rename_i d sz q hh
      rw [hb d (by simp [refsC, pastOf, hh])]
    · rfl
  · rfl
theorem effAppO_agree {A : Ar} {u n t t' : Nat} {c1 : Ct} {x y : Ent} (hy : ∀ n ∈ refsE y, hget h' n = hget h n) (hu : hget h' (bid u) = hget h (bid u)) : effAppO A cx h' u n c1 t t' x y = effAppO A cx h u n c1 t t' x y := by
  unfold effAppO
  split
  · rename_i gx _ gy y'
    have h1 : ∀ c1, sndCt h' c1 y' = sndCt h c1 y' := fun c1 => sndCt_agree fun n hn => hy n hn
    simp only [h1, freeAt_agree hu]
  · rfl
theorem effCopy_agree {A : Ar} {t : TypeId} {x y : Ent} (hx : ∀ n ∈ refsE x, hget h' n = hget h n) (hy : ∀ n ∈ refsE y, hget h' n = hget h n) : effCopy A cx h' t x y = effCopy A cx h t x y := by
  unfold effCopy
  split
  · rename_i gx n gy y'
    have h1 : ∀ c1, sndCt h' c1 y' = sndCt h c1 y' := fun c1 => sndCt_agree fun n hn => hy n hn
    simp only [h1, hx n (by simp [refsE, refsA, refsC])]
  · rfl
theorem effClear_agree {A : Ar} {t : TypeId} {x : Ent} (hx : ∀ n ∈ refsE x, hget h' n = hget h n) : effClear A cx h' t x = effClear A cx h t x := by
  unfold effClear
  split
  · rename_i g n l
    rw [hx n (by simp [refsE, refsA, refsC])]
  · rfl
theorem effLook_agree {A : Ar} {t : TypeId} {ok : Bool} {x y : Ent} (hx : ∀ n ∈ refsE x, hget h' n = hget h n) : effLook A cx h' t ok x y = effLook A cx h t ok x y := by
  unfold effLook
  split
  · rw [hx _ (by simp [refsE, refsA, refsC])]
  · rfl
theorem effUpd_agree {A : Ar} {t : TypeId} {x y z : Ent} (hx : ∀ n ∈ refsE x, hget h' n = hget h n) : effUpd A cx h' t x y z = effUpd A cx h t x y z := by
  unfold effUpd
  split
  · rw [hx _ (by simp [refsE, refsA, refsC])]
  · rfl
theorem effLen_agree {A : Ar} {t : TypeId} {s : Prop} {c : SC} (ha : ∀ n ∈ refsC c, hget h' n = hget h n) : effLen A cx h' t s c = effLen A cx h t s c := by
  unfold effLen
  split <;> first | rfl | skip
  split <;> first | rfl | skip
  rw [ctOf_agree ha, rrCt_agree ha]
end
theorem sas_refs : ∀ {es : List Ent} {vs : List SA}, sas es = some vs → ∀ n ∈ vs.flatMap refsA, n ∈ es.flatMap refsE
  | [], vs, h, n, hn => by cases h; cases hn
  | e :: es, vs, h, n, hn => by
    obtain ⟨g, v⟩ := e
    cases v with
    | tup _ => cases h
    | sa x =>
      simp only [sas] at h
      split at h
      · rename_i xs hxs
        cases h
        simp only [List.flatMap_cons, List.mem_append] at hn ⊢
        exact hn.imp (fun h => h) (sas_refs hxs n)
      · cases h
theorem eff_agree (A : Ar) (cx : Cx) {st st' : St} {o : Oper} {u : Nat} (h : Agree st st' (tmpsOf o.op.operands.toList) (foot cx st u o)) : eff A cx st' u o.op = eff A cx st u o.op := by
  have ev := fun x (hx : x ∈ o.op.operands.toList) => evalE_mem h hx
  have hb := h.blk
  unfold foot at hb
  cases ho : o.op with
  | move x => rw [ho] at ev; simp only [eff]; rw [ev x (by simp [Op.operands])]
  | assign x => rw [ho] at ev; simp only [eff]; rw [ev x (by simp [Op.operands])]
  | pick c x y => rw [ho] at ev; simp only [eff]; rw [ev c (by simp [Op.operands]), ev x (by simp [Op.operands]), ev y (by simp [Op.operands])]
  | binOp op t x y t' =>
    rw [ho] at ev hb
    simp only [eff]
    rw [ev x (by simp [Op.operands]), ev y (by simp [Op.operands])]
    exact effBin_agree fun n hn => hb n (List.mem_append_left _ hn)
  | unOp op t x => rw [ho] at ev; simp only [eff]; rw [ev x (by simp [Op.operands])]
  | convert t t' x => rw [ho] at ev hb; simp only [eff]; rw [ev x (by simp [Op.operands])]; exact effConv_agree hb
  | nilCheck x =>
    rw [ho] at ev hb
    simp only [eff]
    rw [ev x (by simp [Op.operands])]
  | fieldAddr t x f => rw [ho] at ev hb; simp only [eff]; rw [ev x (by simp [Op.operands])]; exact effFieldAddr_agree hb
  | field t x f => rw [ho] at ev; simp only [eff]; rw [ev x (by simp [Op.operands])]
  | extract x i => rw [ho] at ev; simp only [eff]; rw [ev x (by simp [Op.operands])]
  | makeFunc f first cap =>
    rw [ho] at ev
    simp only [eff]
    have h1 : first.toList.map (evalE st') = first.toList.map (evalE st) := List.map_congr_left fun x hx => ev x (by simp [Op.operands]; exact .inl (by simpa using hx))
    have h2 : cap.toList.map (evalE st') = cap.toList.map (evalE st) := List.map_congr_left fun x hx => ev x (by simp [Op.operands]; exact .inr (by simpa using hx))
    rw [h1, h2]
  | alloc t =>
    rw [ho] at hb
    simp only [eff]
    unfold effAlloc
    rw [freeAt_agree (hb (bid u) (by simp))]
  | box t x =>
    rw [ho] at ev hb
    simp only [eff]
    rw [ev x (by simp [Op.operands])]
    split
    · rfl
    unfold effBox
    rw [freeAt_agree (hb (bid u) (by simp))]
  | load t x =>
    rw [ho] at ev hb
    simp only [eff]
    rw [ev x (by simp [Op.operands])]
    cases hk : look cx.fs (ownKey u) with
    | some q =>
      simp only [hk] at hb ⊢
      exact effTake_agree (fun n hn => hb n (List.mem_cons_of_mem _ hn)) (hb _ List.mem_cons_self)
    | none =>
      simp only [hk] at hb ⊢
      exact effLoad_agree hb
  | store t x y =>
    rw [ho] at ev hb
    simp only [eff]
    rw [ev x (by simp [Op.operands]), ev y (by simp [Op.operands])]
    have hb2 : ∀ n ∈ refsE (evalE st x), hget st'.heap n = hget st.heap n := fun n hn => by
      cases hk : isOut st.heap (evalE st x) with
      | true =>
        simp only [hk] at hb
        exact hb n (List.mem_append_left _ hn)
      | false =>
        simp only [hk] at hb
        exact hb n hn
    have h1 : isOut st'.heap (evalE st x) = isOut st.heap (evalE st x) := isOut_agree hb2
    rw [h1]
    cases hk : isOut st.heap (evalE st x) with
    | true =>
      simp only [hk] at hb ⊢
      exact effPut_agree (fun n hn => hb n (List.mem_append_left _ hn)) (fun n hn => hb n (List.mem_append_right _ hn))
    | false =>
      simp only [hk] at hb ⊢
      exact effStore_agree hb
  | build t ps =>
    rw [ho] at ev
    simp only [eff]
    have : ps.toList.map (fun p => evalE st' p.2) = ps.toList.map (fun p => evalE st p.2) := List.map_congr_left fun p hp => ev p.2 (by simp only [Op.operands, List.mem_map]; exact ⟨p, hp, rfl⟩)
    rw [this]
  | buildSlice t n ps =>
    rw [ho] at ev hb
    simp only [eff]
    have : ps.toList.map (fun p => evalE st' p.2) = ps.toList.map (fun p => evalE st p.2) := List.map_congr_left fun p hp => ev p.2 (by simp only [Op.operands, List.mem_map]; exact ⟨p, hp, rfl⟩)
    rw [this]
    split
    · rfl
    unfold effBuildSlice
    rw [freeAt_agree (hb (bid u) (by simp))]
  | makeSlice t l c =>
    rw [ho] at ev hb
    simp only [eff]
    rw [ev l (by simp [Op.operands]), ev c (by simp [Op.operands])]
    unfold effMake
    rw [freeAt_agree (hb (bid u) (by simp))]
  | makeMap t hint =>
    rw [ho] at hb
    simp only [eff]
    unfold effMkMap
    rw [freeAt_agree (hb (bid u) (by simp))]
  | lookup t m x k => rw [ho] at ev hb; simp only [eff]; rw [ev m (by simp [Op.operands]), ev x (by simp [Op.operands])]; exact effLook_agree hb
  | mapUpdate t m x y => rw [ho] at ev hb; simp only [eff]; rw [ev m (by simp [Op.operands]), ev x (by simp [Op.operands]), ev y (by simp [Op.operands])]; exact effUpd_agree hb
  | indexAddr t x y => rw [ho] at ev hb; simp only [eff]; rw [ev x (by simp [Op.operands]), ev y (by simp [Op.operands])]; exact effIndexAddr_agree hb
  | index t x y => rw [ho] at ev; simp only [eff]; rw [ev x (by simp [Op.operands]), ev y (by simp [Op.operands])]
  | slice t x lo hi mx =>
    rw [ho] at ev hb
    simp only [eff]
    rw [ev x (by simp [Op.operands])]
    have bd : ∀ d (y : Option Operand), (∀ z, y = some z → z ∈ (Op.slice t x lo hi mx).operands.toList) → bnd st' d y = bnd st d y := by
      intro d y hy
      cases y with
      | none => rfl
      | some z => unfold bnd; simp only [ev z (hy z rfl)]
    have b1 : ∀ d, bnd st' d lo = bnd st d lo := fun d => bd d lo (by rintro z rfl; simp [Op.operands])
    have b2 : ∀ d, bnd st' d hi = bnd st d hi := fun d => bd d hi (by rintro z rfl; simp [Op.operands])
    have b3 : ∀ d, bnd st' d mx = bnd st d mx := fun d => bd d mx (by rintro z rfl; simp [Op.operands])
    have hfr : freeAt st'.heap (bid u) = freeAt st.heap (bid u) := freeAt_agree (hb (bid u) (by simp))
    have plain : ∀ m : Option Operand, (∀ d, bnd st' d m = bnd st d m) → effSlice A cx st' t (evalE st x) lo hi m = effSlice A cx st t (evalE st x) lo hi m := by
      intro m b3
      unfold effSlice
      simp only [b1, b2, b3]
      split
      · rename_i g c _ _ _ _ _ _ hx _
        have hrc : ∀ n ∈ refsC c, hget st'.heap n = hget st.heap n := fun n hn => hb n (by simp only [hx, refsE, refsA]; exact List.mem_cons_of_mem _ (List.mem_append_left _ hn))
        rw [ctOf_agree hrc, rowsOf_agree hrc]
      · rfl
    have hro : ∀ (g : Option Bool) (c : SC) (e : TypeId), evalE st x = ⟨g, .sa (.one c)⟩ → ownRow st'.heap e c = ownRow st.heap e c := fun g c e hx =>
      ownRow_agree fun n hn => hb n (by simp only [hx, refsE, refsA]; exact List.mem_cons_of_mem _ (List.mem_append_left _ hn))
    have hpr : ∀ (g : Option Bool) (c : SC) (e : TypeId), evalE st x = ⟨g, .sa (.one c)⟩ → pastRow st'.heap e c = pastRow st.heap e c := fun g c e hx =>
      pastRow_agree (fun n hn => hb n (by simp only [hx, refsE, refsA]; exact List.mem_cons_of_mem _ (List.mem_append_left _ hn))) (fun n hn => hb n (by
        simp only [hx, refsE, refsA]
        exact List.mem_cons_of_mem _ (List.mem_append_right _ hn)))
    split
    · split
      · unfold effCutO
        simp only [b1, b2, hfr]
        split
        · rename_i g c _ _ _ _ _ _ hx _
          rw [hro _ _ _ hx, hpr _ _ _ hx]
        · rfl
      · unfold effPast
        simp only [b1, b2, b3, hfr]
        split
        · rename_i g c _ _ _ _ _ _ hx _
          rw [hro _ _ _ hx]
        · rfl
    · split
      · unfold effView
        simp only [b1]
        split
        · rename_i g c _ _ _ _ _ _ hx _
          rw [hro _ _ _ hx]
        · rfl
      · exact plain _ b3
  | call c =>
    rw [ho] at ev hb
    simp only [eff]
    have hargs : c.args.toList.map (evalE st') = c.args.toList.map (evalE st) := List.map_congr_left fun x hx => ev x (by simp [Op.operands, Call.operands]; exact .inr (by simpa using hx))
    rw [hargs]
    unfold effCall
    split
    · rename_i x hf
      simp only [hf] at hb
      rw [ev x (by simp [Op.operands, Call.operands, hf])]
      split
      · rename_i f hx
        simp only [hx] at hb
        split
        · rename_i con vs _ hcon hv
          simp only [hcon, hv] at hb
          exact effFun_agree hb
        · rfl
      · rename_i hx
        simp only [hx] at hb
        split
        · rename_i f n hx2
          simp only [hx2] at hb
          split
          · rename_i con vs _ hcon hv
            simp only [hcon, hv] at hb
            exact effFull_agree hb
          · rfl
        · rfl
    · rename_i hf
      simp only [hf] at hb
      split
      · rename_i t x ht hv
        exact effLen_agree fun n hn => hb n (sas_refs hv n (by simp [refsA, hn]))
      · rfl
    · rename_i hf
      simp only [hf] at hb
      split
      · rename_i t t' x y ht hv
        rw [hv] at hb
        split
        · rename_i g0 c e sz nn zz bb ff hl
          have h1 : empAt st'.heap e c = empAt st.heap e c := empAt_agree fun n hn => hb n (by simp [refsE, refsA, hn])
          rw [h1]
          split
          · exact effAppE_agree (fun n hn => hb n (by simp [hn])) (hb _ (by simp))
          have h2 : ownRow st'.heap e c = ownRow st.heap e c := ownRow_agree fun n hn => hb n (by simp [refsE, refsA, hn])
          rw [h2]
          split
          · exact effAppO_agree (fun n hn => hb n (by simp [hn])) (hb _ (by simp))
          have h3 : rrRow st'.heap e c = rrRow st.heap e c := rrRow_agree fun n hn => hb n (by simp [refsE, refsA, hn])
          rw [h3]
          split
          · exact effAppRO_agree (hb _ (by simp))
          split
          · split
            · exact effAppRN_agree (hb _ (by simp))
            · exact effAppN_agree (fun n hn => hb n (by simp [hn])) (hb _ (by simp))
          · exact effApp_agree (fun n hn => hb n (by simp [hn])) (fun n hn => hb n (by simp [hn])) (hb _ (by simp))
        · rfl
      · rfl
    · rename_i hf
      simp only [hf] at hb
      split
      · rename_i t ts x y ht hv
        rw [hv] at hb
        exact effCopy_agree (fun n hn => hb n (by simp [hn])) (fun n hn => hb n (by simp [hn]))
      · rfl
    · rename_i hf
      simp only [hf] at hb
      split
      · rename_i t x ht hv
        rw [hv] at hb
        exact effClear_agree fun n hn => hb n (by simp [hn])
      · rfl
    · rfl
    · rfl
    · rfl
  | _ => rfl
theorem foot_agree {cx : Cx} {st st' : St} {o : Oper} {u : Nat} (h : Agree st st' (tmpsOf o.op.operands.toList) (foot cx st u o)) : foot cx st' u o = foot cx st u o := by
  have ev := fun x (hx : x ∈ o.op.operands.toList) => evalE_mem h hx
  have hb := h.blk
  unfold foot at hb ⊢
  cases ho : o.op with
  | binOp op t x y t' => rw [ho] at ev; simp only; rw [ev x (by simp [Op.operands]), ev y (by simp [Op.operands])]
  | convert t t' x => rw [ho] at ev; simp only; rw [ev x (by simp [Op.operands])]
  | load t x => rw [ho] at ev; simp only; rw [ev x (by simp [Op.operands])]
  | slice t x lo hi mx =>
    rw [ho] at ev hb
    simp only at hb ⊢
    rw [ev x (by simp [Op.operands])]
    congr 2
    have : ∀ n ∈ refsE (evalE st x), pastOf st'.heap n = pastOf st.heap n := fun n hn => by
      unfold pastOf
      rw [hb n (List.mem_cons_of_mem _ (List.mem_append_left _ hn))]
    generalize refsE (evalE st x) = l at this
    clear hb ev
    induction l with
    | nil => rfl
    | cons n l ih =>
      rw [List.flatMap_cons, List.flatMap_cons, this n (by simp), ih fun m hm => this m (by simp [hm])]
  | indexAddr t x y => rw [ho] at ev; simp only; rw [ev x (by simp [Op.operands])]
  | fieldAddr t x f => rw [ho] at ev; simp only; rw [ev x (by simp [Op.operands])]
  | store t x y =>
    rw [ho] at ev hb
    simp only
    rw [ev x (by simp [Op.operands]), ev y (by simp [Op.operands])]
    have hb2 : ∀ n ∈ refsE (evalE st x), hget st'.heap n = hget st.heap n := fun n hn => by
      cases hk : isOut st.heap (evalE st x) with
      | true =>
        simp only [hk] at hb
        exact hb n (List.mem_append_left _ hn)
      | false =>
        simp only [hk] at hb
        exact hb n hn
    rw [isOut_agree hb2]
  | lookup t x y k => rw [ho] at ev; simp only; rw [ev x (by simp [Op.operands])]
  | mapUpdate t x y z => rw [ho] at ev; simp only; rw [ev x (by simp [Op.operands])]
  | call c =>
    rw [ho] at ev hb
    have hargs : c.args.toList.map (evalE st') = c.args.toList.map (evalE st) := List.map_congr_left fun x hx => ev x (by simp [Op.operands, Call.operands]; exact .inr (by simpa using hx))
    simp only [hargs] at hb ⊢
    split
    · rfl
    · rfl
    · rfl
    · rfl
    · rename_i x hf
      simp only [hf] at hb
      rw [ev x (by simp [Op.operands, Call.operands, hf])]
      split
      · rename_i f hx
        simp only [hx] at hb
        split
        · rename_i con vs hcon hv
          simp only [hcon, hv] at hb
          exact footFull_agree hb
        · rfl
      · rename_i hx
        simp only [hx] at hb
        split
        · rename_i f n hx2
          simp only [hx2] at hb
          split
          · rename_i con vs hcon hv
            simp only [hcon, hv] at hb
            exact footFull_agree hb
          · rfl
        · rfl
    · rfl
  | _ => rfl
def guardSlot (ops : List Oper) (o : Oper) : List Nat :=
  match o.guard with
  | some (g, _) => ((ops[g]?).bind (·.dst)).toList
  | none => []
theorem looks_eq (ops : List Oper) (o : Oper) : o.looksAt ops.toArray = tmpsOf o.op.operands.toList ++ guardSlot ops o := by
  unfold Oper.looksAt tmpsOf guardSlot
  cases o.guard with
  | none => rfl
  | some g =>
    obtain ⟨g, b⟩ := g
    simp only [List.getElem?_toArray]
    rfl
theorem wantG_agree (A : Ar) {ops : List Oper} {st st' : St} {o : Oper} {bs : List Nat} (h : Agree st st' (guardSlot ops o) bs) : wantG A ops st' o.guard = wantG A ops st o.guard := by
  have hs := h.slot
  unfold guardSlot at hs
  unfold wantG
  cases hg : o.guard with
  | none => rfl
  | some g =>
    obtain ⟨j, want⟩ := g
    rw [hg] at hs
    simp only at hs ⊢
    cases ho : ops[j]? with
    | none => rfl
    | some o' =>
      simp only
      cases ht : o'.dst with
      | none => rfl
      | some t =>
        simp only
        rw [hs t (by simp [ho, ht])]
theorem effG_agree (A : Ar) (cx : Cx) {ops : List Oper} {st st' : St} {o : Oper} {u : Nat} {d : Bool} (h : Agree st st' (o.looksAt ops.toArray) (foot cx st u o)) : effG A cx ops st' u o d = effG A cx ops st u o d := by
  rw [looks_eq] at h
  unfold effG
  rw [wantG_agree A (h.mono (fun t ht => List.mem_append_right _ ht) (fun b hb => hb)), eff_agree A cx (h.mono (fun t ht => List.mem_append_left _ ht) (fun b hb => hb))]
theorem setAll_get : ∀ {l h : H} {b : Nat}, (∀ p ∈ l, p.1 ≠ b) → hget (setAll h l) b = hget h b
  | [], _, _, _ => rfl
  | p :: l, h, b, hl => by
    show hget (setAll (hset h p.1 p.2) l) b = _
    rw [setAll_get fun q hq => hl q (List.mem_cons_of_mem _ hq), hget_other _ _ (hl p (List.mem_cons_self ..))]
theorem free1_ne {l : H} {ft : List Nat} (h : free1 (l.map (·.1)) ft = true) : ∀ p ∈ l, ∀ b ∈ ft, p.1 ≠ b := by
  intro p hp b hb e
  have h1 := List.all_eq_true.1 h p.1 (List.mem_map.2 ⟨p, hp, rfl⟩)
  have h2 := List.all_eq_true.1 h1 b hb
  rw [e, eqn_refl] at h2
  cases h2
/-- Behind another operation that is apart. -/
theorem agree_app {ops : List Oper} {st : St} {p o : Oper} {E : Eff} {ft : List Nat} (h1 : ∀ d, p.dst = some d → d ∉ o.looksAt ops.toArray) (h2 : free1 (E.blk.map (·.1)) ft = true) : Agree st (st.app p.dst E) (o.looksAt ops.toArray) ft := by
  refine ⟨fun t ht => ?_, fun b hb => ?_⟩
  · cases hp : p.dst with
    | none => rfl
    | some d =>
      have hne : d ≠ t := fun e => h1 d hp (e ▸ ht)
      simp [St.app, St.put, List.getD_eq_getElem?_getD, List.getElem?_set_ne hne]
  · exact setAll_get (fun p hp => free1_ne h2 p hp b hb)
theorem deadOf_mem {keys : List Nat} : ∀ {seen : List Nat}, ∀ p ∈ deadOf keys seen, p.1 ∈ seen
  | [], p, hp => by cases hp
  | n :: l, p, hp => by
    unfold deadOf at hp
    split at hp
    · exact List.mem_cons_of_mem _ (deadOf_mem p hp)
    · rcases List.mem_cons.1 hp with rfl | hp
      · exact List.mem_cons_self ..
      · exact List.mem_cons_of_mem _ (deadOf_mem p hp)
theorem rowsOf_mem {h : H} : ∀ {ids : List Nat}, ∀ p ∈ rowsOf h ids, p.1 ∈ ids
  | [], p, hp => by cases hp
  | n :: l, p, hp => by
    unfold rowsOf at hp
    split at hp
    · rcases List.mem_cons.1 hp with rfl | hp
      · exact List.mem_cons_self ..
      · exact List.mem_cons_of_mem _ (rowsOf_mem p hp)
    · exact List.mem_cons_of_mem _ (rowsOf_mem p hp)
theorem renH_mem {m : List (Nat × Nat)} {h : H} : ∀ {ids : List Nat} {h1 : H}, renH m h ids = some h1 → ∀ p ∈ h1, p.1 ∈ m.map (·.2)
  | [], h1, hr, p, hp => by cases hr; cases hp
  | i :: ids, h1, hr, p, hp => by
    unfold renH at hr
    split at hr
    · rename_i k b r e1 e2 e3
      split at hr
      · cases hr
        rcases List.mem_cons.1 hp with rfl | hp
        · exact List.mem_map.2 ⟨_, look_mem e1, rfl⟩
        · exact renH_mem e3 p hp
      · cases hr
    · cases hr
theorem effFun_blk {kp : Bool} {h : H} {u : Nat} {con : Con} {s : Prop} {vs : List SA} {E : Eff} (he : effFun kp h u con s vs = some E) : ∀ p ∈ E.blk, p.1 ∈ footFull h u con vs := by
  intro q hq
  unfold footFull
  simp only [List.mem_append]
  unfold effFun at he
  split at he
  · rename_i E' hE
    cases he
    unfold effFull at hE
    simp only at hE
    generalize reach 200 h (vs.flatMap refsA) [] = seen at hE ⊢
    split at hE
    · rename_i args h0 e1 e2
      split at hE
      · rename_i p e3
        split at hE
        · rename_i r h1 e4 e5
          split at hE
          · cases hE
            dsimp only at hq
            split at hq
            · cases hq
            rcases List.mem_append.1 hq with hq | hq
            · exact .inl (.inl (.inr (deadOf_mem q hq)))
            · exact .inl (.inr (renH_mem e5 q hq))
          · cases hE
        · cases hE
      · cases hE
    · cases hE
  · unfold effPlain at he
    simp only at he
    split at he
    · rename_i args e1
      split at he
      · rename_i p e3
        split at he
        · rename_i r h1 e4 e5
          split at he
          · split at he
            · cases he
              cases hq
            · cases he
              rcases List.mem_append.1 hq with hq | hq
              · exact .inl (.inl (.inl (rowsOf_mem q hq)))
              · exact .inr (renH_mem e5 q hq)
          · cases he
        · cases he
      · cases he
    · cases he
theorem wb_foot {A : Ar} {cx : Cx} {ops : List Oper} {st : St} {o : Oper} {u : Nat} {d : Bool} {E : Eff} (h : effG A cx ops st u o d = some E) : ∀ p ∈ E.blk, p.1 ∈ foot cx st u o := by
  have main : ∀ {E : Eff}, eff A cx st u o.op = some E → ∀ p ∈ E.blk, p.1 ∈ foot cx st u o := by
    intro E h p hb
    unfold foot
    cases ho : o.op with
    | alloc t =>
      rw [ho] at h
      simp only [eff, effAlloc] at h
      repeat' split at h
      all_goals first | (cases h; done) | skip
      all_goals
        cases h
        rw [List.mem_singleton] at hb
        subst hb
        simp
    | box t x =>
      rw [ho] at h
      simp only [eff] at h
      split at h
      · unfold effBoxP at h
        split at h
        · cases h
          exact absurd hb List.not_mem_nil
        · cases h
      unfold effBox at h
      repeat' split at h
      all_goals first | (cases h; done) | skip
      all_goals
        cases h
        rw [List.mem_singleton] at hb
        subst hb
        simp
    | buildSlice t n ps =>
      rw [ho] at h
      simp only [eff] at h
      unfold effBuildSlice effNil1 at h
      repeat' split at h
      all_goals first | (cases h; done) | (cases h; exact absurd hb List.not_mem_nil) | skip
      all_goals
        cases h
        rw [List.mem_singleton] at hb
        subst hb
        simp
    | makeFunc f first cap =>
      exfalso
      rw [ho] at h
      simp only [eff] at h
      unfold effFn mk1 at h
      repeat' split at h
      all_goals first | (cases h; done) | (cases h; exact absurd hb List.not_mem_nil)
    | makeSlice t l c =>
      rw [ho] at h
      simp only [eff] at h
      unfold effMake at h
      repeat' split at h
      all_goals first | (cases h; done) | skip
      all_goals
        cases h
        rw [List.mem_singleton] at hb
        subst hb
        simp
    | makeMap t hint =>
      rw [ho] at h
      simp only [eff] at h
      unfold effMkMap at h
      repeat' split at h
      all_goals first | (cases h; done) | skip
      all_goals
        cases h
        rw [List.mem_singleton] at hb
        subst hb
        simp
    | lookup t m x k =>
      exfalso
      rw [ho] at h
      simp only [eff] at h
      unfold effLook mk1 at h
      repeat' split at h
      all_goals first | (cases h; done) | (cases h; exact absurd hb List.not_mem_nil)
    | mapUpdate t m x y =>
      rw [ho] at h
      simp only [eff] at h
      unfold effUpd at h
      split at h
      · rename_i g n g' yy g2 z hx _ _
        repeat' split at h
        all_goals first | (cases h; done) | skip
        all_goals
          cases h
          rw [List.mem_singleton] at hb
          subst hb
          simp [hx, refsE, refsA, refsC]
      · cases h
    | store t x y =>
      rw [ho] at h
      simp only [eff] at h
      cases hio : isOut st.heap (evalE st x) with
      | true =>
        simp only [hio] at h ⊢
        unfold effPut at h
        split at h
        · rename_i g b i g' id e' d e2 z2 s9 _ _ _ hx hy _
          repeat' split at h
          all_goals first | (cases h; done) | skip
          cases h
          rcases List.mem_cons.1 hb with rfl | hb
          · simp [hx, refsE, refsA, refsC]
          · rw [List.mem_singleton] at hb
            subst hb
            simp [hy, refsE, refsA, refsC]
        · cases h
      | false =>
      simp only [hio] at h ⊢
      unfold effStore at h
      split at h
      · rename_i g b off g' v ti hx _ _
        repeat' split at h
        all_goals first | (cases h; done) | skip
        all_goals
          cases h
          rw [List.mem_singleton] at hb
          subst hb
          simp [hx, refsE, refsA, refsC]
      · rename_i g b i j g' v ti hx _ _
        repeat' split at h
        all_goals first | (cases h; done) | skip
        all_goals
          cases h
          rw [List.mem_singleton] at hb
          subst hb
          simp [hx, refsE, refsA, refsC]
      · cases h
    | convert t t' x =>
      rw [ho] at h
      simp only [eff] at h
      unfold effConv mk1 at h
      split at h
      · rename_i g c hx
        repeat' split at h
        all_goals first | (cases h; done) | skip
        all_goals first | (cases h; exact absurd hb List.not_mem_nil) | skip
        cases h
        rw [List.mem_singleton] at hb
        subst hb
        simp [hx, refsE, refsA, refsC]
      · cases h
    | slice t x lo hi mx =>
      rw [ho] at h
      simp only [eff] at h
      split at h
      · split at h
        · unfold effCutO at h
          split at h
          · rename_i g c _ _ _ _ _ _ hx _
            split at h
            · rename_i n00 c100 hq00
              obtain ⟨rfl, _⟩ := ownRow_ok hq00
              repeat' split at h
              all_goals first | (cases h; done) | skip
              cases h
              rcases List.mem_cons.1 hb with rfl | hb
              · simp [hx, refsE, refsA, refsC]
              · rw [List.mem_singleton] at hb
                subst hb
                simp
            · split at h
              · rename_i d00 sz00 q00 cd00 g100 l00 hp00 hb100
                obtain ⟨id00, rfl, hid00, _⟩ := pastRow_ok hp00
                repeat' split at h
                all_goals first | (cases h; done) | skip
                cases h
                rcases List.mem_cons.1 hb with rfl | hb
                · simp [hx, refsE, refsA, refsC, pastOf, hid00]
                · rw [List.mem_singleton] at hb
                  subst hb
                  simp
              · cases h
          · cases h
        · unfold effPast at h
          split at h
          · rename_i g c _ _ _ _ _ _ hx _
            split at h
            · rename_i n00 c100 hq00
              obtain ⟨rfl, _⟩ := ownRow_ok hq00
              repeat' split at h
              all_goals first | (cases h; done) | skip
              cases h
              rcases List.mem_cons.1 hb with rfl | hb
              · simp [hx, refsE, refsA, refsC]
              · rw [List.mem_singleton] at hb
                subst hb
                simp
            · cases h
          · cases h
      split at h
      · exfalso
        unfold effView mk1 at h
        repeat' split at h
        all_goals first | (cases h; done) | (cases h; exact absurd hb List.not_mem_nil)
      unfold effSlice at h
      split at h
      · rename_i g c _ _ _ _ _ _ hx _
        repeat' split at h
        all_goals first | (cases h; done) | skip
        all_goals first | (cases h; exact absurd hb List.not_mem_nil) | skip
        all_goals
          cases h
          have := rowsOf_mem p hb
          simp only [hx, refsE, refsA]
          exact List.mem_cons_of_mem _ (List.mem_append_left _ this)
      · cases h
    | call c =>
      rw [ho] at h
      simp only [eff] at h
      unfold effCall at h
      split at h
      · rename_i x hf
        simp only [hf]
        split at h
        · rename_i f hx
          split at h
          · rename_i con vs _ hcon hv
            rw [hcon, hv]
            exact effFun_blk h p hb
          · cases h
        · rename_i hx
          split at h
          · rename_i f n hx2
            split at h
            · rename_i con vs _ hcon hv
              rw [hcon, hv]
              exact effFun_blk (kp := _) (s := _) (by unfold effFun; rw [h]) p hb
            · cases h
          · cases h
      · exfalso
        unfold effLen mk1 at h
        repeat' split at h
        all_goals first | (cases h; done) | (cases h; exact absurd hb List.not_mem_nil)
      · rename_i hf
        simp only [hf]
        split at h
        · rename_i t t' x y ht hv
          rw [hv]
          split at h
          case h_2 => cases h
          rename_i g00 c00 e00 sz00 nn00 zz00 bb00 ff00 hl00
          split at h
          · rename_i n00 hq00
            obtain ⟨rfl, _⟩ := empAt_ok hq00
            unfold effAppE at h
            repeat' split at h
            all_goals first | (cases h; done) | skip
            cases h
            rcases List.mem_cons.1 hb with rfl | hb
            · simp [refsE, refsA, refsC]
            · rw [List.mem_singleton] at hb
              subst hb
              simp
          split at h
          · rename_i n00 c100 hq00
            obtain ⟨rfl, _⟩ := ownRow_ok hq00
            unfold effAppO at h
            repeat' split at h
            all_goals first | (cases h; done) | skip
            cases h
            rcases List.mem_cons.1 hb with rfl | hb
            · simp [refsE, refsA, refsC]
            · rw [List.mem_singleton] at hb
              subst hb
              simp
          split at h
          · rename_i n00 e200 c100 hq00
            obtain ⟨rfl, _⟩ := rrRow_ok hq00
            unfold effAppRO at h
            repeat' split at h
            all_goals first | (cases h; done) | skip
            cases h
            rcases List.mem_cons.1 hb with rfl | hb
            · simp [refsE, refsA, refsC]
            · rw [List.mem_singleton] at hb
              subst hb
              simp
          split at h
          · split at h
            · unfold effAppRN at h
              repeat' split at h
              all_goals first | (cases h; done) | skip
              cases h
              rw [List.mem_singleton] at hb
              subst hb
              simp
            · unfold effAppN at h
              repeat' split at h
              all_goals first | (cases h; done) | skip
              cases h
              rw [List.mem_singleton] at hb
              subst hb
              simp
          unfold effApp at h
          split at h
          · rename_i gx x' gy y'
            split at h
            · split at h
              · split at h
                · rename_i kill c1 hk
                  split at h
                  · split at h
                    · split at h
                      · cases h
                        rcases List.mem_append.1 hb with hb | hb
                        · unfold fstCt at hk
                          split at hk
                          · split at hk
                            · cases hk
                              rw [List.mem_singleton] at hb
                              subst hb
                              first | (simp [refsE, refsA, refsC]; done) | (simp_all [refsE, refsA, refsC]; done)
                            · cases hk
                          · split at hk
                            · cases hk
                              cases hb
                            · cases hk
                          · cases hk
                        · rw [List.mem_singleton] at hb
                          subst hb
                          simp
                      · cases h
                    · cases h
                  · cases h
                · cases h
              · cases h
            · cases h
          · cases h
        · cases h
      · rename_i hf
        simp only [hf]
        split at h
        · rename_i t ts x y ht hv
          rw [hv]
          unfold effCopy at h
          repeat' split at h
          all_goals first | (cases h; done) | skip
          cases h
          rw [List.mem_singleton] at hb
          subst hb
          simp [refsE, refsA, refsC]
        · cases h
      · rename_i hf
        simp only [hf]
        split at h
        · rename_i t x ht hv
          rw [hv]
          unfold effClear at h
          repeat' split at h
          all_goals first | (cases h; done) | skip
          cases h
          rw [List.mem_singleton] at hb
          subst hb
          simp [refsE, refsA, refsC]
        · cases h
      · exfalso
        unfold mk1 at h
        repeat' split at h
        all_goals first | (cases h; done) | (cases h; exact absurd hb List.not_mem_nil)
      · exfalso
        unfold mk1 at h
        repeat' split at h
        all_goals first | (cases h; done) | (cases h; exact absurd hb List.not_mem_nil)
      · cases h
    | binOp op t x y t' =>
      exfalso
      rw [ho] at h
      simp only [eff] at h
      unfold effBin at h
      split at h
      · unfold effB1 mk1 at h
        repeat' split at h
        all_goals first | (cases h; done) | (cases h; exact absurd hb List.not_mem_nil)
      · unfold mk1 at h
        repeat' split at h
        all_goals first | (cases h; done) | (cases h; exact absurd hb List.not_mem_nil)
      · cases h
    | pick c x y =>
      exfalso
      rw [ho] at h
      simp only [eff] at h
      unfold effPick mk1 at h
      repeat' split at h
      all_goals first | (cases h; done) | (cases h; exact absurd hb List.not_mem_nil)
    | unOp op t x =>
      exfalso
      rw [ho] at h
      simp only [eff] at h
      unfold effUn mk1 at h
      repeat' split at h
      all_goals first | (cases h; done) | (cases h; exact absurd hb List.not_mem_nil)
    | nilCheck x =>
      exfalso
      rw [ho] at h
      simp only [eff] at h
      unfold effNil mk1 at h
      repeat' split at h
      all_goals first | (cases h; done) | (cases h; exact absurd hb List.not_mem_nil)
    | load t x =>
      rw [ho] at h
      simp only [eff] at h
      cases hio : look cx.fs (ownKey u) with
      | some q9 =>
        simp only [hio] at h ⊢
        unfold effTake at h
        split at h
        · rename_i g b i hx
          repeat' split at h
          all_goals first | (cases h; done) | skip
          cases h
          rcases List.mem_cons.1 hb with rfl | hb
          · simp [hx, refsL, refsE, refsA, refsC]
          · rw [List.mem_singleton] at hb
            subst hb
            simp
        · cases h
      | none =>
        exfalso
        simp only [hio] at h
        unfold effLoad mk1 at h
        repeat' split at h
        all_goals first | (cases h; done) | (cases h; exact absurd hb List.not_mem_nil)
    | fieldAddr t x f =>
      exfalso
      rw [ho] at h
      simp only [eff] at h
      unfold effFieldAddr mk1 at h
      repeat' split at h
      all_goals first | (cases h; done) | (cases h; exact absurd hb List.not_mem_nil)
    | field t x f =>
      exfalso
      rw [ho] at h
      simp only [eff] at h
      unfold effField mk1 at h
      repeat' split at h
      all_goals first | (cases h; done) | (cases h; exact absurd hb List.not_mem_nil)
    | build t ps =>
      exfalso
      rw [ho] at h
      simp only [eff] at h
      unfold effBuild at h
      repeat' split at h
      all_goals first | (cases h; done) | (cases h; exact absurd hb List.not_mem_nil)
    | indexAddr t x y =>
      exfalso
      rw [ho] at h
      simp only [eff] at h
      unfold effIndexAddr mk1 at h
      repeat' split at h
      all_goals first | (cases h; done) | (cases h; exact absurd hb List.not_mem_nil)
    | index t x y =>
      exfalso
      rw [ho] at h
      simp only [eff] at h
      unfold effIndex mk1 at h
      repeat' split at h
      all_goals first | (cases h; done) | (cases h; exact absurd hb List.not_mem_nil)
    | extract x i =>
      exfalso
      rw [ho] at h
      simp only [eff] at h
      unfold effExtract at h
      repeat' split at h
      all_goals first | (cases h; done) | (cases h; exact absurd hb List.not_mem_nil)
    | move x => rw [ho] at h; simp only [eff] at h; cases h; exact absurd hb List.not_mem_nil
    | assign x => rw [ho] at h; simp only [eff] at h; cases h; exact absurd hb List.not_mem_nil
    | _ => rw [ho] at h; simp [eff] at h
  unfold effG at h
  split at h
  · cases h
  · exact main h
  · cases h
    intro p hb
    cases hb
  · split at h
    · cases h
      intro p hb
      cases hb
    · rename_i he
      split at h
      · cases h
        intro p hb
        exact main he p hb
      · cases h
        intro p hb
        cases hb
    · cases h
      exact fun p hp => absurd hp List.not_mem_nil
theorem setAll_set : ∀ {l h : H} {b : Nat} {k : Blk}, (∀ p ∈ l, p.1 ≠ b) → setAll (hset h b k) l = hset (setAll h l) b k
  | [], _, _, _, _ => rfl
  | p :: l, h, b, k, hl => by
    show setAll (hset (hset h b k) p.1 p.2) l = hset (setAll (hset h p.1 p.2) l) b k
    rw [hset_comm _ _ _ (hl p (List.mem_cons_self ..)).symm, setAll_set fun q hq => hl q (List.mem_cons_of_mem _ hq)]
theorem setAll_comm : ∀ {l m h : H}, (∀ p ∈ l, ∀ q ∈ m, p.1 ≠ q.1) → setAll (setAll h l) m = setAll (setAll h m) l
  | [], _, _, _ => rfl
  | p :: l, m, h, hl => by
    show setAll (setAll (hset h p.1 p.2) l) m = setAll (hset (setAll h m) p.1 p.2) l
    rw [setAll_comm fun q hq => hl q (List.mem_cons_of_mem _ hq), setAll_set fun q hq => (hl p (List.mem_cons_self ..) q hq).symm]
theorem app_comm {st : St} {d1 d2 : Option Tmp} {E1 E2 : Eff} (h : ∀ d, d1 = some d → d2 ≠ some d) (hb : ∀ p ∈ E1.blk, ∀ q ∈ E2.blk, p.1 ≠ q.1) :
    (st.app d1 E1).app d2 E2 = (st.app d2 E2).app d1 E1 := by
  obtain ⟨slots, heap, gs⟩ := st
  have hs : ∀ s : List Ent, ∀ a b : Tmp, ∀ e1 e2, a ≠ b → (s.set a e1).set b e2 = (s.set b e2).set a e1 := fun s a b e1 e2 hne => List.set_comm _ _ hne
  unfold St.app
  cases d1 <;> cases d2 <;> simp only [St.put] <;> rw [setAll_comm hb]
  rw [hs _ _ _ _ _ (fun e => h _ rfl (by rw [e]))]
theorem swap_one {A : Ar} {cx : Cx} {ops : List Oper} {st : St} {p o : Oper} {up uo : Nat} {dp d : Bool} {Ep Eo : Eff} (hp : effG A cx ops st up p dp = some Ep) (ho : effG A cx ops (st.app p.dst Ep) uo o d = some Eo) (hap : p.apart ops.toArray o = true)
    (f1 : free1 (Ep.blk.map (·.1)) (foot cx (st.app p.dst Ep) uo o) = true) (f2 : free1 (Eo.blk.map (·.1)) (foot cx st up p) = true) :
    effG A cx ops st uo o d = some Eo ∧ effG A cx ops (st.app o.dst Eo) up p dp = some Ep ∧ (st.app o.dst Eo).app p.dst Ep = (st.app p.dst Ep).app o.dst Eo ∧ foot cx (st.app p.dst Ep) uo o = foot cx st uo o ∧ foot cx (st.app o.dst Eo) up p = foot cx st up p := by
  obtain ⟨h1, h2, h3⟩ := Oper.apart_spec hap
  have a1 := agree_app (E := Ep) (st := st) h1 f1
  have e1 : foot cx st uo o = foot cx (st.app p.dst Ep) uo o := foot_agree (a1.symm.mono (fun t ht => by rw [looks_eq]; exact List.mem_append_left _ ht) (fun b hb => hb))
  rw [← e1] at a1 f1
  have e2 := effG_agree A cx (d := d) a1
  have a2 := agree_app (E := Eo) (st := st) h3 f2
  have e3 : foot cx (st.app o.dst Eo) up p = foot cx st up p := foot_agree (a2.mono (fun t ht => by rw [looks_eq]; exact List.mem_append_left _ ht) (fun b hb => hb))
  have e4 := effG_agree A cx (d := dp) a2
  rw [ho] at e2
  refine ⟨e2.symm, by rw [e4, hp], (app_comm h2 ?_).symm, e1.symm, e3⟩
  intro p hp q hq
  have m := wb_foot ho q hq
  rw [← e1] at m
  exact free1_ne f1 p hp q.1 m
def OkPair (ops : List Oper) (x y : It) : Prop := x.o.apart ops.toArray y.o = true ∧ free1 x.wb y.ft = true ∧ free1 y.wb x.ft = true
theorem bubble {A : Ar} {cx : Cx} {r : Nat} {ops : List Oper} (j : Jt) (post : List Jt) : ∀ (pre : List Jt) {st : St} {T : List It} {st' : St}, runT A cx r ops (pre ++ j :: post) st = some (T, st') →
    ∃ T1 y T2, T = T1 ++ y :: T2 ∧ T1.map (fun z => (z.i, z.o)) = pre.map (fun z => (z.i, z.o)) ∧ (y.o = j.o ∧ y.i = j.i) ∧ ((∀ z ∈ T1, OkPair ops z y) → ∃ E, effG A cx ops st (uid r j.i) j.o j.d = some E ∧ y.side = E.side ∧ y.wb = E.blk.map (·.1) ∧ y.ft = foot cx st (uid r j.i) j.o ∧ runT A cx r ops (pre ++ post) (st.app j.o.dst E) = some (T1 ++ T2, st'))
  | [], st, T, st', h => by
    simp only [List.nil_append, runT] at h
    split at h
    · rename_i E hE
      split at h
      · rename_i T2 st'' hT
        cases h
        exact ⟨[], _, T2, rfl, rfl, ⟨rfl, rfl⟩, fun _ => ⟨E, hE, rfl, rfl, rfl, hT⟩⟩
      · cases h
    · cases h
  | k :: pre, st, T, st', h => by
    simp only [List.cons_append, runT] at h
    split at h
    · rename_i Ep hEp
      split at h
      · rename_i T' st'' hT
        cases h
        obtain ⟨T1, y, T2, rfl, e2, e3, hrest⟩ := bubble j post pre hT
        refine ⟨_ :: T1, y, T2, rfl, by simp [e2], e3, fun hall => ?_⟩
        obtain ⟨E, g1, g2, g3, g4, g5⟩ := hrest fun z hz => hall z (List.mem_cons_of_mem _ hz)
        obtain ⟨q1, q2, q3⟩ := hall _ (List.mem_cons_self ..)
        simp only at q1 q2 q3
        rw [e3.1] at q1
        rw [g4] at q2
        rw [g3] at q3
        obtain ⟨s1, s2, s3, s4, s5⟩ := swap_one hEp g1 q1 q2 q3
        refine ⟨E, s1, g2, g3, by rw [g4, s4], ?_⟩
        simp only [List.cons_append, runT, s2, s3, g5, s5]
      · cases h
    · cases h
theorem sides_mid {T1 T2 : List It} {y : It} (h : sides (T1 ++ y :: T2)) : y.side ∧ sides (T1 ++ T2) := by
  induction T1 with
  | nil => exact h
  | cons x T1 ih => exact ⟨(ih h.2).1, h.1, (ih h.2).2⟩
theorem pairs_mid {ops : List Oper} {T1 T2 : List It} {y : It} (h : pairsB ops (T1 ++ y :: T2) = true) : (∀ z ∈ T1, pairB ops z y = true) ∧ pairsB ops (T1 ++ T2) = true := by
  induction T1 with
  | nil =>
    simp only [List.nil_append, pairsB, Bool.and_eq_true] at h
    exact ⟨fun z hz => (by cases hz), h.2⟩
  | cons x T1 ih =>
    simp only [List.cons_append, pairsB, Bool.and_eq_true, List.all_append, List.all_cons] at h
    obtain ⟨⟨h1, h2, h3⟩, h4⟩ := h
    obtain ⟨i1, i2⟩ := ih h4
    refine ⟨fun z hz => ?_, ?_⟩
    · rcases List.mem_cons.1 hz with rfl | hz
      · exact h2
      · exact i1 z hz
    · simp [pairsB, h1, h3, i2]
def listedOf (L : List Jt) (listed : Array Bool) : Prop := ∀ j, listed.getD j true = false ↔ j ∈ L.map (·.i)
theorem listed_set {listed : Array Bool} {i j : Nat} (hi : listed.getD i true = false) : (listed.setIfInBounds i true).getD j true = false ↔ j ≠ i ∧ listed.getD j true = false := by
  have hlt : i < listed.size := by
    rcases Nat.lt_or_ge i listed.size with g | g
    · exact g
    · simp [Array.getElem?_eq_none g] at hi
  rw [getD_set hlt]
  by_cases h : i = j
  · simp [h]
  · simp [h, Ne.symm h]
theorem getD_two {listed : Array Bool} {k : Nat} (h : listed.getD k false = true) : listed.getD k true = true := by
  rcases Nat.lt_or_ge k listed.size with g | g
  · simp only [Array.getD_eq_getD_getElem?, Array.getElem?_eq_getElem g, Option.getD_some] at h ⊢
    exact h
  · simp [Array.getElem?_eq_none g] at h
theorem bef_listed {ops : List Oper} {listed : Array Bool} (hcl : ∀ i o, ops[i]? = some o → listed.getD i true = true → ∀ e ∈ o.after, Region.binds .any e = true → listed.getD e.on true = true) :
    ∀ (f : Nat) {y x : Nat}, (∀ o, ops[y]? = some o → ∀ e ∈ o.after, Region.binds .any e = true → listed.getD e.on true = true) → bef ops f y x = true → listed.getD x true = true
  | 0, _, _, _, h => by cases h
  | f + 1, y, x, hy, h => by
    unfold bef at h
    split at h
    · rename_i o ho
      obtain ⟨e, he, hb⟩ := List.any_eq_true.1 h
      simp only [Bool.and_eq_true, Bool.or_eq_true] at hb
      have h1 := hy o ho e (by simpa using he) hb.1
      rcases hb.2 with h2 | h2
      · rw [eqn_eq h2] at h1
        exact h1
      · exact bef_listed hcl f (fun o' ho' => hcl e.on o' ho' h1) h2
    · cases h
theorem any_ok (hc : CxOk P cx) {r : Nat} {ops : List Oper} {Q : Exit → Act → World → Prop} {st' : St} (hQ : ∀ ν' a' w', Rep bs gv st' ν' a' w' → Q .normal a' w')
    (hback : ∀ i o, ops[i]? = some o → ∀ e ∈ o.after, Region.binds .any e = true → e.on < i) : ∀ (fuel : Nat) {L : List Jt} {T : List It} {st : St} {ν : Nat → Option (Nat × Nat)} {a : Act} {w : World} {listed : Array Bool},
    L.length ≤ fuel → runT Ar.std cx r ops L st = some (T, st') → pairsB ops T = true → sides T → Rep bs gv st ν a w → listedOf L listed → (∀ x ∈ L, ops[x.i]? = some x.o) → L.Pairwise (fun x y => x.i < y.i) → listed.size = ops.length → (∀ i o, ops[i]? = some o → listed.getD i true = true → ∀ e ∈ o.after, Region.binds .any e = true → listed.getD e.on true = true) →
    wpAny P .any ops.toArray Q fuel listed a w := by
  intro fuel
  have key : ∀ {L : List Jt} {listed : Array Bool}, listedOf L listed → (∀ x ∈ L, ops[x.i]? = some x.o) → L.Pairwise (fun x y => x.i < y.i) → listed.size = ops.length → Region.ready .any ops.toArray listed = [] → L = [] := by
    intro L listed hl hin hs hsz hr
    cases L with
    | nil => rfl
    | cons x L =>
      exfalso
      have hx := hin x (List.mem_cons_self ..)
      have hun := (hl x.i).2 (by simp)
      have : x.i ∈ Region.ready .any ops.toArray listed := by
        rw [mem_ready]
        refine ⟨hun, x.o, by simpa using hx, fun e he hb => ?_⟩
        have hlt := hback x.i x.o hx e he hb
        have hxl : x.i < ops.length := by
          rcases Nat.lt_or_ge x.i ops.length with g | g
          · exact g
          · rw [List.getElem?_eq_none g] at hx; cases hx
        have hne : ¬ listed.getD e.on true = false := by
          intro h0
          have hm := (hl e.on).1 h0
          simp only [List.map_cons, List.mem_cons] at hm
          rcases hm with hm | hm
          · omega
          · obtain ⟨y, hy, hy2⟩ := List.mem_map.1 hm
            have := (List.pairwise_cons.1 hs).1 y hy
            omega
        have h1 : e.on < listed.size := by omega
        simp only [Array.getD_eq_getD_getElem?, Array.getElem?_eq_getElem h1, Option.getD_some, Bool.not_eq_false] at hne ⊢
        exact hne
      rw [hr] at this
      cases this
  induction fuel with
  | zero =>
    intro L T st ν a w listed hf h _ _ hr hl hin hs hsz _
    have hL : L = [] := List.length_eq_zero_iff.1 (Nat.le_zero.1 hf)
    subst hL
    cases h
    refine ⟨?_, hQ _ _ _ hr⟩
    rw [List.eq_nil_iff_forall_not_mem]
    intro j hj
    have := (hl j).1 (mem_ready.1 hj).1
    cases this
  | succ fuel ih =>
    intro L T st ν a w listed hf h hp hsd hr hl hin hs hsz hcl
    refine ⟨fun hrd => ?_, fun i hi => ?_⟩
    · have hL := key hl hin hs hsz hrd
      subst hL
      cases h
      exact hQ _ _ _ hr
    · obtain ⟨hun, o, ho, hall⟩ := mem_ready.1 hi
      have hm := (hl i).1 hun
      obtain ⟨x, hx, hxi⟩ := List.mem_map.1 hm
      obtain ⟨pre, post, hL⟩ := List.append_of_mem hx
      have hxo := hin x hx
      rw [hxi] at hxo
      have hox : x.o = o := by
        have : ops[i]? = some o := by simpa using ho
        rw [this] at hxo
        exact (Option.some.inj hxo).symm
      subst hxi hox
      rw [hL] at h hs hin
      obtain ⟨T1, y, T2, hT, hT1, hyo, hb⟩ := bubble x post pre h
      subst hT
      obtain ⟨p1, p2⟩ := pairs_mid hp
      obtain ⟨d1, d2⟩ := sides_mid hsd
      have hok : ∀ z ∈ T1, OkPair ops z y := by
        intro z hz
        have hpz := p1 z hz
        unfold pairB at hpz
        rw [hyo.1, hyo.2, Bool.or_eq_true, Bool.or_eq_true] at hpz
        rcases hpz with hpz | hpz | hpz
        · exfalso
          obtain ⟨e, he, hb⟩ := List.any_eq_true.1 hpz
          simp only [Bool.and_eq_true] at hb
          have hon := eqn_eq hb.2
          have hlisted := hall e (by simpa using he) hb.1
          have hzin : z.i ∈ L.map (·.i) := by
            have hz1 : (z.i, z.o) ∈ pre.map (fun z => (z.i, z.o)) := by
              rw [← hT1]
              exact List.mem_map.2 ⟨z, hz, rfl⟩
            obtain ⟨q, hq, he⟩ := List.mem_map.1 hz1
            simp only [Prod.mk.injEq] at he
            rw [hL]
            simp only [List.map_append, List.mem_append]
            exact .inl (List.mem_map.2 ⟨q, hq, he.1⟩)
          have hzun := (hl z.i).2 hzin
          rw [← hon] at hzun
          have h1 : e.on < listed.size := by
            rcases Nat.lt_or_ge e.on listed.size with g | g
            · exact g
            · simp [Array.getElem?_eq_none g] at hzun
          simp only [Array.getD_eq_getD_getElem?, Array.getElem?_eq_getElem h1, Option.getD_some] at hzun hlisted
          rw [hzun] at hlisted
          cases hlisted
        · simp only [Bool.and_eq_true] at hpz
          exact ⟨by rw [hyo.1]; exact hpz.1.1, hpz.1.2, hpz.2⟩
        · exfalso
          have hzin : z.i ∈ L.map (·.i) := by
            have hz1 : (z.i, z.o) ∈ pre.map (fun z => (z.i, z.o)) := by
              rw [← hT1]
              exact List.mem_map.2 ⟨z, hz, rfl⟩
            obtain ⟨q, hq, he⟩ := List.mem_map.1 hz1
            simp only [Prod.mk.injEq] at he
            rw [hL]
            simp only [List.map_append, List.mem_append]
            exact .inl (List.mem_map.2 ⟨q, hq, he.1⟩)
          have hzun := (hl z.i).2 hzin
          have := bef_listed hcl 6 (fun o' ho' e he hb => by
            rw [hxo] at ho'
            cases ho'
            exact getD_two (hall e he hb)) hpz
          rw [hzun] at this
          cases this
      obtain ⟨E, g1, g2, _, _, g5⟩ := hb hok
      unfold wpOp
      rw [ho]
      refine effG_ok hc hr g1 (g2 ▸ d1) fun ν' a' w' hr' => ?_
      have hs' := List.pairwise_append.1 hs
      have hs2 := List.pairwise_cons.1 hs'.2.1
      refine ih ?_ g5 p2 d2 hr' ?_ ?_ ?_ (by simpa using hsz) ?_
      · rw [hL] at hf
        simp at hf ⊢
        omega
      · intro j
        rw [listed_set hun, hl j, hL]
        simp only [List.map_append, List.map_cons, List.mem_append, List.mem_cons]
        constructor
        · rintro ⟨hne, h | h | h⟩
          · exact .inl h
          · exact absurd h hne
          · exact .inr h
        · intro h
          refine ⟨?_, ?_⟩
          · rcases h with h | h
            · obtain ⟨z, hz, rfl⟩ := List.mem_map.1 h
              have := hs'.2.2 z hz x (by simp)
              omega
            · obtain ⟨z, hz, rfl⟩ := List.mem_map.1 h
              have := hs2.1 z hz
              omega
          · rcases h with h | h
            · exact .inl h
            · exact .inr (.inr h)
      · intro z hz
        refine hin z ?_
        rcases List.mem_append.1 hz with h | h
        · exact List.mem_append_left _ h
        · exact List.mem_append_right _ (List.mem_cons_of_mem _ h)
      · exact List.pairwise_append.2 ⟨hs'.1, hs2.2, fun x hx y hy => hs'.2.2 x hx y (List.mem_cons_of_mem _ hy)⟩
      · intro i o ho2 hg e he hb
        rw [← Bool.not_eq_false]
        intro hf2
        obtain ⟨f1, f2⟩ := (listed_set hun).1 hf2
        by_cases hix : i = x.i
        · subst hix
          rw [hxo] at ho2
          cases ho2
          have := getD_two (hall e he hb)
          rw [f2] at this
          cases this
        · have hgi : listed.getD i true = true := by
            rw [← Bool.not_eq_false]
            intro hf3
            have := (listed_set hun).2 ⟨hix, hf3⟩
            rw [hg] at this
            cases this
          have := hcl i o ho2 hgi e he hb
          rw [f2] at this
          cases this
theorem withIdx_get : ∀ (l : List Oper) (k : Nat) (ds : List Bool), ∀ x ∈ withIdx k l ds, k ≤ x.i ∧ l[x.i - k]? = some x.o
  | [], _, _, x, hx => by cases hx
  | _ :: _, _, [], x, hx => by cases hx
  | o :: l, k, d :: ds, x, hx => by
    rcases List.mem_cons.1 hx with rfl | hx
    · simp
    · obtain ⟨h1, h2⟩ := withIdx_get l (k + 1) ds x hx
      refine ⟨by omega, ?_⟩
      rw [show x.i - k = (x.i - (k + 1)) + 1 by omega]
      simpa using h2
theorem withIdx_fst : ∀ (l : List Oper) (k : Nat) (ds : List Bool), ds.length = l.length → (withIdx k l ds).map (·.i) = List.range' k l.length
  | [], _, [], _ => rfl
  | [], _, _ :: _, h => by simp at h
  | _ :: _, _, [], h => by simp at h
  | o :: l, k, d :: ds, h => by simp [withIdx, withIdx_fst l (k + 1) ds (by simpa using h), List.range'_succ]
theorem withIdx_sorted : ∀ (l : List Oper) (k : Nat) (ds : List Bool), (withIdx k l ds).Pairwise (fun x y => x.i < y.i)
  | [], _, _ => .nil
  | _ :: _, _, [] => .nil
  | o :: l, k, d :: ds => List.pairwise_cons.2 ⟨fun y hy => by have := (withIdx_get l (k + 1) ds y hy).1; simp only; omega, withIdx_sorted l (k + 1) ds⟩
theorem backB_ok : ∀ {l : List Oper} {k : Nat}, backB k l = true → ∀ i o, l[i]? = some o → ∀ e ∈ o.after, Region.binds .any e = true → e.on < k + i
  | [], _, _, i, o, h, _, _, _ => by simp at h
  | x :: l, k, h, i, o, ho, e, he, hb => by
    simp only [backB, Bool.and_eq_true] at h
    cases i with
    | zero =>
      simp at ho
      subst ho
      have := List.all_eq_true.1 h.1 e (by simpa using he)
      rw [hb] at this
      have h2 := lee_le (by simpa using this : lee (e.on + 1) k = true)
      omega
    | succ i =>
      have := backB_ok h.2 i o (by simpa using ho) e he hb
      omega
theorem rep_drew (hr : Rep bs gv st ν a w) : Rep bs gv st ν a { w with drawn := w.drawn + 1 } := by
  obtain ⟨hx, hm⟩ := mem_below (G := gg bs st ν w) hr.mem (w' := { w with drawn := w.drawn + 1 }) (Below.refl w.heap.size w).drew
  exact ⟨hr.size, fun t e he => (hr.slot t e he).ext hx, hr.gs.ext hx, hr.defers, hm⟩
theorem region_any (hc : CxOk P cx) {id : Nat} {ops : Array Oper} {Q : Exit → Act → World → Prop} {T : List It} {st' : St} {ds : List Bool} (hds : ds.length = ops.toList.length) (h : runT Ar.std cx id ops.toList (withIdx 0 ops.toList ds) st = some (T, st')) (hp : pairsB ops.toList T = true) (hb : backB 0 ops.toList = true) (hs : sides T) (hr : Rep bs gv st ν a w)
    (hQ : ∀ ν' a' w', Rep bs gv st' ν' a' w' → Q .normal a' w') : (Code.region id ops true).wp P Q a w := by
  refine wp_region_any hc.mixed ?_
  refine any_ok (ops := ops.toList) hc hQ (fun i o ho e he hb' => by have := backB_ok hb i o ho e he hb'; omega) ops.size (L := withIdx 0 ops.toList ds) ?_ h hp hs (rep_drew hr) ?_ ?_ (withIdx_sorted _ _ _) (by simp) ?_
  · have := congrArg List.length (withIdx_fst ops.toList 0 ds hds)
    simp at this
    omega
  · intro j
    rw [withIdx_fst _ _ _ hds]
    simp only [List.mem_range'_1, Nat.zero_le, true_and, Nat.zero_add, Array.length_toList]
    rcases Nat.lt_or_ge j ops.size with g | g
    · simp [g]
    · simp [g]
  · intro x hx
    have := (withIdx_get _ _ _ x hx).2
    simpa using this
  · intro i o ho hg
    have hlt : i < ops.size := by
      rcases Nat.lt_or_ge i ops.size with g | g
      · exact g
      · rw [List.getElem?_eq_none (by simpa using g)] at ho; cases ho
    simp [hlt] at hg
end
end Go.Proofs.Ytakebkfhigadiaa.Ry
