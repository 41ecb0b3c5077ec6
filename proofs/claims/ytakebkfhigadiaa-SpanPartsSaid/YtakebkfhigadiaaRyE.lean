/-
  The reckoner's rules hold in the model: conversions, slices, what is built, made, appended, copied. No condition.
-/
import Derived.Test.YtakebkfhigadiaaRyD
import Derived.IntWalk
namespace Go.Proofs.Ytakebkfhigadiaa.Ry
open Go Go.RowKit

section
variable {P : Program} {cx : Cx} {bs : Bs} {gv : List Value} {st : St} {ν : Nat → Option (Nat × Nat)} {a : Act} {w : World} {G : Gm}

/-- What a slice holds now, be it one's own or not. -/
def Holds (G : Gm) (c : Ct) (v : Value) : Prop :=
  ∃ A cap, ∃ us : List Value, v = .slice A c.n cap ∧ c.n ≤ cap ∧ cap ≤ maxLen ∧ flatIs G c us ∧ (∀ u ∈ us, u.oneCell' = true) ∧ (c.n ≠ 0 → ∃ g o, A = some ⟨g, o, none⟩ ∧ ∀ j u, us[j]? = some u → G.w.cell? ⟨g, o + j, none⟩ = some u)
theorem holds_of_is {c : Ct} {v : Value} (h : c.is G v) : Holds G c v := by
  obtain ⟨A, cap, us, h1, h2, h3, h4, h5, h6⟩ := flat_of_is h
  refine ⟨A, cap, us, h1, h2, h3, h4, h5, fun hn => ?_⟩
  obtain ⟨g, o, e, hc⟩ := h6 hn
  exact ⟨g, o, e, fun j u hu => (hc j u hu).cell⟩
theorem row_cell {g : Nat} {t : TypeId} {pre vs rest : List Value} (hg : w.heap[g]? = some (.cells (pre ++ (vs ++ rest)).toArray t (0, 0))) {j : Nat} {u : Value} (hu : vs[j]? = some u) : w.cell? ⟨g, pre.length + j, none⟩ = some u := by
  simp only [World.cell?, hg]
  have : (pre ++ (vs ++ rest))[pre.length + j]? = some u := by rw [get_pre, List.getElem?_append_left (get_lt hu)]; exact hu
  simpa using this
theorem holds_own (hm : Mem G) {n : Nat} {t : TypeId} {c : Ct} (h : hget G.h n = some (.row t c)) {v : Value} (hv : ownIs G n c v) : Holds G c v := by
  rcases hv with ⟨h0, _, A0, rfl⟩ | ⟨g, off, cap, _, _, h1, rfl, h2, h3, _⟩
  · exact holds_of_is (nil_is h0)
  obtain ⟨pre, vs, rest, h0, e2, e3, e4⟩ := hm.rowAt h h1
  subst h0
  exact ⟨_, cap, vs, rfl, h2, h3, e3, e4, fun _ => ⟨g, pre.length, rfl, fun j u hu => row_cell e2 hu⟩⟩
theorem holds_rr (hm : Mem G) {n : Nat} {t e : TypeId} {c : Ct} {q : Option Int} (h : hget G.h n = some (.rr t e c q)) {v : Value} (hv : ownIs G n c v) : Holds G c v := by
  rcases hv with ⟨h0, _, A0, rfl⟩ | ⟨g, off, cap, _, _, h1, rfl, h2, h3, _⟩
  · exact holds_of_is (nil_is h0)
  obtain ⟨pre, vs, rest, h0, e2, e3, e4, _⟩ := hm.rrAt h h1
  subst h0
  exact ⟨_, cap, vs, rfl, h2, h3, e3, e4, fun _ => ⟨g, pre.length, rfl, fun j u hu => row_cell e2 hu⟩⟩
theorem ctOf_holds (hm : Mem G) {x : SC} {c : Ct} {v : Value} (h : ctOf G.h x = some c) (hv : x.is G v) : Holds G c v := by
  unfold ctOf at h
  split at h
  · cases h
    exact holds_of_is hv.1
  · rename_i n
    have hv : ownAt G n v := hv.2
    unfold ownAt at hv
    split at h
    · rename_i t c' hh
      cases h
      rw [hh] at hv
      exact holds_own hm hh hv
    · rename_i c' hh
      cases h
      rw [hh] at hv
      exact holds_of_is hv
    · cases h
  · cases h
theorem rrCt_holds (hm : Mem G) {x : SC} {c : Ct} {v : Value} (h : rrCt G.h x = some c) (hv : x.is G v) : Holds G c v := by
  unfold rrCt at h
  split at h
  · rename_i n
    have hv : ownAt G n v := hv.2
    unfold ownAt at hv
    split at h
    · rename_i hh
      cases h
      rw [hh] at hv
      exact holds_rr hm hh hv
    · cases h
  · cases h
/-- A cell of a new block. -/
theorem new_ok (hm : Mem G) {G' : Gm} (hbs : G'.bs = G.bs) (hsz : G.w.heap.size < G'.w.heap.size) {j : Nat} (hown : ∀ n, alive G'.h n → ∀ m, G'.o n = some (G.w.heap.size, m) → j < m) : G'.ok G.w.heap.size j := by
  refine ⟨hsz, fun h => ?_, fun n ha g m ho e => ?_⟩
  · rw [hbs] at h
    have := hm.size
    omega
  · subst e
    exact hown n ha m ho
theorem bytesL_mk (l : List Int) : bytesL ⟨(l.map fun n => UInt8.ofNat n.toNat).toArray⟩ = l.map fun n => ((UInt8.ofNat n.toNat).toNat : Int) := by
  simp [bytesL]
theorem push_all (ns : List Int) : ∀ acc : Array UInt8, ns.foldl (fun (r : ByteArray) n => r.push (UInt8.ofNat n.toNat)) (ByteArray.mk acc) = ByteArray.mk (acc ++ (ns.map fun n => UInt8.ofNat n.toNat).toArray) := by
  induction ns with
  | nil => intro acc; simp
  | cons n ns ih =>
    intro acc
    rw [List.foldl_cons]
    show ns.foldl _ (ByteArray.mk (acc.push (UInt8.ofNat n.toNat))) = _
    rw [ih]
    simp
theorem run_bytes {l : List Int} {v : Value} (h : Holds G (.ints .u8 l) v) : (Conv.bytesToString v).run P G.w = .ok (.string ⟨(l.map fun n => UInt8.ofNat n.toNat).toArray⟩) G.w := by
  have hp := push_all l #[]
  simp only [Array.empty_append] at hp
  have hp : l.foldl (fun (r : ByteArray) n => r.push (UInt8.ofNat n.toNat)) ByteArray.empty = ⟨(l.map fun n => UInt8.ofNat n.toNat).toArray⟩ := hp
  obtain ⟨A, c, us, rfl, _, _, hf, _, h3⟩ := h
  have hf : us = l.map (Value.int .u8) := hf
  subst hf
  cases A with
  | none =>
    have : l = [] := by
      cases l with
      | nil => rfl
      | cons n l => obtain ⟨b, o, e, _⟩ := h3 (by simp [Ct.n]); cases e
    subst this
    rfl
  | some ad =>
    have hrun : (loadCells ad l.length).run P G.w = .ok (l.map (Value.int .u8)).toArray G.w := by
      have := run_loadCells_list (P := P) G.w ad (l.map (Value.int .u8)) (fun j v hv => by
        obtain ⟨b, o, e, hc⟩ := h3 (by
          have := get_lt hv
          simp at this
          show l.length ≠ 0
          omega)
        cases e
        rw [add_at]
        exact hc j v hv)
      simpa using this
    show (Conv.bytesToString (.slice (some ad) l.length c)).run P G.w = _
    rw [run_bytesToString (P := P) G.w ad l.length c l hrun, hp]
theorem modify_at {h : Array Obj} {g k : Nat} {f : Obj → Obj} : (h.modify g f)[k]? = if g = k then h[k]?.map f else h[k]? := by
  rw [Array.getElem?_modify]
/-- The mark behind a literal's row. -/
theorem run_mark {t e : TypeId} (ht : P.underlying t = some (.slice e)) (he : P.underlying e = some (.int .u8)) {g off n cap : Nat} {cur : Array Value} {e' : TypeId} (hg : w.heap[g]? = some (.cells cur e' (0, 0))) :
    (convert t t (.slice (some ⟨g, off, none⟩) n cap)).run P w = .ok (.slice (some ⟨g, off, none⟩) n cap) (w.freeze ⟨g, cur.size, none⟩ 1) := by
  have hsh : w.shape? g = some (e', cur.size) := by
    unfold World.shape?
    rw [hg]
  simp [convert, run_underlying ht, run_underlying he, markStringish, hsh]
theorem freeze_heap {g off : Nat} {cur : Array Value} {e' : TypeId} (hg : w.heap[g]? = some (.cells cur e' (0, 0))) (k : Nat) : (w.freeze ⟨g, off, none⟩ 1).heap[k]? = if g = k then some (.cells cur e' (off, off + 1)) else w.heap[k]? := by
  unfold World.freeze
  rw [if_neg (by decide)]
  show (w.heap.modify g _)[k]? = _
  rw [modify_at]
  by_cases e : g = k
  · subst e
    simp [hg]
  · simp [e]
theorem shp_frz {g off : Nat} {cur : Array Value} {e' : TypeId} (hg : w.heap[g]? = some (.cells cur e' (0, 0))) : Shp w (w.freeze ⟨g, off, none⟩ 1) := fun c x hx => by
  unfold World.shape? at hx ⊢
  rw [freeze_heap hg]
  by_cases e : g = c
  · subst e
    rw [hg] at hx
    rw [if_pos rfl]
    exact hx
  · rw [if_neg e]
    exact hx
theorem freeze_size {g off : Nat} : (w.freeze ⟨g, off, none⟩ 1).heap.size = w.heap.size := by
  unfold World.freeze
  rw [if_neg (by decide)]
  simp
theorem conv_ok (hc : CxOk P cx) (hr : Rep bs gv st ν a w) {o : Oper} {t u : TypeId} {x : Operand} (ho : o.op = .convert t u x) {E : Eff} (h : effConv Ar.std cx st.heap t u (evalE st x) = some E) (hs : E.side) : Runs P o a w (Res bs st ν w E) := by
  have hx := evalE_is hr x
  unfold effConv at h
  split at h
  · rename_i g c hex
    rw [hex] at hx
    split at h
    · rename_i e _ _ _ _ _ _ _ _ _ _ h1 h2
      obtain ⟨hu1, _, _⟩ := tiOf_slice (hc.tt _ _ h1)
      have hu2 := tiOf_str (hc.tt _ _ h2)
      split at h
      · rename_i _ _ _ _ h3
        have hu3 := tiOf_int (hc.tt _ _ h3)
        split at h
        · unfold mk1 at h
          cases h
          have e : a.eval x = .slice none 0 0 := hx.of hs
          refine runs_value (v := .string ⟨#[]⟩) (w' := w) ?_ (res_pure hr.mem (e := ⟨none, _⟩) ⟨_, rfl, rfl⟩)
          simp [execOp, ho, e, convert, run_underlying hu1 w, run_underlying hu2 w, run_underlying hu3 w, Conv.bytesToString]
          rfl
        · split at h
          · rename_i l hl
            unfold mk1 at h
            cases h
            have hh := ctOf_holds hr.mem hl (hx.of hs)
            have hrun := run_bytes (P := P) hh
            obtain ⟨A, cap, us, ev, _⟩ := hh
            rw [ev] at hrun
            have hrun : (Conv.bytesToString (.slice A l.length cap)).run P w = .ok (.string ⟨(l.map fun n => UInt8.ofNat n.toNat).toArray⟩) w := hrun
            have ev : a.eval x = .slice A l.length cap := ev
            refine runs_value (v := .string ⟨(l.map fun n => UInt8.ofNat n.toNat).toArray⟩) (w' := w) ?_ (res_pure hr.mem (e := ⟨none, _⟩) ⟨_, rfl, bytesL_mk l⟩)
            simp only [execOp, ho, ev, convert, Sem.run_bind, run_underlying hu1 w, run_underlying hu2 w, Result.andThen_ok, run_underlying hu3 w, hrun, Sem.run_pure]
          · cases h
      · cases h
    · rename_i _ _ _ _ e sz _ _ _ _ h1 h2
      have hu1 := tiOf_str (hc.tt _ _ h1)
      obtain ⟨hu2, ⟨ie, hie⟩, hsz⟩ := tiOf_slice (hc.tt _ _ h2)
      split at h
      · rename_i _ _ _ _ h3
        have hu3 := tiOf_int (hc.tt _ _ h3)
        split at h
        · split at h
          · rename_i l
            unfold mk1 at h
            cases h
            obtain ⟨s, e1, e2⟩ := hx.of hs.1
            have hrun := run_bytes_of_string (P := P) w t u e s hu1 hu2 hu3
            generalize hcp : grownCap w s.size 0 e = cap at hrun
            have hn : s.size = (Ct.ints IntKind.u8 l).n := by
              show s.size = l.length
              rw [← e2]
              simp [bytesL]
            have hmx : s.size ≤ maxLen := by
              have h2 : decide ((l.length : Int) * 1 ≤ 140737488355328) = true := hs.2
              have h2 := of_decide_eq_true h2
              have : (Ct.ints IntKind.u8 l).n = l.length := rfl
              unfold maxLen
              omega
            have hc1 : s.size ≤ cap := by rw [← hcp]; exact grownCap_ge _ _ _ _
            have hc2 : cap ≤ maxLen := by rw [← hcp]; exact grownCap_le_maxLen _ _ _ _ hmx
            have hb : Below w.heap.size w (w.drew.alloc (.cells (bytesRow s cap) e ((bytesRow s cap).size, (bytesRow s cap).size + 1))) :=
              ((Below.refl _ _).drew).alloc (by simp) _
            obtain ⟨hx', hm'⟩ := mem_below (G := gg bs st ν w) hr.mem hb
            refine runs_value (v := .slice (some ⟨w.heap.size, 0, none⟩) s.size cap) (w' := w.drew.alloc (.cells (bytesRow s cap) e ((bytesRow s cap).size, (bytesRow s cap).size + 1))) ?_ ⟨ν, hx', ⟨?_, trivial⟩, hm'⟩
            · simp only [execOp, ho, e1, hrun, Sem.run_bind, Sem.run_pure, Result.andThen_ok]
            · rw [hn]
              have hok : ∀ j, Gm.ok ⟨ν, st.heap, bs, w.drew.alloc (.cells (bytesRow s cap) e ((bytesRow s cap).size, (bytesRow s cap).size + 1))⟩ w.heap.size j := fun j =>
                new_ok (G := gg bs st ν w) (G' := ⟨ν, st.heap, bs, w.drew.alloc (.cells (bytesRow s cap) e ((bytesRow s cap).size, (bytesRow s cap).size + 1))⟩) hr.mem rfl (by simp [gg]) (fun n ha m ho => by
                  have := (hr.mem.own n ha _ _ ho).1
                  exact absurd this (Nat.lt_irrefl _))
              refine is_of_flat (us := l.map (Value.int .u8)) rfl (fun j q hq => ⟨hok _, ?_, ?_⟩) (by rw [← hn]; exact hc1) hc2
              · have hj : j < s.size := by
                  have := get_lt hq
                  rw [List.length_map] at this
                  have : l.length = s.size := hn.symm
                  omega
                have e3 : (w.drew.alloc (.cells (bytesRow s cap) e ((bytesRow s cap).size, (bytesRow s cap).size + 1))).heap[w.heap.size]? = some (.cells (bytesRow s cap) e ((bytesRow s cap).size, (bytesRow s cap).size + 1)) := heap_alloc_new _ _
                simp only [World.cell?, e3, Nat.zero_add]
                have hj2 : j < s.data.size := hj
                have e4 : (bytesRow s cap)[j]? = some q := by
                  rw [← hq, ← e2]
                  unfold bytesRow bytesL
                  rw [Array.getElem?_append_left (by simpa using hj2)]
                  simp
                  rfl
                simpa using e4
              · have := List.mem_of_getElem? hq
                obtain ⟨q', _, rfl⟩ := List.mem_map.1 this
                rfl
          · cases h
        · cases h
      · cases h
    · rename_i e _ _ _ _ _ e2 _ _ _ _ _ h1 h2
      obtain ⟨hu1, _, _⟩ := tiOf_slice (hc.tt _ _ h1)
      split at h
      · rename_i _ _ _ _ h3
        have hu3 := tiOf_int (hc.tt _ _ h3)
        split at h
        · rename_i id e' k l hbe
          have hbe := eqn_eq hbe
          subst hbe
          split at h
          · rename_i htk
            cases h
            obtain ⟨n1, n2⟩ := hs
            obtain ⟨k1, k2⟩ := hx.of n1
            unfold tokAt at htk
            split at htk
            · rename_i hh
              have hh' : hget (gg bs st ν w).h id = some .tok := hh
              unfold TokOk at k2
              simp only [hh'] at k2
              have n2 : decide ((l.length : Int) > 0) = true := n2
              have n2 := of_decide_eq_true n2
              rcases k2 with ⟨A, k2⟩ | ⟨g0, off, n, cap, cur, q1, q2, q3, q4, q5, q6, q7⟩
              · obtain ⟨A', cap, q, _⟩ := Ct.len_is k1
                rw [k2] at q
                simp only [Value.slice.injEq] at q
                have : (Ct.ints k l).n = l.length := rfl
                omega
              · have hrun := run_mark (P := P) (w := w) (off := off) (n := n) (cap := cap) hu1 hu3 q3
                have q3' : w.heap[g0]? = some (.cells cur e' (0, 0)) := q3
                have ha : alive (gg bs st ν w).h id := .inl ⟨_, hh', rfl⟩
                have hcells : ∀ b j, (w.freeze ⟨g0, cur.size, none⟩ 1).cell? ⟨b, j, none⟩ = w.cell? ⟨b, j, none⟩ := by
                  intro b j
                  by_cases e : g0 = b
                  · subst e
                    simp only [World.cell?]
                    rw [freeze_heap q3', q3']
                    simp
                  · refine cell_other ?_ j
                    rw [freeze_heap q3', if_neg e]
                obtain ⟨hx', hm'⟩ := mem_one (G := gg bs st ν w) (d := id) (k' := .dead) (x := none) (w' := w.freeze ⟨g0, cur.size, none⟩ 1) hr.mem
                  (by unfold World.freeze; rw [if_neg (by decide)]; rfl) (by unfold World.freeze; rw [if_neg (by decide)]; rfl) (by unfold World.freeze; rw [if_neg (by decide)]; rfl) (by rw [freeze_size]; exact Nat.le_refl _)
                  (fun b hb hno => by rw [freeze_heap q3']; rw [if_neg (fun e => hno (off + n * (Ct.ints k l).sz) ha (by rw [q2, e]))]; rfl)
                  (fun _ b m j _ _ => hcells b j) (fun b m h => by cases h) (fun k hk _ => trivial) (fun _ => trivial) (shp_frz q3')
                refine runs_value (v := .slice (some ⟨g0, off, none⟩) n cap) ?_ ⟨_, hx', ⟨?_, trivial⟩, hm'⟩
                · simp only [execOp, ho, q1, Sem.run_bind]
                  rw [hrun]
                  rfl
                · rw [← q1]
                  exact Ct.is.sub hx'.toSub k1
            · cases htk
          · cases h
        · cases h
      · cases h
    · rename_i h1 h2
      obtain ⟨_, _, d, _, _, hu, _⟩ := tiOf_info (hc.tt _ _ h1)
      have hu2 := tiOf_int (hc.tt _ _ h2)
      simp only [lit_std] at h
      split at h
      · rename_i k' n hn
        refine mk1_res hr.mem h (v := .int _ (IntKind.wrap _ n)) (fun hs => ?_) (fun hs => mkI_is rfl) hs
        cases h
        have e := int?_is hn (hx.of hs)
        simp [execOp, ho, e, convert, run_underlying hu w, run_underlying hu2 w, Conv.intToInt]
      · cases h
    · cases h
  · cases h
/-! ### Elements -/
theorem rowIs.cells {sz : Nat} {α : Type} {Q : α → List Value → Prop} {l : List α} {v : Value} (h : rowIs G sz Q l v) {i : Nat} {x : α} (hx : l[i]? = some x) : ∃ b o c us, v = .slice (some ⟨b, o, none⟩) l.length c ∧ us.length = sz ∧ Q x us ∧ ∀ j u, us[j]? = some u → cellAt G b (o + i * sz + j) u := by
  obtain ⟨A, c, e, _, _, h3⟩ := h
  have hne : l ≠ [] := by rintro rfl; simp at hx
  obtain ⟨b, o, rfl, hc⟩ := h3 hne
  obtain ⟨us, h1, h2, h3⟩ := hc i x hx
  exact ⟨b, o, c, us, e, h1, h2, h3⟩
theorem indexAddr_ok (hc : CxOk P cx) (hr : Rep bs gv st ν a w) {o : Oper} {t : TypeId} {x y : Operand} (ho : o.op = .indexAddr t x y) {E : Eff} (h : effIndexAddr Ar.std cx st.heap t (evalE st x) (evalE st y) = some E) (hs : E.side) : Runs P o a w (Res bs st ν w E) := by
  have hx := evalE_is hr x
  have hy := evalE_is hr y
  unfold effIndexAddr at h
  split at h
  · rename_i g c g' d hex hey
    rw [hex] at hx
    rw [hey] at hy
    split at h
    · rename_i k i e m _ _ _ _ hi hl
      obtain ⟨hu, ⟨ie, hie⟩, hm⟩ := tiOf_slice (hc.tt _ _ hl)
      have hm' : ie.size = m := by rw [hm]; simp [Program.cellsOf, hie]
      have main : ∀ {b off len cap : Nat}, a.eval x = .slice (some ⟨b, off, none⟩) len cap → a.eval y = .int k i → 0 ≤ i → i < len →
          (execOp a.eval o).run P w = .ok (.value (.pointer (some ⟨b, off + i.toNat * m, none⟩))) w := by
        intro b off len cap ex ey h0 h1
        have hcond : 0 ≤ i ∧ i < (len : Int) := ⟨h0, h1⟩
        simp only [execOp, ho, ex, ey, Instr.indexAt, asIntOf, Sem.run_bind, Sem.run_pure, Result.andThen_ok, run_underlying hu w, hcond, and_self, if_true, sizeOf, typeInfo, run_program, hie, hm', add_at]
      have plainI : ∀ {k' : IntKind} {l : List Int} {F : Eff}, eqn m 1 = true → mk1 (need g ∧ need g' ∧ Ar.std.cmp .geq i 0 = true ∧ Ar.std.cmp .lss i (Ar.std.lenI l) = true) (.rpi k' (Ar.std.atI l i)) = some F → (need g → (Ct.ints k' l).is (gg bs st ν w) (a.eval x)) → F.side → Runs P o a w (Res bs st ν w F) := by
        intro k' l F hn hF hv hs
        have hn := eqn_eq hn
        unfold mk1 at hF
        cases hF
        obtain ⟨n1, n2, h0, h1⟩ := hs
        have h0 : 0 ≤ i := by simpa [Ar.std, stdCmp] using h0
        have h1 : i < l.length := by simpa [Ar.std, stdCmp] using h1
        obtain ⟨b, off, cap, us, ex, u1, u2, u3⟩ := rowIs.cells (hv n1) (getD_at (d := 0) (i := i) (by omega))
        refine runs_value (main ex (int?_is hi (hy.of n2)) h0 h1) (res_pure hr.mem (e := ⟨none, _⟩) ⟨_, _, rfl, ?_⟩)
        subst u2
        rw [hn]
        exact u3 0 _ rfl
      have plainE : ∀ {s : Sh} {l : List (List D)} {F : Eff}, eqn m s.size = true → mk1 (need g ∧ need g' ∧ Ar.std.cmp .geq i 0 = true ∧ Ar.std.cmp .lss i (Ar.std.lenE l) = true) (.rpe s (Ar.std.atE l i) 0) = some F → (need g → (Ct.recs s l).is (gg bs st ν w) (a.eval x)) → F.side → Runs P o a w (Res bs st ν w F) := by
        intro s l F hn hF hv hs
        have hn := eqn_eq hn
        unfold mk1 at hF
        cases hF
        obtain ⟨n1, n2, h0, h1⟩ := hs
        have h0 : 0 ≤ i := by simpa [Ar.std, stdCmp] using h0
        have h1 : i < l.length := by simpa [Ar.std, stdCmp] using h1
        obtain ⟨b, off, cap, us, ex, u1, u2, u3⟩ := rowIs.cells (hv n1) (getD_at (d := []) (i := i) (by omega))
        refine runs_value (main ex (int?_is hi (hy.of n2)) h0 h1) (res_pure hr.mem (e := ⟨none, _⟩) ⟨_, _, us, rfl, u2, ?_⟩)
        rw [hn]
        exact u3
      split at h
      · split at h
        · exact plainI ‹_› h (fun n => (hx.of n).1) hs
        · cases h
      · split at h
        · exact plainE ‹_› h (fun n => (hx.of n).1) hs
        · cases h
      · rename_i b
        split at h
        · rename_i bt c hb
          split at h
          · rename_i hn
            have hn := eqn_eq hn
            unfold mk1 at h
            cases h
            obtain ⟨n1, n2, h0, h1⟩ := hs
            have h0 : 0 ≤ i := by simpa [Ar.std, stdCmp] using h0
            have h1 : i < c.n := by
              have h1 : decide (i < c.len Ar.std) = true := h1
              have := of_decide_eq_true h1
              rwa [Ct.len_n] at this
            have hv : ownAt (gg bs st ν w) b (a.eval x) := (hx.of n1).2
            unfold ownAt at hv
            have hb' : hget (gg bs st ν w).h b = some (.row bt c) := hb
            rw [hb'] at hv
            rcases hv with ⟨h9, _⟩ | ⟨gb, go, cap, _, _, e1, e2, _⟩
            · omega
            refine runs_value (main e2 (int?_is hi (hy.of n2)) h0 h1) (res_pure hr.mem (e := ⟨none, _⟩) ⟨⟨_, rfl⟩, ?_⟩)
            unfold rpAt
            rw [hb']
            exact ⟨gb, go, e1, ⟨h0, by omega⟩, by rw [hn, Nat.add_zero]⟩
          · cases h
        · rename_i bt et c q9 hb
          split at h
          · rename_i hn
            have hn := eqn_eq hn
            unfold mk1 at h
            cases h
            obtain ⟨n1, n2, h0, h1⟩ := hs
            have h0 : 0 ≤ i := by simpa [Ar.std, stdCmp] using h0
            have h1 : i < c.n := by
              have h1 : decide (i < c.len Ar.std) = true := h1
              have := of_decide_eq_true h1
              rwa [Ct.len_n] at this
            have hv : ownAt (gg bs st ν w) b (a.eval x) := (hx.of n1).2
            unfold ownAt at hv
            have hb' : hget (gg bs st ν w).h b = some (.rr bt et c q9) := hb
            rw [hb'] at hv
            rcases hv with ⟨h9, _⟩ | ⟨gb, go, cap, _, _, e1, e2, _⟩
            · omega
            refine runs_value (main e2 (int?_is hi (hy.of n2)) h0 h1) (res_pure hr.mem (e := ⟨none, _⟩) ⟨⟨_, rfl⟩, ?_⟩)
            unfold rpAt
            rw [hb']
            exact ⟨gb, go, e1, ⟨h0, by omega⟩, by rw [hn, Nat.add_zero]⟩
          · cases h
        · rename_i c hb
          have hv : need g → c.is (gg bs st ν w) (a.eval x) := by
            intro n1
            have hv : ownAt (gg bs st ν w) b (a.eval x) := (hx.of n1).2
            unfold ownAt at hv
            have hb' : hget (gg bs st ν w).h b = some (.frz c) := hb
            rw [hb'] at hv
            exact hv
          split at h
          · split at h
            · exact plainI ‹_› h hv hs
            · exact plainE ‹_› h hv hs
          · cases h
        · cases h
      · cases h
    · rename_i k i len m _ _ _ _ _ hi hl
      obtain ⟨e, hu, ⟨ie, hie⟩, hm⟩ := tiOf_array (hc.tt _ _ hl)
      have hm' : ie.size = m := by rw [hm]; simp [Program.cellsOf, hie]
      have main : ∀ {b off : Nat}, a.eval x = .pointer (some ⟨b, off, none⟩) → a.eval y = .int k i → 0 ≤ i → i < len →
          (execOp a.eval o).run P w = .ok (.value (.pointer (some ⟨b, off + i.toNat * m, none⟩))) w := by
        intro b off ex ey h0 h1
        have hcond : 0 ≤ i ∧ i < (len : Int) := ⟨h0, h1⟩
        simp only [execOp, ho, ex, ey, Instr.indexAt, Instr.sureAddr, asIntOf, Sem.run_bind, Sem.run_pure, Result.andThen_ok, run_underlying hu w, hcond, and_self, if_true, sizeOf, typeInfo, run_program, hie, hm', add_at]
      split at h
      · rename_i b off
        split at h
        · rename_i bt cs hb
          split at h
          · rename_i hcond
            simp only [Bool.and_eq_true] at hcond
            obtain ⟨_, h0, h1⟩ := hcond
            have h0 : 0 ≤ i := by simpa [stdCmp] using h0
            have h1 : i < len := by simpa [stdCmp] using h1
            unfold mk1 at h
            cases h
            have hp : ptrAt (gg bs st ν w) b off (a.eval x) := (hx.of hs.1).2
            unfold ptrAt at hp
            have hb' : hget (gg bs st ν w).h b = some (.cells bt cs) := hb
            rw [hb'] at hp
            obtain ⟨gb, e1, e2⟩ := hp
            refine runs_value (main e2 (int?_is hi (hy.of hs.2)) h0 h1) (res_pure hr.mem (e := ⟨none, _⟩) ⟨⟨_, rfl⟩, ?_⟩)
            unfold ptrAt
            rw [hb']
            exact ⟨gb, e1, rfl⟩
          · cases h
        · rename_i bt c hb
          split at h
          · rename_i hcond
            simp only [Bool.and_eq_true] at hcond
            have c1 := eqn_eq hcond.1
            have c2 := eqn_eq hcond.2.1
            have c4 := lee_le hcond.2.2.1
            have c3 := lee_le hcond.2.2.2
            subst c1
            unfold mk1 at h
            cases h
            obtain ⟨n1, n2, h0, h1, h2⟩ := hs
            have h0 : 0 ≤ i := by simpa [Ar.std, stdCmp] using h0
            have h1 : i < len := by simpa [Ar.std, stdCmp] using h1
            have h2 : len * m ≤ c.n := by
              have h2 : decide (((len * m : Nat) : Int) ≤ c.len Ar.std) = true := h2
              have := of_decide_eq_true h2
              rw [Ct.len_n] at this
              omega
            have hp : ptrAt (gg bs st ν w) b 0 (a.eval x) := (hx.of n1).2
            unfold ptrAt at hp
            have hb' : hget (gg bs st ν w).h b = some (.row bt c) := hb
            rw [hb'] at hp
            obtain ⟨gb, e1, e2⟩ := hp
            refine runs_value (main e2 (int?_is hi (hy.of n2)) h0 h1) (res_pure hr.mem (e := ⟨none, _⟩) ⟨⟨_, rfl⟩, ?_⟩)
            have hin : i.toNat < len := by omega
            have hmul : i.toNat * m + m ≤ len * m := chunk_le hin
            have key : ∀ q : Int, q = ((i.toNat * m : Nat) : Int) → m ≠ 0 → rpAt (gg bs st ν w) b q 0 (.pointer (some ⟨gb, 0 + i.toNat * m, none⟩)) := by
              intro q hq hm0
              unfold rpAt
              rw [hb']
              refine ⟨gb, 0, e1, ⟨by omega, by omega⟩, ?_⟩
              have : q.toNat = i.toNat * m := by omega
              rw [this, c2, Nat.mul_one, Nat.add_zero]
            split
            · rename_i hm1
              have hm1 := eqn_eq hm1
              refine key i ?_ (by omega)
              rw [hm1, Nat.mul_one]
              omega
            · have e3 : i * (m : Int) = ((i.toNat * m : Nat) : Int) := by
                rw [Int.natCast_mul, Int.toNat_of_nonneg h0]
              have e4 : IntKind.i64.wrap (i * (m : Int)) = ((i.toNat * m : Nat) : Int) := by
                rw [e3]
                exact IntWalk.i64_in _ (by omega)
              exact key _ e4 (by omega)
          · cases h
        · cases h
      · rename_i b i0
        split at h
        · rename_i bt c hb
          split at h
          · rename_i hcond
            simp only [Bool.and_eq_true] at hcond
            have c2 := eqn_eq hcond.1
            have c4 := lee_le hcond.2.1
            have c3 := lee_le hcond.2.2
            unfold mk1 at h
            cases h
            obtain ⟨n1, n2, h0, h1, h2, h3⟩ := hs
            have h0 : 0 ≤ i := by simpa [Ar.std, stdCmp] using h0
            have h1 : i < len := by simpa [Ar.std, stdCmp] using h1
            have h2 : c.n ≤ 1000000 := by
              have h2 : decide (c.len Ar.std ≤ 1000000) = true := h2
              have := of_decide_eq_true h2
              rw [Ct.len_n] at this
              omega
            have hp : rpAt (gg bs st ν w) b i0 0 (a.eval x) := (hx.of n1).2
            unfold rpAt at hp
            have hb' : hget (gg bs st ν w).h b = some (.row bt c) := hb
            rw [hb'] at hp
            obtain ⟨gb, go, e1, ⟨e5, e6⟩, e2⟩ := hp
            have h3 : i0 + ((len * m : Nat) : Int) ≤ c.n := by
              have h3 : decide (IntKind.i64.wrap (i0 + ((len * m : Nat) : Int)) ≤ c.len Ar.std) = true := h3
              have h4 := of_decide_eq_true h3
              rw [Ct.len_n] at h4
              rwa [IntWalk.i64_in _ (by omega)] at h4
            refine runs_value (main e2 (int?_is hi (hy.of n2)) h0 h1) (res_pure hr.mem (e := ⟨none, _⟩) ⟨⟨_, rfl⟩, ?_⟩)
            have hin : i.toNat < len := by omega
            have hmul : i.toNat * m + m ≤ len * m := chunk_le hin
            have key : ∀ q : Int, q = ((i.toNat * m : Nat) : Int) → rpAt (gg bs st ν w) b (IntKind.i64.wrap (i0 + q)) 0 (.pointer (some ⟨gb, go + (i0.toNat * c.sz + 0) + i.toNat * m, none⟩)) := by
              intro q hq
              rw [IntWalk.i64_in _ (by omega)]
              unfold rpAt
              rw [hb']
              refine ⟨gb, go, e1, ⟨by omega, by omega⟩, ?_⟩
              have : (i0 + q).toNat = i0.toNat + i.toNat * m := by omega
              rw [this, c2, Nat.mul_one, Nat.mul_one, Nat.add_zero, Nat.add_zero, Nat.add_assoc]
            show rpAt (gg bs st ν w) b (IntKind.i64.wrap (i0 + _)) 0 _
            split
            · rename_i hm1
              have hm1 := eqn_eq hm1
              refine key i ?_
              rw [hm1, Nat.mul_one]
              omega
            · refine key _ ?_
              have e3 : i * (m : Int) = ((i.toNat * m : Nat) : Int) := by
                rw [Int.natCast_mul, Int.toNat_of_nonneg h0]
              show IntKind.i64.wrap (i * (m : Int)) = _
              rw [e3]
              exact IntWalk.i64_in _ (by omega)
          · cases h
        · cases h
      · rename_i q z j
        split at h
        · rename_i hcond
          simp only [Bool.and_eq_true] at hcond
          obtain ⟨_, h0, h1⟩ := hcond
          have h0 : 0 ≤ i := by simpa [stdCmp] using h0
          have h1 : i < len := by simpa [stdCmp] using h1
          unfold mk1 at h
          cases h
          obtain ⟨gb, go, us, e1, e2, e3⟩ := hx.of hs.1
          refine runs_value (main e1 (int?_is hi (hy.of hs.2)) h0 h1) (res_pure hr.mem (e := ⟨none, _⟩) ⟨gb, go + i.toNat * m, us.drop (i.toNat * m), rfl, e2.drop _, fun k u hu => ?_⟩)
          rw [List.getElem?_drop] at hu
          rw [Nat.add_assoc]
          exact e3 _ u hu
        · cases h
      · cases h
    · cases h
  · cases h
theorem index_ok (hc : CxOk P cx) (hr : Rep bs gv st ν a w) {o : Oper} {t : TypeId} {x y : Operand} (ho : o.op = .index t x y) {E : Eff} (h : effIndex Ar.std cx t (evalE st x) (evalE st y) = some E) (hs : E.side) : Runs P o a w (Res bs st ν w E) := by
  have hx := evalE_is hr x
  have hy := evalE_is hr y
  unfold effIndex at h
  split at h
  · rename_i g c g' d hex hey
    rw [hex] at hx
    rw [hey] at hy
    split at h
    · rename_i k i len m ag _ _ _ _ hi hl
      obtain ⟨e, hu, ⟨ie, hie⟩, hm, hag⟩ := tiOf_array' (hc.tt _ _ hl)
      have hm' : ie.size = m := by rw [hm]; simp [Program.cellsOf, hie]
      obtain ⟨de, hde⟩ := hag.2
      have main : ∀ {vs : List Value}, a.eval x = .agg vs.toArray → a.eval y = .int k i → 0 ≤ i → i < len → ∀ v, (part e vs.toArray (i.toNat * m)).run P w = .ok v w →
          (execOp a.eval o).run P w = .ok (.value v) w := by
        intro vs ex ey h0 h1 v hv
        have hcond : 0 ≤ i ∧ i < (len : Int) := ⟨h0, h1⟩
        simp only [execOp, ho, ex, ey, Instr.index, asIntOf, Sem.run_bind, Sem.run_pure, Result.andThen_ok, run_underlying hu w, hcond, and_self, if_true, sizeOf, typeInfo, run_program, hie, hm', hv]
      split at h
      · rename_i cs
        split at h
        · rename_i hcond
          simp only [Bool.and_eq_true] at hcond
          obtain ⟨_, h0, h1⟩ := hcond
          have h0 : 0 ≤ i := by simpa [stdCmp] using h0
          have h1 : i < len := by simpa [stdCmp] using h1
          split at h
          · split at h
            · rename_i l hcut
              cases h
              obtain ⟨hle, rfl⟩ := cut_some hcut
              obtain ⟨vs, ev, hcs⟩ := hx.of hs.1
              refine runs_value (v := .agg ((vs.drop (i.toNat * m)).take m).toArray) (w' := w) (main ev (int?_is hi (hy.of hs.2)) h0 h1 _ ?_) (res_pure hr.mem (e := ⟨none, _⟩) ⟨_, rfl, (hcs.drop _).take _⟩)
              have hex : vs.toArray.extract (i.toNat * m) (i.toNat * m + m) = ((vs.drop (i.toNat * m)).take m).toArray := by
                apply Array.ext'
                simp [List.extract_eq_take_drop]
              simp only [part, Sem.run_bind, run_isAgg (w := w) hde, hag.1, if_true, sizeOf, typeInfo, run_program, hie, hm', Result.andThen_ok, Sem.run_pure, hex]
            · cases h
          · split at h
            · rename_i d' hcut
              unfold mk1 at h
              cases h
              obtain ⟨vs, ev, hcs⟩ := hx.of hs.1
              obtain ⟨v, hv1, hv2, _⟩ := cut_one hcut hcs
              refine runs_value (v := v) (w' := w) (main ev (int?_is hi (hy.of hs.2)) h0 h1 _ ?_) (res_pure hr.mem (e := ⟨none, _⟩) hv2)
              have hv1' : vs.toArray[i.toNat * m]? = some v := by simpa using hv1
              simp only [part, Sem.run_bind, run_isAgg (w := w) hde, hag.1, Bool.false_eq_true, if_false, Result.andThen_ok, hv1', Sem.run_pure]
            · cases h
        · cases h
      · rename_i c
        split at h
        · cases h
        · split at h
          · rename_i hcond
            simp only [Bool.and_eq_true] at hcond
            have c1 := eqn_eq hcond.1
            have c2 := eqn_eq hcond.2
            split at h
            · rename_i d' hd'
              unfold mk1 at h
              cases h
              obtain ⟨n1, n2, h0, h1, h2⟩ := hs
              have h0 : 0 ≤ i := by simpa [Ar.std, stdCmp] using h0
              have h1 : i < len := by simpa [Ar.std, stdCmp] using h1
              have h2 : len ≤ c.n := by
                have h2 : decide ((len : Int) ≤ c.len Ar.std) = true := h2
                have := of_decide_eq_true h2
                rw [Ct.len_n] at this
                omega
              obtain ⟨vs, ev, hf, ho1⟩ := hx.of n1
              have h3 := at_is (G := gg bs st ν w) hf ho1 (i := i) (by omega) (j := 0) (n := 1) (by omega)
              rw [hd', c2, Nat.mul_one, Nat.add_zero] at h3
              cases hq : (vs.drop i.toNat).take 1 with
              | nil => rw [hq] at h3; exact h3.elim
              | cons q us =>
                rw [hq] at h3
                refine runs_value (v := q) (w' := w) (main ev (int?_is hi (hy.of n2)) h0 h1 _ ?_) (res_pure hr.mem (e := ⟨none, _⟩) h3.1.1)
                have h4 : vs[i.toNat]? = some q := by
                  have := congrArg (·[0]?) hq
                  simpa using this
                have hv1' : vs.toArray[i.toNat * m]? = some q := by rw [c1, Nat.mul_one]; simpa using h4
                simp only [part, Sem.run_bind, run_isAgg (w := w) hde, hag.1, Bool.false_eq_true, if_false, Result.andThen_ok, hv1', Sem.run_pure]
            · cases h
          · cases h
      · cases h
    · rename_i k i _ _ _ _ hi hl
      have hu := tiOf_str (hc.tt _ _ hl)
      split at h
      · rename_i l
        unfold mk1 at h
        cases h
        obtain ⟨n1, n2, h0, h1⟩ := hs
        have h0 : 0 ≤ i := by simpa [Ar.std, stdCmp] using h0
        have h1 : i < l.length := by simpa [Ar.std, stdCmp] using h1
        obtain ⟨s, ev, e2⟩ := hx.of n1
        have ey := int?_is hi (hy.of n2)
        have hsz : i.toNat < s.size := by
          have : l.length = s.size := by rw [← e2]; simp [bytesL]
          omega
        refine runs_value (v := .int .u8 (s[i.toNat]'hsz).toNat) (w' := w) ?_ (res_pure hr.mem (e := ⟨none, _⟩) ?_)
        · have : s[i.toNat]? = some (s[i.toNat]'hsz) := by simp [hsz]
          simp only [execOp, ho, ev, ey, Instr.index, asIntOf, Sem.run_bind, Sem.run_pure, Result.andThen_ok, run_underlying hu w, h0, if_true, this]
        · show _ = Value.int .u8 (l.getD i.toNat 0)
          subst e2
          have hsz2 : i.toNat < s.data.size := hsz
          simp [bytesL]
          rw [Array.getElem?_eq_getElem hsz2]
          rfl
      · cases h
    · cases h
  · cases h
/-! ### Slices of slices -/
theorem rowIs.cut {sz : Nat} {α : Type} {Q : α → List Value → Prop} {l : List α} {A : Option Addr} {c lo hi m : Nat} (h : rowIs G sz Q l (.slice A l.length c)) (h1 : lo ≤ hi) (h2 : hi ≤ l.length) (h3 : hi ≤ m) (h4 : m ≤ c) :
    rowIs G sz Q ((l.take hi).drop lo) (.slice (if m = lo then A else A.map (·.add (lo * sz))) (hi - lo) (m - lo)) := by
  obtain ⟨A', c', e, g1, g2, g3⟩ := h
  cases e
  have hlen : ((l.take hi).drop lo).length = hi - lo := by simp; omega
  refine ⟨_, m - lo, by rw [hlen], by omega, by omega, fun hne => ?_⟩
  have hlt : lo < hi := by
    rcases Nat.lt_or_ge lo hi with g | g
    · exact g
    · exact absurd (List.length_eq_zero_iff.1 (by omega)) hne
  have hl : l ≠ [] := by rintro rfl; simp at h2; omega
  obtain ⟨b, o, rfl, hc⟩ := g3 hl
  rw [if_neg (by omega)]
  refine ⟨b, o + lo * sz, by simp [add_at], fun i x hx => ?_⟩
  rw [List.getElem?_drop, List.getElem?_take] at hx
  split at hx
  · obtain ⟨us, u1, u2, u3⟩ := hc _ x hx
    refine ⟨us, u1, u2, fun j u hu => ?_⟩
    have := u3 j u hu
    rw [Nat.add_mul] at this
    rw [show o + lo * sz + i * sz + j = o + (lo * sz + i * sz) + j by omega]
    exact this
  · cases hx
theorem Ct.cut_is {c : Ct} {A : Option Addr} {cap m : Nat} {lo hi : Int} (h : c.is G (.slice A c.n cap)) (h0 : 0 ≤ lo) (h1 : lo ≤ hi) (h2 : hi ≤ c.n) (h3 : hi ≤ m) (h4 : m ≤ cap) :
    (c.cut Ar.std lo hi).is G (.slice (if m = lo.toNat then A else A.map (·.add (lo.toNat * c.sz))) (hi.toNat - lo.toNat) (m - lo.toNat)) := by
  cases c with
  | ints k l =>
    have h2 : hi ≤ l.length := h2
    exact rowIs.cut h (by omega) (by omega) (by omega) h4
  | recs s l =>
    have h2 : hi ≤ l.length := h2
    exact rowIs.cut h (by omega) (by omega) (by omega) h4
theorem bnd_ok (hr : Rep bs gv st ν a w) {d : Int} {x : Option Operand} {g : Option Bool} {i : Int} (h : bnd st d x = some (g, i)) (hn : need g) : (x = none ∧ i = d) ∨ ∃ y k, x = some y ∧ a.eval y = .int k i := by
  unfold bnd at h
  split at h
  · cases h; exact .inl ⟨rfl, rfl⟩
  · rename_i y
    have hy := evalE_is hr y
    split at h
    · rename_i g' c hey
      rw [hey] at hy
      split at h
      · rename_i k n hn'
        cases h
        exact .inr ⟨y, k, rfl, int?_is hn' (hy.of hn)⟩
      · cases h
    · cases h
theorem setAll_rows {h : H} : ∀ (l : H), (∀ p ∈ l, ∀ q ∈ l, p.1 = q.1 → p.2 = q.2) → ∀ p ∈ l, hget (setAll h l) p.1 = some p.2 := by
  intro l
  induction l generalizing h with
  | nil => intro _ p hp; cases hp
  | cons q l ih =>
    intro hd p hp
    by_cases hin : ∃ r ∈ l, r.1 = p.1
    · obtain ⟨r, hr, e⟩ := hin
      have e2 := hd p hp r (List.mem_cons_of_mem _ hr) e.symm
      have := ih (h := hset h q.1 q.2) (fun a ha b hb => hd a (List.mem_cons_of_mem _ ha) b (List.mem_cons_of_mem _ hb)) r hr
      rw [e2, ← e]
      exact this
    · rcases List.mem_cons.1 hp with rfl | hp
      · have : ∀ (l : H) (h : H), (∀ r ∈ l, r.1 ≠ p.1) → hget (setAll h l) p.1 = hget h p.1 := by
          intro l
          induction l with
          | nil => intro h _; rfl
          | cons r l ih2 =>
            intro h hne
            show hget (setAll (hset h r.1 r.2) l) p.1 = _
            rw [ih2 _ fun q hq => hne q (List.mem_cons_of_mem _ hq), hget_other _ _ (hne r (List.mem_cons_self ..))]
        show hget (setAll (hset h p.1 p.2) l) p.1 = _
        rw [this l _ fun r hr e => hin ⟨r, hr, e⟩, hget_self]
      · exact (hin ⟨p, hp, rfl⟩).elim
theorem rows_mem {h : H} {n : Nat} {t : TypeId} {c : Ct} (hn : hget h n = some (.row t c)) : ∀ {ids : List Nat}, n ∈ ids → (n, Blk.frz c) ∈ rowsOf h ids
  | i :: ids, hm => by
    unfold rowsOf
    rcases List.mem_cons.1 hm with rfl | hm
    · rw [hn]
      exact List.mem_cons_self ..
    · split
      · exact List.mem_cons_of_mem _ (rows_mem hn hm)
      · exact rows_mem hn hm
/-- What a slice holds once its row is one's own no more. -/
theorem frozen_is {x : SC} {c : Ct} {v : Value} (h : ctOf G.h x = some c) (hv : x.is G v) {ids : List Nat} (hids : ∀ n ∈ refsC x, n ∈ ids) {G' : Gm} (hx : Ext G G') (hh : G'.h = setAll G.h (rowsOf G.h ids)) : c.is G' v := by
  unfold ctOf at h
  split at h
  · cases h
    exact Ct.is.sub hx.toSub hv.1
  · rename_i n
    have hv' : ownAt G' n v := ownAt.ext hx hv.2
    split at h
    · rename_i t c' hc
      cases h
      have hm := rows_mem hc (hids n (by simp [refsC]))
      have hd : ∀ p ∈ rowsOf G.h ids, ∀ q ∈ rowsOf G.h ids, p.1 = q.1 → p.2 = q.2 := by
        intro p hp q hq e
        obtain ⟨c1, t1, e1, e2⟩ := rowsOf_ok p hp
        obtain ⟨c2, t2, f1, f2⟩ := rowsOf_ok q hq
        rw [e, f2] at e2
        cases e2
        rw [e1, f1]
      have := setAll_rows (h := G.h) _ hd _ hm
      unfold ownAt at hv'
      rw [hh, this] at hv'
      exact hv'
    · rename_i c' hc
      cases h
      obtain ⟨k', hk', hq⟩ := hx.ids n _ hc
      have hv := hv.2
      unfold ownAt at hv
      rw [hc] at hv
      exact Ct.is.sub hx.toSub hv
    · cases h
  · cases h
theorem slice_ok (hc : CxOk P cx) (hr : Rep bs gv st ν a w) {o : Oper} {t : TypeId} {x : Operand} {lo hi mx : Option Operand} (ho : o.op = .slice t x lo hi mx) {E : Eff} (h : effSlice Ar.std cx st t (evalE st x) lo hi mx = some E) (hs : E.side) : Runs P o a w (Res bs st ν w E) := by
  have hx := evalE_is hr x
  unfold effSlice at h
  split at h
  · rename_i g c e m _ _ _ _ hex hl
    rw [hex] at hx
    obtain ⟨hu, ⟨ie, hie⟩, hm⟩ := tiOf_slice (hc.tt _ _ hl)
    split at h
    · rename_i ct hct
      split at h
      · rename_i g1 l g2 hh g3 mm hb1 hb2 hb3
        split at h
        · rename_i hn
          have hn := eqn_eq hn
          have hie' : ie.size = ct.sz := by rw [← hn, hm]; simp [Program.cellsOf, hie]
          have b1 : ∀ {k : IntKind} {i : Int} {y : Nat} {c : BoundsCode}, 0 ≤ i → i ≤ y → (Instr.sliceBound (.int k i) y c).run P w = .ok i.toNat w := by
            intro k i y c g1 g2
            simp [Instr.sliceBound, asIntOf, g1, g2]
          have run : ∀ {A : Option Addr} {cap M : Nat}, a.eval x = .slice A ct.n cap → ct.n ≤ cap → need g1 → need g2 → need g3 → 0 ≤ l → l ≤ hh → hh ≤ ct.n → ((mx = none ∧ M = cap) ∨ (∃ y, mx = some y) ∧ (∃ y, hi = some y) ∧ hh ≤ mm ∧ mm ≤ ct.n ∧ M = mm.toNat) →
              (execOp a.eval o).run P w = .ok (.value (.slice (if M = l.toNat then A else A.map (·.add (l.toNat * ct.sz))) (hh.toNat - l.toNat) (M - l.toNat))) w := by
            intro A cap M ev hcap n1 n2 n3 s1 s2 s3 hM
            have hbounds : (Instr.sliceBounds true ct.n cap (lo.map a.eval) (hi.map a.eval) (mx.map a.eval)).run P w = .ok (l.toNat, hh.toNat, M) w := by
              rcases hM with ⟨rfl, rfl⟩ | ⟨⟨y3, rfl⟩, ⟨y2, rfl⟩, q1, q2, rfl⟩
              · rcases bnd_ok hr hb1 n1 with ⟨rfl, rfl⟩ | ⟨y1, k1, rfl, e1⟩ <;> rcases bnd_ok hr hb2 n2 with ⟨rfl, e2⟩ | ⟨y2, k2, rfl, e2⟩
                · rw [Ct.len_n] at e2
                  subst e2
                  simp [Instr.sliceBounds]
                · have := b1 (k := k2) (y := M) (c := .sliceAcap) (show 0 ≤ hh by omega) (by omega)
                  simp [Instr.sliceBounds, e2, this]
                · rw [Ct.len_n] at e2
                  subst e2
                  have := b1 (k := k1) (y := ct.n) (c := .sliceB) s1 (by omega)
                  simp [Instr.sliceBounds, e1, this]
                · have h2 := b1 (k := k2) (y := M) (c := .sliceAcap) (show 0 ≤ hh by omega) (by omega)
                  have h1 := b1 (k := k1) (y := hh.toNat) (c := .sliceB) s1 (by omega)
                  simp [Instr.sliceBounds, e1, e2, h1, h2]
              · rcases bnd_ok hr hb3 n3 with ⟨h, _⟩ | ⟨y3', k3, h3', e3⟩
                · cases h
                cases h3'
                have hm3 := b1 (k := k3) (i := mm) (y := cap) (c := .slice3Acap) (by omega) (by omega)
                rcases bnd_ok hr hb2 n2 with ⟨h, _⟩ | ⟨y2', k2, h2', e2⟩
                · cases h
                cases h2'
                have hm2 := b1 (k := k2) (i := hh) (y := mm.toNat) (c := .slice3B) (by omega) (by omega)
                rcases bnd_ok hr hb1 n1 with ⟨rfl, rfl⟩ | ⟨y1, k1, rfl, e1⟩
                · simp [Instr.sliceBounds, e2, e3, hm2, hm3]
                · have hm1 := b1 (k := k1) (i := l) (y := hh.toNat) (c := .slice3C) s1 (by omega)
                  simp [Instr.sliceBounds, e1, e2, e3, hm1, hm2, hm3]
            simp only [execOp, ho, Instr.sliceAt, Sem.run_bind, run_underlying hu w, Result.andThen_ok, Instr.slice, ev, hbounds, sizeOf, typeInfo, run_program, hie, hie', Sem.run_pure]
          have plain : ∀ {M : Nat → Nat} {D : Prop}, need g → need g1 → need g2 → need g3 → 0 ≤ l → l ≤ hh → hh ≤ ct.n → (∀ cap, ct.n ≤ cap → ((mx = none ∧ M cap = cap) ∨ (∃ y, mx = some y) ∧ (∃ y, hi = some y) ∧ hh ≤ mm ∧ mm ≤ ct.n ∧ M cap = mm.toNat)) →
              Runs P o a w (Res bs st ν w ⟨D, ⟨none, .sa (.one (.sl none (ct.cut Ar.std l hh)))⟩, rowsOf st.heap (refsC c)⟩) := by
            intro M D n1 n2 n3 n4 s1 s2 s3 hM
            obtain ⟨ν', hx', hm'⟩ := mem_rows (G := gg bs st ν w) hr.mem (refsC c)
            have hci := frozen_is (G := gg bs st ν w) hct (hx.of n1) (ids := refsC c) (fun _ h => h) hx' rfl
            obtain ⟨A, cap, ev, hcap, _⟩ := Ct.len_is hci
            refine runs_value (run ev hcap n2 n3 n4 s1 s2 s3 (hM cap hcap)) ⟨ν', hx', ⟨?_, trivial⟩, hm'⟩
            rw [ev] at hci
            refine Ct.cut_is hci s1 s2 s3 ?_ ?_
            · rcases hM cap hcap with ⟨_, h⟩ | ⟨_, _, h1, _, h⟩ <;> omega
            · rcases hM cap hcap with ⟨_, h⟩ | ⟨_, _, h1, _, h⟩ <;> omega
          split at h
          · cases h
            obtain ⟨n1, n2, n3, s1, s2, s3⟩ := hs
            have s1 : 0 ≤ l := by simpa [Ar.std, stdCmp] using s1
            have s2 : l ≤ hh := by simpa [Ar.std, stdCmp] using s2
            have s3 : hh ≤ ct.n := by
              have s3 : decide (hh ≤ ct.len Ar.std) = true := s3
              have := of_decide_eq_true s3
              rwa [Ct.len_n] at this
            exact plain (M := fun cap => cap) n1 n2 n3 (by unfold bnd at hb3; cases hb3; trivial) s1 s2 s3 (fun cap _ => .inl ⟨rfl, rfl⟩)
          · cases h
            obtain ⟨n1, n2, n3, n4, s1, s2, s3, s4⟩ := hs
            have s1 : 0 ≤ l := by simpa [Ar.std, stdCmp] using s1
            have s2 : l ≤ hh := by simpa [Ar.std, stdCmp] using s2
            have s3 : hh ≤ mm := by simpa [Ar.std, stdCmp] using s3
            have s4 : mm ≤ ct.n := by
              have s4 : decide (mm ≤ ct.len Ar.std) = true := s4
              have := of_decide_eq_true s4
              rwa [Ct.len_n] at this
            exact plain (M := fun _ => mm.toNat) n1 n2 n3 n4 s1 s2 (by omega) (fun cap _ => .inr ⟨⟨_, rfl⟩, ⟨_, rfl⟩, s3, s4, rfl⟩)
          · cases h
        · cases h
      · cases h
    · cases h
  · cases h
/-! ### Lists of operands; what is built of them -/
theorem sas_is (hr : Rep bs gv st ν a w) : ∀ {l : List Operand} {xs : List SA}, sas (l.map (evalE st)) = some xs → needs (l.map (evalE st)) → sasIs (gg bs st ν w) xs (l.map a.eval)
  | [], xs, h, _ => by cases h; trivial
  | x :: l, xs, h, hn => by
    simp only [List.map_cons] at h
    have hn2 : need (evalE st x).g ∧ needs (l.map (evalE st)) := by
      cases l with
      | nil => exact ⟨hn, trivial⟩
      | cons _ _ => exact hn
    have hx := evalE_is hr x
    generalize evalE st x = e at h hn2 hx
    obtain ⟨g, v⟩ := e
    cases v with
    | tup _ => cases h
    | sa y =>
      simp only [sas] at h
      split at h
      · rename_i ys h1
        cases h
        exact ⟨hx.of hn2.1, sas_is hr h1 hn2.2⟩
      · cases h
theorem fold_paste (off : Nat) : ∀ (us : List Value) (k : Nat) (l : List Value), (us.zipIdx k).foldl (fun (cs : Array Value) (p : Value × Nat) => cs.setIfInBounds (off + p.2) p.1) l.toArray = (pasteV l (off + k) us).toArray
  | [], _, _ => by simp [pasteV]
  | u :: us, k, l => by
    simp only [List.zipIdx_cons, List.foldl_cons, pasteV, List.setIfInBounds_toArray]
    rw [fold_paste off us (k + 1) (l.set (off + k) u), Nat.add_assoc]
theorem sides2 {v : SA} {vs : List SA} (hs : sidesA (v :: vs)) : v.side ∧ sidesA vs := by
  cases vs with
  | nil => exact ⟨hs, trivial⟩
  | cons _ _ => exact hs
theorem fill_is {place : Nat → Option (Nat × Nat)} : ∀ {ps : List Nat} {vs : List SA} {us : List Value} {cs : List SC} {l : List Value} {out : List SC}, 
    sasIs G vs us → sidesA vs → ps.length = vs.length → cellsIs G cs l → fillS place cs (ps.zip vs) = some out → ∃ l', Instr.fill place l.toArray (ps.zip us) = some l'.toArray ∧ cellsIs G out l'
  | [], [], [], cs, l, out, _, _, _, hc, hf => by cases hf; exact ⟨l, rfl, hc⟩
  | p :: ps, v :: vs, u :: us, cs, l, out, ⟨h1, h2⟩, hs, hlen, hc, hf => by
    have hs2 := sides2 hs
    obtain ⟨c1, c2⟩ := sa_cells h1 hs2.1
    simp only [List.zip_cons_cons, fillS] at hf
    split at hf
    · cases hf
    · rename_i off size hp
      split at hf
      · rename_i hb
        simp only [Bool.and_eq_true] at hb
        have b1 := eqn_eq hb.1
        have b2 := lee_le hb.2
        have hl := hc.len
        obtain ⟨l', e1, e2⟩ := fill_is h2 hs2.2 (by simpa using hlen) (hc.paste off c1) hf
        refine ⟨l', ?_, e2⟩
        have hcond : (u.cells.size ≠ size || off + u.cells.size > l.toArray.size) = false := by simp; omega
        have hfold : u.cells.zipIdx.foldl (fun cs (p : Value × Nat) => cs.setIfInBounds (off + p.2) p.1) l.toArray = (pasteV l off u.cells.toList).toArray := by
          rw [← Array.foldl_toList, Array.toList_zipIdx]
          exact fold_paste off u.cells.toList 0 l
        simp only [List.zip_cons_cons, Instr.fill, hp, hcond, Bool.false_eq_true, if_false]
        rw [← e1, ← hfold]
      · cases hf
  | [], _ :: _, _, _, _, _, _, _, hlen, _, _ => by simp at hlen
  | _ :: _, [], _, _, _, _, _, _, hlen, _, _ => by simp at hlen
theorem sasIs.len : ∀ {xs : List SA} {us : List Value}, sasIs G xs us → xs.length = us.length
  | [], [], _ => rfl
  | _ :: _, _ :: _, ⟨_, c⟩ => by simp [sasIs.len c]
theorem mapM_info : ∀ (fs : List Field), (∀ f ∈ fs, (P.underlying f.type).isSome = true) → fs.mapM (fun f => (P.info? f.type).map fun i => (f.offset, i.size)) = some (fs.map fun f => (f.offset, P.cellsOf f.type))
  | [], _ => rfl
  | f :: fs, hall => by
    obtain ⟨d, hd⟩ := Option.isSome_iff_exists.1 (hall f (List.mem_cons_self ..))
    obtain ⟨i, hi⟩ := info_of hd
    simp [List.mapM_cons, mapM_info fs fun g hg => hall g (List.mem_cons_of_mem _ hg), hi, Program.cellsOf]
theorem parts_eq (ps : Array (Nat × Operand)) : (ps.map fun (i, x) => (i, a.eval x)).toList = (ps.toList.map (·.1)).zip ((ps.toList.map (·.2)).map a.eval) := by
  rw [Array.toList_map]
  induction ps.toList with
  | nil => rfl
  | cons p l ih => simp [ih]
theorem evs_eq (ps : Array (Nat × Operand)) : ps.toList.map (fun p => evalE st p.2) = (ps.toList.map (·.2)).map (evalE st) := by simp
theorem build_ok (hc : CxOk P cx) (hr : Rep bs gv st ν a w) {o : Oper} {t : TypeId} {ps : Array (Nat × Operand)} (ho : o.op = .build t ps) {E : Eff} (h : effBuild Ar.std cx t (ps.toList.map (·.1)) (ps.toList.map fun p => evalE st p.2) = some E) (hs : E.side) : Runs P o a w (Res bs st ν w E) := by
  have main : ∀ l : List Value, P.built t ((ps.toList.map (·.1)).zip ((ps.toList.map (·.2)).map a.eval)) = some l.toArray → (execOp a.eval o).run P w = .ok (.value (.agg l.toArray)) w := by
    intro l hl
    simp only [execOp, ho]
    have := run_build (P := P) w t (ps.map fun (i, x) => (i, a.eval x)) l.toArray (by rw [parts_eq]; exact hl)
    simp only [Sem.run_bind, this, Result.andThen_ok, Sem.run_pure]
  rw [evs_eq] at h
  unfold effBuild at h
  split at h
  · rename_i fs _ z _ _ vs hl hv
    obtain ⟨Fs, hu, hsome, hfs, _⟩ := tiOf_struct (hc.tt _ _ hl)
    obtain ⟨i, zv, d, hi, hz, _, _, hzz, _⟩ := tiOf_info (hc.tt _ _ hl)
    split at h
    · rename_i cs hf
      cases h
      obtain ⟨n1, n2, n3⟩ := hs
      have hvs := sas_is hr hv n1
      have hlen : (ps.toList.map (·.1)).length = vs.length := by
        have := hvs.len
        simp at this ⊢
        omega
      obtain ⟨l', e1, e2⟩ := fill_is hvs n2 hlen (zero_is n3) hf
      refine runs_value (main l' ?_) (res_pure hr.mem (e := ⟨none, _⟩) ⟨_, rfl, e2⟩)
      have hp : placeOf fs = ((Fs.toList.map fun f => (f.offset, P.cellsOf f.type)).toArray[·]?) := by
        funext i
        unfold placeOf
        rw [hfs]
        simp only [List.getElem?_map, List.getElem?_toArray]
        cases Fs.toList[i]? <;> rfl
      rw [hp] at e1
      have hz2 : zv.cells = z.toArray := by
        have : z = zv.cells.toList := hzz
        rw [this]
      unfold Program.built
      rw [hi, hu]
      simp only [hz, mapM_info Fs.toList hsome, hz2]
      exact e1
    · cases h
  · rename_i n sz b tsz z _ fl vs hl hv
    obtain ⟨e, hu, hie, hsz⟩ := tiOf_array (hc.tt _ _ hl)
    obtain ⟨ie, hie⟩ := hie
    obtain ⟨i, zv, d, hi, hz, _, _, hzz, _⟩ := tiOf_info (hc.tt _ _ hl)
    have hz2 : zv.cells = z.toArray := by
      have : z = zv.cells.toList := hzz
      rw [this]
    have hsz2 : ie.size = sz := by rw [hsz]; simp [Program.cellsOf, hie]
    split at h
    · cases h
      have hps : ps.toList.map (·.1) = [] := by assumption
      have hps2 : ps.toList = [] := List.map_eq_nil_iff.1 hps
      obtain ⟨f1, f2⟩ := flat_zeros (G := gg bs st ν w) (tiOf_flat (hc.tt _ _ hl) rfl)
      rw [hc.sz t _ hl] at f1
      refine runs_value (main z ?_) (res_pure hr.mem (e := ⟨none, _⟩) ⟨z, rfl, f1, f2⟩)
      unfold Program.built
      rw [hi, hu, hps2]
      simp only [hz, hie, hz2, hsz2, List.map_nil, List.zip_nil_left]
      rfl
    · split at h
      · rename_i cs hf
        cases h
        obtain ⟨n1, n2, n3⟩ := hs
        have hvs := sas_is hr hv n1
        have hlen : (ps.toList.map (·.1)).length = vs.length := by
          have := hvs.len
          simp at this ⊢
          omega
        obtain ⟨l', e1, e2⟩ := fill_is hvs n2 hlen (zero_is n3) hf
        refine runs_value (main l' ?_) (res_pure hr.mem (e := ⟨none, _⟩) ⟨_, rfl, e2⟩)
        unfold Program.built
        rw [hi, hu]
        simp only [hz, hie, hz2, hsz2]
        exact e1
      · cases h
  · cases h
/-! ### New slices -/
theorem toIs_is {k : IntKind} : ∀ {vs : List SA} {us : List Value} {l : List Int}, toIs k vs = some l → sasIs G vs us → us = l.map (.int k)
  | [], [], l, h, _ => by cases h; rfl
  | v :: vs, u :: us, l, h, ⟨h1, h2⟩ => by
    unfold toIs at h
    split at h
    · rename_i heq; cases heq
    · rename_i heq
      cases heq
      split at h
      · rename_i k' n hn
        split at h
        · rename_i hk
          split at h
          · rename_i ns hns
            cases h
            rw [int?_is hn h1, kindEq_eq hk, toIs_is hns h2]
            rfl
          · cases h
        · cases h
      · cases h
    · cases h
def rowOf (us : List Value) : List Value := us.flatMap fun u => u.cells.toList
theorem rowOf_len {sz : Nat} : ∀ {us : List Value}, (∀ u ∈ us, u.cells.size = sz) → (rowOf us).length = us.length * sz
  | [], _ => by simp [rowOf]
  | u :: us, h => by
    have := rowOf_len fun v hv => h v (List.mem_cons_of_mem _ hv)
    have h1 := h u (List.mem_cons_self ..)
    simp only [rowOf, List.flatMap_cons, List.length_append, List.length_cons] at this ⊢
    rw [this, Nat.succ_mul]
    simp [h1]
    omega
theorem rowOf_chunk {sz : Nat} : ∀ {us : List Value}, (∀ u ∈ us, u.cells.size = sz) → ∀ (i : Nat) (u : Value), us[i]? = some u → ((rowOf us).drop (i * sz)).take sz = u.cells.toList
  | [], _, i, u, h => by simp at h
  | v :: us, hs, i, u, h => by
    have h1 := hs v (List.mem_cons_self ..)
    simp only [rowOf, List.flatMap_cons]
    cases i with
    | zero =>
      simp at h
      subst h
      rw [Nat.zero_mul, List.drop_zero, List.take_left' (by simpa using h1)]
    | succ i =>
      have := rowOf_chunk (fun v hv => hs v (List.mem_cons_of_mem _ hv)) i u (by simpa using h)
      rw [List.drop_append, List.drop_eq_nil_of_le (by simp [h1, Nat.succ_mul]), List.nil_append]
      have e : (i + 1) * sz - v.cells.toList.length = i * sz := by simp [h1, Nat.succ_mul]
      rw [e]
      exact this
theorem toEs_is {s : Sh} : ∀ {vs : List SA} {us : List Value} {l : List (List D)}, toEs s vs = some l → sasIs G vs us → sidesA vs → l.length = us.length ∧ ∀ (i : Nat) (x : List D) (u : Value), l[i]? = some x → us[i]? = some u → valsIs G s x 0 u.cells.toList
  | [], [], l, h, _, _ => by cases h; exact ⟨rfl, fun i x u h => by simp at h⟩
  | v :: vs, u :: us, l, h, ⟨h1, h2⟩, hs => by
    have hs2 := sides2 hs
    simp only [toEs] at h
    split at h
    · rename_i x xs hx hxs
      cases h
      obtain ⟨e1, e2⟩ := toEs_is hxs h2 hs2.2
      refine ⟨by simp [e1], fun i y u' hy hu => ?_⟩
      cases i with
      | zero =>
        simp at hy hu
        subst hy hu
        simpa using toE_is hx (sa_cells h1 hs2.1).1 []
      | succ i => exact e2 i y u' (by simpa using hy) (by simpa using hu)
    · cases h
/-- Values as the cells of a row. -/
theorem mkCt_flat {h : Option Ct} {sz : Nat} {vs : List SA} {us : List Value} {ct : Ct} (hct : mkCt h sz vs = some ct) (hv : sasIs G vs us) (hs : sidesA vs) (hus : ∀ u ∈ us, u.cells.size = sz) : flatIs G ct (rowOf us) ∧ ct.sz = sz ∧ ct.n = us.length := by
  unfold mkCt at hct
  split at hct
  · rename_i k _
    split at hct
    · rename_i hz
      have hz := eqn_eq hz
      split at hct
      · rename_i l hl
        cases hct
        have hu := toIs_is hl hv
        refine ⟨?_, hz.symm, by rw [hu]; simp [Ct.n]⟩
        show rowOf us = l.map (Value.int k)
        rw [hu]
        unfold rowOf
        rw [List.flatMap_map]
        exact (List.map_eq_flatMap ..).symm
      · cases hct
    · cases hct
  · rename_i s _
    split at hct
    · rename_i hz
      have hz := eqn_eq hz
      split at hct
      · rename_i l hl
        cases hct
        obtain ⟨e1, e2⟩ := toEs_is hl hv hs
        refine ⟨⟨by rw [rowOf_len hus, e1, hz], fun i x hx => ?_⟩, hz, e1⟩
        have hi : i < us.length := by rw [← e1]; exact get_lt hx
        have := e2 i x _ hx (List.getElem?_eq_getElem hi)
        rw [hz, rowOf_chunk hus i _ (List.getElem?_eq_getElem hi)]
        exact this
      · cases hct
    · cases hct
  · cases hct
end
end Go.Proofs.Ytakebkfhigadiaa.Ry
