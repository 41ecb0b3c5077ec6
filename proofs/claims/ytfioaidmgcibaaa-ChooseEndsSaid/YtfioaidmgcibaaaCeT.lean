/-
  All fragments of a graph choose: what is bound then is a forest; it comes nearer to the least forest, unless all are done: then it is that. No condition.
-/
import Derived.Test.YtfioaidmgcibaaaCgL
namespace Go.Proofs.Ytfioaidmgcibaaa.CeT
open Go Go.Proofs.Ytfioaidmgcibaaa.Ry Go.Proofs.Ytfioaidmgcibaaa.EgR Go.Proofs.Ytfioaidmgcibaaa.EgL Go.Proofs.Ytfioaidmgcibaaa.SpK Go.Proofs.Ytfioaidmgcibaaa.SpT Go.Proofs.Ytfioaidmgcibaaa.SpL Go.Proofs.Ytfioaidmgcibaaa.SpN Go.Proofs.Ytfioaidmgcibaaa.TrK Go.Proofs.Ytfioaidmgcibaaa.RoV Go.Proofs.Ytfioaidmgcibaaa.CgV Go.Proofs.Ytfioaidmgcibaaa.CgT Go.Proofs.Ytfioaidmgcibaaa.CgR Go.Proofs.Ytfioaidmgcibaaa.CgL
open Go.Proofs.Ytfioaidmgcibaaa.ViR (mayV)
open Go.Proofs.Ytfioaidmgcibaaa.ViL (inF ouF boF boV ouV inV edA edB)
open Go.Proofs.Ytfioaidmgcibaaa.SpQ (lkR lsW rfB inR zer e3 rsB)
open Go.Proofs.Ytfioaidmgcibaaa.SpO (rlB)
open Go.Proofs.Ytfioaidmgcibaaa.SpR (forB)
open Go.Proofs.Ytfioaidmgcibaaa.So (srtE srt_all)
open Go.Proofs.Ytfioaidmgcibaaa.TrQ (hvB)
open Go.Proofs.Ytfioaidmgcibaaa.TrC (onR mxT onF on_eq on_mem mem_on mx_ok)
open Go.Proofs.Ytfioaidmgcibaaa.TrB (hop_way)
open Go.Proofs.Ytfioaidmgcibaaa.ChR (mnT k5)
open Go.Proofs.Ytfioaidmgcibaaa.ChQ (CH chF evB evF evC)
open Go.Proofs.Ytfioaidmgcibaaa.ChT (liP liF ev_all ev_in in_two' mn_all li_mem)
/-! ## Parts: each node in just one -/
theorem pas_done {n : List Int} (hn : ∀ x ∈ n, nod x) (d : List E) (hd : ∀ y ∈ d, okT (trE y)) : ∀ k : Nat, k ≤ 64 →
    (∀ j, nod j → (rb ((paS n d k).2.getD j.toNat []) 0 = true ↔ ∃ p ∈ (paS n d k).1, j ∈ rl p 0)) ∧ (paS n d k).1.Pairwise (fun p q => ∀ x ∈ rl p 0, x ∉ rl q 0) ∧ ∀ j ∈ n, j ≤ k → ∃ p ∈ (paS n d k).1, j ∈ rl p 0
  | 0, _ => by
    refine ⟨fun j _ => ?_, List.Pairwise.nil, fun j hj h => ?_⟩
    · show rb (zer.getD j.toNat []) 0 = true ↔ _
      rw [zer_mk]
      exact ⟨fun h => (by cases h), fun ⟨p, hp, _⟩ => by cases hp⟩
    · have := hn j hj
      unfold nod at this
      omega
  | k + 1, hk => by
    obtain ⟨h1, h2, h3⟩ := pas_done hn d hd k (by omega)
    have hm : nod ((k : Int) + 1) := by unfold nod; omega
    have em : ((k : Int) + 1).toNat = k + 1 := by omega
    have hin := inA_mk hn hm
    rw [em] at hin
    have hdo := h1 _ hm
    rw [em] at hdo
    unfold paS
    split
    · rename_i c
      refine ⟨fun j hj => ?_, ?_, fun j hj hle => ?_⟩
      · simp only
        rw [fold_mk _ _ (paS_len n d k).1 (fun x hx => by have := ((pa_mem hn hd hm).1 hx).1; unfold nod at this; omega), h1 j hj]
        constructor
        · rintro (⟨p, hp, hx⟩ | ⟨x, hx, e⟩)
          · exact ⟨p, List.mem_append_left _ hp, hx⟩
          · refine ⟨_, List.mem_append_right _ (List.mem_singleton.2 rfl), ?_⟩
            have := ((pa_mem hn hd hm).1 hx).1
            unfold nod at this hj
            rw [show j = x by omega]
            exact hx
        · rintro ⟨p, hp, hx⟩
          rcases List.mem_append.1 hp with hp | hp
          · exact .inl ⟨p, hp, hx⟩
          · rw [List.mem_singleton.1 hp] at hx
            exact .inr ⟨j, hx, rfl⟩
      · simp only
        rw [List.pairwise_append]
        refine ⟨h2, List.pairwise_singleton _ _, fun p hp q hq x hx hy => ?_⟩
        rw [List.mem_singleton.1 hq] at hy
        obtain ⟨m', nm', _, rfl⟩ := pas_mem hn d k (by omega) p hp
        have hx : x ∈ paP n d m' := hx
        have hy : x ∈ paP n d ((k : Int) + 1) := hy
        have c1 := ((pa_mem hn hd nm').1 hx).2.2
        have c2 := ((pa_mem hn hd hm).1 hy).2.2
        exact c.2 (hdo.2 ⟨_, hp, (pa_mem hn hd nm').2 ⟨hm, hin.1 c.1, cn_trans c1 (cn_symm c2)⟩⟩)
      · simp only
        by_cases e : j = (k : Int) + 1
        · refine ⟨_, List.mem_append_right _ (List.mem_singleton.2 rfl), ?_⟩
          rw [e] at hj ⊢
          exact (pa_mem hn hd hm).2 ⟨hm, hj, .refl⟩
        · obtain ⟨p, hp, hx⟩ := h3 j hj (by omega)
          exact ⟨p, List.mem_append_left _ hp, hx⟩
    · rename_i c
      refine ⟨h1, h2, fun j hj hle => ?_⟩
      by_cases e : j = (k : Int) + 1
      · rw [e] at hj ⊢
        have g : rb ((paS n d k).2.getD (k + 1) []) 0 = true := Decidable.byContradiction fun q => c ⟨hin.2 hj, q⟩
        exact hdo.1 g
      · exact h3 j hj (by omega)
/-! ## What all choose -/
def ptL (l d : List E) : List (List Int) := (paO (ndS l) d).map fun p => rl p 0
def chP (l d : List E) (p : List Int) : CH := chF p (vw4 l d p)
theorem pt_mem {l d : List E} (ha : allE l = 0) (o : Oth l d) {p : List Int} (hp : p ∈ ptL l d) : Pt (d.map trE) p ∧ (∀ a ∈ p, ∀ b ∈ p, Cn (d.map trE) a b) ∧ ∀ a ∈ p, ∀ b ∈ ndS l, Cn (d.map trE) a b → b ∈ p := by
  have hd : ∀ y ∈ d, okT (trE y) := fun z hz => may_ok (oth_may ha o z hz)
  unfold ptL at hp
  obtain ⟨x, hx, rfl⟩ := List.mem_map.1 hp
  obtain ⟨m, hm, _, rfl⟩ := pas_mem (nd_nod (l := l)) d 64 (Nat.le_refl 64) x hx
  have q := fun {k} => pa_mem (k := k) (nd_nod (l := l)) hd hm
  refine ⟨(pa_pt ha o hm).1, fun a h b g => ?_, fun a h b g c => ?_⟩
  · exact cn_trans (cn_symm (q.1 h).2.2) (q.1 g).2.2
  · exact q.2 ⟨nd_nod b g, g, cn_trans (q.1 h).2.2 c⟩
theorem pt_dis {l d : List E} (ha : allE l = 0) (o : Oth l d) : (ptL l d).Pairwise fun p q => ∀ x ∈ p, x ∉ q := by
  have hd : ∀ y ∈ d, okT (trE y) := fun z hz => may_ok (oth_may ha o z hz)
  unfold ptL
  rw [List.pairwise_map]
  exact (pas_done (nd_nod (l := l)) d hd 64 (Nat.le_refl 64)).2.1
theorem pt_cov {l d : List E} (ha : allE l = 0) (o : Oth l d) {a : Int} (h : a ∈ ndS l) : ∃ p ∈ ptL l d, a ∈ p := by
  have hd : ∀ y ∈ d, okT (trE y) := fun z hz => may_ok (oth_may ha o z hz)
  have hn := nd_nod a h
  unfold nod at hn
  obtain ⟨p, hp, hx⟩ := (pas_done (nd_nod (l := l)) d hd 64 (Nat.le_refl 64)).2.2 a h (by omega)
  exact ⟨_, List.mem_map_of_mem (f := fun p => rl p 0) hp, hx⟩
/-- What a choice is. -/
theorem ch_cases {l d : List E} (ha : allE l = 0) (hl : l.length ≤ 24) (o : Oth l d) {p : List Int} (hp : p ∈ ptL l d) :
    ((chP l d p).k = 3 ∧ ∃ h ∈ d.map trE, h ∉ kru (S l) ∧ (chP l d p).a = h.1 ∧ (chP l d p).b = h.2.1) ∨
    ((chP l d p).k = 2 ∧ liF (boV p (vw4 l d p)) (inF (vw4 l d p)) = [] ∧ (chP l d p).a ∈ p ∧ (chP l d p).b ∉ p ∧ ∃ e ∈ l, En (trE e) (chP l d p).a (chP l d p).b ∧ trE e ∈ kru (S l) ∧ ∀ f ∈ l, ∀ u ∈ p, ∀ v, v ∉ p → En (trE f) u v → ¬ lt (trE f) (trE e)) ∨
    ((chP l d p).k = 1 ∧ liF (boV p (vw4 l d p)) (inF (vw4 l d p)) = [] ∧ ∀ f ∈ l, ∀ u ∈ p, ∀ v, v ∉ p → ¬ En (trE f) u v) := by
  have g := good_l ha
  obtain ⟨P, _, _⟩ := pt_mem ha o hp
  have hm := vw_may g d P.ns
  obtain ⟨hf, h0⟩ := g_for ha hl o P
  have ei : inV p (vw4 l d p) = inF (vw4 l d p) := if_pos hm
  have eo : ouV p (vw4 l d p) = ouF p (vw4 l d p) := if_pos hm
  unfold chP chF
  rw [if_neg (fun k => k h0), ei, eo]
  by_cases c : evB (inF (vw4 l d p)) (boV p (vw4 l d p)) = true
  · rw [if_pos c]
    left
    unfold evB at c
    unfold evC
    cases e : evF (inF (vw4 l d p)) (boV p (vw4 l d p)) with
    | none => rw [e] at c; cases c
    | some y =>
      obtain ⟨hy, hq, _⟩ := (ev_all hm hf).2 y e
      obtain ⟨k1, k2, _⟩ := g_ev ha hl o P hy hq
      exact ⟨rfl, _, k1, k2, rfl, rfl⟩
  · rw [if_neg c]
    right
    have en : evF (inF (vw4 l d p)) (boV p (vw4 l d p)) = none := by
      unfold evB at c
      cases e : evF (inF (vw4 l d p)) (boV p (vw4 l d p)) with
      | none => rfl
      | some y => rw [e] at c; exact absurd rfl c
    have hli : liF (boV p (vw4 l d p)) (inF (vw4 l d p)) = [] := List.length_eq_zero_iff.1 ((ev_all hm hf).1 en)
    by_cases c2 : 0 < (ouF p (vw4 l d p)).length
    · rw [if_pos c2]
      left
      obtain ⟨z, hz, e1, e2⟩ := mn_all c2
      obtain ⟨a, hap, q, hq, nq, e, he, hen, rfl⟩ := out_mem hz
      obtain ⟨e', he', en', ek⟩ := g_gr ha hz e2
      have ee : trE e' = trE e := by
        have hp := en_one (g.1 _ (List.mem_map_of_mem he')) (g.1 _ (List.mem_map_of_mem he)) en' hen
        have : e' = e := TrX.pw_inj (k := fun y => ((trE y).1, (trE y).2.1)) (by have := g.2; rw [List.map_map] at this; exact this) he' he hp
        rw [this]
      refine ⟨rfl, hli, ?_, ?_, e, he, ?_, by rw [← ee]; exact ek, fun f hf2 u hu v nv et hlt => ?_⟩
      · rw [e1]; exact hap
      · rw [e1]; exact nq
      · rw [e1]; exact hen
      · have mf := g.1 _ (List.mem_map_of_mem (f := trE) hf2)
        have me := g.1 _ (List.mem_map_of_mem (f := trE) he)
        have k := e2 _ (mem_out (d := d) hu (en_nod mf et).2.1 nv hf2 et)
        have l1 := (may_T mf).2.2
        have l2 := (may_T me).2.2
        refine k ?_
        unfold SoC.ltE
        unfold En trE at *
        unfold lt at hlt
        show ri f 2 < ri e 2 ∨ ri f 2 = ri e 2 ∧ (min u v < min a q ∨ min u v = min a q ∧ max u v < max a q)
        simp only at *
        omega
    · rw [if_neg c2]
      right
      refine ⟨rfl, hli, fun f hf2 u hu v nv et => ?_⟩
      have mf := g.1 _ (List.mem_map_of_mem (f := trE) hf2)
      exact c2 (List.length_pos_of_mem (mem_out (d := d) hu (en_nod mf et).2.1 nv hf2 et))
/-! ## All done: the least forest -/
theorem way_mono {l k : List T} (h : ∀ y ∈ l, y ∈ k) {a b : Int} {p : List Int} (w : Wy l b a p) : Wy k b a p := by
  induction w with
  | one => exact .one
  | go hy e _ nn ih => exact .go (h _ hy) e ih nn
theorem way_all {l : List T} {n : List Int} {b : Int} (hb : b ∈ n) (h : ∀ y ∈ l, y.1 ∈ n ∧ y.2.1 ∈ n) {a : Int} {p : List Int} (w : Wy l b a p) : ∀ x ∈ p, x ∈ n := by
  induction w with
  | one => exact fun x hx => by rw [List.mem_singleton.1 hx]; exact hb
  | go hy e _ _ ih =>
    intro x hx
    rcases List.mem_cons.1 hx with rfl | hx
    · rcases e with ⟨rfl, _⟩ | ⟨rfl, _⟩
      · exact (h _ hy).1
      · exact (h _ hy).2
    · exact ih x hx
theorem nolight {l d : List E} (ha : allE l = 0) (hl : l.length ≤ 24) (o : Oth l d) {p : List Int} (hp : p ∈ ptL l d) (hli : liF (boV p (vw4 l d p)) (inF (vw4 l d p)) = []) {e : E} (he : e ∈ l) (h0 : ri e 0 ∈ p) (h1 : ri e 1 ∈ p) (hn : trE e ∉ d.map trE) :
    ∃ P, Wy (d.map trE) (ri e 1) (ri e 0) P ∧ ∀ z ∈ d.map trE, z.1 ∈ P → z.2.1 ∈ P → lt z (trE e) := by
  have g := good_l ha
  obtain ⟨Q, cn, _⟩ := pt_mem ha o hp
  have hm := vw_may g d Q.ns
  have hf := (g_for ha hl o Q).1
  have f := g_fo ha o Q
  obtain ⟨y, hy, ey, e4⟩ := mem_inn (d := d) g Q.ns he h0 h1
  have y0 : ri y 0 = ri e 0 := congrArg (fun t : T => t.1) ey
  have y1 : ri y 1 = ri e 1 := congrArg (fun t : T => t.2.1) ey
  have y2 : ri y 2 = ri e 2 := congrArg (fun t : T => t.2.2) ey
  have hmk : rb y 4 = false := by
    rw [e4, ← Bool.not_eq_true, has3_iff]
    exact hn
  obtain ⟨c0, _⟩ := in_two' hm hy
  have ea : edA (ri y 0) (ri y 1) = ri y 0 := by unfold edA; rw [if_neg (by omega)]
  have eb : edB (ri y 0) (ri y 1) = ri y 1 := by unfold edB; rw [if_neg (by omega)]
  have hnl : liP (boV p (vw4 l d p)) y = false := by
    rw [← Bool.not_eq_true]
    intro q
    have : ChT.e5 y ∈ liF (boV p (vw4 l d p)) (inF (vw4 l d p)) := li_mem.2 ⟨y, hy, q, rfl⟩
    rw [hli] at this
    cases this
  have n0 := Q.ns.nod _ h0
  have n1 := Q.ns.nod _ h1
  -- bound edges of the part lead where all of them do
  have toB : ∀ {a b : Int}, a ∈ p → Cn (d.map trE) a b → b ∈ p ∧ Cn ((boV p (vw4 l d p)).map trE) a b := by
    intro a b hap h
    induction h with
    | refl => exact ⟨hap, .refl⟩
    | @one b c z _ hz e ih =>
      have hc := Q.cl z hz
      have hbc : c ∈ p ∧ z.1 ∈ p ∧ z.2.1 ∈ p := by
        rcases e with ⟨rfl, rfl⟩ | ⟨rfl, rfl⟩
        · exact ⟨hc.1 ih.1, ih.1, hc.1 ih.1⟩
        · exact ⟨hc.2 ih.1, hc.2 ih.1, ih.1⟩
      exact ⟨hbc.1, .one ih.2 ((bnd_iff g o.m Q.ns z).2 ⟨hz, hbc.2⟩) e⟩
  have hcn := (toB h0 (cn _ h0 _ h1)).2
  have hok : ∀ z ∈ boV p (vw4 l d p), okT (trE z) := fun z hz => f.ok _ (List.mem_map_of_mem hz)
  have hlk : lkR (boV p (vw4 l d p)) (ri e 0) (ri e 1) = true := (lk_iff hok _ _).2 ⟨n0, n1, hcn⟩
  obtain ⟨w, _⟩ := hop_way f n1 (cn_symm hcn)
  unfold liP at hnl
  rw [ea, eb, hmk, y0, y1, y2, hlk, Bool.not_false, Bool.true_and, Bool.true_and, on_eq f n0 n1 w] at hnl
  generalize TrB.wF 65 (TrB.twH (boV p (vw4 l d p)) (ri e 1)) (ri e 0) = P at *
  have hne : ri e 0 ≠ ri e 1 := by
    have := (may_T (g.1 _ (List.mem_map_of_mem (f := trE) he))).2.2
    unfold trE at this
    simp only at this
    omega
  obtain ⟨m1, m2⟩ := mx_ok (TrC.on_ne f w hne)
  have hlt : ¬ lt (trE e) (mxT (onF (boV p (vw4 l d p)) P)) := fun q => by
    rw [← Bool.not_eq_true] at hnl
    exact hnl ((lsW_lt _ _ _ _ _ _).2 q)
  have wd : Wy (d.map trE) (ri e 1) (ri e 0) P := way_mono (fun y hy => ((bnd_iff g o.m Q.ns y).1 hy).1) w
  refine ⟨P, wd, fun z hz z1 z2 => ?_⟩
  -- an edge along the way is one of the part
  have inP : ∀ x ∈ P, x ∈ p := way_all h1 (fun y hy => ((bnd_iff g o.m Q.ns y).1 hy).2) w
  obtain ⟨x, hx, ex⟩ := mem_on (l := boV p (vw4 l d p)) ((bnd_iff g o.m Q.ns z).2 ⟨hz, inP _ z1, inP _ z2⟩) z1 z2
  have h3 := m2 _ (List.mem_map_of_mem hx)
  rw [ex] at h3
  obtain ⟨v, hv, ev⟩ := List.mem_map.1 m1
  have hmd : mxT (onF (boV p (vw4 l d p)) P) ∈ d.map trE := by
    rw [← ev]
    exact ((bnd_iff g o.m Q.ns _).1 (on_mem hv).1).1
  have hnm : mxT (onF (boV p (vw4 l d p)) P) ≠ trE e := fun q => hn (q ▸ hmd)
  have h4 : lt (mxT (onF (boV p (vw4 l d p)) P)) (trE e) := (lt_or hnm).resolve_right hlt
  by_cases q : z = mxT (onF (boV p (vw4 l d p)) P)
  · rw [q]; exact h4
  · exact lt_tr ((lt_or q).resolve_right h3) h4
theorem all_done {l d : List E} (ha : allE l = 0) (hl : l.length ≤ 24) (o : Oth l d) (h : ∀ p ∈ ptL l d, (chP l d p).k = 1) (t : T) : t ∈ d.map trE ↔ t ∈ kru (S l) := by
  have g := good_l ha
  have fd := oth_fo ha o
  have hS := inc_srt (all_good ha)
  have info : ∀ e ∈ l, ∃ p ∈ ptL l d, ri e 0 ∈ p ∧ ri e 1 ∈ p ∧ liF (boV p (vw4 l d p)) (inF (vw4 l d p)) = [] := fun e he => by
    have m := may_T (g.1 _ (List.mem_map_of_mem (f := trE) he))
    obtain ⟨p, hp, h0⟩ := pt_cov ha o (nd_mem.2 ⟨m.1, e, he, .inl rfl⟩)
    have h0 : ri e 0 ∈ p := h0
    have hk := h p hp
    rcases ch_cases ha hl o hp with ⟨k, _⟩ | ⟨k, _⟩ | ⟨_, h1, h2⟩
    · omega
    · omega
    · exact ⟨p, hp, h0, Decidable.byContradiction fun q => h2 e he _ h0 _ q (.inl ⟨rfl, rfl⟩), h1⟩
  constructor
  · intro ht
    obtain ⟨x, hx, rfl⟩ := List.mem_map.1 ht
    refine (kru_iff hS _).2 ⟨(mem_srt l _).2 (o.m x hx), fun c => ?_⟩
    have cut := fd.cut ht
    -- an edge of l ahead of it that crosses where it was
    have sep : ∀ {a b : Int}, Cn (blw (S l) (trE x)) a b → Cn (wo (d.map trE) (trE x)) a b := by
      intro a b q
      refine cn_sub (fun z hz => ?_) q
      obtain ⟨z1, z2⟩ := mem_blw.1 hz
      obtain ⟨y, hy, rfl⟩ := List.mem_map.1 ((mem_srt l z).1 z1)
      by_cases hyd : trE y ∈ d.map trE
      · exact cn_edge (mem_wo.2 ⟨hyd, fun q => lt_irr _ (q ▸ z2)⟩)
      · obtain ⟨p, hp, h0, h1, hli⟩ := info y hy
        obtain ⟨P, w, hP⟩ := nolight ha hl o hp hli hy h0 h1 hyd
        refine way_off w fun k => ?_
        exact lt_irr _ (lt_tr (hP _ ht k.1 k.2) z2)
    exact cut (sep c)
  · intro ht
    obtain ⟨h1, h2⟩ := (kru_iff hS t).1 ht
    obtain ⟨y, hy, rfl⟩ := List.mem_map.1 ((mem_srt l t).1 h1)
    refine Decidable.byContradiction fun hyd => h2 ?_
    obtain ⟨p, hp, h0, h3, hli⟩ := info y hy
    obtain ⟨P, w, hP⟩ := nolight ha hl o hp hli hy h0 h3 hyd
    refine cn_mono (fun z hz => ?_) (way_cn P w fun x hx => hx)
    obtain ⟨z1, z2⟩ := List.mem_filter.1 hz
    rw [decide_eq_true_eq] at z2
    refine mem_blw.2 ⟨(mem_srt l z).2 ?_, hP z z1 z2.1 z2.2⟩
    obtain ⟨v, hv, rfl⟩ := List.mem_map.1 z1
    exact o.m v hv
/-! ## A round -/
def rowC (c : CH) : E := [D.int c.k, D.int c.a, D.int c.b, D.int c.s]
def gr1 (l d : List E) (p : List Int) : List E := if (chP l d p).k = 2 then [rowC (chP l d p)] else []
def grL (l d : List E) : List E := (ptL l d).flatMap (gr1 l d)
def ev1 (l d : List E) (p : List Int) : List E := (l.filter fun e => decide ((chP l d p).k = 3 ∧ ri e 0 = (chP l d p).a ∧ ri e 1 = (chP l d p).b)).map e3
def evL (l d : List E) : List E := (ptL l d).flatMap (ev1 l d)
def idB (l d : List E) : Bool := (ptL l d).all fun p => decide ((chP l d p).k = 1)
def n1L (l d : List E) : List E := (d.filter fun e => !hsB (evL l d) (ri e 0) (ri e 1) (ri e 2)).map e3
def mtl (G : List E) (i k : Nat) : Bool := decide (ri (G.getD i []) 1 = ri (G.getD k []) 2 ∧ ri (G.getD i []) 2 = ri (G.getD k []) 1)
def pr1 (G : List E) (i k : Nat) : List (Nat × Nat) := ((List.range k).filter (mtl G i)).map fun k => (i, k)
def prI (G : List E) (n : Nat) : List (Nat × Nat) := (List.range n).flatMap fun i => pr1 G i i
def me1 (G : List E) (i : Nat) (e : E) : Bool := decide (ri e 0 = ri (G.getD i []) 1 ∧ ri e 1 = ri (G.getD i []) 2 ∨ ri e 0 = ri (G.getD i []) 2 ∧ ri e 1 = ri (G.getD i []) 1)
def meL (l G : List E) (i : Nat) : List E := (l.filter (me1 G i)).map e3
def meP (l G : List E) (q : List (Nat × Nat)) : List E := q.flatMap fun x => meL l G x.1
def n2L (l d : List E) : List E := n1L l d ++ meP l (grL l d) (prI (grL l d) (grL l d).length)
def ps2 (l d : List E) : List (List Int) := (ptL l d).filter fun p => decide ((chP l d p).k = 2)
theorem gr_map (l d : List E) : grL l d = (ps2 l d).map fun p => rowC (chP l d p) := by
  unfold grL ps2
  induction ptL l d with
  | nil => rfl
  | cons p t ih =>
    rw [List.flatMap_cons, List.filter_cons, ih]
    unfold gr1
    by_cases h : (chP l d p).k = 2
    · rw [if_pos h, if_pos (decide_eq_true h)]
      rfl
    · rw [if_neg h, if_neg (by rw [decide_eq_true_eq]; exact h)]
      rfl
theorem gr_len (l d : List E) : (grL l d).length = (ps2 l d).length := by rw [gr_map, List.length_map]
def gp (l d : List E) (i : Nat) : List Int := (ps2 l d).getD i []
theorem gp_in {l d : List E} {i : Nat} (h : i < (grL l d).length) : gp l d i ∈ ptL l d ∧ (chP l d (gp l d i)).k = 2 := by
  rw [gr_len] at h
  have := List.mem_filter.1 (CgV.getD_in (z := ([] : List Int)) h)
  exact ⟨this.1, of_decide_eq_true this.2⟩
theorem gp_at {l d : List E} {i : Nat} (h : i < (grL l d).length) : ri ((grL l d).getD i []) 1 = (chP l d (gp l d i)).a ∧ ri ((grL l d).getD i []) 2 = (chP l d (gp l d i)).b := by
  have h2 := h
  rw [gr_len] at h2
  have e : (grL l d).getD i [] = rowC (chP l d (gp l d i)) := by
    unfold gp
    rw [gr_map, List.getD_eq_getElem?_getD, List.getElem?_map, List.getD_eq_getElem?_getD, List.getElem?_eq_getElem h2]
    rfl
  rw [e]
  exact ⟨rfl, rfl⟩
theorem pw_get {α : Type} {R : α → α → Prop} {z : α} : ∀ {l : List α}, l.Pairwise R → ∀ {i j : Nat}, i < j → j < l.length → R (l.getD i z) (l.getD j z)
  | [], _, _, _, _, h => absurd h (Nat.not_lt_zero _)
  | x :: l, p, i, j, hij, hj => by
    have p := List.pairwise_cons.1 p
    match i, j, hij with
    | 0, j + 1, _ => exact p.1 _ (CgV.getD_in (Nat.lt_of_succ_lt_succ hj))
    | i + 1, j + 1, h => exact pw_get p.2 (Nat.lt_of_succ_lt_succ h) (Nat.lt_of_succ_lt_succ hj)
theorem gp_dis {l d : List E} (ha : allE l = 0) (o : Oth l d) {i k : Nat} (hi : i < (grL l d).length) (hk : k < (grL l d).length) (ne : i ≠ k) : ∀ x ∈ gp l d i, x ∉ gp l d k := by
  rw [gr_len] at hi hk
  have p : (ps2 l d).Pairwise fun p q => ∀ x ∈ p, x ∉ q := (pt_dis ha o).sublist List.filter_sublist
  rcases Nat.lt_or_gt_of_ne ne with h | h
  · exact pw_get (z := []) p h hk
  · exact fun x hx hy => pw_get (z := []) p h hi x hy hx
theorem pr_mem {G : List E} {n : Nat} {x : Nat × Nat} : x ∈ prI G n ↔ x.1 < n ∧ x.2 < x.1 ∧ mtl G x.1 x.2 = true := by
  unfold prI pr1
  rw [List.mem_flatMap]
  constructor
  · rintro ⟨i, hi, h⟩
    obtain ⟨k, hk, rfl⟩ := List.mem_map.1 h
    obtain ⟨k1, k2⟩ := List.mem_filter.1 hk
    exact ⟨List.mem_range.1 hi, List.mem_range.1 k1, k2⟩
  · rintro ⟨h1, h2, h3⟩
    exact ⟨x.1, List.mem_range.2 h1, List.mem_map.2 ⟨x.2, List.mem_filter.2 ⟨List.mem_range.2 h2, h3⟩, rfl⟩⟩
theorem pr_nd (G : List E) (n : Nat) : (prI G n).Nodup := by
  unfold prI
  refine List.pairwise_flatMap.2 ⟨fun i _ => ?_, List.pairwise_lt_range.imp fun {i j} lt x hx y hy e => ?_⟩
  · unfold pr1
    have nd : ((List.range i).filter (mtl G i)).Nodup := List.nodup_range.sublist List.filter_sublist
    exact List.pairwise_map.2 (List.Pairwise.imp (fun {a b} (ne : a ≠ b) (e : (i, a) = (i, b)) => ne (Prod.mk.inj e).2) nd)
  · unfold pr1 at hx hy
    obtain ⟨_, _, rfl⟩ := List.mem_map.1 hx
    obtain ⟨_, _, rfl⟩ := List.mem_map.1 hy
    have := (Prod.mk.inj e).1
    omega
/-- Of a mutual pair: what each grants. -/
theorem pr_all {l d : List E} (ha : allE l = 0) (hl : l.length ≤ 24) (o : Oth l d) {x : Nat × Nat} (hx : x ∈ prI (grL l d) (grL l d).length) :
    x.1 < (grL l d).length ∧ x.2 < (grL l d).length ∧ x.2 < x.1 ∧ (chP l d (gp l d x.1)).a ∈ gp l d x.1 ∧ (chP l d (gp l d x.1)).b = (chP l d (gp l d x.2)).a ∧ (chP l d (gp l d x.1)).a = (chP l d (gp l d x.2)).b ∧ (chP l d (gp l d x.2)).a ∈ gp l d x.2 ∧ (chP l d (gp l d x.1)).b ∉ gp l d x.1 ∧
    ∃ e ∈ l, En (trE e) (chP l d (gp l d x.1)).a (chP l d (gp l d x.1)).b ∧ trE e ∈ kru (S l) := by
  obtain ⟨h1, h2, h3⟩ := pr_mem.1 hx
  have h4 : x.2 < (grL l d).length := by omega
  unfold mtl at h3
  rw [decide_eq_true_eq, (gp_at h1).1, (gp_at h1).2, (gp_at h4).1, (gp_at h4).2] at h3
  have side : ∀ {i : Nat}, i < (grL l d).length → (chP l d (gp l d i)).a ∈ gp l d i ∧ (chP l d (gp l d i)).b ∉ gp l d i ∧ ∃ e ∈ l, En (trE e) (chP l d (gp l d i)).a (chP l d (gp l d i)).b ∧ trE e ∈ kru (S l) := fun {i} hi => by
    obtain ⟨g1, g2⟩ := gp_in hi
    rcases ch_cases ha hl o g1 with ⟨k, _⟩ | ⟨_, _, k1, k2, e, he, k3, k4, _⟩ | ⟨k, _⟩
    · omega
    · exact ⟨k1, k2, e, he, k3, k4⟩
    · omega
  obtain ⟨s1, s2, s3⟩ := side h1
  exact ⟨h1, h4, h2, s1, h3.2, h3.1, (side h4).1, s2, s3⟩
theorem pr_dis {l d : List E} (ha : allE l = 0) (hl : l.length ≤ 24) (o : Oth l d) {x y : Nat × Nat} (hx : x ∈ prI (grL l d) (grL l d).length) (hy : y ∈ prI (grL l d) (grL l d).length) (ne : x ≠ y) : x.1 ≠ y.1 ∧ x.1 ≠ y.2 := by
  obtain ⟨x1, x2, x3, x4, x5, x6, x7, _⟩ := pr_all ha hl o hx
  obtain ⟨y1, y2, y3, y4, y5, y6, y7, _⟩ := pr_all ha hl o hy
  have dis := fun {i k} => gp_dis (l := l) (d := d) (i := i) (k := k) ha o
  constructor
  · intro e
    refine ne (Prod.ext e ?_)
    refine Decidable.byContradiction fun q => dis x2 y2 q _ x7 ?_
    rw [← x5, e, y5]
    exact y7
  · intro e
    -- y.2 = x.1: the other ends are one, but then the order is broken
    have h : x.2 = y.1 := by
      refine Decidable.byContradiction fun q => dis x2 y1 q _ x7 ?_
      rw [← x5, e, ← y6]
      exact y4
    omega
theorem nd_one {α : Type} {x : α} : ∀ {l : List α}, l.Nodup → x ∈ l → (∀ y ∈ l, y = x) → l = [x]
  | [], _, h, _ => by cases h
  | [y], _, _, h => by rw [h y (List.mem_cons_self ..)]
  | y :: z :: l, nd, _, h => by
    have e1 := h y (List.mem_cons_self ..)
    have e2 := h z (List.mem_cons_of_mem _ (List.mem_cons_self ..))
    exact absurd (by rw [e1, e2]; exact List.mem_cons_self ..) (List.nodup_cons.1 nd).1
theorem me_one {l d : List E} (ha : allE l = 0) (hl : l.length ≤ 24) (o : Oth l d) {x : Nat × Nat} (hx : x ∈ prI (grL l d) (grL l d).length) : ∃ e ∈ l, (meL l (grL l d) x.1).map trE = [trE e] ∧ En (trE e) (chP l d (gp l d x.1)).a (chP l d (gp l d x.1)).b ∧ trE e ∈ kru (S l) := by
  have g := good_l ha
  obtain ⟨x1, _, _, _, _, _, _, _, e, he, en, ek⟩ := pr_all ha hl o hx
  refine ⟨e, he, ?_, en, ek⟩
  have mm : ∀ f : E, me1 (grL l d) x.1 f = true ↔ En (trE f) (chP l d (gp l d x.1)).a (chP l d (gp l d x.1)).b := fun f => by
    unfold me1 En trE
    rw [decide_eq_true_eq, (gp_at x1).1, (gp_at x1).2]
    constructor
    · rintro (h | h)
      · exact .inl h
      · exact .inr ⟨h.2, h.1⟩
    · rintro (h | h)
      · exact .inl h
      · exact .inr ⟨h.2, h.1⟩
  unfold meL
  rw [List.map_map]
  refine nd_one ?_ (List.mem_map.2 ⟨e, List.mem_filter.2 ⟨he, (mm e).2 en⟩, rfl⟩) fun t ht => ?_
  · exact ((goodT_nd g).sublist (List.filter_sublist.map trE) : ((l.filter (me1 (grL l d) x.1)).map trE).Nodup)
  · obtain ⟨f, hf, rfl⟩ := List.mem_map.1 ht
    obtain ⟨f1, f2⟩ := List.mem_filter.1 hf
    have hp := en_one (g.1 _ (List.mem_map_of_mem f1)) (g.1 _ (List.mem_map_of_mem he)) ((mm f).1 f2) en
    have : f = e := TrX.pw_inj (k := fun y => ((trE y).1, (trE y).2.1)) (by have := g.2; rw [List.map_map] at this; exact this) f1 he hp
    rw [this]
    rfl
theorem n1_mem {l d : List E} {t : T} : t ∈ (n1L l d).map trE ↔ t ∈ d.map trE ∧ t ∉ (evL l d).map trE := by
  unfold n1L
  rw [List.map_map, List.mem_map, List.mem_map]
  constructor
  · rintro ⟨y, hy, rfl⟩
    obtain ⟨y1, y2⟩ := List.mem_filter.1 hy
    refine ⟨⟨y, y1, rfl⟩, fun q => ?_⟩
    rw [Bool.not_eq_true', ← Bool.not_eq_true, hs_iff] at y2
    exact y2 q
  · rintro ⟨⟨y, hy, rfl⟩, h⟩
    refine ⟨y, List.mem_filter.2 ⟨hy, ?_⟩, rfl⟩
    rw [Bool.not_eq_true', ← Bool.not_eq_true, hs_iff]
    exact h
theorem n1_sub (l d : List E) : ((n1L l d).map trE).Sublist (d.map trE) := by
  unfold n1L
  rw [List.map_map]
  exact List.filter_sublist.map trE
theorem me_app (l G : List E) (p q : List (Nat × Nat)) : meP l G (p ++ q) = meP l G p ++ meP l G q := List.flatMap_append ..
/-- What is bound then is a forest. -/
theorem pairs_frs {l d : List E} (ha : allE l = 0) (hl : l.length ≤ 24) (o : Oth l d) : ∀ (q r : List (Nat × Nat)), (r ++ q).Nodup → (∀ x ∈ r ++ q, x ∈ prI (grL l d) (grL l d).length) → frs [] ((n1L l d ++ meP l (grL l d) r).map trE) → frs [] ((n1L l d ++ meP l (grL l d) (r ++ q)).map trE)
  | [], r, _, _, h => by rw [List.append_nil]; exact h
  | x :: q, r, nd, hm, h => by
    rw [show r ++ x :: q = (r ++ [x]) ++ q by simp] at nd hm ⊢
    refine pairs_frs ha hl o q (r ++ [x]) nd hm ?_
    have hxm := hm x (by simp)
    obtain ⟨e, he, e1, en, ek⟩ := me_one ha hl o hxm
    obtain ⟨x1, x2, x3, x4, x5, x6, x7, x8, _⟩ := pr_all ha hl o hxm
    rw [me_app, ← List.append_assoc, List.map_append, show meP l (grL l d) [x] = meL l (grL l d) x.1 by simp [meP], e1]
    refine frs_snoc _ [] _ h fun c => ?_
    rw [List.append_nil] at c
    have c : Cn ((n1L l d ++ meP l (grL l d) r).map trE) (chP l d (gp l d x.1)).a (chP l d (gp l d x.1)).b := by
      rcases en with ⟨q1, q2⟩ | ⟨q1, q2⟩
      · rw [← q1, ← q2]; exact c
      · rw [← q1, ← q2]; exact cn_symm c
    obtain ⟨z, hz, u, hu, v, nv, ez⟩ := cross c x4 x8
    rw [List.map_append] at hz
    rcases List.mem_append.1 hz with hz | hz
    · have hc := (pt_mem ha o (gp_in x1).1).1.cl z (n1_mem.1 hz).1
      rcases ez with ⟨rfl, rfl⟩ | ⟨rfl, rfl⟩
      · exact nv (hc.1 hu)
      · exact nv (hc.2 hu)
    · unfold meP at hz
      rw [List.map_flatMap] at hz
      obtain ⟨y, hy, hz⟩ := List.mem_flatMap.1 hz
      have hym := hm y (by simp [hy])
      have ne : x ≠ y := fun e => by
        rw [List.append_assoc, List.nodup_append] at nd
        exact nd.2.2 y hy y (by rw [← e]; simp) rfl
      obtain ⟨f, hf, f1, fn, _⟩ := me_one ha hl o hym
      rw [f1] at hz
      rw [List.mem_singleton.1 hz] at ez
      obtain ⟨d1, d2⟩ := pr_dis ha hl o hxm hym ne
      obtain ⟨y1, y2, y3, y4, y5, y6, y7, _⟩ := pr_all ha hl o hym
      have hu2 : u = (chP l d (gp l d y.1)).a ∨ u = (chP l d (gp l d y.1)).b := by
        unfold En at ez fn
        omega
      rcases hu2 with rfl | rfl
      · exact gp_dis ha o x1 y1 d1 _ hu y4
      · rw [y5] at hu
        exact gp_dis ha o x1 y2 d2 _ hu y7
/-! ## How near it is -/
theorem nd_le {α : Type} [DecidableEq α] : ∀ {k l : List α}, k.Nodup → (∀ y ∈ k, y ∈ l) → k.length ≤ l.length
  | [], _, _, _ => Nat.zero_le _
  | x :: k, l, nd, h => by
    have hx := h x (List.mem_cons_self ..)
    obtain ⟨n1, n2⟩ := List.nodup_cons.1 nd
    have := nd_le (k := k) (l := l.erase x) n2 fun y hy => (List.mem_erase_of_ne (fun e => n1 (by rw [e] at hy; exact hy))).2 (h y (List.mem_cons_of_mem _ hy))
    rw [List.length_erase_of_mem hx] at this
    have := List.length_pos_of_mem hx
    rw [List.length_cons]
    omega
noncomputable def meas (l d : List E) : Nat := (d.map trE).countP (fun z => decide (z ∉ kru (S l))) + (kru (S l)).countP (fun z => decide (z ∉ d.map trE))
theorem kru_len (l : List E) : (kru (S l)).length ≤ l.length := by
  have h := (grd_sub (S l) []).length_le
  have e : (S l).length = l.length := by
    show ((srtE l).map trE).length = _
    rw [List.length_map, (srt_all l).1]
  rw [e] at h
  exact h
theorem meas_le (l d : List E) (h : d.length ≤ l.length) : meas l d ≤ 2 * l.length := by
  have h1 := List.countP_le_length (p := fun z => decide (z ∉ kru (S l))) (l := d.map trE)
  have h2 := List.countP_le_length (p := fun z => decide (z ∉ d.map trE)) (l := kru (S l))
  have h3 := kru_len l
  rw [List.length_map] at h1
  unfold meas
  omega
theorem oth_len {l d : List E} (ha : allE l = 0) (o : Oth l d) : d.length ≤ l.length := by
  have := nd_le (goodT_nd (oth_fo ha o).good) fun t ht => by
    obtain ⟨z, hz, rfl⟩ := List.mem_map.1 ht
    exact o.m z hz
  rw [List.length_map, List.length_map] at this
  exact this
theorem cnt_lt {α : Type} {p q : α → Bool} {l : List α} (h : ∀ x ∈ l, p x = true → q x = true) {y : α} (hy : y ∈ l) (hq : q y = true) (hp : ¬ p y = true) : l.countP p < l.countP q := by
  refine Decidable.byContradiction fun k => hp ?_
  exact countP_eq_all h (by omega) y hy hq
theorem ev_mem {l d : List E} (ha : allE l = 0) (hl : l.length ≤ 24) (o : Oth l d) {t : T} (h : t ∈ (evL l d).map trE) : t ∈ d.map trE ∧ t ∉ kru (S l) := by
  have g := good_l ha
  unfold evL at h
  rw [List.map_flatMap] at h
  obtain ⟨p, hp, h⟩ := List.mem_flatMap.1 h
  unfold ev1 at h
  rw [List.map_map] at h
  obtain ⟨e, he, rfl⟩ := List.mem_map.1 h
  obtain ⟨e1, e2⟩ := List.mem_filter.1 he
  rw [decide_eq_true_eq] at e2
  rcases ch_cases ha hl o hp with ⟨_, z, z1, z2, z3, z4⟩ | ⟨k, _⟩ | ⟨k, _⟩
  · have hz : z ∈ l.map trE := by
      obtain ⟨x, hx, rfl⟩ := List.mem_map.1 z1
      exact o.m x hx
    have ee : (trE ∘ e3) e = z := by
      obtain ⟨f, hf, rfl⟩ := List.mem_map.1 hz
      have : e = f := TrX.pw_inj (k := fun y => ((trE y).1, (trE y).2.1)) (by have := g.2; rw [List.map_map] at this; exact this) e1 hf (by
        show (ri e 0, ri e 1) = _
        rw [e2.2.1, e2.2.2, z3, z4])
      rw [this]
      rfl
    rw [ee]
    exact ⟨z1, z2⟩
  · omega
  · omega
theorem id_iff {l d : List E} : idB l d = true ↔ ∀ p ∈ ptL l d, (chP l d p).k = 1 := by
  unfold idB
  rw [List.all_eq_true]
  exact ⟨fun h p hp => of_decide_eq_true (h p hp), fun h p hp => decide_eq_true (h p hp)⟩
def okB (l d : List E) : Bool := idB l d || (decide (0 < (prI (grL l d) (grL l d).length).length) || decide (0 < (evL l d).length))
theorem n2_mem {l d : List E} {t : T} : t ∈ (n2L l d).map trE ↔ t ∈ (n1L l d).map trE ∨ ∃ x ∈ prI (grL l d) (grL l d).length, t ∈ (meL l (grL l d) x.1).map trE := by
  unfold n2L meP
  rw [List.map_append, List.mem_append, List.map_flatMap, List.mem_flatMap]
theorem n2_oth {l d : List E} (ha : allE l = 0) (hl : l.length ≤ 24) (o : Oth l d) : Oth l (n2L l d) := by
  refine ⟨?_, fun y hy => ?_⟩
  · have h0 : frs [] ((n1L l d ++ meP l (grL l d) []).map trE) := by
      rw [show meP l (grL l d) [] = [] from rfl, List.append_nil]
      exact frs_sub [] (n1_sub l d) o.f
    have := pairs_frs ha hl o (prI (grL l d) (grL l d).length) [] (by rw [List.nil_append]; exact pr_nd _ _) (fun x hx => by rw [List.nil_append] at hx; exact hx) h0
    rw [List.nil_append] at this
    exact this
  · rcases n2_mem.1 (List.mem_map_of_mem (f := trE) hy) with h | ⟨x, hx, h⟩
    · obtain ⟨z, hz, e⟩ := List.mem_map.1 (n1_mem.1 h).1
      rw [← e]
      exact o.m z hz
    · obtain ⟨e, he, e1, _⟩ := me_one ha hl o hx
      rw [e1] at h
      rw [List.mem_singleton.1 h]
      exact List.mem_map_of_mem he
def OutP (l d : List E) (e : E) : Prop := ∃ p ∈ ptL l d, ∃ u ∈ p, ∃ v, v ∉ p ∧ En (trE e) u v
theorem least_of (Q : E → Prop) : ∀ k : List E, (∃ e ∈ k, Q e) → ∃ e ∈ k, Q e ∧ ∀ f ∈ k, Q f → ¬ lt (trE f) (trE e)
  | [], ⟨e, he, _⟩ => by cases he
  | x :: k, ⟨e, he, oe⟩ => by
    by_cases hx : ∃ e ∈ k, Q e
    · obtain ⟨y, hy, oy, my⟩ := least_of Q k hx
      by_cases c : Q x ∧ lt (trE x) (trE y)
      · refine ⟨x, List.mem_cons_self .., c.1, fun f hf of q => ?_⟩
        rcases List.mem_cons.1 hf with rfl | hf
        · exact lt_irr _ q
        · exact my f hf of (lt_tr q c.2)
      · refine ⟨y, List.mem_cons_of_mem _ hy, oy, fun f hf of q => ?_⟩
        rcases List.mem_cons.1 hf with rfl | hf
        · exact c ⟨of, q⟩
        · exact my f hf of q
    · rcases List.mem_cons.1 he with rfl | he
      · refine ⟨e, List.mem_cons_self .., oe, fun f hf of q => ?_⟩
        rcases List.mem_cons.1 hf with rfl | hf
        · exact lt_irr _ q
        · exact hx ⟨f, hf, of⟩
      · exact absurd ⟨e, he, oe⟩ hx
/-- If not all are done, something turns. -/
theorem some_turn {l d : List E} (ha : allE l = 0) (hl : l.length ≤ 24) (o : Oth l d) (hi : idB l d = false) : 0 < (prI (grL l d) (grL l d).length).length ∨ 0 < (evL l d).length := by
  have g := good_l ha
  by_cases he : 0 < (evL l d).length
  · exact .inr he
  left
  have he : evL l d = [] := List.length_eq_zero_iff.1 (by omega)
  -- nobody evicts
  have noev : ∀ p ∈ ptL l d, (chP l d p).k ≠ 3 := fun p hp k => by
    rcases ch_cases ha hl o hp with ⟨_, z, z1, z2, z3, z4⟩ | ⟨k2, _⟩ | ⟨k2, _⟩
    · obtain ⟨x, hx, rfl⟩ := List.mem_map.1 z1
      obtain ⟨f, hf, ef⟩ := List.mem_map.1 (o.m x hx)
      have : e3 f ∈ evL l d := by
        unfold evL ev1
        refine List.mem_flatMap.2 ⟨p, hp, List.mem_map_of_mem (List.mem_filter.2 ⟨hf, decide_eq_true ⟨k, ?_, ?_⟩⟩)⟩
        · rw [z3, ← ef]; rfl
        · rw [z4, ← ef]; rfl
      rw [he] at this
      cases this
    · omega
    · omega
  -- the least edge that leads out of any part
  have hi2 : ¬ ∀ p ∈ ptL l d, (chP l d p).k = 1 := fun h => by
    rw [← id_iff, hi] at h
    cases h
  have ex : ∃ p ∈ ptL l d, (chP l d p).k = 2 := by
    refine Decidable.byContradiction fun q => hi2 fun p hp => ?_
    rcases ch_cases ha hl o hp with ⟨k, _⟩ | ⟨k, _⟩ | ⟨k, _⟩
    · exact absurd k (noev p hp)
    · exact absurd ⟨p, hp, k⟩ q
    · exact k
  obtain ⟨p0, hp0, k0⟩ := ex
  have o0 : ∃ e ∈ l, OutP l d e := by
    rcases ch_cases ha hl o hp0 with ⟨k, _⟩ | ⟨_, _, a1, a2, e, he, en, _⟩ | ⟨k, _⟩
    · omega
    · exact ⟨e, he, p0, hp0, _, a1, _, a2, en⟩
    · omega
  obtain ⟨e, he, ⟨p, hp, u, hu, v, nv, en⟩, hmin⟩ := least_of (OutP l d) l o0
  have me := g.1 _ (List.mem_map_of_mem (f := trE) he)
  have hv0 : ri e 0 = v ∨ ri e 1 = v := by
    have en2 := en
    unfold En trE at en2
    simp only at en2
    omega
  have nv2 : v ∈ ndS l := nd_mem.2 ⟨(en_nod me en).2.1, e, he, hv0⟩
  obtain ⟨q, hq, hv⟩ := pt_cov ha o nv2
  have nu : u ∉ q := fun h => nv ((pt_mem ha o hp).2.2 u hu v nv2 ((pt_mem ha o hq).2.1 u h v hv))
  -- both sides grant it
  have grants : ∀ {r : List Int} {a b : Int}, r ∈ ptL l d → a ∈ r → b ∉ r → En (trE e) a b → (chP l d r).k = 2 ∧ (chP l d r).a = a ∧ (chP l d r).b = b := by
    intro r a b hr har hbr eab
    rcases ch_cases ha hl o hr with ⟨k, _⟩ | ⟨k, _, a1, a2, f, hf, fn, _, fm⟩ | ⟨_, _, k⟩
    · exact absurd k (noev r hr)
    · have h1 := fm e he a har b hbr eab
      have h2 := hmin f hf ⟨r, hr, _, a1, _, a2, fn⟩
      have ee : trE f = trE e := by
        by_cases c : trE f = trE e
        · exact c
        · rcases lt_or c with c | c
          · exact absurd c h2
          · exact absurd c h1
      rw [ee] at fn
      refine ⟨k, ?_⟩
      unfold En at fn eab
      rcases fn with ⟨f1, f2⟩ | ⟨f1, f2⟩ <;> rcases eab with ⟨g1, g2⟩ | ⟨g1, g2⟩
      · exact ⟨by rw [← f1, g1], by rw [← f2, g2]⟩
      · exact absurd har (by rw [← g1, f2]; exact a2)
      · exact absurd har (by rw [← g1, f2]; exact a2)
      · exact ⟨by rw [← f1, g1], by rw [← f2, g2]⟩
    · exact absurd eab (k e he a har b hbr)
  obtain ⟨p1, p2, p3⟩ := grants hp hu nv en
  obtain ⟨q1, q2, q3⟩ := grants hq hv nu (en_symm en)
  obtain ⟨i, hi1, hi2⟩ := List.mem_iff_getElem.1 (show p ∈ ps2 l d from List.mem_filter.2 ⟨hp, decide_eq_true p1⟩)
  obtain ⟨j, hj1, hj2⟩ := List.mem_iff_getElem.1 (show q ∈ ps2 l d from List.mem_filter.2 ⟨hq, decide_eq_true q1⟩)
  have gi : gp l d i = p := by unfold gp; rw [List.getD_eq_getElem?_getD, List.getElem?_eq_getElem hi1]; exact hi2
  have gj : gp l d j = q := by unfold gp; rw [List.getD_eq_getElem?_getD, List.getElem?_eq_getElem hj1]; exact hj2
  have li : i < (grL l d).length := by rw [gr_len]; exact hi1
  have lj : j < (grL l d).length := by rw [gr_len]; exact hj1
  have hm : ∀ {a b : Nat}, a < (grL l d).length → b < (grL l d).length → (chP l d (gp l d a)).a = (chP l d (gp l d b)).b → (chP l d (gp l d a)).b = (chP l d (gp l d b)).a → mtl (grL l d) a b = true := by
    intro a b la lb h1 h2
    unfold mtl
    rw [decide_eq_true_eq, (gp_at la).1, (gp_at la).2, (gp_at lb).1, (gp_at lb).2]
    exact ⟨h1, h2⟩
  have ne : i ≠ j := fun e => by
    rw [e, gj] at gi
    rw [gi] at nu
    exact nu hu
  rcases Nat.lt_or_gt_of_ne ne with c | c
  · exact List.length_pos_of_mem (pr_mem.2 (show (j, i).1 < _ ∧ (j, i).2 < (j, i).1 ∧ _ from ⟨lj, c, hm lj li (by rw [gi, gj, q2, p3]) (by rw [gi, gj, q3, p2])⟩))
  · exact List.length_pos_of_mem (pr_mem.2 (show (i, j).1 < _ ∧ (i, j).2 < (i, j).1 ∧ _ from ⟨li, c, hm li lj (by rw [gi, gj, p2, q3]) (by rw [gi, gj, p3, q2])⟩))
theorem turn_less {l d : List E} (ha : allE l = 0) (hl : l.length ≤ 24) (o : Oth l d) (hi : idB l d = false) : meas l (n2L l d) < meas l d := by
  have g := good_l ha
  -- what is met is of the least forest, and was not bound
  have met : ∀ x ∈ prI (grL l d) (grL l d).length, ∃ t, (meL l (grL l d) x.1).map trE = [t] ∧ t ∈ kru (S l) ∧ t ∉ d.map trE := fun x hx => by
    obtain ⟨e, he, e1, en, ek⟩ := me_one ha hl o hx
    obtain ⟨x1, _, _, x4, _, _, _, x8, _⟩ := pr_all ha hl o hx
    refine ⟨_, e1, ek, fun q => ?_⟩
    have hc := (pt_mem ha o (gp_in x1).1).1.cl _ q
    rcases en with ⟨q1, q2⟩ | ⟨q1, q2⟩
    · rw [q1, q2] at hc
      exact x8 (hc.1 x4)
    · rw [q1, q2] at hc
      exact x8 (hc.2 x4)
  have bad : ((n2L l d).map trE).countP (fun z => decide (z ∉ kru (S l))) = ((n1L l d).map trE).countP (fun z => decide (z ∉ kru (S l))) := by
    unfold n2L meP
    rw [List.map_append, List.countP_append, List.map_flatMap]
    have : ((prI (grL l d) (grL l d).length).flatMap fun x => (meL l (grL l d) x.1).map trE).countP (fun z => decide (z ∉ kru (S l))) = 0 := by
      rw [List.countP_eq_zero]
      intro t ht
      obtain ⟨x, hx, ht⟩ := List.mem_flatMap.1 ht
      obtain ⟨s, s1, s2, _⟩ := met x hx
      rw [s1] at ht
      rw [List.mem_singleton.1 ht, decide_eq_true_eq]
      exact fun q => q s2
    omega
  have b1 : ((n1L l d).map trE).countP (fun z => decide (z ∉ kru (S l))) ≤ (d.map trE).countP (fun z => decide (z ∉ kru (S l))) := (n1_sub l d).countP_le
  have keep : ∀ z ∈ kru (S l), z ∈ d.map trE → z ∈ (n2L l d).map trE := fun z hz hd => n2_mem.2 (.inl (n1_mem.2 ⟨hd, fun q => (ev_mem ha hl o q).2 hz⟩))
  have m1 : ∀ x ∈ kru (S l), (decide (x ∉ (n2L l d).map trE)) = true → (decide (x ∉ d.map trE)) = true := fun z hz h => by
    rw [decide_eq_true_eq] at h ⊢
    exact fun q => h (keep z hz q)
  have m2 : (kru (S l)).countP (fun z => decide (z ∉ (n2L l d).map trE)) ≤ (kru (S l)).countP (fun z => decide (z ∉ d.map trE)) := List.countP_mono_left m1
  unfold meas
  rw [bad]
  rcases some_turn ha hl o hi with h | h
  · obtain ⟨x, hx⟩ := List.exists_mem_of_length_pos h
    obtain ⟨t, t1, t2, t3⟩ := met x hx
    have : (kru (S l)).countP (fun z => decide (z ∉ (n2L l d).map trE)) < (kru (S l)).countP (fun z => decide (z ∉ d.map trE)) := by
      refine cnt_lt m1 t2 (decide_eq_true t3) ?_
      rw [decide_eq_true_eq]
      exact fun q => q (n2_mem.2 (.inr ⟨x, hx, by rw [t1]; exact List.mem_singleton.2 rfl⟩))
    omega
  · obtain ⟨y, hy⟩ := List.exists_mem_of_length_pos h
    obtain ⟨y1, y2⟩ := ev_mem ha hl o (List.mem_map_of_mem (f := trE) hy)
    have e : ((n1L l d).map trE).countP (fun z => decide (z ∉ kru (S l))) < (d.map trE).countP (fun z => decide (z ∉ kru (S l))) := by
      have e1 : ((n1L l d).map trE) = (d.map trE).filter (fun z => decide (z ∉ (evL l d).map trE)) := by
        unfold n1L
        rw [List.map_map, List.filter_map]
        congr 1
        refine List.filter_congr fun z _ => ?_
        rw [Bool.eq_iff_iff, Bool.not_eq_true', ← Bool.not_eq_true, hs_iff]
        exact (decide_eq_true_iff ..).symm
      rw [e1, List.countP_filter]
      refine cnt_lt (fun z _ q => ?_) y1 (decide_eq_true y2) ?_
      · rw [Bool.and_eq_true] at q
        exact q.1
      · rw [Bool.and_eq_true, decide_eq_true_eq, decide_eq_true_eq]
        exact fun q => q.2 (List.mem_map_of_mem hy)
    omega
/-- A round. -/
theorem round_ok {l d : List E} (ha : allE l = 0) (hl : l.length ≤ 24) (o : Oth l d) : Oth l (n2L l d) ∧ (n2L l d).length ≤ 24 ∧ okB l d = true ∧ rfB (n2L l d) = true ∧ inR (n2L l d) = true ∧ (idB l d = true → sameE (rsB (n2L l d)) (rlB l) = true) ∧ (idB l d = false → meas l (n2L l d) < meas l d) := by
  have o2 := n2_oth ha hl o
  have hd : ∀ y ∈ n2L l d, okT (trE y) := fun z hz => may_ok (oth_may ha o2 z hz)
  have len := oth_len ha o2
  refine ⟨o2, by omega, ?_, (rf_iff hd).2 o2.f, oth_in ha o2 (by omega), fun h => ?_, turn_less ha hl o⟩
  · unfold okB
    cases c : idB l d with
    | true => rfl
    | false =>
      rcases some_turn ha hl o c with q | q
      · rw [decide_eq_true q]; rfl
      · rw [decide_eq_true q]; simp
  · have hk := id_iff.1 h
    have e2 : evL l d = [] := by
      refine List.eq_nil_iff_forall_not_mem.2 fun y hy => ?_
      unfold evL ev1 at hy
      obtain ⟨p, hp, hy⟩ := List.mem_flatMap.1 hy
      obtain ⟨e, he, _⟩ := List.mem_map.1 hy
      have := of_decide_eq_true (List.mem_filter.1 he).2
      have := hk p hp
      omega
    have e3' : grL l d = [] := by
      refine List.eq_nil_iff_forall_not_mem.2 fun y hy => ?_
      unfold grL gr1 at hy
      obtain ⟨p, hp, hy⟩ := List.mem_flatMap.1 hy
      have := hk p hp
      rw [if_neg (by omega)] at hy
      cases hy
    have mem : ∀ t, t ∈ (n2L l d).map trE ↔ t ∈ kru (S l) := fun t => by
      rw [← all_done ha hl o hk t, n2_mem, n1_mem, e2, e3']
      constructor
      · rintro (h | ⟨x, hx, _⟩)
        · exact h.1
        · cases hx
      · exact fun h => .inl ⟨h, fun q => by cases q⟩
    have hg : goodL (n2L l d) = true := (good_T _).2 (oth_fo ha o2).good
    refine decide_eq_true ?_
    rw [rs_srt, rl_kru (all_good ha)]
    exact inc_ext (inc_srt hg) (grd_inc [] (inc_srt (all_good ha))) fun t => by rw [mem_srt, mem]
end Go.Proofs.Ytfioaidmgcibaaa.CeT
