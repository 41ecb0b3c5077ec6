
/-
  links: what the code makes is what the document says. No condition.
-/
import Derived.Test.YtgemoemkgcmcgaaLkQ
import Derived.Test.YtgemoemkgcmcgaaFrS
import Derived.Test.YtgemoemkgcmcgaaRyM
namespace Go.Proofs.Ytgemoemkgcmcgaa.LkS
open Go Go.Proofs.Ytgemoemkgcmcgaa.Ry Go.Proofs.Ytgemoemkgcmcgaa.HaR Go.Proofs.Ytgemoemkgcmcgaa.SeR Go.Proofs.Ytgemoemkgcmcgaa.SeS Go.Proofs.Ytgemoemkgcmcgaa.SeT Go.Proofs.Ytgemoemkgcmcgaa.SeU Go.Proofs.Ytgemoemkgcmcgaa.SeL Go.Proofs.Ytgemoemkgcmcgaa.SeV Go.Proofs.Ytgemoemkgcmcgaa.LiR Go.Proofs.Ytgemoemkgcmcgaa.LiQ Go.Proofs.Ytgemoemkgcmcgaa.LiS Go.Proofs.Ytgemoemkgcmcgaa.LkR Go.Proofs.Ytgemoemkgcmcgaa.LkQ

open Go.Proofs.Ytgemoemkgcmcgaa.FrR (mayF chF isC smF decF DF rdF zF)
open Go.Proofs.Ytgemoemkgcmcgaa.FrQ (rdecF)
open Go.Proofs.Ytgemoemkgcmcgaa.OctR (byB)
def badK (x : KN) (y : NW) (e : Int) : Bool := decide (e = 1) && smK x zK && nwE y zN
def badKB (x : KN) (y : NW) : Bool := byS x.x.q && nwB y
structure AlK (a b : KD) : Prop where
  e : a.e = 0
  s : smK a.k b.k = true
  n : nwE a.y b.y = true
  b1 : byS a.k.x.q = true
  b2 : byS b.k.x.q = true
  n1 : nwB a.y = true
  n2 : nwB b.y = true
theorem smK_of {x y : KN} (h1 : x.h = y.h) (h2 : x.g = y.g) (h3 : x.u = y.u) (h4 : x.v = y.v) (h : smL x.x y.x = true) : smK x y = true := by
  unfold smK
  rw [h, decide_eq_true ⟨h1, h2⟩, decide_eq_true ⟨h3, h4⟩]
  rfl
theorem smK_refl (x : KN) : smK x x = true := smK_of rfl rfl rfl rfl (sm_refl _)
theorem smL_iff {x y : LN} (h : smL x y = true) : x.l = y.l ∧ x.c = y.c ∧ x.p = y.p ∧ x.o = y.o ∧ x.n = y.n ∧ x.w = y.w ∧ x.b = y.b ∧ x.s = y.s ∧ x.t = y.t ∧ pq x.q = pq y.q := by
  unfold smL at h
  rw [Bool.and_eq_true, Bool.and_eq_true] at h
  obtain ⟨a1, a2, a3, a4⟩ := of_decide_eq_true h.1.1
  obtain ⟨a5, a6⟩ := of_decide_eq_true h.1.2
  obtain ⟨a7, a8, a9, a10⟩ := of_decide_eq_true h.2
  exact ⟨a1, a2, a3, a4, a5, a6, a7, a8, a9, a10⟩
theorem smK_iff {x y : KN} (h : smK x y = true) : x.h = y.h ∧ x.g = y.g ∧ x.u = y.u ∧ x.v = y.v ∧ smL x.x y.x = true := by
  unfold smK at h
  rw [Bool.and_eq_true, Bool.and_eq_true] at h
  obtain ⟨a1, a2⟩ := of_decide_eq_true h.1.1
  obtain ⟨a3, a4⟩ := of_decide_eq_true h.1.2
  exact ⟨a1, a2, a3, a4, h.2⟩
theorem nw_iff {x y : NW} (h : nwE x y = true) : x.d = y.d ∧ x.s = y.s ∧ prF x.f = prF y.f ∧ pq x.g = pq y.g := of_decide_eq_true h
theorem ch_isK (k : KN) : (chK k == 0) = mayK k := by
  unfold chK
  cases mayK k <;> rfl
theorem cpK_same (k : KN) (hb : byS k.x.q = true) : smK (cpK k) k = true ∧ byS (cpK k).x.q = true := ⟨smK_of rfl rfl rfl rfl (sm_of rfl rfl rfl rfl rfl rfl (sm_same (pq_nq _))), by_nq hb⟩
/-! ## Frames that come -/
theorem hearK_bad {k : KN} {b : List Int} {n : Int} (h : ¬ (mayK k = true ∧ limitB n = true)) : hearK k b n = ⟨zK, zN, 1⟩ := by
  unfold hearK
  rw [if_neg h]
theorem rd_may {c : List Int} (h : (rdF c).e = 0) : mayF (rdF c).k (rdF c).s (rdF c).q (rdF c).a (rdF c).p = true := by
  unfold rdF at h ⊢
  dsimp only at h ⊢
  split
  · rename_i g
    exact g.2.2
  · rename_i g
    rw [if_neg g] at h
    exact absurd h (show ¬ (5 : Int) = 0 by decide)
theorem dec_may {l : List Int} (h : (decF l).e = 0) : mayF (decF l).k (decF l).s (decF l).q (decF l).a (decF l).p = true := by
  unfold decF at h ⊢
  split
  · rename_i g
    rw [if_pos g] at h
    exact absurd h (show ¬ (3 : Int) = 0 by decide)
  · rename_i g
    rw [if_neg g] at h
    split
    · rename_i g2
      rw [if_pos g2] at h
      exact absurd h (show ¬ (5 : Int) = 0 by decide)
    · rename_i g2
      rw [if_neg g2] at h
      split
      · rename_i g3
        rw [if_pos g3] at h
        exact rd_may h
      · rename_i g3
        rw [if_neg g3] at h
        exact absurd h g3
theorem hear_s {x : LN} {k s q a : Int} {p : List Int} {n : Int} (hs : 0 ≤ s) : 0 ≤ (hearL x k s q a p n).y.s := by
  unfold hearL
  split
  · split
    · exact Int.le_refl 0
    · split
      · unfold wlcL
        dsimp only
        split
        · exact hs
        · exact Int.le_refl 0
      · split
        · exact Int.le_refl 0
        · split <;> exact Int.le_refl 0
  · exact Int.le_refl 0
theorem op_iff (x : LN) : opL x = true ↔ x.c ≠ 0 := by
  unfold opL
  simp
theorem hea_same {k : KN} {f : DF} {r r' : LD} (ha : Al r r') (hs : 0 ≤ f.s) (hy : 0 ≤ r.y.s) : AlK (heaK k f r) (rheaK k f r') := by
  obtain ⟨n1, n2, _, _⟩ := nw_iff ha.n
  have hc := (smL_iff ha.s).2.1
  unfold heaK rheaK
  by_cases g : r.y.s ≠ 0 ∨ r.y.d = true
  · have g' : r'.y.d = true ∨ 0 < r'.y.s := by
      rw [← n1, ← n2]
      rcases g with g | g
      · exact .inr (by omega)
      · exact .inl g
    rw [if_pos g, if_pos g']
    exact ⟨rfl, smK_of rfl rfl rfl rfl ha.s, ha.n, ha.b1, ha.b2, ha.n1, ha.n2⟩
  · have g' : ¬ (r'.y.d = true ∨ 0 < r'.y.s) := by
      rw [← n1, ← n2]
      rintro (w | w)
      · exact g (.inr w)
      · exact g (.inl (by omega))
    rw [if_neg g, if_neg g']
    by_cases u : opL r.x = true ∧ f.s = r.x.c
    · have u' : 0 < r'.x.c ∧ r'.x.c = f.s := by
        rw [← hc]
        have := (op_iff r.x).1 u.1
        omega
      rw [if_pos u, if_pos u']
      exact ⟨rfl, smK_of rfl rfl rfl rfl ha.s, ha.n, ha.b1, ha.b2, ha.n1, ha.n2⟩
    · have u' : ¬ (0 < r'.x.c ∧ r'.x.c = f.s) := by
        rw [← hc]
        intro w
        exact u ⟨(op_iff r.x).2 (by omega), w.2.symm⟩
      rw [if_neg u, if_neg u']
      exact ⟨rfl, smK_of rfl rfl rfl rfl ha.s, ha.n, ha.b1, ha.b2, ha.n1, ha.n2⟩
theorem hearK_same {k : KN} {b : List Int} {n : Int} (hb : byS k.x.q = true) (hp : ∀ y ∈ b, 0 ≤ y ∧ y ≤ 255) (hm : mayK k = true) (hl : limitB n = true) :
    AlK (hearK k b n) (rhearK k b n) ∧ (¬ (rdecF b).e = 0 → smK (hearK k b n).k k = true ∧ (hearK k b n).y = zN) := by
  have hd := FrS.dec_is hp
  have hk := may_K hm
  unfold hearK rhearK
  rw [if_pos ⟨hm, hl⟩, hd]
  by_cases g : (decF b).e = 0
  · rw [if_pos g, if_pos g]
    refine ⟨?_, fun w => absurd g w⟩
    have hf := dec_may g
    have hs : 0 ≤ (decF b).s := by
      have h := hf
      simp only [mayF, isC, Bool.and_eq_true, decide_eq_true_eq] at h
      exact h.1.1.1.1.2.1
    have hby : ∀ y ∈ (decF b).p, 0 ≤ y ∧ y ≤ 255 := of_decide_eq_true (FrS.dec_by hp)
    exact hea_same (hear_same hb hby hk.2.2.2.2.1 hf hl) hs (hear_s hs)
  · rw [if_neg g, if_neg g]
    have := cpK_same k hb
    exact ⟨⟨rfl, this.1, nw_self _, this.2, hb, rfl, rfl⟩, fun _ => ⟨this.1, rfl⟩⟩
theorem aw1 : (tikK ⟨2, 0, ⟨3, 3, 0, false, 0, 0, [], 0, 0, false⟩, 5, 0⟩ 9).e = 0 ∧ (tikK ⟨2, 0, ⟨3, 3, 0, false, 0, 0, [], 0, 0, false⟩, 5, 0⟩ 9).y = ⟨[], [], true, 0⟩ ∧ (tikK ⟨2, 0, ⟨3, 3, 0, false, 0, 0, [], 0, 0, false⟩, 5, 0⟩ 9).k = ⟨2, 0, ⟨3, 0, 4, false, 0, 0, [], 0, 0, false⟩, 0, 0⟩ := ⟨by rfl, by rfl, by rfl⟩

structure Vs2 where
  v_bad : KN → NW → Int → Bool
  v_badB : KN → NW → Bool
def Vs2.std : Vs2 := ⟨badK, badKB⟩

def c_kbad (F : Vs2) : Con := fun xs h => match xs, h with
  | [.agg [.val (.int .i64 v_h), .val (.int .i64 v_g), .val (.int .i64 v_xl), .val (.int .i64 v_xc), .val (.int .i64 v_xp), .val (.bool v_xo), .val (.int .i64 v_xb), .val (.int .i64 v_xs), .sl none (.recs (.ints .u8 .nil) v_xq), .val (.int .i64 v_xt), .val (.int .i64 v_xn), .val (.bool v_xw), .val (.int .i64 v_u), .val (.int .i64 v_v)], .agg [.sl none (.recs (.int .i64 (.int .i64 (.int .i64 (.int .i64 (.ints .u8 .nil))))) a_f), .sl none (.recs (.ints .u8 .nil) a_g), .val (.bool a_d), .val (.int .i64 a_s)], .one (.val (.int .i64 e))], [] => some ⟨F.v_badB ⟨v_h, v_g, ⟨v_xl, v_xc, v_xp, v_xo, v_xb, v_xs, v_xq, v_xt, v_xn, v_xw⟩, v_u, v_v⟩ ⟨a_f, a_g, a_d, a_s⟩ = true, .sa (B (F.v_bad ⟨v_h, v_g, ⟨v_xl, v_xc, v_xp, v_xo, v_xb, v_xs, v_xq, v_xt, v_xn, v_xw⟩, v_u, v_v⟩ ⟨a_f, a_g, a_d, a_s⟩ e)), [], [Any, Any, Any]⟩
  | _, _ => none
def c_kawake (_ : Vs2) : Con := fun xs h => match xs, h with
  | [], [] => some ⟨True, .sa (B true), [], []⟩
  | _, _ => none
set_option maxHeartbeats 1000000 in
set_option maxRecDepth 100000 in
theorem x_kawake  : Does [(18, dnil [[none, none, none, none, none, none, none, none, some (.recs (.ints .u8 .nil) []), none, none, none, none, none], [none]] (c_ktick Ts.std))] Try.f21 [] [] ⟨True, .sa (B true), [], []⟩ := by
  intro b gv
  have hfs := (FsOk.cons (dnil_ok [[none, none, none, none, none, none, none, none, some (.recs (.ints .u8 .nil) []), none, none, none, none, none], [none]] ok_ktick) FsOk.nil rfl)
  generalize hF : Vs2.std = F at hfs ⊢
  generalize hG0 : Ts.std = G0 at hfs ⊢
  generalize hA : Ar.std = A
  generalize hL : Lp _ _ _ = L
  obtain ⟨Z, zq⟩ := z_all
  refine cd_open (lp_mono hL) zq rfl ?_
  repeat' (first
    | (refine z_open zq ?_; try dsimp only)
    | refine cd_seq zq ?_ (lp_mono hL)
    | refine cd_blk zq ?_
    | refine cd_ret ?_
    | refine cd_skip ?_
    | refine cd_exit ?_
    | refine cd_loop ?_
    | refine cd_cond rfl ?_
    | refine cd_condT rfl ?_
    | refine cd_condF rfl ?_
    | (refine Cd.mk ?_; cbv)
    | (refine Ends1.mk ?_; cbv)
    | (refine Fin1.mk ?_; cbv)
    | exact trivial
    | refine And.intro ?_ ?_
    | refine orf fun _ => ?_
    | refine ort fun _ => ?_)
  all_goals
    clear hL zq Z hfs
    subst hF hA hG0
    have h1 := aw1
    simp only [Ts.std, Ar.std] at *
    try (grind [stdCmp, kbB, lbB, by_nil])
theorem ok_kawake : ConOk Try.prog 21 (c_kawake Vs2.std) := by
  refine con_of (FsOk.cons (dnil_ok [[none, none, none, none, none, none, none, none, some (.recs (.ints .u8 .nil) []), none, none, none, none, none], [none]] ok_ktick) FsOk.nil rfl) Try.func21 rfl rfl fun xs h p hp => ?_
  unfold c_kawake at hp
  split at hp
  · cases hp
    exact ⟨lee_le rfl, fun _ _ => x_kawake ⟩
  · cases hp
end Go.Proofs.Ytgemoemkgcmcgaa.LkS
