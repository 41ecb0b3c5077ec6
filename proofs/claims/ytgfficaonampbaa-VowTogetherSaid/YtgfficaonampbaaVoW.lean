/-
  two ends in any weather, from the beginning. No condition.
-/
import Derived.Test.YtgfficaonampbaaVoD
import Derived.Test.YtgfficaonampbaaRyOp
namespace Go.Proofs.Ytgfficaonampbaa.VoW
open Go Go.Proofs.Ytgfficaonampbaa.Ry Go.Proofs.Ytgfficaonampbaa.VoR Go.Proofs.Ytgfficaonampbaa.VoD

def stD (y : E) (d : DS) : DS := if ri y 1 = 1 ∨ ri y 1 = 2 then doD (ri y 0) (ri y 1 - 1) d else d
def d00 : DS := ⟨0, false, false, 0, 0, false, false, 0, [], []⟩
def runD (l : List E) : DS := l.foldl (fun d y => stD y d) d00
def dnD (l : List E) : DS := if 1000 < l.length then d00 else runD l
def dnN (l : List E) : Int := (dnD l).w0.length + (dnD l).w1.length
def dnE (l : List E) : Int := if 1000 < l.length then 3 else 0
structure XD where
  i : Int
  d : DS
def daQ (l : List E) (y : XD) : Prop := 0 ≤ y.i ∧ y.i ≤ l.length ∧ y.d = runD (l.take y.i.toNat) ∧ y.d.w0.length ≤ y.i ∧ y.d.w1.length ≤ y.i
noncomputable def daI (A : Ar) (l : List E) (y : XD) : St := stOf Try.f39.ntmps [(2, .ptr 1 0), (3, .ptr 2 0), (6, .ptr 3 0), (14, .sl none (.recs (.int .i64 (.int .i64 (.int .i64 (.int .i64 (.int .i64 .nil))))) l)), (15, .val (.int .i64 (A.lenE l))), (16, .val (.int .i64 y.i))] ([(1, .cells 44 [.val (.int .i64 0), .val (.bool false), .val (.bool false), .val (.int .i64 0)]), (2, .cells 44 [.val (.int .i64 0), .val (.bool false), .val (.bool false), .val (.int .i64 0)])] ++ [(3, .cells 96 [.val (.int .i64 y.d.m0), .val (.bool y.d.t0), .val (.bool y.d.b0), .val (.int .i64 y.d.o0), .val (.int .i64 y.d.m1), .val (.bool y.d.t1), .val (.bool y.d.b1), .val (.int .i64 y.d.o1), .sl (some (4, 3)) (.ints .i64 y.d.w0), .sl (some (5, 3)) (.ints .i64 y.d.w1)]), (4, .tok), (5, .tok)]) [Any]
def daM (l : List E) (y : XD) : Nat := l.length - y.i.toNat
def daR (st : St) : XD := ⟨slotI st 16, ⟨valI (cellC st 6 0), valB (cellC st 6 1), valB (cellC st 6 2), valI (cellC st 6 3), valI (cellC st 6 4), valB (cellC st 6 5), valB (cellC st 6 6), valI (cellC st 6 7), valL st.heap (cellC st 6 8), valL st.heap (cellC st 6 9)⟩⟩
theorem run_next (l : List E) (i : Int) (h0 : 0 ≤ i) (h : i < l.length) : runD (l.take (i + 1).toNat) = stD (l.getD i.toNat []) (runD (l.take i.toNat)) := by
  have e : (i + 1).toNat = i.toNat + 1 := by omega
  have hi : i.toNat < l.length := by omega
  unfold runD
  rw [e, List.take_add_one, List.foldl_append, List.getD_eq_getElem?_getD, List.getElem?_eq_getElem hi]
  rfl
theorem do_w (k e : Int) (d : DS) (he : e = 0 ∨ e = 1) : (doD k e d).w0.length ≤ d.w0.length + 1 ∧ (doD k e d).w1.length ≤ d.w1.length + 1 := by
  obtain ⟨m0, t0, b0, o0, m1, t1, b1, o1, w0, w1⟩ := d
  have hh1 := heV_w m1 t1 b1 o1 (w0.getD 0 0)
  have hh0 := heV_w m0 t0 b0 o0 (w1.getD 0 0)
  have g1 := sV_w m1 t1 b1 o1
  have g0 := sV_w m0 t0 b0 o0
  rcases he with rfl | rfl <;> grind [doD, on, hearD, setA, putW]
theorem da_step (l : List E) (i : Int) (d : DS) (hl : l.length ≤ 1000) (hq : daQ l ⟨i, d⟩) (h : i < l.length) : d.w0.length ≤ 100000 ∧ d.w1.length ≤ 100000 ∧
    (¬ (ri (l.getD i.toNat []) 1 = 1 ∨ ri (l.getD i.toNat []) 1 = 2) → daQ l ⟨i + 1, d⟩) ∧ (ri (l.getD i.toNat []) 1 = 1 ∨ ri (l.getD i.toNat []) 1 = 2 → stdBin .sub .i64 (ri (l.getD i.toNat []) 1) 1 = ri (l.getD i.toNat []) 1 - 1 ∧
      daQ l ⟨i + 1, ⟨(doD (ri (l.getD i.toNat []) 0) (ri (l.getD i.toNat []) 1 - 1) d).m0, (doD (ri (l.getD i.toNat []) 0) (ri (l.getD i.toNat []) 1 - 1) d).t0, (doD (ri (l.getD i.toNat []) 0) (ri (l.getD i.toNat []) 1 - 1) d).b0, (doD (ri (l.getD i.toNat []) 0) (ri (l.getD i.toNat []) 1 - 1) d).o0, (doD (ri (l.getD i.toNat []) 0) (ri (l.getD i.toNat []) 1 - 1) d).m1, (doD (ri (l.getD i.toNat []) 0) (ri (l.getD i.toNat []) 1 - 1) d).t1, (doD (ri (l.getD i.toNat []) 0) (ri (l.getD i.toNat []) 1 - 1) d).b1, (doD (ri (l.getD i.toNat []) 0) (ri (l.getD i.toNat []) 1 - 1) d).o1, (doD (ri (l.getD i.toNat []) 0) (ri (l.getD i.toNat []) 1 - 1) d).w0, (doD (ri (l.getD i.toNat []) 0) (ri (l.getD i.toNat []) 1 - 1) d).w1⟩⟩) := by
  obtain ⟨h0, h1, h2, h3, h4⟩ := hq
  simp only at h0 h1 h2 h3 h4
  have hn := run_next l i h0 h
  rw [← h2] at hn
  refine ⟨by omega, by omega, fun hA => ⟨by simp only; omega, by simp only; omega, ?_, by simp only; omega, by simp only; omega⟩, fun hA => ⟨by rw [b_sub, wr _ (by omega) (by omega)], by simp only; omega, by simp only; omega, ?_, ?_, ?_⟩⟩
  · simp only
    rw [hn]
    unfold stD
    rw [if_neg hA]
  · simp only
    rw [hn]
    unfold stD
    rw [if_pos hA]
  · have := (do_w (ri (l.getD i.toNat []) 0) (ri (l.getD i.toNat []) 1 - 1) d (by omega)).1
    simp only
    omega
  · have := (do_w (ri (l.getD i.toNat []) 0) (ri (l.getD i.toNat []) 1 - 1) d (by omega)).2
    simp only
    omega
theorem da_end (l : List E) (i : Int) (d : DS) (hl : l.length ≤ 1000) (hq : daQ l ⟨i, d⟩) (h : i = l.length) : dnD l = d ∧ dnE l = 0 ∧ dnN l = d.w0.length + d.w1.length ∧ d.w0.length ≤ 1000 ∧ d.w1.length ≤ 1000 := by
  obtain ⟨h0, h1, h2, h3, h4⟩ := hq
  simp only at h0 h1 h2 h3 h4
  have e : l.take i.toNat = l := by
    rw [h, Int.toNat_natCast, List.take_length]
  rw [e] at h2
  have hd : dnD l = d := by
    unfold dnD
    rw [if_neg (by omega), h2]
  refine ⟨hd, ?_, ?_, by omega, by omega⟩
  · unfold dnE
    rw [if_neg (by omega)]
  · unfold dnN
    rw [hd]

structure Ws where
  w_run : List E → DS
  w_n : List E → Int
  w_e : List E → Int
  f : Fs
  d : Ds
def Ws.std : Ws := ⟨dnD, dnN, dnE, Fs.std, Ds.std⟩

def c_dance (F : Ws) : Con := fun xs h => match xs, h with
  | [.one (.sl none (.recs (.int .i64 (.int .i64 (.int .i64 (.int .i64 (.int .i64 .nil))))) l))], [] => some ⟨True, .tup [.agg [.val (.int .i64 (F.w_run l).m0), .val (.bool (F.w_run l).t0), .val (.bool (F.w_run l).b0), .val (.int .i64 (F.w_run l).o0)], .agg [.val (.int .i64 (F.w_run l).m1), .val (.bool (F.w_run l).t1), .val (.bool (F.w_run l).b1), .val (.int .i64 (F.w_run l).o1)], I (F.w_n l), I (F.w_e l)], [], [Any]⟩
  | _, _ => none
set_option maxHeartbeats 4000000 in
set_option maxRecDepth 100000 in
theorem x_dance (l : List E) : Does [(60, c_ddo Ds.std)] Try.f39 [.one (.sl none (.recs (.int .i64 (.int .i64 (.int .i64 (.int .i64 (.int .i64 .nil))))) l))] [] ⟨True, .tup [.agg [.val (.int .i64 (Ws.std.w_run l).m0), .val (.bool (Ws.std.w_run l).t0), .val (.bool (Ws.std.w_run l).b0), .val (.int .i64 (Ws.std.w_run l).o0)], .agg [.val (.int .i64 (Ws.std.w_run l).m1), .val (.bool (Ws.std.w_run l).t1), .val (.bool (Ws.std.w_run l).b1), .val (.int .i64 (Ws.std.w_run l).o1)], I (Ws.std.w_n l), I (Ws.std.w_e l)], [], [Any]⟩ := by
  intro b gv
  have hfs := (FsOk.cons ok_ddo FsOk.nil rfl)
  generalize hF : Ws.std = F at hfs ⊢
  generalize hG0 : Ds.std = G0 at hfs ⊢
  generalize hA : Ar.std = A
  generalize hL : Lp _ _ _ = L
  obtain ⟨Z, zq⟩ := z_all
  refine cd_open (lp_mono hL) zq rfl ?_
  repeat' (first
    | (refine z_open zq ?_; try dsimp only)
    | refine cd_seq zq ?_ (lp_mono hL)
    | refine cd_blk zq ?_
    | refine cd_ret ?_
    | refine cd_skip ?_
    | refine cd_exit ?_
    | refine cd_loop ?_
    | refine cd_cond rfl ?_
    | refine cd_condT rfl ?_
    | refine cd_condF rfl ?_
    | (refine Cd.mk ?_; cbv)
    | (refine Ends1.mk ?_; cbv)
    | (refine Fin1.mk ?_; cbv)
    | exact trivial
    | refine And.intro ?_ ?_
    | refine orf fun _ => ?_
    | refine ort fun _ => ?_)
  all_goals first | (show L _ _ _; skip) | (clear hfs hL zq Z; subst hA hF hG0; simp only [Ws.std, Ds.std, Ar.std] at * <;> grind [stdCmp, dnD, dnN, dnE, d00]; done)
  rename_i hx
  have hl : l.length ≤ 1000 := by
    clear hfs hL zq Z hF hG0
    subst hA
    simp only [Ar.std] at hx
    grind [stdCmp]
  clear hx
  subst hL
  refine loop_z (cx_ok hfs) (daQ l) (daI A l) (daM l) daR ⟨0, d00⟩ ?_ ?_ ?_
  · exact ⟨Int.le_refl 0, Int.natCast_nonneg _, rfl, Int.le_refl 0, Int.le_refl 0⟩
  · cbv
    repeat' (first | exact trivial | exact rfl | refine And.intro ?_ ?_)
  rintro ⟨i, ⟨m0, t0, b0, o0, m1, t1, b1, o1, w0, w1⟩⟩ hq O hO
  have hst := da_step l i _ hl hq
  have hen := da_end l i _ hl hq
  have q0 := hq.1
  have q1 := hq.2.1
  dsimp only at q0 q1 hst hen
  subst hA
  generalize hA : Ar.std = A
  generalize hL : Lp _ _ _ = L
  refine cd_close zq ?_
  repeat' (first
    | (refine z_open zq ?_; try dsimp only)
    | refine cd_seq zq ?_ (lp_mono hL)
    | refine cd_blk zq ?_
    | refine cd_ret ?_
    | refine cd_skip ?_
    | refine cd_exit ?_
    | refine cd_loop ?_
    | refine cd_cond rfl ?_
    | refine cd_condT rfl ?_
    | refine cd_condF rfl ?_
    | (refine Cd.mk ?_; cbv)
    | (refine Ends1.mk ?_; cbv)
    | (refine Fin1.mk ?_; cbv)
    | exact trivial
    | refine And.intro ?_ ?_
    | refine orf fun _ => ?_
    | refine ort fun _ => ?_)
  all_goals (clear hL hfs zq Z hq; subst hA hF hG0 hO; simp only [Ws.std, Ds.std, Ar.std] at * <;> grind [stdCmp, b_add, wr, daM])
theorem ok_dance : ConOk Try.prog 39 (c_dance Ws.std) := by
  refine con_of (FsOk.cons ok_ddo FsOk.nil rfl) Try.func39 rfl rfl fun xs h p hp => ?_
  unfold c_dance at hp
  split at hp
  · cases hp
    exact ⟨lee_le rfl, fun _ _ => x_dance _⟩
  · cases hp

theorem aw1 : dnD [[.int 8, .int 1, .int 0, .int 0, .int 0], [.int 8, .int 2, .int 0, .int 0, .int 0], [.int 2, .int 1, .int 0, .int 0, .int 0], [.int 2, .int 2, .int 0, .int 0, .int 0]] = ⟨0, false, true, 0, 0, false, true, 0, [], []⟩ := by rfl
theorem aw2 : dnE [[.int 8, .int 1, .int 0, .int 0, .int 0], [.int 8, .int 2, .int 0, .int 0, .int 0], [.int 2, .int 1, .int 0, .int 0, .int 0], [.int 2, .int 2, .int 0, .int 0, .int 0]] = 0 := by rfl
theorem aw3 : dnN [[.int 8, .int 1, .int 0, .int 0, .int 0], [.int 8, .int 2, .int 0, .int 0, .int 0], [.int 2, .int 1, .int 0, .int 0, .int 0], [.int 2, .int 2, .int 0, .int 0, .int 0]] = 0 := by rfl

def c_awake (_ : Ws) : Con := fun xs h => match xs, h with
  | [], [] => some ⟨True, .sa (B true), [], []⟩
  | _, _ => none
set_option maxRecDepth 100000 in
theorem x_awake  : Does [(39, c_dance Ws.std)] Try.f34 [] [] ⟨True, .sa (B true), [], []⟩ := by
  intro b gv
  generalize hF : Ws.std = F
  generalize hA : Ar.std = A
  generalize hL : Lp _ _ _ = L
  obtain ⟨Z, zq⟩ := z_all
  refine cd_open (lp_mono hL) zq rfl ?_
  repeat' (first
    | (refine z_open zq ?_; try dsimp only)
    | refine cd_seq zq ?_ (lp_mono hL)
    | refine cd_blk zq ?_
    | refine cd_ret ?_
    | refine cd_skip ?_
    | refine cd_exit ?_
    | refine cd_loop ?_
    | refine cd_cond rfl ?_
    | refine cd_condT rfl ?_
    | refine cd_condF rfl ?_
    | (refine Cd.mk ?_; cbv)
    | (refine Ends1.mk ?_; cbv)
    | (refine Fin1.mk ?_; cbv)
    | exact trivial
    | refine And.intro ?_ ?_
    | refine orf fun _ => ?_
    | refine ort fun _ => ?_)
  all_goals
    clear hL zq Z
    subst hF hA
    simp only [Ws.std, Ar.std, aw1, aw2, aw3] at *
    try (grind [stdCmp])
theorem ok_awake : ConOk Try.prog 34 (c_awake Ws.std) := by
  refine con_of (FsOk.cons ok_dance FsOk.nil rfl) Try.func34 rfl rfl fun xs h p hp => ?_
  unfold c_awake at hp
  split at hp
  · cases hp
    exact ⟨lee_le rfl, fun _ _ => x_awake ⟩
  · cases hp
end Go.Proofs.Ytgfficaonampbaa.VoW
