/-
  frames: the law's own. No condition.
-/
import Derived.Test.YtdfknpjlapaadaaFrS
namespace Go.Proofs.Ytdfknpjlapaadaa.FrA
open Go Go.Proofs.Ytdfknpjlapaadaa.Ry Go.Proofs.Ytdfknpjlapaadaa.OctR Go.Proofs.Ytdfknpjlapaadaa.OctP Go.Proofs.Ytdfknpjlapaadaa.OctQ Go.Proofs.Ytdfknpjlapaadaa.FrR Go.Proofs.Ytdfknpjlapaadaa.FrQ Go.Proofs.Ytdfknpjlapaadaa.FrS

theorem aw_may : mayF 5 5 0 0 [] = true := rfl
theorem aw_ch : chF 5 5 0 0 [] = 0 := rfl
theorem aw_len : (encF 5 5 0 0 []).length = 19 := (enc_len aw_may).2.1
theorem aw_dec : decF (encF 5 5 0 0 []) = ⟨5, 5, 0, 0, [], 0⟩ := dec_enc aw_may (fun _ h => by cases h)
theorem ch_may {k s q a : Int} {p : List Int} : (mayF k s q a p = true → chF k s q a p = 0) ∧ (mayF k s q a p = false → chF k s q a p = 1 ∧ encF k s q a p = []) := by
  unfold chF encF
  cases mayF k s q a p <;> simp
theorem byt_of {l : List Int} (h : ∀ x ∈ l, 0 ≤ x ∧ x ≤ 255) : l.map (fun n => ((UInt8.ofNat n.toNat).toNat : Int)) = l := OctQ.byt_id h

structure As where
  f : Rs
  q : Qs
def As.std : As := ⟨Rs.std, Qs.std⟩

def c_awake (_ : As) : Con := fun xs h => match xs, h with
  | [], [] => some ⟨True, .sa (B true), [], []⟩
  | _, _ => none
set_option maxRecDepth 100000 in
theorem x_awake  : Does [(15, denil [some (.ints .u8 [])] (c_encode Rs.std)), (18, c_decode Rs.std)] Try.f14 [] [] ⟨True, .sa (B true), [], []⟩ := by
  intro b gv
  generalize hF : As.std = F
  generalize hG0 : Rs.std = G0
  generalize hA : Ar.std = A
  generalize hL : Lp _ _ _ = L
  obtain ⟨Z, zq⟩ := z_all
  refine cd_open (lp_mono hL) zq rfl ?_
  repeat' (first
    | (refine z_open zq ?_; try dsimp only)
    | refine cd_seq zq ?_ (lp_mono hL)
    | refine cd_blk zq ?_
    | refine cd_ret ?_
    | refine cd_skip ?_
    | refine cd_exit ?_
    | refine cd_loop ?_
    | refine cd_cond rfl ?_
    | refine cd_condT rfl ?_
    | refine cd_condF rfl ?_
    | (refine Cd.mk ?_; cbv)
    | (refine Ends1.mk ?_; cbv)
    | (refine Fin1.mk ?_; cbv)
    | exact trivial
    | refine And.intro ?_ ?_
    | refine orf fun _ => ?_
    | refine ort fun _ => ?_)
  all_goals
    clear hL zq Z
    subst hF hA hG0
    simp only [Rs.std, Ar.std, aw_ch, aw_len, aw_dec] at *
    try (grind [stdCmp])
theorem ok_awake : ConOk Try.prog 14 (c_awake As.std) := by
  refine con_of (FsOk.cons (denil_ok [some (.ints .u8 [])] ok_encode) (FsOk.cons ok_decode FsOk.nil rfl) rfl) Try.func14 rfl rfl fun xs h p hp => ?_
  unfold c_awake at hp
  split at hp
  · cases hp
    exact ⟨lee_le rfl, fun _ _ => x_awake ⟩
  · cases hp
end Go.Proofs.Ytdfknpjlapaadaa.FrA
