/-
  the rounds of LinkOpens, and what is behind them. No condition.
-/
import Derived.Test.YtgemoemkgcmcgaaLoV
namespace Go.Proofs.Ytgemoemkgcmcgaa.LoW
open Go Go.Proofs.Ytgemoemkgcmcgaa.Ry Go.Proofs.Ytgemoemkgcmcgaa.SeR Go.Proofs.Ytgemoemkgcmcgaa.HaR Go.Proofs.Ytgemoemkgcmcgaa.LiR Go.Proofs.Ytgemoemkgcmcgaa.LkR Go.Proofs.Ytgemoemkgcmcgaa.LoT Go.Proofs.Ytgemoemkgcmcgaa.LoV

open Go.Proofs.Ytgemoemkgcmcgaa.LkS (c_kawake ok_kawake)
open Go.Proofs.Ytgemoemkgcmcgaa.FrQ (c_rbytes ok_rbytes)
structure Lw where
  o : Nat → PR
  hl : KN → List E → HR
def Lw.std : Lw := ⟨fun n => orb n p0, hrL⟩
structure XB where
  i : Int
  p : PR
def bQ (w : Int) (y : XB) : Prop := 0 ≤ y.i ∧ y.i ≤ 3 + w % 40 ∧ y.p = orb y.i.toNat p0
noncomputable def bI (a0 a1 : Int) (y : XB) : St := stOf Try.f4.ntmps [(0, .val (.int .u8 a0)), (1, .val (.int .u8 a1)), (11, .ptr 1 0), (13, .val (.int .i64 y.i))] [(1, .cells 54 [.val (.int .i64 y.p.a.h), .val (.int .i64 y.p.a.g), .val (.int .i64 y.p.a.x.l), .val (.int .i64 y.p.a.x.c), .val (.int .i64 y.p.a.x.p), .val (.bool y.p.a.x.o), .val (.int .i64 y.p.a.x.b), .val (.int .i64 y.p.a.x.s), .sl none (.recs (.ints .u8 .nil) y.p.a.x.q), .val (.int .i64 y.p.a.x.t), .val (.int .i64 y.p.a.x.n), .val (.bool y.p.a.x.w), .val (.int .i64 y.p.a.u), .val (.int .i64 y.p.a.v), .val (.int .i64 y.p.b.h), .val (.int .i64 y.p.b.g), .val (.int .i64 y.p.b.x.l), .val (.int .i64 y.p.b.x.c), .val (.int .i64 y.p.b.x.p), .val (.bool y.p.b.x.o), .val (.int .i64 y.p.b.x.b), .val (.int .i64 y.p.b.x.s), .sl none (.recs (.ints .u8 .nil) y.p.b.x.q), .val (.int .i64 y.p.b.x.t), .val (.int .i64 y.p.b.x.n), .val (.bool y.p.b.x.w), .val (.int .i64 y.p.b.u), .val (.int .i64 y.p.b.v)])] [Any, Any, Any]
def bM (y : XB) : Nat := 100 - y.i.toNat
def bR (st : St) : XB := ⟨slotI st 13, ⟨⟨valI (cellC st 11 0), valI (cellC st 11 1), ⟨valI (cellC st 11 2), valI (cellC st 11 3), valI (cellC st 11 4), valB (cellC st 11 5), valI (cellC st 11 6), valI (cellC st 11 7), valR st.heap (cellC st 11 8), valI (cellC st 11 9), valI (cellC st 11 10), valB (cellC st 11 11)⟩, valI (cellC st 11 12), valI (cellC st 11 13)⟩, ⟨valI (cellC st 11 14), valI (cellC st 11 15), ⟨valI (cellC st 11 16), valI (cellC st 11 17), valI (cellC st 11 18), valB (cellC st 11 19), valI (cellC st 11 20), valI (cellC st 11 21), valR st.heap (cellC st 11 22), valI (cellC st 11 23), valI (cellC st 11 24), valB (cellC st 11 25)⟩, valI (cellC st 11 26), valI (cellC st 11 27)⟩, [], []⟩⟩
noncomputable def cI (G : Ts) (a0 a1 i : Int) (p : PR) (y : XH) : St := match y.k with
  | 0 => stOf Try.f4.ntmps [(0, .val (.int .u8 a0)), (1, .val (.int .u8 a1)), (11, .ptr 1 0), (13, .val (.int .i64 i)), (14, .ptr 2 0), (15, .num .i64 0)] [(1, .cells 54 [.val (.int .i64 p.a.h), .val (.int .i64 p.a.g), .val (.int .i64 p.a.x.l), .val (.int .i64 p.a.x.c), .val (.int .i64 p.a.x.p), .val (.bool p.a.x.o), .val (.int .i64 p.a.x.b), .val (.int .i64 p.a.x.s), .sl none (.recs (.ints .u8 .nil) p.a.x.q), .val (.int .i64 p.a.x.t), .val (.int .i64 p.a.x.n), .val (.bool p.a.x.w), .val (.int .i64 p.a.u), .val (.int .i64 p.a.v), .val (.int .i64 p.b.h), .val (.int .i64 p.b.g), .val (.int .i64 p.b.x.l), .val (.int .i64 p.b.x.c), .val (.int .i64 p.b.x.p), .val (.bool p.b.x.o), .val (.int .i64 p.b.x.b), .val (.int .i64 p.b.x.s), .sl none (.recs (.ints .u8 .nil) p.b.x.q), .val (.int .i64 p.b.x.t), .val (.int .i64 p.b.x.n), .val (.bool p.b.x.w), .val (.int .i64 p.b.u), .val (.int .i64 p.b.v)]), (2, .cells 41 [.val (.slice none 0 0), .val (.slice none 0 0)])] [Any, Any, Any]
  | 1 => stOf Try.f4.ntmps [(0, .val (.int .u8 a0)), (1, .val (.int .u8 a1)), (11, .ptr 1 0), (13, .val (.int .i64 i)), (14, .ptr 2 0), (15, .num .i64 1)] [(1, .cells 54 [.val (.int .i64 (G.t_tik p.a 99).k.h), .val (.int .i64 (G.t_tik p.a 99).k.g), .val (.int .i64 (G.t_tik p.a 99).k.x.l), .val (.int .i64 (G.t_tik p.a 99).k.x.c), .val (.int .i64 (G.t_tik p.a 99).k.x.p), .val (.bool (G.t_tik p.a 99).k.x.o), .val (.int .i64 (G.t_tik p.a 99).k.x.b), .val (.int .i64 (G.t_tik p.a 99).k.x.s), .sl none (.recs (.ints .u8 .nil) (G.t_tik p.a 99).k.x.q), .val (.int .i64 (G.t_tik p.a 99).k.x.t), .val (.int .i64 (G.t_tik p.a 99).k.x.n), .val (.bool (G.t_tik p.a 99).k.x.w), .val (.int .i64 (G.t_tik p.a 99).k.u), .val (.int .i64 (G.t_tik p.a 99).k.v), .val (.int .i64 p.b.h), .val (.int .i64 p.b.g), .val (.int .i64 p.b.x.l), .val (.int .i64 p.b.x.c), .val (.int .i64 p.b.x.p), .val (.bool p.b.x.o), .val (.int .i64 p.b.x.b), .val (.int .i64 p.b.x.s), .sl none (.recs (.ints .u8 .nil) p.b.x.q), .val (.int .i64 p.b.x.t), .val (.int .i64 p.b.x.n), .val (.bool p.b.x.w), .val (.int .i64 p.b.u), .val (.int .i64 p.b.v)]), (2, .cells 41 [.sl none (.recs (.int .i64 (.int .i64 (.int .i64 (.int .i64 (.ints .u8 .nil))))) (G.t_tik p.a 99).y.f), .val (.slice none 0 0)])] [Any, Any, Any]
  | _ => stOf Try.f4.ntmps [(0, .val (.int .u8 a0)), (1, .val (.int .u8 a1)), (11, .ptr 1 0), (13, .val (.int .i64 i)), (14, .ptr 2 0), (15, .num .i64 2)] [(1, .cells 54 [.val (.int .i64 (G.t_tik p.a 99).k.h), .val (.int .i64 (G.t_tik p.a 99).k.g), .val (.int .i64 (G.t_tik p.a 99).k.x.l), .val (.int .i64 (G.t_tik p.a 99).k.x.c), .val (.int .i64 (G.t_tik p.a 99).k.x.p), .val (.bool (G.t_tik p.a 99).k.x.o), .val (.int .i64 (G.t_tik p.a 99).k.x.b), .val (.int .i64 (G.t_tik p.a 99).k.x.s), .sl none (.recs (.ints .u8 .nil) (G.t_tik p.a 99).k.x.q), .val (.int .i64 (G.t_tik p.a 99).k.x.t), .val (.int .i64 (G.t_tik p.a 99).k.x.n), .val (.bool (G.t_tik p.a 99).k.x.w), .val (.int .i64 (G.t_tik p.a 99).k.u), .val (.int .i64 (G.t_tik p.a 99).k.v), .val (.int .i64 (G.t_tik p.b 99).k.h), .val (.int .i64 (G.t_tik p.b 99).k.g), .val (.int .i64 (G.t_tik p.b 99).k.x.l), .val (.int .i64 (G.t_tik p.b 99).k.x.c), .val (.int .i64 (G.t_tik p.b 99).k.x.p), .val (.bool (G.t_tik p.b 99).k.x.o), .val (.int .i64 (G.t_tik p.b 99).k.x.b), .val (.int .i64 (G.t_tik p.b 99).k.x.s), .sl none (.recs (.ints .u8 .nil) (G.t_tik p.b 99).k.x.q), .val (.int .i64 (G.t_tik p.b 99).k.x.t), .val (.int .i64 (G.t_tik p.b 99).k.x.n), .val (.bool (G.t_tik p.b 99).k.x.w), .val (.int .i64 (G.t_tik p.b 99).k.u), .val (.int .i64 (G.t_tik p.b 99).k.v)]), (2, .cells 41 [.sl none (.recs (.int .i64 (.int .i64 (.int .i64 (.int .i64 (.ints .u8 .nil))))) (G.t_tik p.a 99).y.f), .sl none (.recs (.int .i64 (.int .i64 (.int .i64 (.int .i64 (.ints .u8 .nil))))) (G.t_tik p.b 99).y.f)])] [Any, Any, Any]
def cR (st : St) : XH := ⟨match slotC st 15 with | .num _ n => n.toNat | _ => 3⟩
structure XD where
  n : Int
  x : PR
def dQ (p : PR) (y : XD) : Prop := y.n = 0 ∧ y.x = tk2 p.a p.b ∨ y.n = 1 ∧ y.x = exch (tk2 p.a p.b) ∨ y.n = 2 ∧ y.x = exch (exch (tk2 p.a p.b))
noncomputable def dI (a0 a1 i : Int) (y : XD) : St := stOf Try.f4.ntmps [(0, .val (.int .u8 a0)), (1, .val (.int .u8 a1)), (11, .ptr 1 0), (13, .val (.int .i64 i)), (14, .ptr 2 0), (17, .val (.int .i64 y.n))] [(1, .cells 54 [.val (.int .i64 y.x.a.h), .val (.int .i64 y.x.a.g), .val (.int .i64 y.x.a.x.l), .val (.int .i64 y.x.a.x.c), .val (.int .i64 y.x.a.x.p), .val (.bool y.x.a.x.o), .val (.int .i64 y.x.a.x.b), .val (.int .i64 y.x.a.x.s), .sl none (.recs (.ints .u8 .nil) y.x.a.x.q), .val (.int .i64 y.x.a.x.t), .val (.int .i64 y.x.a.x.n), .val (.bool y.x.a.x.w), .val (.int .i64 y.x.a.u), .val (.int .i64 y.x.a.v), .val (.int .i64 y.x.b.h), .val (.int .i64 y.x.b.g), .val (.int .i64 y.x.b.x.l), .val (.int .i64 y.x.b.x.c), .val (.int .i64 y.x.b.x.p), .val (.bool y.x.b.x.o), .val (.int .i64 y.x.b.x.b), .val (.int .i64 y.x.b.x.s), .sl none (.recs (.ints .u8 .nil) y.x.b.x.q), .val (.int .i64 y.x.b.x.t), .val (.int .i64 y.x.b.x.n), .val (.bool y.x.b.x.w), .val (.int .i64 y.x.b.u), .val (.int .i64 y.x.b.v)]), (2, .cells 41 [.sl none (.recs (.int .i64 (.int .i64 (.int .i64 (.int .i64 (.ints .u8 .nil))))) y.x.oa), .sl none (.recs (.int .i64 (.int .i64 (.int .i64 (.int .i64 (.ints .u8 .nil))))) y.x.ob)])] [Any, Any, Any]
def dM (y : XD) : Nat := 2 - y.n.toNat
def dR (st : St) : XD := ⟨slotI st 17, ⟨⟨valI (cellC st 11 0), valI (cellC st 11 1), ⟨valI (cellC st 11 2), valI (cellC st 11 3), valI (cellC st 11 4), valB (cellC st 11 5), valI (cellC st 11 6), valI (cellC st 11 7), valR st.heap (cellC st 11 8), valI (cellC st 11 9), valI (cellC st 11 10), valB (cellC st 11 11)⟩, valI (cellC st 11 12), valI (cellC st 11 13)⟩, ⟨valI (cellC st 11 14), valI (cellC st 11 15), ⟨valI (cellC st 11 16), valI (cellC st 11 17), valI (cellC st 11 18), valB (cellC st 11 19), valI (cellC st 11 20), valI (cellC st 11 21), valR st.heap (cellC st 11 22), valI (cellC st 11 23), valI (cellC st 11 24), valB (cellC st 11 25)⟩, valI (cellC st 11 26), valI (cellC st 11 27)⟩, valR st.heap (cellC st 14 0), valR st.heap (cellC st 14 1)⟩⟩
noncomputable def eI (G : Lw) (a0 a1 i n : Int) (x : PR) (y : XH) : St := match y.k with
  | 0 => stOf Try.f4.ntmps [(0, .val (.int .u8 a0)), (1, .val (.int .u8 a1)), (11, .ptr 1 0), (13, .val (.int .i64 i)), (14, .ptr 2 0), (17, .val (.int .i64 n)), (18, .ptr 3 0), (19, .num .i64 0)] [(1, .cells 54 [.val (.int .i64 x.a.h), .val (.int .i64 x.a.g), .val (.int .i64 x.a.x.l), .val (.int .i64 x.a.x.c), .val (.int .i64 x.a.x.p), .val (.bool x.a.x.o), .val (.int .i64 x.a.x.b), .val (.int .i64 x.a.x.s), .sl none (.recs (.ints .u8 .nil) x.a.x.q), .val (.int .i64 x.a.x.t), .val (.int .i64 x.a.x.n), .val (.bool x.a.x.w), .val (.int .i64 x.a.u), .val (.int .i64 x.a.v), .val (.int .i64 x.b.h), .val (.int .i64 x.b.g), .val (.int .i64 x.b.x.l), .val (.int .i64 x.b.x.c), .val (.int .i64 x.b.x.p), .val (.bool x.b.x.o), .val (.int .i64 x.b.x.b), .val (.int .i64 x.b.x.s), .sl none (.recs (.ints .u8 .nil) x.b.x.q), .val (.int .i64 x.b.x.t), .val (.int .i64 x.b.x.n), .val (.bool x.b.x.w), .val (.int .i64 x.b.u), .val (.int .i64 x.b.v)]), (2, .cells 41 [.sl none (.recs (.int .i64 (.int .i64 (.int .i64 (.int .i64 (.ints .u8 .nil))))) x.oa), .sl none (.recs (.int .i64 (.int .i64 (.int .i64 (.int .i64 (.ints .u8 .nil))))) x.ob)]), (3, .cells 41 [.val (.slice none 0 0), .val (.slice none 0 0)])] [Any, Any, Any]
  | 1 => stOf Try.f4.ntmps [(0, .val (.int .u8 a0)), (1, .val (.int .u8 a1)), (11, .ptr 1 0), (13, .val (.int .i64 i)), (14, .ptr 2 0), (17, .val (.int .i64 n)), (18, .ptr 3 0), (19, .num .i64 1)] [(1, .cells 54 [.val (.int .i64 x.a.h), .val (.int .i64 x.a.g), .val (.int .i64 x.a.x.l), .val (.int .i64 x.a.x.c), .val (.int .i64 x.a.x.p), .val (.bool x.a.x.o), .val (.int .i64 x.a.x.b), .val (.int .i64 x.a.x.s), .sl none (.recs (.ints .u8 .nil) x.a.x.q), .val (.int .i64 x.a.x.t), .val (.int .i64 x.a.x.n), .val (.bool x.a.x.w), .val (.int .i64 x.a.u), .val (.int .i64 x.a.v), .val (.int .i64 (G.hl x.b x.oa).k.h), .val (.int .i64 (G.hl x.b x.oa).k.g), .val (.int .i64 (G.hl x.b x.oa).k.x.l), .val (.int .i64 (G.hl x.b x.oa).k.x.c), .val (.int .i64 (G.hl x.b x.oa).k.x.p), .val (.bool (G.hl x.b x.oa).k.x.o), .val (.int .i64 (G.hl x.b x.oa).k.x.b), .val (.int .i64 (G.hl x.b x.oa).k.x.s), .sl none (.recs (.ints .u8 .nil) (G.hl x.b x.oa).k.x.q), .val (.int .i64 (G.hl x.b x.oa).k.x.t), .val (.int .i64 (G.hl x.b x.oa).k.x.n), .val (.bool (G.hl x.b x.oa).k.x.w), .val (.int .i64 (G.hl x.b x.oa).k.u), .val (.int .i64 (G.hl x.b x.oa).k.v)]), (2, .cells 41 [.sl none (.recs (.int .i64 (.int .i64 (.int .i64 (.int .i64 (.ints .u8 .nil))))) x.oa), .sl none (.recs (.int .i64 (.int .i64 (.int .i64 (.int .i64 (.ints .u8 .nil))))) x.ob)]), (3, .cells 41 [.val (.slice none 0 0), .sl none (.recs (.int .i64 (.int .i64 (.int .i64 (.int .i64 (.ints .u8 .nil))))) (G.hl x.b x.oa).o)])] [Any, Any, Any]
  | _ => stOf Try.f4.ntmps [(0, .val (.int .u8 a0)), (1, .val (.int .u8 a1)), (11, .ptr 1 0), (13, .val (.int .i64 i)), (14, .ptr 2 0), (17, .val (.int .i64 n)), (18, .ptr 3 0), (19, .num .i64 2)] [(1, .cells 54 [.val (.int .i64 (G.hl x.a x.ob).k.h), .val (.int .i64 (G.hl x.a x.ob).k.g), .val (.int .i64 (G.hl x.a x.ob).k.x.l), .val (.int .i64 (G.hl x.a x.ob).k.x.c), .val (.int .i64 (G.hl x.a x.ob).k.x.p), .val (.bool (G.hl x.a x.ob).k.x.o), .val (.int .i64 (G.hl x.a x.ob).k.x.b), .val (.int .i64 (G.hl x.a x.ob).k.x.s), .sl none (.recs (.ints .u8 .nil) (G.hl x.a x.ob).k.x.q), .val (.int .i64 (G.hl x.a x.ob).k.x.t), .val (.int .i64 (G.hl x.a x.ob).k.x.n), .val (.bool (G.hl x.a x.ob).k.x.w), .val (.int .i64 (G.hl x.a x.ob).k.u), .val (.int .i64 (G.hl x.a x.ob).k.v), .val (.int .i64 (G.hl x.b x.oa).k.h), .val (.int .i64 (G.hl x.b x.oa).k.g), .val (.int .i64 (G.hl x.b x.oa).k.x.l), .val (.int .i64 (G.hl x.b x.oa).k.x.c), .val (.int .i64 (G.hl x.b x.oa).k.x.p), .val (.bool (G.hl x.b x.oa).k.x.o), .val (.int .i64 (G.hl x.b x.oa).k.x.b), .val (.int .i64 (G.hl x.b x.oa).k.x.s), .sl none (.recs (.ints .u8 .nil) (G.hl x.b x.oa).k.x.q), .val (.int .i64 (G.hl x.b x.oa).k.x.t), .val (.int .i64 (G.hl x.b x.oa).k.x.n), .val (.bool (G.hl x.b x.oa).k.x.w), .val (.int .i64 (G.hl x.b x.oa).k.u), .val (.int .i64 (G.hl x.b x.oa).k.v)]), (2, .cells 41 [.sl none (.recs (.int .i64 (.int .i64 (.int .i64 (.int .i64 (.ints .u8 .nil))))) x.oa), .sl none (.recs (.int .i64 (.int .i64 (.int .i64 (.int .i64 (.ints .u8 .nil))))) x.ob)]), (3, .cells 41 [.sl none (.recs (.int .i64 (.int .i64 (.int .i64 (.int .i64 (.ints .u8 .nil))))) (G.hl x.a x.ob).o), .sl none (.recs (.int .i64 (.int .i64 (.int .i64 (.int .i64 (.ints .u8 .nil))))) (G.hl x.b x.oa).o)])] [Any, Any, Any]
def eR (st : St) : XH := ⟨match slotC st 19 with | .num _ n => n.toNat | _ => 3⟩
structure XF where
  j : Int
  k : KN
  o : List E
def fQ (k0 : KN) (fs : List E) (y : XF) : Prop := 0 ≤ y.j ∧ y.j ≤ fs.length ∧ (⟨y.k, y.o⟩ : HR) = hrP ⟨k0, []⟩ fs y.j.toNat
def fM (fs : List E) (y : XF) : Nat := fs.length - y.j.toNat
noncomputable def fI0 (a0 a1 i n : Int) (x : PR) (y : XF) : St := stOf Try.f4.ntmps [(0, .val (.int .u8 a0)), (1, .val (.int .u8 a1)), (11, .ptr 1 0), (13, .val (.int .i64 i)), (14, .ptr 2 0), (17, .val (.int .i64 n)), (18, .ptr 3 0), (19, .num .i64 0), (20, .val (.int .i64 y.j))] [(1, .cells 54 [.val (.int .i64 x.a.h), .val (.int .i64 x.a.g), .val (.int .i64 x.a.x.l), .val (.int .i64 x.a.x.c), .val (.int .i64 x.a.x.p), .val (.bool x.a.x.o), .val (.int .i64 x.a.x.b), .val (.int .i64 x.a.x.s), .sl none (.recs (.ints .u8 .nil) x.a.x.q), .val (.int .i64 x.a.x.t), .val (.int .i64 x.a.x.n), .val (.bool x.a.x.w), .val (.int .i64 x.a.u), .val (.int .i64 x.a.v), .val (.int .i64 y.k.h), .val (.int .i64 y.k.g), .val (.int .i64 y.k.x.l), .val (.int .i64 y.k.x.c), .val (.int .i64 y.k.x.p), .val (.bool y.k.x.o), .val (.int .i64 y.k.x.b), .val (.int .i64 y.k.x.s), .sl none (.recs (.ints .u8 .nil) y.k.x.q), .val (.int .i64 y.k.x.t), .val (.int .i64 y.k.x.n), .val (.bool y.k.x.w), .val (.int .i64 y.k.u), .val (.int .i64 y.k.v)]), (2, .cells 41 [.sl none (.recs (.int .i64 (.int .i64 (.int .i64 (.int .i64 (.ints .u8 .nil))))) x.oa), .sl none (.recs (.int .i64 (.int .i64 (.int .i64 (.int .i64 (.ints .u8 .nil))))) x.ob)]), (3, .cells 41 [.val (.slice none 0 0), .sl (some (4, 62)) (.recs (.int .i64 (.int .i64 (.int .i64 (.int .i64 (.ints .u8 .nil))))) y.o)]), (4, .tok)] [Any, Any, Any]
noncomputable def fI1 (G : Lw) (a0 a1 i n : Int) (x : PR) (y : XF) : St := stOf Try.f4.ntmps [(0, .val (.int .u8 a0)), (1, .val (.int .u8 a1)), (11, .ptr 1 0), (13, .val (.int .i64 i)), (14, .ptr 2 0), (17, .val (.int .i64 n)), (18, .ptr 3 0), (19, .num .i64 1), (20, .val (.int .i64 y.j))] [(1, .cells 54 [.val (.int .i64 y.k.h), .val (.int .i64 y.k.g), .val (.int .i64 y.k.x.l), .val (.int .i64 y.k.x.c), .val (.int .i64 y.k.x.p), .val (.bool y.k.x.o), .val (.int .i64 y.k.x.b), .val (.int .i64 y.k.x.s), .sl none (.recs (.ints .u8 .nil) y.k.x.q), .val (.int .i64 y.k.x.t), .val (.int .i64 y.k.x.n), .val (.bool y.k.x.w), .val (.int .i64 y.k.u), .val (.int .i64 y.k.v), .val (.int .i64 (G.hl x.b x.oa).k.h), .val (.int .i64 (G.hl x.b x.oa).k.g), .val (.int .i64 (G.hl x.b x.oa).k.x.l), .val (.int .i64 (G.hl x.b x.oa).k.x.c), .val (.int .i64 (G.hl x.b x.oa).k.x.p), .val (.bool (G.hl x.b x.oa).k.x.o), .val (.int .i64 (G.hl x.b x.oa).k.x.b), .val (.int .i64 (G.hl x.b x.oa).k.x.s), .sl none (.recs (.ints .u8 .nil) (G.hl x.b x.oa).k.x.q), .val (.int .i64 (G.hl x.b x.oa).k.x.t), .val (.int .i64 (G.hl x.b x.oa).k.x.n), .val (.bool (G.hl x.b x.oa).k.x.w), .val (.int .i64 (G.hl x.b x.oa).k.u), .val (.int .i64 (G.hl x.b x.oa).k.v)]), (2, .cells 41 [.sl none (.recs (.int .i64 (.int .i64 (.int .i64 (.int .i64 (.ints .u8 .nil))))) x.oa), .sl none (.recs (.int .i64 (.int .i64 (.int .i64 (.int .i64 (.ints .u8 .nil))))) x.ob)]), (3, .cells 41 [.sl (some (4, 62)) (.recs (.int .i64 (.int .i64 (.int .i64 (.int .i64 (.ints .u8 .nil))))) y.o), .sl none (.recs (.int .i64 (.int .i64 (.int .i64 (.int .i64 (.ints .u8 .nil))))) (G.hl x.b x.oa).o)]), (4, .tok)] [Any, Any, Any]
def tokO (st : St) (j : Nat) : List E := ctR (match cellC st 18 j with | .sl _ c => c | _ => .recs .nil [])
def fR0 (st : St) : XF := ⟨slotI st 20, ⟨valI (cellC st 11 14), valI (cellC st 11 15), ⟨valI (cellC st 11 16), valI (cellC st 11 17), valI (cellC st 11 18), valB (cellC st 11 19), valI (cellC st 11 20), valI (cellC st 11 21), valR st.heap (cellC st 11 22), valI (cellC st 11 23), valI (cellC st 11 24), valB (cellC st 11 25)⟩, valI (cellC st 11 26), valI (cellC st 11 27)⟩, tokO st 1⟩
def fR1 (st : St) : XF := ⟨slotI st 20, ⟨valI (cellC st 11 0), valI (cellC st 11 1), ⟨valI (cellC st 11 2), valI (cellC st 11 3), valI (cellC st 11 4), valB (cellC st 11 5), valI (cellC st 11 6), valI (cellC st 11 7), valR st.heap (cellC st 11 8), valI (cellC st 11 9), valI (cellC st 11 10), valB (cellC st 11 11)⟩, valI (cellC st 11 12), valI (cellC st 11 13)⟩, tokO st 0⟩
theorem f_zero (k : KN) (fs : List E) : fQ k fs ⟨0, k, []⟩ := ⟨Int.le_refl 0, Int.natCast_nonneg _, rfl⟩
theorem f_all {k0 : KN} {fs : List E} (ok : okL ⟨k0, []⟩ fs = true) (hl : fs.length ≤ 3000) {j : Int} {k : KN} {o : List E} (hq : fQ k0 fs ⟨j, k, o⟩) : 0 ≤ j ∧ j ≤ fs.length ∧ stdBin .add .i64 j 1 = j + 1 ∧ (j < fs.length → kbB k = true ∧ fmB (fs.getD j.toNat []) = true ∧ (hearK k (byE (fs.getD j.toNat [])) 99).e = 0 ∧ (hearK k (byE (fs.getD j.toNat [])) 99).y.d = false ∧ o.length ≤ 1000 ∧ (hearK k (byE (fs.getD j.toNat [])) 99).y.f.length ≤ 1000 ∧ (∀ a b, fM fs ⟨j + 1, a, b⟩ < fM fs ⟨j, k, o⟩) ∧ fQ k0 fs ⟨j + 1, (hearK k (byE (fs.getD j.toNat [])) 99).k, o ++ (hearK k (byE (fs.getD j.toNat [])) 99).y.f⟩) ∧ (¬ j < fs.length → k = (hrL k0 fs).k ∧ o = (hrL k0 fs).o) := by
  obtain ⟨h0, h1, h2⟩ := hq
  simp only at h0 h1 h2
  refine ⟨h0, h1, by rw [b_add, wr _ (by omega) (by omega)], fun h => ?_, fun h => ?_⟩
  · have hk := okL_at fs ⟨k0, []⟩ ok j.toNat (by omega)
    have hn := hrP_next ⟨k0, []⟩ fs (j := j.toNat) (by omega)
    rw [← h2] at hk hn
    unfold ok1 at hk
    simp only [Bool.and_eq_true, beq_iff_eq, Bool.not_eq_true', decide_eq_true_eq] at hk
    refine ⟨hk.1, hk.2.1, hk.2.2.1, hk.2.2.2.1, hk.2.2.2.2.1, hk.2.2.2.2.2, fun _ _ => by simp only [fM]; omega, by simp only; omega, by simp only; omega, ?_⟩
    show _ = hrP ⟨k0, []⟩ fs (j + 1).toNat
    rw [show (j + 1).toNat = j.toNat + 1 by omega, hn]
    rfl
  · have e : j.toNat = fs.length := by omega
    rw [e, hrP_end] at h2
    rw [← h2]
    exact ⟨rfl, rfl⟩
theorem b_all {w : Int} {i : Int} {p : PR} (hq : bQ w ⟨i, p⟩) : 0 ≤ i ∧ i ≤ 42 ∧ stdBin .add .i64 i 1 = i + 1 ∧ stdBin .add .i64 3 (w % 40) = 3 + w % 40 ∧ (i < 3 + w % 40 → okR p = true ∧ (∀ q, bM ⟨i + 1, q⟩ < bM ⟨i, p⟩) ∧ bQ w ⟨i + 1, rd p⟩) ∧ (¬ i < 3 + w % 40 → endB p = true) := by
  obtain ⟨h0, h1, h2⟩ := hq
  simp only at h0 h1 h2
  have m0 := Int.emod_nonneg w (show (40 : Int) ≠ 0 by decide)
  have m1 := Int.emod_lt_of_pos w (show (0 : Int) < 40 by decide)
  refine ⟨h0, by omega, by rw [b_add, wr _ (by omega) (by omega)], by rw [b_add, wr _ (by omega) (by omega)], fun h => ?_, fun h => ?_⟩
  · refine ⟨by rw [h2]; exact (all_ok _).1 (by omega), fun _ => by simp only [bM]; omega, by simp only; omega, by simp only; omega, ?_⟩
    show rd p = orb (i + 1).toNat p0
    rw [show (i + 1).toNat = i.toNat + 1 by omega, orb_next, h2]
  · rw [h2]
    exact (all_ok _).2 (by omega) (by omega)
theorem okR_is {p : PR} (h : okR p = true) : (kbB p.a = true ∧ (tikK p.a 99).e = 0 ∧ (tikK p.a 99).y.d = false ∧ (tikK p.a 99).y.f.length ≤ 1000) ∧ (kbB p.b = true ∧ (tikK p.b 99).e = 0 ∧ (tikK p.b 99).y.d = false ∧ (tikK p.b 99).y.f.length ≤ 1000) ∧ okX (tk2 p.a p.b) = true ∧ okX (exch (tk2 p.a p.b)) = true := by
  unfold okR okT at h
  simp only [Bool.and_eq_true, beq_iff_eq, Bool.not_eq_true', decide_eq_true_eq] at h
  exact ⟨⟨h.1.1, h.1.2.1, h.1.2.2.1, h.1.2.2.2⟩, ⟨h.2.1.1, h.2.1.2.1, h.2.1.2.2.1, h.2.1.2.2.2⟩, h.2.2.1, h.2.2.2⟩

set_option maxRecDepth 100000 in
theorem tailG2 (a0 a1 n : Int) (p : PR) (e6 e7 e8 : Int) (e9 : Bool) (hw : 0 ≤ a1 ∧ a1 ≤ 255) (hp : endB p = true) (s : St) (hs : s = stOf Try.f4.ntmps [(0, .val (.int .u8 a0)), (1, .val (.int .u8 a1)), (11, .ptr 1 0), (13, .val (.int .i64 n)), (64, .val (.int .i64 n)), (65, .val (.int .u8 a0)), (66, .val (.int .u8 e6)), (67, .val (.int .i64 e7)), (68, .val (.int .i64 e8)), (69, .val (.bool e9))] [(1, .cells 54 [.val (.int .i64 p.a.h), .val (.int .i64 p.a.g), .val (.int .i64 p.a.x.l), .val (.int .i64 p.a.x.c), .val (.int .i64 p.a.x.p), .val (.bool p.a.x.o), .val (.int .i64 p.a.x.b), .val (.int .i64 p.a.x.s), .sl none (.recs (.ints .u8 .nil) p.a.x.q), .val (.int .i64 p.a.x.t), .val (.int .i64 p.a.x.n), .val (.bool p.a.x.w), .val (.int .i64 p.a.u), .val (.int .i64 p.a.v), .val (.int .i64 p.b.h), .val (.int .i64 p.b.g), .val (.int .i64 p.b.x.l), .val (.int .i64 p.b.x.c), .val (.int .i64 p.b.x.p), .val (.bool p.b.x.o), .val (.int .i64 p.b.x.b), .val (.int .i64 p.b.x.s), .sl none (.recs (.ints .u8 .nil) p.b.x.q), .val (.int .i64 p.b.x.t), .val (.int .i64 p.b.x.n), .val (.bool p.b.x.w), .val (.int .i64 p.b.u), .val (.int .i64 p.b.v)])] [Any, Any, Any]) : ∀ b gv, ex Ar.std (cxOf [(17, c_knew LkR.Ts.std), (18, c_ktick LkR.Ts.std), (19, c_khear LkR.Ts.std), (20, c_rbytes FrQ.Qs.std), (21, c_kawake LkS.Vs2.std)]) (Lp Try.prog b gv) (tl 7 (bodyOf Try.f4)) s (fin Ar.std (cxOf [(17, c_knew LkR.Ts.std), (18, c_ktick LkR.Ts.std), (19, c_khear LkR.Ts.std), (20, c_rbytes FrQ.Qs.std), (21, c_kawake LkS.Vs2.std)]) Try.f4.results.toList ⟨True, .sa (B true), [], [Any, Any, Any]⟩) := by
  rw [hs]
  exact @tailG a0 a1 n p e6 e7 e8 e9 hw hp

theorem hrL_len {k : KN} {fs : List E} (ok : okL ⟨k, []⟩ fs = true) : (hrL k fs).o.length ≤ 2000 := by
  cases h : fs.length with
  | zero =>
    rw [List.eq_nil_of_length_eq_zero h]
    exact Nat.zero_le _
  | succ n =>
    have hk := okL_at fs ⟨k, []⟩ ok n (by omega)
    have hn := hrP_next ⟨k, []⟩ fs (j := n) (by omega)
    rw [← h, hrP_end] at hn
    unfold ok1 at hk
    simp only [Bool.and_eq_true, beq_iff_eq, Bool.not_eq_true', decide_eq_true_eq] at hk
    rw [hn]
    unfold hr1
    rw [List.length_append]
    omega
theorem cut_to {l : List (Nat × Con)} {c : Code} {s : St} {rs : List ResultVar} {p : Post} {b : Bs} {gv : List Value} {Z : (Ex → St → Prop) → Ex → St → Prop} (zq : ∀ K, Z K = K) (h : ∀ b gv, ex Ar.std (cxOf l) (Lp Try.prog b gv) c s (fin Ar.std (cxOf l) rs p)) : Cd Ar.std (cxOf l) (Lp Try.prog b gv) c s (Z fun e s' => Fin1 Ar.std (cxOf l) rs p e s') := by
  refine ⟨?_⟩
  rw [zq]
  exact ex_mono (lp_mono rfl) c (fun e s q => ⟨q⟩) (h b gv)
structure Hold (P : Prop) : Prop where
  run : P
theorem hold {A : Ar} {cx : Cx} {L : Code → St → (Ex → St → Prop) → Prop} {s : St} {K : Ex → St → Prop} (h : Hold (Cd A cx L (tl 7 (bodyOf Try.f4)) s K)) : Cd A cx L (tl 7 (bodyOf Try.f4)) s K := h.run
theorem d_all {p : PR} (hr : okR p = true) {n : Int} {x : PR} (hq : dQ p ⟨n, x⟩) : 0 ≤ n ∧ n ≤ 2 ∧ stdBin .add .i64 n 1 = n + 1 ∧ (n < 2 → okL ⟨x.b, []⟩ x.oa = true ∧ okL ⟨x.a, []⟩ x.ob = true ∧ x.oa.length ≤ 3000 ∧ x.ob.length ≤ 3000 ∧ (∀ y, dM ⟨n + 1, y⟩ < dM ⟨n, x⟩) ∧ dQ p ⟨n + 1, ⟨(hrL x.a x.ob).k, (hrL x.b x.oa).k, (hrL x.a x.ob).o, (hrL x.b x.oa).o⟩⟩) ∧ (¬ n < 2 → x.a = (rd p).a ∧ x.b = (rd p).b) := by
  obtain ⟨h1, h2, h3, h4⟩ := okR_is hr
  unfold okX at h3 h4
  rw [Bool.and_eq_true] at h3 h4
  have l1 : (exch (tk2 p.a p.b)).oa.length ≤ 2000 := hrL_len h3.2
  have l2 : (exch (tk2 p.a p.b)).ob.length ≤ 2000 := hrL_len h3.1
  have l3 : (tk2 p.a p.b).oa.length ≤ 1000 := h1.2.2.2
  have l4 : (tk2 p.a p.b).ob.length ≤ 1000 := h2.2.2.2
  rcases hq with ⟨e, hx⟩ | ⟨e, hx⟩ | ⟨e, hx⟩
  · simp only at e hx
    subst e hx
    exact ⟨Int.le_refl 0, by decide, by rw [b_add, wr _ (by decide) (by decide)], fun _ => ⟨h3.1, h3.2, by omega, by omega, fun y => (by decide : 2 - 1 < 2 - 0), .inr (.inl ⟨rfl, rfl⟩)⟩, fun g => absurd (by decide) g⟩
  · simp only at e hx
    subst e hx
    exact ⟨by decide, by decide, by rw [b_add, wr _ (by decide) (by decide)], fun _ => ⟨h4.1, h4.2, by omega, by omega, fun y => (by decide : 2 - 2 < 2 - 1), .inr (.inr ⟨rfl, rfl⟩)⟩, fun g => absurd (by decide) g⟩
  · simp only at e hx
    subst e hx
    exact ⟨by decide, by decide, by rw [b_add, wr _ (by decide) (by decide)], fun g => absurd g (by decide), fun _ => ⟨rfl, rfl⟩⟩

set_option cbv.maxSteps 4000000 in
set_option maxHeartbeats 60000000 in
set_option maxRecDepth 100000 in
theorem tailB (a0 a1 a2 n e5 e6 : Int) (e7 : Bool) (hw0 : 0 ≤ a0 ∧ a0 ≤ 255) (hw : 0 ≤ a1 ∧ a1 ≤ 255) : ∀ b gv, ex Ar.std (cxOf [(17, c_knew LkR.Ts.std), (18, c_ktick LkR.Ts.std), (19, c_khear LkR.Ts.std), (20, c_rbytes FrQ.Qs.std), (21, c_kawake LkS.Vs2.std)]) (Lp Try.prog b gv) (tl 6 (bodyOf Try.f4)) (stOf Try.f4.ntmps [(0, .val (.int .u8 a0)), (1, .val (.int .u8 a1)), (2, .val (.int .u8 a2)), (11, .ptr 1 0), (12, .num .i64 n), (43, .num .i64 n), (44, .val (.int .u8 a2)), (45, .val (.int .u8 e5)), (46, .val (.int .i64 e6)), (47, .val (.bool e7))] [(1, .cells 54 [.val (.int .i64 (Lw.std.o 0).a.h), .val (.int .i64 (Lw.std.o 0).a.g), .val (.int .i64 (Lw.std.o 0).a.x.l), .val (.int .i64 (Lw.std.o 0).a.x.c), .val (.int .i64 (Lw.std.o 0).a.x.p), .val (.bool (Lw.std.o 0).a.x.o), .val (.int .i64 (Lw.std.o 0).a.x.b), .val (.int .i64 (Lw.std.o 0).a.x.s), .sl none (.recs (.ints .u8 .nil) (Lw.std.o 0).a.x.q), .val (.int .i64 (Lw.std.o 0).a.x.t), .val (.int .i64 (Lw.std.o 0).a.x.n), .val (.bool (Lw.std.o 0).a.x.w), .val (.int .i64 (Lw.std.o 0).a.u), .val (.int .i64 (Lw.std.o 0).a.v), .val (.int .i64 (Lw.std.o 0).b.h), .val (.int .i64 (Lw.std.o 0).b.g), .val (.int .i64 (Lw.std.o 0).b.x.l), .val (.int .i64 (Lw.std.o 0).b.x.c), .val (.int .i64 (Lw.std.o 0).b.x.p), .val (.bool (Lw.std.o 0).b.x.o), .val (.int .i64 (Lw.std.o 0).b.x.b), .val (.int .i64 (Lw.std.o 0).b.x.s), .sl none (.recs (.ints .u8 .nil) (Lw.std.o 0).b.x.q), .val (.int .i64 (Lw.std.o 0).b.x.t), .val (.int .i64 (Lw.std.o 0).b.x.n), .val (.bool (Lw.std.o 0).b.x.w), .val (.int .i64 (Lw.std.o 0).b.u), .val (.int .i64 (Lw.std.o 0).b.v)])] [Any, Any, Any]) (fin Ar.std (cxOf [(17, c_knew LkR.Ts.std), (18, c_ktick LkR.Ts.std), (19, c_khear LkR.Ts.std), (20, c_rbytes FrQ.Qs.std), (21, c_kawake LkS.Vs2.std)]) Try.f4.results.toList ⟨True, .sa (B true), [], [Any, Any, Any]⟩) := by
  refine @cut_of _ _ _ _ _ ?_
  intro b gv Z zq A hA L hL
  have hrem : stdBin .rem .u8 a0 40 = a0 % 40 := Int.tmod_eq_emod_of_nonneg hw0.1
  have hcv : IntKind.i64.wrap (a0 % 40) = a0 % 40 := wr _ (by omega) (by omega)
  have hfs := (FsOk.cons ok_knew (FsOk.cons ok_ktick (FsOk.cons ok_khear (FsOk.cons ok_rbytes (FsOk.cons ok_kawake FsOk.nil rfl) rfl) rfl) rfl) rfl)
  generalize hF : LkR.Ts.std = F at hfs ⊢
  generalize hG : Lw.std = G at hfs ⊢
  generalize hR : FrQ.Qs.std = R at hfs ⊢
  repeat' (first
    | refine hold ?_
    | (refine z_open zq ?_; try dsimp only)
    | refine cd_seq zq ?_ (lp_mono hL)
    | refine cd_blk zq ?_
    | refine cd_ret ?_
    | refine cd_skip ?_
    | refine cd_exit ?_
    | refine cd_loop ?_
    | refine cd_cond rfl ?_
    | refine cd_condT rfl ?_
    | refine cd_condF rfl ?_
    | (refine Cd.mk ?_; cbv)
    | (refine Ends1.mk ?_; cbv)
    | (refine Fin1.mk ?_; cbv)
    | exact trivial
    | refine And.intro ?_ ?_
    | refine orf fun _ => ?_
    | refine ort fun _ => ?_)
  subst hL
  refine loop_z (cx_ok hfs) (bQ a0) (bI a0 a1) (bM) bR ⟨0, G.o 0⟩ ?_ ?_ ?_
  · (subst hG; exact ⟨Int.le_refl 0, (by have := Int.emod_nonneg a0 (show (40 : Int) ≠ 0 by decide); show 0 ≤ 3 + a0 % 40; omega), rfl⟩)
  · cbv
    repeat' (first | exact trivial | exact rfl | refine And.intro ?_ ?_)
  as_aux_lemma =>
    rintro ⟨i, p⟩ hqB B hB
    have hst := b_all hqB
    subst hA
    generalize hA : Ar.std = A
    generalize hL : Lp _ _ _ = L
    refine cd_close zq ?_
    repeat' (first
      | refine hold ?_
      | (refine z_open zq ?_; try dsimp only)
      | refine cd_seq zq ?_ (lp_mono hL)
      | refine cd_blk zq ?_
      | refine cd_ret ?_
      | refine cd_skip ?_
      | refine cd_exit ?_
      | refine cd_loop ?_
      | refine cd_cond rfl ?_
      | refine cd_condT rfl ?_
      | refine cd_condF rfl ?_
      | (refine Cd.mk ?_; cbv)
      | (refine Ends1.mk ?_; cbv)
      | (refine Fin1.mk ?_; cbv)
      | exact trivial
      | refine And.intro ?_ ?_
      | refine orf fun _ => ?_
      | refine ort fun _ => ?_)
    all_goals first | (show L _ _ _; skip) | (show Hold _; skip) | (clear hL hfs zq Z hqB; subst hA hF hG hR hB; simp only [Lw.std, LkR.Ts.std, FrQ.Qs.std, Ar.std, List.nil_append, eta_LN, eta_KN, eta_NW] at * <;> grind [stdCmp]; done)
    all_goals first | (show L _ _ _; skip) | (
      have he : endB p = true := by
        rename_i hx
        clear hL hfs zq Z hqB
        subst hA hF hG hR hB
        simp only [Ar.std] at *
        grind [stdCmp]
      clear hfs hqB hst
      subst hF hG hR hA hL
      refine ⟨@cut_to _ _ _ _ _ _ _ _ zq (@tailG2 a0 a1 i p (Ar.std.bin .rem .u8 a0 40) (Ar.std.conv .i64 (Ar.std.bin .rem .u8 a0 40)) (Ar.std.bin .add .i64 3 (Ar.std.conv .i64 (Ar.std.bin .rem .u8 a0 40))) (Ar.std.cmp .lss i (Ar.std.bin .add .i64 3 (Ar.std.conv .i64 (Ar.std.bin .rem .u8 a0 40)))) hw he _ ?_)⟩
      kernel_rfl)
    have hi : i < 3 + a0 % 40 := by
      rename_i hx
      clear hL hfs zq Z hqB
      subst hA hF hG hR hB
      simp only [Ar.std] at *
      grind [stdCmp]
    obtain ⟨hok, hsB⟩ := hst.2.2.2.2.1 hi
    obtain ⟨ka, kb, _, _⟩ := okR_is hok
    subst hL
    refine loop_z (cx_ok hfs) (hQ) (cI F a0 a1 i p) (hM) cR ⟨0⟩ ?_ ?_ ?_
    · exact Nat.zero_le 2
    · cbv
      repeat' (first | exact trivial | exact rfl | refine And.intro ?_ ?_)
    as_aux_lemma =>
      rintro ⟨k⟩ hqC C hC
      subst hA
      generalize hA : Ar.std = A
      generalize hL : Lp _ _ _ = L
      have hk : k = 0 ∨ k = 1 ∨ k = 2 := by
        have : k ≤ 2 := hqC
        omega
      clear hqC
      rcases hk with rfl | rfl | rfl <;> refine cd_close zq ?_
      all_goals
        repeat' (first
          | (refine z_open zq ?_; try dsimp only)
          | refine cd_seq zq ?_ (lp_mono hL)
          | refine cd_blk zq ?_
          | refine cd_ret ?_
          | refine cd_skip ?_
          | refine cd_exit ?_
          | refine cd_loop ?_
          | refine cd_cond rfl ?_
          | refine cd_condT rfl ?_
          | refine cd_condF rfl ?_
          | (refine Cd.mk ?_; cbv)
          | (refine Ends1.mk ?_; cbv)
          | (refine Fin1.mk ?_; cbv)
          | exact trivial
          | refine And.intro ?_ ?_
          | refine orf fun _ => ?_
          | refine ort fun _ => ?_)
      all_goals first | (show L _ _ _; skip) | (clear hL hfs zq Z hqB; subst hA hF hG hR hB hC; simp only [LkR.Ts.std, Ar.std, eta_LN, eta_KN, hQ, hM] at * <;> grind [stdCmp]; done)
      subst hL
      refine loop_z (cx_ok hfs) (dQ p) (dI a0 a1 i) (dM) dR ⟨0, ⟨(F.t_tik p.a 99).k, (F.t_tik p.b 99).k, (F.t_tik p.a 99).y.f, (F.t_tik p.b 99).y.f⟩⟩ ?_ ?_ ?_
      · (subst hF; exact .inl ⟨rfl, rfl⟩)
      · cbv
        repeat' (first | exact trivial | exact rfl | refine And.intro ?_ ?_)
      as_aux_lemma =>
        rintro ⟨n, ⟨xa, xb, oa, ob⟩⟩ hqD D hD
        have hstD := d_all hok hqD
        have hrd : rd p = ⟨(rd p).a, (rd p).b, [], []⟩ := rfl
        dsimp only at hstD
        subst hA
        generalize hA : Ar.std = A
        generalize hL : Lp _ _ _ = L
        refine cd_close zq ?_
        repeat' (first
          | (refine z_open zq ?_; try dsimp only)
          | refine cd_seq zq ?_ (lp_mono hL)
          | refine cd_blk zq ?_
          | refine cd_ret ?_
          | refine cd_skip ?_
          | refine cd_exit ?_
          | refine cd_loop ?_
          | refine cd_cond rfl ?_
          | refine cd_condT rfl ?_
          | refine cd_condF rfl ?_
          | (refine Cd.mk ?_; cbv)
          | (refine Ends1.mk ?_; cbv)
          | (refine Fin1.mk ?_; cbv)
          | exact trivial
          | refine And.intro ?_ ?_
          | refine orf fun _ => ?_
          | refine ort fun _ => ?_)
        all_goals first | (show L _ _ _; skip) | (have hsb2 := hsB.2; rw [hrd] at hsb2; clear hL hfs zq Z hqB hqD; subst hA hF hG hR hB hC hD; simp only [Ar.std, eta_LN, eta_KN] at * <;> grind [stdCmp]; done)
        have hn : n < 2 := by
          rename_i hx
          clear hL hfs zq Z hqB hqD
          subst hA hF hG hR hB hC hD
          simp only [Ar.std] at *
          grind [stdCmp]
        obtain ⟨ox, oy, lx, ly, hmd, hqd⟩ := hstD.2.2.2.1 hn
        subst hL
        refine loop_z (cx_ok hfs) (hQ) (eI G a0 a1 i n ⟨xa, xb, oa, ob⟩) (hM) eR ⟨0⟩ ?_ ?_ ?_
        · exact Nat.zero_le 2
        · cbv
          repeat' (first | exact trivial | exact rfl | refine And.intro ?_ ?_)
        as_aux_lemma =>
          rintro ⟨k⟩ hqE E hE
          subst hA
          generalize hA : Ar.std = A
          generalize hL : Lp _ _ _ = L
          have hk : k = 0 ∨ k = 1 ∨ k = 2 := by
            have : k ≤ 2 := hqE
            omega
          clear hqE
          rcases hk with rfl | rfl | rfl <;> refine cd_close zq ?_
          all_goals
            repeat' (first
              | (refine z_open zq ?_; try dsimp only)
              | refine cd_seq zq ?_ (lp_mono hL)
              | refine cd_blk zq ?_
              | refine cd_ret ?_
              | refine cd_skip ?_
              | refine cd_exit ?_
              | refine cd_loop ?_
              | refine cd_cond rfl ?_
              | refine cd_condT rfl ?_
              | refine cd_condF rfl ?_
              | (refine Cd.mk ?_; cbv)
              | (refine Ends1.mk ?_; cbv)
              | (refine Fin1.mk ?_; cbv)
              | exact trivial
              | refine And.intro ?_ ?_
              | refine orf fun _ => ?_
              | refine ort fun _ => ?_)
          all_goals first | (show L _ _ _; skip) | (clear hL hfs zq Z hqB hqD; subst hA hF hG hR hB hC hD hE; simp only [Lw.std, Ar.std, eta_LN, eta_KN] at * <;> grind [stdCmp]; done)
          · skip
            subst hL
            refine loop_z (cx_ok hfs) (fQ xb oa) (fI0 a0 a1 i n ⟨xa, xb, oa, ob⟩) (fM oa) fR0 ⟨0, xb, []⟩ ?_ ?_ ?_
            · exact f_zero xb oa
            · cbv
              repeat' (first | exact trivial | exact rfl | refine And.intro ?_ ?_)
            rintro ⟨j, kn, o⟩ hqF F_ hF9
            have hstF := f_all ox lx hqF
            subst hA
            generalize hA : Ar.std = A
            generalize hL : Lp _ _ _ = L
            refine cd_close zq ?_
            repeat' (first
              | (refine z_open zq ?_; try dsimp only)
              | refine cd_seq zq ?_ (lp_mono hL)
              | refine cd_blk zq ?_
              | refine cd_ret ?_
              | refine cd_skip ?_
              | refine cd_exit ?_
              | refine cd_loop ?_
              | refine cd_cond rfl ?_
              | refine cd_condT rfl ?_
              | refine cd_condF rfl ?_
              | (refine Cd.mk ?_; cbv)
              | (refine Ends1.mk ?_; cbv)
              | (refine Fin1.mk ?_; cbv)
              | exact trivial
              | refine And.intro ?_ ?_
              | refine orf fun _ => ?_
              | refine ort fun _ => ?_)
            all_goals (clear hL hfs zq Z hqB hqD hqF; subst hA hF hG hR hB hC hD hE hF9; simp only [Lw.std, LkR.Ts.std, FrQ.Qs.std, Ar.std, eta_LN, eta_KN, hQ, hM, fmB, byE] at * <;> grind [stdCmp]; done)
          · skip
            subst hL
            refine loop_z (cx_ok hfs) (fQ xa ob) (fI1 G a0 a1 i n ⟨xa, xb, oa, ob⟩) (fM ob) fR1 ⟨0, xa, []⟩ ?_ ?_ ?_
            · exact f_zero xa ob
            · cbv
              repeat' (first | exact trivial | exact rfl | refine And.intro ?_ ?_)
            rintro ⟨j, kn, o⟩ hqF F_ hF9
            have hstF := f_all oy ly hqF
            subst hA
            generalize hA : Ar.std = A
            generalize hL : Lp _ _ _ = L
            refine cd_close zq ?_
            repeat' (first
              | (refine z_open zq ?_; try dsimp only)
              | refine cd_seq zq ?_ (lp_mono hL)
              | refine cd_blk zq ?_
              | refine cd_ret ?_
              | refine cd_skip ?_
              | refine cd_exit ?_
              | refine cd_loop ?_
              | refine cd_cond rfl ?_
              | refine cd_condT rfl ?_
              | refine cd_condF rfl ?_
              | (refine Cd.mk ?_; cbv)
              | (refine Ends1.mk ?_; cbv)
              | (refine Fin1.mk ?_; cbv)
              | exact trivial
              | refine And.intro ?_ ?_
              | refine orf fun _ => ?_
              | refine ort fun _ => ?_)
            all_goals (clear hL hfs zq Z hqB hqD hqF; subst hA hF hG hR hB hC hD hE hF9; simp only [Lw.std, LkR.Ts.std, FrQ.Qs.std, Ar.std, eta_LN, eta_KN, hQ, hM, fmB, byE] at * <;> grind [stdCmp]; done)
end Go.Proofs.Ytgemoemkgcmcgaa.LoW
