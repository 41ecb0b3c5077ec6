/-
  LinkOpens: for every input the call tells true, and nothing that was there turns. No condition.
-/
import Derived.Test.YtgemoemkgcmcgaaRows
import Derived.Test.YtgemoemkgcmcgaaLaw
import Derived.Test.YtgemoemkgcmcgaaRyIn
import Derived.Test.YtgemoemkgcmcgaaRyZ
import Derived.Test.YtgemoemkgcmcgaaLoW
namespace Go.Proofs.Ytgemoemkgcmcgaa.LinkOpens
open Go Go.Proofs.Ytgemoemkgcmcgaa.Ry Go.Proofs.Ytgemoemkgcmcgaa.Law Go.Proofs.Ytgemoemkgcmcgaa.LoW Go.Proofs.Ytgemoemkgcmcgaa.SeR Go.Proofs.Ytgemoemkgcmcgaa.HaR Go.Proofs.Ytgemoemkgcmcgaa.LiR Go.Proofs.Ytgemoemkgcmcgaa.LkR Go.Proofs.Ytgemoemkgcmcgaa.LoT Go.Proofs.Ytgemoemkgcmcgaa.LoV
open Go.ChangeShapes Go.WideShapes Go.ChangeAt Go.Joins Go.RowKit
open Go.Proofs.Ytgemoemkgcmcgaa.LkS (c_kawake ok_kawake)
open Go.Proofs.Ytgemoemkgcmcgaa.FrQ (c_rbytes ok_rbytes)
structure XA where
  n : Nat
def aQ (w : Int) (y : XA) : Prop := (y.n : Int) ≤ w % 9
noncomputable def aI (G : Ts) (a0 a1 a2 : Int) (y : XA) : St := match y.n with
  | 0 => stOf Try.f4.ntmps [(0, .val (.int .u8 a0)), (1, .val (.int .u8 a1)), (2, .val (.int .u8 a2)), (11, .ptr 1 0), (12, .num .i64 0)] [(1, .cells 54 [.val (.int .i64 (G.t_new 2 5 99).k.h), .val (.int .i64 (G.t_new 2 5 99).k.g), .val (.int .i64 (G.t_new 2 5 99).k.x.l), .val (.int .i64 (G.t_new 2 5 99).k.x.c), .val (.int .i64 (G.t_new 2 5 99).k.x.p), .val (.bool (G.t_new 2 5 99).k.x.o), .val (.int .i64 (G.t_new 2 5 99).k.x.b), .val (.int .i64 (G.t_new 2 5 99).k.x.s), .sl none (.recs (.ints .u8 .nil) (G.t_new 2 5 99).k.x.q), .val (.int .i64 (G.t_new 2 5 99).k.x.t), .val (.int .i64 (G.t_new 2 5 99).k.x.n), .val (.bool (G.t_new 2 5 99).k.x.w), .val (.int .i64 (G.t_new 2 5 99).k.u), .val (.int .i64 (G.t_new 2 5 99).k.v), .val (.int .i64 (G.t_new 1 5 99).k.h), .val (.int .i64 (G.t_new 1 5 99).k.g), .val (.int .i64 (G.t_new 1 5 99).k.x.l), .val (.int .i64 (G.t_new 1 5 99).k.x.c), .val (.int .i64 (G.t_new 1 5 99).k.x.p), .val (.bool (G.t_new 1 5 99).k.x.o), .val (.int .i64 (G.t_new 1 5 99).k.x.b), .val (.int .i64 (G.t_new 1 5 99).k.x.s), .sl none (.recs (.ints .u8 .nil) (G.t_new 1 5 99).k.x.q), .val (.int .i64 (G.t_new 1 5 99).k.x.t), .val (.int .i64 (G.t_new 1 5 99).k.x.n), .val (.bool (G.t_new 1 5 99).k.x.w), .val (.int .i64 (G.t_new 1 5 99).k.u), .val (.int .i64 (G.t_new 1 5 99).k.v)])] [Any, Any, Any]
  | 1 => stOf Try.f4.ntmps [(0, .val (.int .u8 a0)), (1, .val (.int .u8 a1)), (2, .val (.int .u8 a2)), (11, .ptr 1 0), (12, .num .i64 1)] [(1, .cells 54 [.val (.int .i64 (G.t_new 2 5 99).k.h), .val (.int .i64 (G.t_new 2 5 99).k.g), .val (.int .i64 (G.t_new 2 5 99).k.x.l), .val (.int .i64 (G.t_new 2 5 99).k.x.c), .val (.int .i64 (G.t_new 2 5 99).k.x.p), .val (.bool (G.t_new 2 5 99).k.x.o), .val (.int .i64 (G.t_new 2 5 99).k.x.b), .val (.int .i64 (G.t_new 2 5 99).k.x.s), .sl none (.recs (.ints .u8 .nil) (G.t_new 2 5 99).k.x.q), .val (.int .i64 (G.t_new 2 5 99).k.x.t), .val (.int .i64 (G.t_new 2 5 99).k.x.n), .val (.bool (G.t_new 2 5 99).k.x.w), .val (.int .i64 (G.t_new 2 5 99).k.u), .val (.int .i64 (G.t_new 2 5 99).k.v), .val (.int .i64 (G.t_new 1 5 99).k.h), .val (.int .i64 (G.t_new 1 5 99).k.g), .val (.int .i64 (G.t_new 1 5 99).k.x.l), .val (.int .i64 (G.t_new 1 5 99).k.x.c), .val (.int .i64 (G.t_new 1 5 99).k.x.p), .val (.bool (G.t_new 1 5 99).k.x.o), .val (.int .i64 (G.t_new 1 5 99).k.x.b), .val (.int .i64 (G.t_new 1 5 99).k.x.s), .sl none (.recs (.ints .u8 .nil) (G.t_new 1 5 99).k.x.q), .val (.int .i64 (G.t_new 1 5 99).k.x.t), .val (.int .i64 (G.t_new 1 5 99).k.x.n), .val (.bool (G.t_new 1 5 99).k.x.w), .val (.int .i64 (G.t_new 1 5 99).k.u), .val (.int .i64 (G.t_new 1 5 99).k.v)])] [Any, Any, Any]
  | 2 => stOf Try.f4.ntmps [(0, .val (.int .u8 a0)), (1, .val (.int .u8 a1)), (2, .val (.int .u8 a2)), (11, .ptr 1 0), (12, .num .i64 2)] [(1, .cells 54 [.val (.int .i64 (G.t_new 2 5 99).k.h), .val (.int .i64 (G.t_new 2 5 99).k.g), .val (.int .i64 (G.t_new 2 5 99).k.x.l), .val (.int .i64 (G.t_new 2 5 99).k.x.c), .val (.int .i64 (G.t_new 2 5 99).k.x.p), .val (.bool (G.t_new 2 5 99).k.x.o), .val (.int .i64 (G.t_new 2 5 99).k.x.b), .val (.int .i64 (G.t_new 2 5 99).k.x.s), .sl none (.recs (.ints .u8 .nil) (G.t_new 2 5 99).k.x.q), .val (.int .i64 (G.t_new 2 5 99).k.x.t), .val (.int .i64 (G.t_new 2 5 99).k.x.n), .val (.bool (G.t_new 2 5 99).k.x.w), .val (.int .i64 (G.t_new 2 5 99).k.u), .val (.int .i64 (G.t_new 2 5 99).k.v), .val (.int .i64 (G.t_new 1 5 99).k.h), .val (.int .i64 (G.t_new 1 5 99).k.g), .val (.int .i64 (G.t_new 1 5 99).k.x.l), .val (.int .i64 (G.t_new 1 5 99).k.x.c), .val (.int .i64 (G.t_new 1 5 99).k.x.p), .val (.bool (G.t_new 1 5 99).k.x.o), .val (.int .i64 (G.t_new 1 5 99).k.x.b), .val (.int .i64 (G.t_new 1 5 99).k.x.s), .sl none (.recs (.ints .u8 .nil) (G.t_new 1 5 99).k.x.q), .val (.int .i64 (G.t_new 1 5 99).k.x.t), .val (.int .i64 (G.t_new 1 5 99).k.x.n), .val (.bool (G.t_new 1 5 99).k.x.w), .val (.int .i64 (G.t_new 1 5 99).k.u), .val (.int .i64 (G.t_new 1 5 99).k.v)])] [Any, Any, Any]
  | 3 => stOf Try.f4.ntmps [(0, .val (.int .u8 a0)), (1, .val (.int .u8 a1)), (2, .val (.int .u8 a2)), (11, .ptr 1 0), (12, .num .i64 3)] [(1, .cells 54 [.val (.int .i64 (G.t_new 2 5 99).k.h), .val (.int .i64 (G.t_new 2 5 99).k.g), .val (.int .i64 (G.t_new 2 5 99).k.x.l), .val (.int .i64 (G.t_new 2 5 99).k.x.c), .val (.int .i64 (G.t_new 2 5 99).k.x.p), .val (.bool (G.t_new 2 5 99).k.x.o), .val (.int .i64 (G.t_new 2 5 99).k.x.b), .val (.int .i64 (G.t_new 2 5 99).k.x.s), .sl none (.recs (.ints .u8 .nil) (G.t_new 2 5 99).k.x.q), .val (.int .i64 (G.t_new 2 5 99).k.x.t), .val (.int .i64 (G.t_new 2 5 99).k.x.n), .val (.bool (G.t_new 2 5 99).k.x.w), .val (.int .i64 (G.t_new 2 5 99).k.u), .val (.int .i64 (G.t_new 2 5 99).k.v), .val (.int .i64 (G.t_new 1 5 99).k.h), .val (.int .i64 (G.t_new 1 5 99).k.g), .val (.int .i64 (G.t_new 1 5 99).k.x.l), .val (.int .i64 (G.t_new 1 5 99).k.x.c), .val (.int .i64 (G.t_new 1 5 99).k.x.p), .val (.bool (G.t_new 1 5 99).k.x.o), .val (.int .i64 (G.t_new 1 5 99).k.x.b), .val (.int .i64 (G.t_new 1 5 99).k.x.s), .sl none (.recs (.ints .u8 .nil) (G.t_new 1 5 99).k.x.q), .val (.int .i64 (G.t_new 1 5 99).k.x.t), .val (.int .i64 (G.t_new 1 5 99).k.x.n), .val (.bool (G.t_new 1 5 99).k.x.w), .val (.int .i64 (G.t_new 1 5 99).k.u), .val (.int .i64 (G.t_new 1 5 99).k.v)])] [Any, Any, Any]
  | 4 => stOf Try.f4.ntmps [(0, .val (.int .u8 a0)), (1, .val (.int .u8 a1)), (2, .val (.int .u8 a2)), (11, .ptr 1 0), (12, .num .i64 4)] [(1, .cells 54 [.val (.int .i64 (G.t_new 2 5 99).k.h), .val (.int .i64 (G.t_new 2 5 99).k.g), .val (.int .i64 (G.t_new 2 5 99).k.x.l), .val (.int .i64 (G.t_new 2 5 99).k.x.c), .val (.int .i64 (G.t_new 2 5 99).k.x.p), .val (.bool (G.t_new 2 5 99).k.x.o), .val (.int .i64 (G.t_new 2 5 99).k.x.b), .val (.int .i64 (G.t_new 2 5 99).k.x.s), .sl none (.recs (.ints .u8 .nil) (G.t_new 2 5 99).k.x.q), .val (.int .i64 (G.t_new 2 5 99).k.x.t), .val (.int .i64 (G.t_new 2 5 99).k.x.n), .val (.bool (G.t_new 2 5 99).k.x.w), .val (.int .i64 (G.t_new 2 5 99).k.u), .val (.int .i64 (G.t_new 2 5 99).k.v), .val (.int .i64 (G.t_new 1 5 99).k.h), .val (.int .i64 (G.t_new 1 5 99).k.g), .val (.int .i64 (G.t_new 1 5 99).k.x.l), .val (.int .i64 (G.t_new 1 5 99).k.x.c), .val (.int .i64 (G.t_new 1 5 99).k.x.p), .val (.bool (G.t_new 1 5 99).k.x.o), .val (.int .i64 (G.t_new 1 5 99).k.x.b), .val (.int .i64 (G.t_new 1 5 99).k.x.s), .sl none (.recs (.ints .u8 .nil) (G.t_new 1 5 99).k.x.q), .val (.int .i64 (G.t_new 1 5 99).k.x.t), .val (.int .i64 (G.t_new 1 5 99).k.x.n), .val (.bool (G.t_new 1 5 99).k.x.w), .val (.int .i64 (G.t_new 1 5 99).k.u), .val (.int .i64 (G.t_new 1 5 99).k.v)])] [Any, Any, Any]
  | 5 => stOf Try.f4.ntmps [(0, .val (.int .u8 a0)), (1, .val (.int .u8 a1)), (2, .val (.int .u8 a2)), (11, .ptr 1 0), (12, .num .i64 5)] [(1, .cells 54 [.val (.int .i64 (G.t_new 2 5 99).k.h), .val (.int .i64 (G.t_new 2 5 99).k.g), .val (.int .i64 (G.t_new 2 5 99).k.x.l), .val (.int .i64 (G.t_new 2 5 99).k.x.c), .val (.int .i64 (G.t_new 2 5 99).k.x.p), .val (.bool (G.t_new 2 5 99).k.x.o), .val (.int .i64 (G.t_new 2 5 99).k.x.b), .val (.int .i64 (G.t_new 2 5 99).k.x.s), .sl none (.recs (.ints .u8 .nil) (G.t_new 2 5 99).k.x.q), .val (.int .i64 (G.t_new 2 5 99).k.x.t), .val (.int .i64 (G.t_new 2 5 99).k.x.n), .val (.bool (G.t_new 2 5 99).k.x.w), .val (.int .i64 (G.t_new 2 5 99).k.u), .val (.int .i64 (G.t_new 2 5 99).k.v), .val (.int .i64 (G.t_new 1 5 99).k.h), .val (.int .i64 (G.t_new 1 5 99).k.g), .val (.int .i64 (G.t_new 1 5 99).k.x.l), .val (.int .i64 (G.t_new 1 5 99).k.x.c), .val (.int .i64 (G.t_new 1 5 99).k.x.p), .val (.bool (G.t_new 1 5 99).k.x.o), .val (.int .i64 (G.t_new 1 5 99).k.x.b), .val (.int .i64 (G.t_new 1 5 99).k.x.s), .sl none (.recs (.ints .u8 .nil) (G.t_new 1 5 99).k.x.q), .val (.int .i64 (G.t_new 1 5 99).k.x.t), .val (.int .i64 (G.t_new 1 5 99).k.x.n), .val (.bool (G.t_new 1 5 99).k.x.w), .val (.int .i64 (G.t_new 1 5 99).k.u), .val (.int .i64 (G.t_new 1 5 99).k.v)])] [Any, Any, Any]
  | 6 => stOf Try.f4.ntmps [(0, .val (.int .u8 a0)), (1, .val (.int .u8 a1)), (2, .val (.int .u8 a2)), (11, .ptr 1 0), (12, .num .i64 6)] [(1, .cells 54 [.val (.int .i64 (G.t_new 2 5 99).k.h), .val (.int .i64 (G.t_new 2 5 99).k.g), .val (.int .i64 (G.t_new 2 5 99).k.x.l), .val (.int .i64 (G.t_new 2 5 99).k.x.c), .val (.int .i64 (G.t_new 2 5 99).k.x.p), .val (.bool (G.t_new 2 5 99).k.x.o), .val (.int .i64 (G.t_new 2 5 99).k.x.b), .val (.int .i64 (G.t_new 2 5 99).k.x.s), .sl none (.recs (.ints .u8 .nil) (G.t_new 2 5 99).k.x.q), .val (.int .i64 (G.t_new 2 5 99).k.x.t), .val (.int .i64 (G.t_new 2 5 99).k.x.n), .val (.bool (G.t_new 2 5 99).k.x.w), .val (.int .i64 (G.t_new 2 5 99).k.u), .val (.int .i64 (G.t_new 2 5 99).k.v), .val (.int .i64 (G.t_new 1 5 99).k.h), .val (.int .i64 (G.t_new 1 5 99).k.g), .val (.int .i64 (G.t_new 1 5 99).k.x.l), .val (.int .i64 (G.t_new 1 5 99).k.x.c), .val (.int .i64 (G.t_new 1 5 99).k.x.p), .val (.bool (G.t_new 1 5 99).k.x.o), .val (.int .i64 (G.t_new 1 5 99).k.x.b), .val (.int .i64 (G.t_new 1 5 99).k.x.s), .sl none (.recs (.ints .u8 .nil) (G.t_new 1 5 99).k.x.q), .val (.int .i64 (G.t_new 1 5 99).k.x.t), .val (.int .i64 (G.t_new 1 5 99).k.x.n), .val (.bool (G.t_new 1 5 99).k.x.w), .val (.int .i64 (G.t_new 1 5 99).k.u), .val (.int .i64 (G.t_new 1 5 99).k.v)])] [Any, Any, Any]
  | 7 => stOf Try.f4.ntmps [(0, .val (.int .u8 a0)), (1, .val (.int .u8 a1)), (2, .val (.int .u8 a2)), (11, .ptr 1 0), (12, .num .i64 7)] [(1, .cells 54 [.val (.int .i64 (G.t_new 2 5 99).k.h), .val (.int .i64 (G.t_new 2 5 99).k.g), .val (.int .i64 (G.t_new 2 5 99).k.x.l), .val (.int .i64 (G.t_new 2 5 99).k.x.c), .val (.int .i64 (G.t_new 2 5 99).k.x.p), .val (.bool (G.t_new 2 5 99).k.x.o), .val (.int .i64 (G.t_new 2 5 99).k.x.b), .val (.int .i64 (G.t_new 2 5 99).k.x.s), .sl none (.recs (.ints .u8 .nil) (G.t_new 2 5 99).k.x.q), .val (.int .i64 (G.t_new 2 5 99).k.x.t), .val (.int .i64 (G.t_new 2 5 99).k.x.n), .val (.bool (G.t_new 2 5 99).k.x.w), .val (.int .i64 (G.t_new 2 5 99).k.u), .val (.int .i64 (G.t_new 2 5 99).k.v), .val (.int .i64 (G.t_new 1 5 99).k.h), .val (.int .i64 (G.t_new 1 5 99).k.g), .val (.int .i64 (G.t_new 1 5 99).k.x.l), .val (.int .i64 (G.t_new 1 5 99).k.x.c), .val (.int .i64 (G.t_new 1 5 99).k.x.p), .val (.bool (G.t_new 1 5 99).k.x.o), .val (.int .i64 (G.t_new 1 5 99).k.x.b), .val (.int .i64 (G.t_new 1 5 99).k.x.s), .sl none (.recs (.ints .u8 .nil) (G.t_new 1 5 99).k.x.q), .val (.int .i64 (G.t_new 1 5 99).k.x.t), .val (.int .i64 (G.t_new 1 5 99).k.x.n), .val (.bool (G.t_new 1 5 99).k.x.w), .val (.int .i64 (G.t_new 1 5 99).k.u), .val (.int .i64 (G.t_new 1 5 99).k.v)])] [Any, Any, Any]
  | _ => stOf Try.f4.ntmps [(0, .val (.int .u8 a0)), (1, .val (.int .u8 a1)), (2, .val (.int .u8 a2)), (11, .ptr 1 0), (12, .num .i64 8)] [(1, .cells 54 [.val (.int .i64 (G.t_new 2 5 99).k.h), .val (.int .i64 (G.t_new 2 5 99).k.g), .val (.int .i64 (G.t_new 2 5 99).k.x.l), .val (.int .i64 (G.t_new 2 5 99).k.x.c), .val (.int .i64 (G.t_new 2 5 99).k.x.p), .val (.bool (G.t_new 2 5 99).k.x.o), .val (.int .i64 (G.t_new 2 5 99).k.x.b), .val (.int .i64 (G.t_new 2 5 99).k.x.s), .sl none (.recs (.ints .u8 .nil) (G.t_new 2 5 99).k.x.q), .val (.int .i64 (G.t_new 2 5 99).k.x.t), .val (.int .i64 (G.t_new 2 5 99).k.x.n), .val (.bool (G.t_new 2 5 99).k.x.w), .val (.int .i64 (G.t_new 2 5 99).k.u), .val (.int .i64 (G.t_new 2 5 99).k.v), .val (.int .i64 (G.t_new 1 5 99).k.h), .val (.int .i64 (G.t_new 1 5 99).k.g), .val (.int .i64 (G.t_new 1 5 99).k.x.l), .val (.int .i64 (G.t_new 1 5 99).k.x.c), .val (.int .i64 (G.t_new 1 5 99).k.x.p), .val (.bool (G.t_new 1 5 99).k.x.o), .val (.int .i64 (G.t_new 1 5 99).k.x.b), .val (.int .i64 (G.t_new 1 5 99).k.x.s), .sl none (.recs (.ints .u8 .nil) (G.t_new 1 5 99).k.x.q), .val (.int .i64 (G.t_new 1 5 99).k.x.t), .val (.int .i64 (G.t_new 1 5 99).k.x.n), .val (.bool (G.t_new 1 5 99).k.x.w), .val (.int .i64 (G.t_new 1 5 99).k.u), .val (.int .i64 (G.t_new 1 5 99).k.v)])] [Any, Any, Any]
def aM (y : XA) : Nat := 9 - y.n
def aR (st : St) : XA := ⟨match slotC st 12 with | .num _ n => n.toNat | _ => 99⟩
theorem tick_a : kbB (newK 2 5 99).k = true ∧ (newK 2 5 99).e = 0 ∧ (tikK (newK 2 5 99).k 99).e = 0 ∧ (tikK (newK 2 5 99).k 99).k = (newK 2 5 99).k := ⟨by decide +kernel, by decide +kernel, by decide +kernel, by kernel_rfl⟩
theorem tick_b : kbB (newK 1 5 99).k = true ∧ (newK 1 5 99).e = 0 ∧ (tikK (newK 1 5 99).k 99).e = 0 ∧ (tikK (newK 1 5 99).k 99).k = (newK 1 5 99).k := ⟨by decide +kernel, by decide +kernel, by decide +kernel, by kernel_rfl⟩
theorem hold6 {A : Ar} {cx : Cx} {L : Code → St → (Ex → St → Prop) → Prop} {s : St} {K : Ex → St → Prop} (h : Hold (Cd A cx L (tl 6 (bodyOf Try.f4)) s K)) : Cd A cx L (tl 6 (bodyOf Try.f4)) s K := h.run
set_option maxRecDepth 100000 in
theorem tailB2 (a0 a1 a2 n e5 e6 : Int) (e7 : Bool) (hw0 : 0 ≤ a0 ∧ a0 ≤ 255) (hw : 0 ≤ a1 ∧ a1 ≤ 255) (s : St) (hs : s = stOf Try.f4.ntmps [(0, .val (.int .u8 a0)), (1, .val (.int .u8 a1)), (2, .val (.int .u8 a2)), (11, .ptr 1 0), (12, .num .i64 n), (43, .num .i64 n), (44, .val (.int .u8 a2)), (45, .val (.int .u8 e5)), (46, .val (.int .i64 e6)), (47, .val (.bool e7))] [(1, .cells 54 [.val (.int .i64 (Lw.std.o 0).a.h), .val (.int .i64 (Lw.std.o 0).a.g), .val (.int .i64 (Lw.std.o 0).a.x.l), .val (.int .i64 (Lw.std.o 0).a.x.c), .val (.int .i64 (Lw.std.o 0).a.x.p), .val (.bool (Lw.std.o 0).a.x.o), .val (.int .i64 (Lw.std.o 0).a.x.b), .val (.int .i64 (Lw.std.o 0).a.x.s), .sl none (.recs (.ints .u8 .nil) (Lw.std.o 0).a.x.q), .val (.int .i64 (Lw.std.o 0).a.x.t), .val (.int .i64 (Lw.std.o 0).a.x.n), .val (.bool (Lw.std.o 0).a.x.w), .val (.int .i64 (Lw.std.o 0).a.u), .val (.int .i64 (Lw.std.o 0).a.v), .val (.int .i64 (Lw.std.o 0).b.h), .val (.int .i64 (Lw.std.o 0).b.g), .val (.int .i64 (Lw.std.o 0).b.x.l), .val (.int .i64 (Lw.std.o 0).b.x.c), .val (.int .i64 (Lw.std.o 0).b.x.p), .val (.bool (Lw.std.o 0).b.x.o), .val (.int .i64 (Lw.std.o 0).b.x.b), .val (.int .i64 (Lw.std.o 0).b.x.s), .sl none (.recs (.ints .u8 .nil) (Lw.std.o 0).b.x.q), .val (.int .i64 (Lw.std.o 0).b.x.t), .val (.int .i64 (Lw.std.o 0).b.x.n), .val (.bool (Lw.std.o 0).b.x.w), .val (.int .i64 (Lw.std.o 0).b.u), .val (.int .i64 (Lw.std.o 0).b.v)])] [Any, Any, Any]) : ∀ b gv, ex Ar.std (cxOf [(17, c_knew LkR.Ts.std), (18, c_ktick LkR.Ts.std), (19, c_khear LkR.Ts.std), (20, c_rbytes FrQ.Qs.std), (21, c_kawake LkS.Vs2.std)]) (Lp Try.prog b gv) (tl 6 (bodyOf Try.f4)) s (fin Ar.std (cxOf [(17, c_knew LkR.Ts.std), (18, c_ktick LkR.Ts.std), (19, c_khear LkR.Ts.std), (20, c_rbytes FrQ.Qs.std), (21, c_kawake LkS.Vs2.std)]) Try.f4.results.toList ⟨True, .sa (B true), [], [Any, Any, Any]⟩) := by
  rw [hs]
  exact @tailB a0 a1 a2 n e5 e6 e7 hw0 hw
set_option maxHeartbeats 4000000 in
set_option cbv.maxSteps 4000000 in
set_option maxRecDepth 100000 in
theorem x_law (a0 : Int) (a1 : Int) (a2 : Int) (w0 : 0 ≤ a0 ∧ a0 ≤ 255) (w1 : 0 ≤ a1 ∧ a1 ≤ 255) (w2 : 0 ≤ a2 ∧ a2 ≤ 255) (_ : sized [.one (.val (.int .u8 a0)), .one (.val (.int .u8 a1)), .one (.val (.int .u8 a2))]) : Does [(17, c_knew LkR.Ts.std), (18, c_ktick LkR.Ts.std), (19, c_khear LkR.Ts.std), (20, c_rbytes FrQ.Qs.std), (21, c_kawake LkS.Vs2.std)] Try.f4 [.one (.val (.int .u8 a0)), .one (.val (.int .u8 a1)), .one (.val (.int .u8 a2))] [] ⟨True, .sa (B true), [], [Any, Any, Any]⟩ := by
  intro b gv
  have m0 := Int.emod_nonneg a2 (show (9 : Int) ≠ 0 by decide)
  have m1 := Int.emod_lt_of_pos a2 (show (0 : Int) < 9 by decide)
  have hrem : stdBin .rem .u8 a2 9 = a2 % 9 := Int.tmod_eq_emod_of_nonneg w2.1
  have hcv : IntKind.i64.wrap (a2 % 9) = a2 % 9 := wr _ (by omega) (by omega)
  obtain ⟨ta1, ta2, ta3, ta4⟩ := tick_a
  obtain ⟨tb1, tb2, tb3, tb4⟩ := tick_b
  have hfs := (FsOk.cons ok_knew (FsOk.cons ok_ktick (FsOk.cons ok_khear (FsOk.cons ok_rbytes (FsOk.cons ok_kawake FsOk.nil rfl) rfl) rfl) rfl) rfl)
  generalize hF : LkR.Ts.std = F at hfs ⊢
  generalize hA : Ar.std = A
  generalize hL : Lp _ _ _ = L
  obtain ⟨Z, zq⟩ := z_all
  refine @cd_open _ _ _ _ _ _ _ (lp_mono hL) _ _ zq rfl ?_
  repeat' (first
    | refine hold6 ?_
    | (refine z_open zq ?_; try dsimp only)
    | refine cd_seq zq ?_ (lp_mono hL)
    | refine cd_blk zq ?_
    | refine cd_ret ?_
    | refine cd_skip ?_
    | refine cd_exit ?_
    | refine cd_loop ?_
    | refine cd_cond rfl ?_
    | refine cd_condT rfl ?_
    | refine cd_condF rfl ?_
    | (refine Cd.mk ?_; cbv)
    | (refine Ends1.mk ?_; cbv)
    | (refine Fin1.mk ?_; cbv)
    | exact trivial
    | refine And.intro ?_ ?_
    | refine orf fun _ => ?_
    | refine ort fun _ => ?_)
  all_goals first | (show L _ _ _; skip) | (clear hL hfs zq Z; subst hA hF; simp only [LkR.Ts.std, Ar.std] at * <;> grind [stdCmp]; done)
  subst hL
  refine loop_z (cx_ok hfs) (aQ a2) (aI F a0 a1 a2) aM aR ⟨0⟩ ?_ ?_ ?_
  · show (0 : Int) ≤ a2 % 9
    omega
  · cbv
    repeat' (first | exact trivial | exact rfl | refine And.intro ?_ ?_)
  rintro ⟨n⟩ hqA O hO
  have hn : n = 0 ∨ n = 1 ∨ n = 2 ∨ n = 3 ∨ n = 4 ∨ n = 5 ∨ n = 6 ∨ n = 7 ∨ n = 8 := by
    have : (n : Int) ≤ a2 % 9 := hqA
    omega
  subst hA
  generalize hA : Ar.std = A
  generalize hL : Lp _ _ _ = L
  rcases hn with rfl | rfl | rfl | rfl | rfl | rfl | rfl | rfl | rfl <;> refine cd_close zq ?_
  all_goals
    repeat' (first
      | refine hold6 ?_
      | (refine z_open zq ?_; try dsimp only)
      | refine cd_seq zq ?_ (lp_mono hL)
      | refine cd_blk zq ?_
      | refine cd_ret ?_
      | refine cd_skip ?_
      | refine cd_exit ?_
      | refine cd_loop ?_
      | refine cd_cond rfl ?_
      | refine cd_condT rfl ?_
      | refine cd_condF rfl ?_
      | (refine Cd.mk ?_; cbv)
      | (refine Ends1.mk ?_; cbv)
      | (refine Fin1.mk ?_; cbv)
      | exact trivial
      | refine And.intro ?_ ?_
      | refine orf fun _ => ?_
      | refine ort fun _ => ?_)
  all_goals first | (show Hold _; skip) | (clear hL hfs zq Z; subst hA hF hO; simp only [LkR.Ts.std, Ar.std, eta_LN, eta_KN, aQ, aM] at * <;> grind [stdCmp]; done)
  all_goals (clear hfs hqA; subst hF hA hL)
  · refine ⟨@cut_to _ _ _ _ _ _ _ _ zq (@tailB2 a0 a1 a2 0 (Ar.std.bin .rem .u8 a2 9) (Ar.std.conv .i64 (Ar.std.bin .rem .u8 a2 9)) (Ar.std.cmp .lss 0 (Ar.std.conv .i64 (Ar.std.bin .rem .u8 a2 9))) w0 w1 _ ?_)⟩
    kernel_rfl
  · refine ⟨@cut_to _ _ _ _ _ _ _ _ zq (@tailB2 a0 a1 a2 1 (Ar.std.bin .rem .u8 a2 9) (Ar.std.conv .i64 (Ar.std.bin .rem .u8 a2 9)) (Ar.std.cmp .lss 1 (Ar.std.conv .i64 (Ar.std.bin .rem .u8 a2 9))) w0 w1 _ ?_)⟩
    kernel_rfl
  · refine ⟨@cut_to _ _ _ _ _ _ _ _ zq (@tailB2 a0 a1 a2 2 (Ar.std.bin .rem .u8 a2 9) (Ar.std.conv .i64 (Ar.std.bin .rem .u8 a2 9)) (Ar.std.cmp .lss 2 (Ar.std.conv .i64 (Ar.std.bin .rem .u8 a2 9))) w0 w1 _ ?_)⟩
    kernel_rfl
  · refine ⟨@cut_to _ _ _ _ _ _ _ _ zq (@tailB2 a0 a1 a2 3 (Ar.std.bin .rem .u8 a2 9) (Ar.std.conv .i64 (Ar.std.bin .rem .u8 a2 9)) (Ar.std.cmp .lss 3 (Ar.std.conv .i64 (Ar.std.bin .rem .u8 a2 9))) w0 w1 _ ?_)⟩
    kernel_rfl
  · refine ⟨@cut_to _ _ _ _ _ _ _ _ zq (@tailB2 a0 a1 a2 4 (Ar.std.bin .rem .u8 a2 9) (Ar.std.conv .i64 (Ar.std.bin .rem .u8 a2 9)) (Ar.std.cmp .lss 4 (Ar.std.conv .i64 (Ar.std.bin .rem .u8 a2 9))) w0 w1 _ ?_)⟩
    kernel_rfl
  · refine ⟨@cut_to _ _ _ _ _ _ _ _ zq (@tailB2 a0 a1 a2 5 (Ar.std.bin .rem .u8 a2 9) (Ar.std.conv .i64 (Ar.std.bin .rem .u8 a2 9)) (Ar.std.cmp .lss 5 (Ar.std.conv .i64 (Ar.std.bin .rem .u8 a2 9))) w0 w1 _ ?_)⟩
    kernel_rfl
  · refine ⟨@cut_to _ _ _ _ _ _ _ _ zq (@tailB2 a0 a1 a2 6 (Ar.std.bin .rem .u8 a2 9) (Ar.std.conv .i64 (Ar.std.bin .rem .u8 a2 9)) (Ar.std.cmp .lss 6 (Ar.std.conv .i64 (Ar.std.bin .rem .u8 a2 9))) w0 w1 _ ?_)⟩
    kernel_rfl
  · refine ⟨@cut_to _ _ _ _ _ _ _ _ zq (@tailB2 a0 a1 a2 7 (Ar.std.bin .rem .u8 a2 9) (Ar.std.conv .i64 (Ar.std.bin .rem .u8 a2 9)) (Ar.std.cmp .lss 7 (Ar.std.conv .i64 (Ar.std.bin .rem .u8 a2 9))) w0 w1 _ ?_)⟩
    kernel_rfl
  · refine ⟨@cut_to _ _ _ _ _ _ _ _ zq (@tailB2 a0 a1 a2 8 (Ar.std.bin .rem .u8 a2 9) (Ar.std.conv .i64 (Ar.std.bin .rem .u8 a2 9)) (Ar.std.cmp .lss 8 (Ar.std.conv .i64 (Ar.std.bin .rem .u8 a2 9))) w0 w1 _ ?_)⟩
    kernel_rfl
theorem walk (a0 : Int) (a1 : Int) (a2 : Int) (w : World) (w0 : (Lit.int .u8 a0).wf = true) (w1 : (Lit.int .u8 a1).wf = true) (w2 : (Lit.int .u8 a2).wf = true) : Calls Try.prog 4 #[.int .u8 a0, .int .u8 a1, .int .u8 a2] w (Law.Yes w) :=
  yes_of (FsOk.cons ok_knew (FsOk.cons ok_ktick (FsOk.cons ok_khear (FsOk.cons ok_rbytes (FsOk.cons ok_kawake FsOk.nil rfl) rfl) rfl) rfl) rfl) Try.func4 rfl (vs := [.int .u8 a0, .int .u8 a1, .int .u8 a2]) (by exact ⟨rfl, rfl, rfl, trivial⟩) (lee_le rfl) fun hZ => x_law a0 a1 a2 (wf8 w0) (wf8 w1) (wf8 w2) hZ
theorem own : ownKnob Try.prog.godebug = none := by kernel_rfl
theorem laidOut : laidOutB Try.prog = true := by kernel_rfl
set_option maxRecDepth 100000 in
theorem lifted (os : Os) (started : os.Started) (H : Type) (enc : TypeId × Value → H) :
    ReturnsInHanded {} Try.checked os 4 .any (Rows.linkOpensSpec.pre6 enc Try.prog Try.f4 Rows.linkOpensRow.domain false) (Rows.linkOpensSpec.post enc Try.prog Try.f4 false true false false) := by
  refine returnsInHanded_of_change_sized (C := Try.checked) own started (by kernel_rfl) Try.func4
    (ChangeSpec.witness6 (enc := enc) (C := Try.checked) false ⟨#[], #[.int .u8 0, .int .u8 0, .int .u8 0], []⟩ 8 (by kernel_rfl) (by kernel_rfl) (by kernel_rfl) (by kernel_rfl)) ?_
  intro W base args ds gs before hval0 hW _ hz _
  have hval : ∀ (j : Nat) t v, Try.f4.params[j]? = some t → args[j]? = some v → Value.okWide Try.prog W .any base t v := hval0
  have hW' := hW
  obtain ⟨p, q, hA0, hV, rfl, _, _⟩ := hW
  have hA : DataW.TrodAll enc Try.prog W 0 (fun _ => true) true Try.f4.params.toList args.toList ds p := hA0
  rw [Try.params4] at hA hval
  obtain ⟨v0, v1, v2, d0, d1, d2, p0, p1, p2, rfl, rfl, rfl, h0, h1, h2⟩ := trodAll_three hA
  obtain ⟨rfl, rfl⟩ := trodVars_none hV
  obtain ⟨a0, rfl, rfl, rfl, w0⟩ := open_int Try.underlying5 (hval 0 5 v0 rfl rfl) h0
  obtain ⟨a1, rfl, rfl, rfl, w1⟩ := open_int Try.underlying5 (hval 1 5 v1 rfl rfl) h1
  obtain ⟨a2, rfl, rfl, rfl, w2⟩ := open_int Try.underlying5 (hval 2 5 v2 rfl rfl) h2
  refine (walk a0 a1 a2 W w0 w1 w2).mono fun e W' ⟨he, hb⟩ => ?_
  subst he
  exact ⟨_, rfl, law_post laidOut (by kernel_rfl) (by kernel_rfl) Try.underlying4 rfl hW' rfl hb⟩
theorem proved : Rows.LinkOpensSaid :=
  OpenClaim.holds_of_wide 4 Try.f4 rfl rfl rfl rfl rfl rfl rfl ⟨rfl, rfl, rfl, rfl, rfl⟩ rfl rfl rfl rfl rfl (by kernel_rfl) Try.func4 (by kernel_rfl)
    (of_decide_eq_true (by kernel_rfl)) (by unfold Func.isWrapper; first | (rw [if_pos (by decide +kernel)]; kernel_rfl) | (rw [if_neg (by decide +kernel)]; exact ⟨rfl, rfl⟩))
    (fun os started H enc _ => lifted os started H enc)
end Go.Proofs.Ytgemoemkgcmcgaa.LinkOpens
