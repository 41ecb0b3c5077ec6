/-
  The seat's types, as the reckoner asks for them. No condition.
-/
import Derived.Test.YtmhhofnkipeffaaProg
import Derived.Test.YtmhhofnkipeffaaRyB
namespace Go.Proofs.Ytmhhofnkipeffaa.Ry
open Go
def tt : List (Nat × TI) := [
  (1, ⟨.other, 1, [.nilFunc], false, none⟩),
  (2, ⟨.int .i64, 1, [.int .i64 0], false, none⟩),
  (3, ⟨.int .i64, 1, [.int .i64 0], false, none⟩),
  (4, ⟨.bool, 1, [.bool false], false, none⟩),
  (5, ⟨.int .u8, 1, [.int .u8 0], false, none⟩),
  (6, ⟨.int .u8, 1, [.int .u8 0], false, none⟩),
  (7, ⟨.struct [(0, 1, false, 1), (1, 1, false, 1), (2, 1, false, 2), (3, 1, false, 1)], 4, [.int .i64 0, .int .i64 0, .bool false, .int .u8 0], true, none⟩),
  (8, ⟨.struct [(0, 1, false, 1), (1, 1, false, 1), (2, 1, false, 2), (3, 1, false, 1)], 4, [.int .i64 0, .int .i64 0, .bool false, .int .u8 0], true, none⟩),
  (9, ⟨.str, 1, [.string ⟨#[]⟩], false, none⟩),
  (10, ⟨.str, 1, [.string ⟨#[]⟩], false, none⟩),
  (11, ⟨.str, 1, [.string ⟨#[]⟩], false, none⟩),
  (12, ⟨.int .u64, 1, [.int .u64 0], false, none⟩),
  (13, ⟨.struct [(0, 1, false, 0), (1, 1, false, 1)], 2, [.string ⟨#[]⟩, .int .u64 0], false, none⟩),
  (14, ⟨.struct [(0, 1, false, 0), (1, 1, false, 1)], 2, [.string ⟨#[]⟩, .int .u64 0], false, none⟩),
  (15, ⟨.ptr, 1, [.pointer none], false, none⟩),
  (16, ⟨.ptr, 1, [.pointer none], false, none⟩),
  (17, ⟨.ptr, 1, [.pointer none], false, none⟩),
  (18, ⟨.struct [(0, 1, false, 0)], 1, [.pointer none], false, none⟩),
  (19, ⟨.struct [(0, 1, false, 0)], 1, [.pointer none], false, none⟩),
  (20, ⟨.other, 1, [.nilIface], false, none⟩),
  (21, ⟨.int .i32, 1, [.int .i32 0], false, none⟩),
  (22, ⟨.slice 43 3, 1, [.slice none 0 0], false, none⟩),
  (23, ⟨.other, 1, [.nilFunc], false, none⟩),
  (24, ⟨.int .i64, 1, [.int .i64 0], false, none⟩),
  (26, ⟨.other, 1, [.nilFunc], false, none⟩),
  (27, ⟨.other, 1, [.nilFunc], false, none⟩),
  (28, ⟨.other, 1, [.nilFunc], false, none⟩),
  (29, ⟨.slice 3 1, 1, [.slice none 0 0], false, none⟩),
  (30, ⟨.other, 1, [.nilFunc], false, none⟩),
  (31, ⟨.other, 1, [.nilFunc], false, none⟩),
  (32, ⟨.other, 1, [.nilFunc], false, none⟩),
  (33, ⟨.other, 1, [.nilFunc], false, none⟩),
  (34, ⟨.array 2 1 false, 2, [.int .i64 0, .int .i64 0], true, some (.int .i64 .nil)⟩),
  (35, ⟨.slice 29 1, 1, [.slice none 0 0], false, none⟩),
  (37, ⟨.other, 1, [.nilFunc], false, none⟩),
  (38, ⟨.other, 1, [.nilFunc], false, none⟩),
  (39, ⟨.other, 1, [.nilFunc], false, none⟩),
  (40, ⟨.other, 1, [.nilFunc], false, none⟩),
  (41, ⟨.other, 1, [.nilFunc], false, none⟩),
  (42, ⟨.struct [(0, 1, false, 1), (1, 1, false, 1), (2, 1, false, 1)], 3, [.int .i64 0, .int .i64 0, .int .i64 0], true, none⟩),
  (43, ⟨.struct [(0, 1, false, 1), (1, 1, false, 1), (2, 1, false, 1)], 3, [.int .i64 0, .int .i64 0, .int .i64 0], true, none⟩),
  (45, ⟨.other, 1, [.nilFunc], false, none⟩),
  (46, ⟨.other, 1, [.nilFunc], false, none⟩),
  (47, ⟨.other, 1, [.nilFunc], false, none⟩),
  (48, ⟨.other, 1, [.nilFunc], false, none⟩),
  (49, ⟨.other, 1, [.nilFunc], false, none⟩),
  (50, ⟨.other, 1, [.nilFunc], false, none⟩),
  (51, ⟨.array 65 1 false, 65, List.replicate 65 (.bool false), false, some (.bool .nil)⟩),
  (52, ⟨.array 65 65 true, 4225, List.replicate 4225 (.bool false), false, some (.bool .nil)⟩),
  (53, ⟨.other, 1, [.nilFunc], false, none⟩),
  (54, ⟨.mapII, 1, [.map none], false, none⟩),
  (55, ⟨.other, 1, [.nilFunc], false, none⟩),
  (57, ⟨.other, 1, [.nilFunc], false, none⟩),
  (58, ⟨.other, 1, [.nilFunc], false, none⟩),
  (59, ⟨.ptr, 1, [.pointer none], false, none⟩),
  (60, ⟨.other, 1, [.nilFunc], false, none⟩),
  (61, ⟨.other, 1, [.nilFunc], false, none⟩),
  (62, ⟨.other, 1, [.nilFunc], false, none⟩),
  (63, ⟨.other, 1, [.nilFunc], false, none⟩),
  (64, ⟨.other, 1, [.nilFunc], false, none⟩),
  (65, ⟨.int .u64, 1, [.int .u64 0], false, none⟩),
  (66, ⟨.other, 1, [.nilFunc], false, none⟩),
  (67, ⟨.other, 1, [.nilFunc], false, none⟩),
  (68, ⟨.other, 1, [.nilFunc], false, none⟩),
  (69, ⟨.array 65 1 false, 65, List.replicate 65 (.int .i64 0), true, some (.int .i64 .nil)⟩),
  (70, ⟨.other, 1, [.nilFunc], false, none⟩),
  (72, ⟨.other, 1, [.nilFunc], false, none⟩),
  (73, ⟨.other, 1, [.nilFunc], false, none⟩),
  (74, ⟨.int .i64, 1, [.int .i64 0], false, none⟩),
  (76, ⟨.other, 1, [.nilFunc], false, none⟩),
  (77, ⟨.other, 1, [.nilFunc], false, none⟩),
  (78, ⟨.other, 1, [.nilFunc], false, none⟩),
  (80, ⟨.other, 1, [.nilFunc], false, none⟩),
  (81, ⟨.other, 1, [.nilFunc], false, none⟩),
  (82, ⟨.int .u32, 1, [.int .u32 0], false, none⟩),
  (83, ⟨.other, 1, [.nilFunc], false, none⟩),
  (84, ⟨.int .u64, 1, [.int .u64 0], false, none⟩),
  (85, ⟨.struct [(0, 1, false, 0), (1, 1, false, 0), (2, 1, false, 1)], 3, [.slice none 0 0, .slice none 0 0, .int .i64 0], false, none⟩),
  (86, ⟨.struct [(0, 1, false, 0), (1, 1, false, 0), (2, 1, false, 1)], 3, [.slice none 0 0, .slice none 0 0, .int .i64 0], false, none⟩),
  (87, ⟨.int .u64, 1, [.int .u64 0], false, none⟩),
  (88, ⟨.other, 1, [.nilFunc], false, none⟩),
  (89, ⟨.other, 1, [.nilFunc], false, none⟩),
  (90, ⟨.other, 1, [.nilFunc], false, none⟩),
  (91, ⟨.ptr, 1, [.pointer none], false, none⟩),
  (92, ⟨.other, 1, [.nilFunc], false, none⟩),
  (93, ⟨.ptr, 1, [.pointer none], false, none⟩),
  (95, ⟨.other, 1, [.nilFunc], false, none⟩),
  (96, ⟨.other, 1, [.nilFunc], false, none⟩),
  (97, ⟨.struct [(0, 1, false, 0), (1, 1, false, 0), (2, 1, false, 0), (3, 1, false, 0)], 4, [.pointer none, .pointer none, .pointer none, .string ⟨#[]⟩], false, none⟩),
  (98, ⟨.struct [(0, 1, false, 0), (1, 1, false, 0), (2, 1, false, 0), (3, 1, false, 0)], 4, [.pointer none, .pointer none, .pointer none, .string ⟨#[]⟩], false, none⟩),
  (99, ⟨.array 0 1 false, 0, [], false, none⟩),
  (100, ⟨.struct [(0, 0, true, 0)], 0, [], false, none⟩),
  (101, ⟨.struct [(0, 0, true, 0)], 0, [], false, none⟩),
  (102, ⟨.other, 1, [.nilFunc], false, none⟩),
  (103, ⟨.int .u8, 1, [.int .u8 0], false, none⟩),
  (104, ⟨.int .u8, 1, [.int .u8 0], false, none⟩),
  (105, ⟨.other, 1, [.nilFunc], false, none⟩),
  (106, ⟨.ptr, 1, [.pointer none], false, none⟩),
  (107, ⟨.int .i32, 1, [.int .i32 0], false, none⟩),
  (108, ⟨.int .i32, 1, [.int .i32 0], false, none⟩),
  (109, ⟨.struct [(0, 1, false, 1), (1, 1, false, 1), (2, 1, false, 1), (3, 1, false, 1), (4, 1, false, 1), (5, 1, false, 1), (6, 1, false, 1), (7, 1, false, 0), (8, 1, false, 0), (9, 1, false, 1), (10, 1, false, 1)], 11, [.int .u64 0, .int .u64 0, .int .u32 0, .int .u8 0, .int .u8 0, .int .u8 0, .int .u8 0, .nilFunc, .pointer none, .int .i32 0, .int .i32 0], false, none⟩),
  (110, ⟨.struct [(0, 1, false, 1), (1, 1, false, 1), (2, 1, false, 1), (3, 1, false, 1), (4, 1, false, 1), (5, 1, false, 1), (6, 1, false, 1), (7, 1, false, 0), (8, 1, false, 0), (9, 1, false, 1), (10, 1, false, 1)], 11, [.int .u64 0, .int .u64 0, .int .u32 0, .int .u8 0, .int .u8 0, .int .u8 0, .int .u8 0, .nilFunc, .pointer none, .int .i32 0, .int .i32 0], false, none⟩),
  (111, ⟨.other, 1, [.pointer none], false, none⟩)
]
def hs : List (Nat × Ct) := [
  (22, .recs (.int .i64 (.int .i64 (.int .i64 .nil))) []),
  (29, .ints .i64 []),
  (35, .recs (.ints .i64 .nil) [])
]
def bs : List (Nat × Nat) := [
  (3, 8),
  (29, 24),
  (43, 24)
]
theorem bs_ok : bs.map (fun p => (Try.prog.info? p.1).map (·.bytes)) = bs.map (fun p => some p.2) := by kernel_rfl
theorem sz_ok : tt.all (fun p => eqn p.2.zero.length p.2.size) = true := by kernel_rfl
def zrAll : List (Nat × Ct) → Prop
  | [] => True
  | (t, c) :: l => zr1 tt t c ∧ zrAll l
theorem zr_ok : zrAll hs := by
  unfold hs zrAll
  repeat' (first | exact trivial | exact ⟨rfl, rfl⟩ | refine And.intro ?_ ?_)
theorem tt_ok : tt.map (fun p => tiOf Try.prog p.1) = tt.map (fun p => some p.2) := by kernel_rfl
end Go.Proofs.Ytmhhofnkipeffaa.Ry
