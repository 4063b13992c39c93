/-
  Texts: V46, P77, P78, V33, P63, P79.
-/
import Derived.Test.YtfoklomipdkomaaDoorM1
import Derived.Test.YtfoklomipdkomaaDoorM2
import Derived.Test.YtfoklomipdkomaaDoorM3
import Derived.Test.YtfoklomipdkomaaDoorM4
import Derived.Test.YtfoklomipdkomaaDoorM5
import Derived.Test.YtfoklomipdkomaaDoorM6
import Derived.Test.YtfoklomipdkomaaDoorM7
import Derived.Test.YtfoklomipdkomaaDoorM8
import Derived.Test.YtfoklomipdkomaaDoorM9
import Derived.Test.YtfoklomipdkomaaDoorM10
import Derived.Test.YtfoklomipdkomaaDoorM11
section
/-
  The duty of the reference's soaking, whatever turns.
-/
namespace Go.Proofs.YtfoklomipdkomaaDoor
open Go Go.Sx Go.RowKit
def cxSoaked (T : (Nat → BitVec 64) → Nat → BitVec 64) : Cx := ⟨[(12, specSp (fun _ _ _ => []) fun _ H N => .one (sB (!mayG H N))), (13, specStr25 fun a s => T (absB a (strF s) 136))], [], 0⟩
def zSp : List SK := List.replicate 25 (.c (.num .u64 0)) ++ List.replicate 136 (.c (.num .u8 0)) ++ [.c (.num .i64 0)]
def invEat (L H : Nat → Int) (N : Int) (P : (Nat → BitVec 64) → ByteArray → Prop) : Inv where
  X := (Nat → BitVec 64) × ByteArray
  tm y := slotsAt 52 [(4, .one (.sc (.ptr 1 0))), (7, .one (.sc (.val (.string y.2)))), (8, .one (.sc (.ptr 3 0)))]
  ob y := [.cells 26 [.f .u64 25 L, .f .u8 136 H, .c (.val (.int .i64 N))] 0, .cells 26 zSp 0, .cells 24 [.f .u8 136 H] 0, .cells 23 (kRow25 y.1) 0]
  holds y := P y.1 y.2
  less y := y.2.size
def invLay (L H : Nat → Int) (N : Int) (P : (Nat → BitVec 64) → ByteArray → Prop) : Inv where
  X := Nat × (Nat → BitVec 64) × ByteArray
  tm y := slotsAt 52 [(4, .one (.sc (.ptr 1 0))), (7, .one (.sc (.val (.string y.2.2)))), (9, .one (.sc (.ptr 4 0))), (10, .one (sI .i64 (y.1 : Int)))]
  ob y := [.cells 26 [.f .u64 25 L, .f .u8 136 H, .c (.val (.int .i64 N))] 0, .cells 26 zSp 0, .cells 24 [.f .u8 136 H] 0, .cells 23 (kRow25 y.2.1) 0, .cells 26 [.f .u64 25 fun i => lw (y.2.1 i), .f .u8 136 (fun j => if j < y.1 then strF y.2.2 j else 0), .c (.val (.int .i64 (y.2.2.size : Int)))] 0]
  holds y := P y.2.1 y.2.2 ∧ y.2.2.size < 136 ∧ y.1 ≤ y.2.2.size
  less y := 136 - y.1
-- VC vc_Soaked HASH 815ef18e3f1598d5
theorem vc_Soaked (T : (Nat → BitVec 64) → Nat → BitVec 64) (P : (Nat → BitVec 64) → ByteArray → Prop) (A G : Nat → Int) (n : Int) (L H : Nat → Int) (N : Int) (a : Option Addr) (m cap : Nat) (f : Nat → Int) :
    Owes Tryd.prog (cxSoaked T) [(6, .inv (invEat L H N P)), (10, .inv (invLay L H N P))] 200 Tryd.f6 [sSp L H N, sXs a m cap f] (.tup [sSp A G n, sI .i64 (if mayG H N then 0 else 12)]) =
    (let x1 : Int := if mayG H N = Bool.true then (0 : Int) else (12 : Int); ((!mayG H N) = Bool.true → ((0 : Int) = A (0 : Nat) ∧ (0 : Int) = A (1 : Nat) ∧ (0 : Int) = A (2 : Nat) ∧ (0 : Int) = A (3 : Nat) ∧ (0 : Int) = A (4 : Nat) ∧ (0 : Int) = A (5 : Nat) ∧ (0 : Int) = A (6 : Nat) ∧ (0 : Int) = A (7 : Nat) ∧ (0 : Int) = A (8 : Nat) ∧ (0 : Int) = A (9 : Nat) ∧ (0 : Int) = A (10 : Nat) ∧ (0 : Int) = A (11 : Nat) ∧ (0 : Int) = A (12 : Nat) ∧ (0 : Int) = A (13 : Nat) ∧ (0 : Int) = A (14 : Nat) ∧ (0 : Int) = A (15 : Nat) ∧ (0 : Int) = A (16 : Nat) ∧ (0 : Int) = A (17 : Nat) ∧ (0 : Int) = A (18 : Nat) ∧ (0 : Int) = A (19 : Nat) ∧ (0 : Int) = A (20 : Nat) ∧ (0 : Int) = A (21 : Nat) ∧ (0 : Int) = A (22 : Nat) ∧ (0 : Int) = A (23 : Nat) ∧ (0 : Int) = A (24 : Nat) ∧ (0 : Int) = G (0 : Nat) ∧ (0 : Int) = G (1 : Nat) ∧ (0 : Int) = G (2 : Nat) ∧ (0 : Int) = G (3 : Nat) ∧ (0 : Int) = G (4 : Nat) ∧ (0 : Int) = G (5 : Nat) ∧ (0 : Int) = G (6 : Nat) ∧ (0 : Int) = G (7 : Nat) ∧ (0 : Int) = G (8 : Nat) ∧ (0 : Int) = G (9 : Nat) ∧ (0 : Int) = G (10 : Nat) ∧ (0 : Int) = G (11 : Nat) ∧ (0 : Int) = G (12 : Nat) ∧ (0 : Int) = G (13 : Nat) ∧ (0 : Int) = G (14 : Nat) ∧ (0 : Int) = G (15 : Nat) ∧ (0 : Int) = G (16 : Nat) ∧ (0 : Int) = G (17 : Nat) ∧ (0 : Int) = G (18 : Nat) ∧ (0 : Int) = G (19 : Nat) ∧ (0 : Int) = G (20 : Nat) ∧ (0 : Int) = G (21 : Nat) ∧ (0 : Int) = G (22 : Nat) ∧ (0 : Int) = G (23 : Nat) ∧ (0 : Int) = G (24 : Nat) ∧ (0 : Int) = G (25 : Nat) ∧ (0 : Int) = G (26 : Nat) ∧ (0 : Int) = G (27 : Nat) ∧ (0 : Int) = G (28 : Nat) ∧ (0 : Int) = G (29 : Nat) ∧ (0 : Int) = G (30 : Nat) ∧ (0 : Int) = G (31 : Nat) ∧ (0 : Int) = G (32 : Nat) ∧ (0 : Int) = G (33 : Nat) ∧ (0 : Int) = G (34 : Nat) ∧ (0 : Int) = G (35 : Nat) ∧ (0 : Int) = G (36 : Nat) ∧ (0 : Int) = G (37 : Nat) ∧ (0 : Int) = G (38 : Nat) ∧ (0 : Int) = G (39 : Nat) ∧ (0 : Int) = G (40 : Nat) ∧ (0 : Int) = G (41 : Nat) ∧ (0 : Int) = G (42 : Nat) ∧ (0 : Int) = G (43 : Nat) ∧ (0 : Int) = G (44 : Nat) ∧ (0 : Int) = G (45 : Nat) ∧ (0 : Int) = G (46 : Nat) ∧ (0 : Int) = G (47 : Nat) ∧ (0 : Int) = G (48 : Nat) ∧ (0 : Int) = G (49 : Nat) ∧ (0 : Int) = G (50 : Nat) ∧ (0 : Int) = G (51 : Nat) ∧ (0 : Int) = G (52 : Nat) ∧ (0 : Int) = G (53 : Nat) ∧ (0 : Int) = G (54 : Nat) ∧ (0 : Int) = G (55 : Nat) ∧ (0 : Int) = G (56 : Nat) ∧ (0 : Int) = G (57 : Nat) ∧ (0 : Int) = G (58 : Nat) ∧ (0 : Int) = G (59 : Nat) ∧ (0 : Int) = G (60 : Nat) ∧ (0 : Int) = G (61 : Nat) ∧ (0 : Int) = G (62 : Nat) ∧ (0 : Int) = G (63 : Nat) ∧ (0 : Int) = G (64 : Nat) ∧ (0 : Int) = G (65 : Nat) ∧ (0 : Int) = G (66 : Nat) ∧ (0 : Int) = G (67 : Nat) ∧ (0 : Int) = G (68 : Nat) ∧ (0 : Int) = G (69 : Nat) ∧ (0 : Int) = G (70 : Nat) ∧ (0 : Int) = G (71 : Nat) ∧ (0 : Int) = G (72 : Nat) ∧ (0 : Int) = G (73 : Nat) ∧ (0 : Int) = G (74 : Nat) ∧ (0 : Int) = G (75 : Nat) ∧ (0 : Int) = G (76 : Nat) ∧ (0 : Int) = G (77 : Nat) ∧ (0 : Int) = G (78 : Nat) ∧ (0 : Int) = G (79 : Nat) ∧ (0 : Int) = G (80 : Nat) ∧ (0 : Int) = G (81 : Nat) ∧ (0 : Int) = G (82 : Nat) ∧ (0 : Int) = G (83 : Nat) ∧ (0 : Int) = G (84 : Nat) ∧ (0 : Int) = G (85 : Nat) ∧ (0 : Int) = G (86 : Nat) ∧ (0 : Int) = G (87 : Nat) ∧ (0 : Int) = G (88 : Nat) ∧ (0 : Int) = G (89 : Nat) ∧ (0 : Int) = G (90 : Nat) ∧ (0 : Int) = G (91 : Nat) ∧ (0 : Int) = G (92 : Nat) ∧ (0 : Int) = G (93 : Nat) ∧ (0 : Int) = G (94 : Nat) ∧ (0 : Int) = G (95 : Nat) ∧ (0 : Int) = G (96 : Nat) ∧ (0 : Int) = G (97 : Nat) ∧ (0 : Int) = G (98 : Nat) ∧ (0 : Int) = G (99 : Nat) ∧ (0 : Int) = G (100 : Nat) ∧ (0 : Int) = G (101 : Nat) ∧ (0 : Int) = G (102 : Nat) ∧ (0 : Int) = G (103 : Nat) ∧ (0 : Int) = G (104 : Nat) ∧ (0 : Int) = G (105 : Nat) ∧ (0 : Int) = G (106 : Nat) ∧ (0 : Int) = G (107 : Nat) ∧ (0 : Int) = G (108 : Nat) ∧ (0 : Int) = G (109 : Nat) ∧ (0 : Int) = G (110 : Nat) ∧ (0 : Int) = G (111 : Nat) ∧ (0 : Int) = G (112 : Nat) ∧ (0 : Int) = G (113 : Nat) ∧ (0 : Int) = G (114 : Nat) ∧ (0 : Int) = G (115 : Nat) ∧ (0 : Int) = G (116 : Nat) ∧ (0 : Int) = G (117 : Nat) ∧ (0 : Int) = G (118 : Nat) ∧ (0 : Int) = G (119 : Nat) ∧ (0 : Int) = G (120 : Nat) ∧ (0 : Int) = G (121 : Nat) ∧ (0 : Int) = G (122 : Nat) ∧ (0 : Int) = G (123 : Nat) ∧ (0 : Int) = G (124 : Nat) ∧ (0 : Int) = G (125 : Nat) ∧ (0 : Int) = G (126 : Nat) ∧ (0 : Int) = G (127 : Nat) ∧ (0 : Int) = G (128 : Nat) ∧ (0 : Int) = G (129 : Nat) ∧ (0 : Int) = G (130 : Nat) ∧ (0 : Int) = G (131 : Nat) ∧ (0 : Int) = G (132 : Nat) ∧ (0 : Int) = G (133 : Nat) ∧ (0 : Int) = G (134 : Nat) ∧ (0 : Int) = G (135 : Nat) ∧ (0 : Int) = n ∧ True) ∧ (12 : Int) = x1) ∧ ((!mayG H N) = Bool.false → ((0 : Int) ≤ (0 : Int) ∧ (0 : Int) ≤ (Go.IntKind.i64, N).snd ∧ (Go.IntKind.i64, N).snd ≤ (↑(Go.Sx.bytesI (Go.Sx.intsL [Go.Sx.SK.f Go.IntKind.u8 (136 : Nat) H])).size : Int)) ∧ (∀ (j : Nat), True) ∧ ((Go.Sx.bytesI (Go.Sx.intsL [Go.Sx.SK.f Go.IntKind.u8 (136 : Nat) H])).extract (0 : Nat) (Go.IntKind.i64, N).snd.toNat).size + (Go.Sx.bytesI (List.map (fun (j : Nat) => f j) (List.range m))).size ≤ (9223372036854775807 : Nat) ∧ (∀ (y : (Nat → BitVec (64 : Nat)) × ByteArray), Go.Sx.closedB (Go.Sx.slotsAt (52 : Nat) [((4 : Nat), Go.Sx.SV.one (Go.Sx.SA.sc (Go.Sx.SC.ptr (1 : Nat) (0 : Nat)))), ((7 : Nat), Go.Sx.SV.one (Go.Sx.SA.sc (Go.Sx.SC.val (Go.Value.string y.snd)))), ((8 : Nat), Go.Sx.SV.one (Go.Sx.SA.sc (Go.Sx.SC.ptr (3 : Nat) (0 : Nat))))]) [Go.Sx.SO.cells (28 : Go.TypeId) [Go.Sx.SK.f Go.IntKind.u64 (25 : Nat) L, Go.Sx.SK.f Go.IntKind.u8 (136 : Nat) H, Go.Sx.SK.c (Go.Sx.SC.val (Go.Value.int Go.IntKind.i64 N))] (0 : Nat), Go.Sx.SO.cells (28 : Go.TypeId) zSp (0 : Nat), Go.Sx.SO.cells (26 : Go.TypeId) [Go.Sx.SK.f Go.IntKind.u8 (136 : Nat) H] (0 : Nat), Go.Sx.SO.cells (23 : Go.TypeId) (kRow25 y.fst) (0 : Nat)] = Bool.true) ∧ ∃ (y : (Nat → BitVec (64 : Nat)) × ByteArray), P y.fst y.snd ∧ (Go.Sx.bytesI (Go.Sx.intsL [Go.Sx.SK.f Go.IntKind.u8 (136 : Nat) H])).extract (0 : Nat) (Go.IntKind.i64, N).snd.toNat ++ Go.Sx.bytesI (List.map (fun (j : Nat) => f j) (List.range m)) = y.snd ∧ ((∀ (j : Nat), j < (25 : Nat) → L j = L j) ∧ (∀ (j : Nat), j < (136 : Nat) → H j = H j) ∧ N = N ∧ True) ∧ (0 : Nat) = (0 : Nat) ∧ (0 : Nat) = (0 : Nat) ∧ ((∀ (j : Nat), j < (136 : Nat) → H j = H j) ∧ True) ∧ (0 : Nat) = (0 : Nat) ∧ ((∀ (j : Nat), j < (25 : Nat) → L j = Go.Sx.lw (y.fst j)) ∧ True) ∧ (0 : Nat) = (0 : Nat) ∧ ∀ (y : (Nat → BitVec (64 : Nat)) × ByteArray), P y.fst y.snd → (Decidable.decide ((↑y.snd.size : Int) ≥ (136 : Int)) = Bool.true → ((0 : Int) ≤ (0 : Int) ∧ (0 : Int) ≤ (136 : Int) ∧ (136 : Int) ≤ (↑y.snd.size : Int)) ∧ (∀ (i : Nat), i < (25 : Nat) → (0 : Int) ≤ Go.Sx.lw (y.fst i) ∧ Go.Sx.lw (y.fst i) < (18446744073709551616 : Int)) ∧ (y.snd.extract (0 : Nat) (136 : Nat)).size = (136 : Nat) ∧ ((0 : Int) ≤ (136 : Int) ∧ (136 : Int) ≤ (↑y.snd.size : Int) ∧ (↑y.snd.size : Int) ≤ (↑y.snd.size : Int)) ∧ ∃ (y' : (Nat → BitVec (64 : Nat)) × ByteArray), P y'.fst y'.snd ∧ y.snd.extract (136 : Nat) (↑y.snd.size : Int).toNat = y'.snd ∧ ((∀ (j : Nat), j < (25 : Nat) → L j = L j) ∧ (∀ (j : Nat), j < (136 : Nat) → H j = H j) ∧ N = N ∧ True) ∧ (0 : Nat) = (0 : Nat) ∧ (0 : Nat) = (0 : Nat) ∧ ((∀ (j : Nat), j < (136 : Nat) → H j = H j) ∧ True) ∧ (0 : Nat) = (0 : Nat) ∧ ((∀ (j : Nat), j < (25 : Nat) → Go.Sx.lw (T (Go.Sx.absB (Go.Sx.ofRow fun (i : Nat) => Go.Sx.lw (y.fst i)) (strF (y.snd.extract (0 : Nat) (136 : Nat))) (136 : Nat)) j) = Go.Sx.lw (y'.fst j)) ∧ True) ∧ (0 : Nat) = (0 : Nat) ∧ y'.snd.size < y.snd.size) ∧ (Decidable.decide ((↑y.snd.size : Int) ≥ (136 : Int)) = Bool.false → (∀ (y : Nat × (Nat → BitVec (64 : Nat)) × ByteArray), Go.Sx.closedB (Go.Sx.slotsAt (52 : Nat) [((4 : Nat), Go.Sx.SV.one (Go.Sx.SA.sc (Go.Sx.SC.ptr (1 : Nat) (0 : Nat)))), ((7 : Nat), Go.Sx.SV.one (Go.Sx.SA.sc (Go.Sx.SC.val (Go.Value.string y.snd.snd)))), ((9 : Nat), Go.Sx.SV.one (Go.Sx.SA.sc (Go.Sx.SC.ptr (4 : Nat) (0 : Nat)))), ((10 : Nat), Go.Sx.SV.one (Go.Sx.sI Go.IntKind.i64 (↑y.fst : Int)))]) [Go.Sx.SO.cells (28 : Go.TypeId) [Go.Sx.SK.f Go.IntKind.u64 (25 : Nat) L, Go.Sx.SK.f Go.IntKind.u8 (136 : Nat) H, Go.Sx.SK.c (Go.Sx.SC.val (Go.Value.int Go.IntKind.i64 N))] (0 : Nat), Go.Sx.SO.cells (28 : Go.TypeId) zSp (0 : Nat), Go.Sx.SO.cells (26 : Go.TypeId) [Go.Sx.SK.f Go.IntKind.u8 (136 : Nat) H] (0 : Nat), Go.Sx.SO.cells (23 : Go.TypeId) (kRow25 y.snd.fst) (0 : Nat), Go.Sx.SO.cells (28 : Go.TypeId) [Go.Sx.SK.f Go.IntKind.u64 (25 : Nat) fun (i : Nat) => Go.Sx.lw (y.snd.fst i), Go.Sx.SK.f Go.IntKind.u8 (136 : Nat) fun (j : Nat) => if j < y.fst then strF y.snd.snd j else (0 : Int), Go.Sx.SK.c (Go.Sx.SC.val (Go.Value.int Go.IntKind.i64 (↑y.snd.snd.size : Int)))] (0 : Nat)] = Bool.true) ∧ ∃ (y_1 : Nat × (Nat → BitVec (64 : Nat)) × ByteArray), (P y_1.snd.fst y_1.snd.snd ∧ y_1.snd.snd.size < (136 : Nat) ∧ y_1.fst ≤ y_1.snd.snd.size) ∧ y.snd = y_1.snd.snd ∧ (0 : Int) = (↑y_1.fst : Int) ∧ ((∀ (j : Nat), j < (25 : Nat) → L j = L j) ∧ (∀ (j : Nat), j < (136 : Nat) → H j = H j) ∧ N = N ∧ True) ∧ (0 : Nat) = (0 : Nat) ∧ (0 : Nat) = (0 : Nat) ∧ ((∀ (j : Nat), j < (136 : Nat) → H j = H j) ∧ True) ∧ (0 : Nat) = (0 : Nat) ∧ ((∀ (j : Nat), j < (25 : Nat) → Go.Sx.lw (y.fst j) = Go.Sx.lw (y_1.snd.fst j)) ∧ True) ∧ (0 : Nat) = (0 : Nat) ∧ ((∀ (j : Nat), j < (25 : Nat) → Go.Sx.lw (y.fst j) = Go.Sx.lw (y_1.snd.fst j)) ∧ ((0 : Int) = if (0 : Nat) < y_1.fst then strF y_1.snd.snd (0 : Nat) else (0 : Int)) ∧ ((0 : Int) = if (1 : Nat) < y_1.fst then strF y_1.snd.snd (1 : Nat) else (0 : Int)) ∧ ((0 : Int) = if (2 : Nat) < y_1.fst then strF y_1.snd.snd (2 : Nat) else (0 : Int)) ∧ ((0 : Int) = if (3 : Nat) < y_1.fst then strF y_1.snd.snd (3 : Nat) else (0 : Int)) ∧ ((0 : Int) = if (4 : Nat) < y_1.fst then strF y_1.snd.snd (4 : Nat) else (0 : Int)) ∧ ((0 : Int) = if (5 : Nat) < y_1.fst then strF y_1.snd.snd (5 : Nat) else (0 : Int)) ∧ ((0 : Int) = if (6 : Nat) < y_1.fst then strF y_1.snd.snd (6 : Nat) else (0 : Int)) ∧ ((0 : Int) = if (7 : Nat) < y_1.fst then strF y_1.snd.snd (7 : Nat) else (0 : Int)) ∧ ((0 : Int) = if (8 : Nat) < y_1.fst then strF y_1.snd.snd (8 : Nat) else (0 : Int)) ∧ ((0 : Int) = if (9 : Nat) < y_1.fst then strF y_1.snd.snd (9 : Nat) else (0 : Int)) ∧ ((0 : Int) = if (10 : Nat) < y_1.fst then strF y_1.snd.snd (10 : Nat) else (0 : Int)) ∧ ((0 : Int) = if (11 : Nat) < y_1.fst then strF y_1.snd.snd (11 : Nat) else (0 : Int)) ∧ ((0 : Int) = if (12 : Nat) < y_1.fst then strF y_1.snd.snd (12 : Nat) else (0 : Int)) ∧ ((0 : Int) = if (13 : Nat) < y_1.fst then strF y_1.snd.snd (13 : Nat) else (0 : Int)) ∧ ((0 : Int) = if (14 : Nat) < y_1.fst then strF y_1.snd.snd (14 : Nat) else (0 : Int)) ∧ ((0 : Int) = if (15 : Nat) < y_1.fst then strF y_1.snd.snd (15 : Nat) else (0 : Int)) ∧ ((0 : Int) = if (16 : Nat) < y_1.fst then strF y_1.snd.snd (16 : Nat) else (0 : Int)) ∧ ((0 : Int) = if (17 : Nat) < y_1.fst then strF y_1.snd.snd (17 : Nat) else (0 : Int)) ∧ ((0 : Int) = if (18 : Nat) < y_1.fst then strF y_1.snd.snd (18 : Nat) else (0 : Int)) ∧ ((0 : Int) = if (19 : Nat) < y_1.fst then strF y_1.snd.snd (19 : Nat) else (0 : Int)) ∧ ((0 : Int) = if (20 : Nat) < y_1.fst then strF y_1.snd.snd (20 : Nat) else (0 : Int)) ∧ ((0 : Int) = if (21 : Nat) < y_1.fst then strF y_1.snd.snd (21 : Nat) else (0 : Int)) ∧ ((0 : Int) = if (22 : Nat) < y_1.fst then strF y_1.snd.snd (22 : Nat) else (0 : Int)) ∧ ((0 : Int) = if (23 : Nat) < y_1.fst then strF y_1.snd.snd (23 : Nat) else (0 : Int)) ∧ ((0 : Int) = if (24 : Nat) < y_1.fst then strF y_1.snd.snd (24 : Nat) else (0 : Int)) ∧ ((0 : Int) = if (25 : Nat) < y_1.fst then strF y_1.snd.snd (25 : Nat) else (0 : Int)) ∧ ((0 : Int) = if (26 : Nat) < y_1.fst then strF y_1.snd.snd (26 : Nat) else (0 : Int)) ∧ ((0 : Int) = if (27 : Nat) < y_1.fst then strF y_1.snd.snd (27 : Nat) else (0 : Int)) ∧ ((0 : Int) = if (28 : Nat) < y_1.fst then strF y_1.snd.snd (28 : Nat) else (0 : Int)) ∧ ((0 : Int) = if (29 : Nat) < y_1.fst then strF y_1.snd.snd (29 : Nat) else (0 : Int)) ∧ ((0 : Int) = if (30 : Nat) < y_1.fst then strF y_1.snd.snd (30 : Nat) else (0 : Int)) ∧ ((0 : Int) = if (31 : Nat) < y_1.fst then strF y_1.snd.snd (31 : Nat) else (0 : Int)) ∧ ((0 : Int) = if (32 : Nat) < y_1.fst then strF y_1.snd.snd (32 : Nat) else (0 : Int)) ∧ ((0 : Int) = if (33 : Nat) < y_1.fst then strF y_1.snd.snd (33 : Nat) else (0 : Int)) ∧ ((0 : Int) = if (34 : Nat) < y_1.fst then strF y_1.snd.snd (34 : Nat) else (0 : Int)) ∧ ((0 : Int) = if (35 : Nat) < y_1.fst then strF y_1.snd.snd (35 : Nat) else (0 : Int)) ∧ ((0 : Int) = if (36 : Nat) < y_1.fst then strF y_1.snd.snd (36 : Nat) else (0 : Int)) ∧ ((0 : Int) = if (37 : Nat) < y_1.fst then strF y_1.snd.snd (37 : Nat) else (0 : Int)) ∧ ((0 : Int) = if (38 : Nat) < y_1.fst then strF y_1.snd.snd (38 : Nat) else (0 : Int)) ∧ ((0 : Int) = if (39 : Nat) < y_1.fst then strF y_1.snd.snd (39 : Nat) else (0 : Int)) ∧ ((0 : Int) = if (40 : Nat) < y_1.fst then strF y_1.snd.snd (40 : Nat) else (0 : Int)) ∧ ((0 : Int) = if (41 : Nat) < y_1.fst then strF y_1.snd.snd (41 : Nat) else (0 : Int)) ∧ ((0 : Int) = if (42 : Nat) < y_1.fst then strF y_1.snd.snd (42 : Nat) else (0 : Int)) ∧ ((0 : Int) = if (43 : Nat) < y_1.fst then strF y_1.snd.snd (43 : Nat) else (0 : Int)) ∧ ((0 : Int) = if (44 : Nat) < y_1.fst then strF y_1.snd.snd (44 : Nat) else (0 : Int)) ∧ ((0 : Int) = if (45 : Nat) < y_1.fst then strF y_1.snd.snd (45 : Nat) else (0 : Int)) ∧ ((0 : Int) = if (46 : Nat) < y_1.fst then strF y_1.snd.snd (46 : Nat) else (0 : Int)) ∧ ((0 : Int) = if (47 : Nat) < y_1.fst then strF y_1.snd.snd (47 : Nat) else (0 : Int)) ∧ ((0 : Int) = if (48 : Nat) < y_1.fst then strF y_1.snd.snd (48 : Nat) else (0 : Int)) ∧ ((0 : Int) = if (49 : Nat) < y_1.fst then strF y_1.snd.snd (49 : Nat) else (0 : Int)) ∧ ((0 : Int) = if (50 : Nat) < y_1.fst then strF y_1.snd.snd (50 : Nat) else (0 : Int)) ∧ ((0 : Int) = if (51 : Nat) < y_1.fst then strF y_1.snd.snd (51 : Nat) else (0 : Int)) ∧ ((0 : Int) = if (52 : Nat) < y_1.fst then strF y_1.snd.snd (52 : Nat) else (0 : Int)) ∧ ((0 : Int) = if (53 : Nat) < y_1.fst then strF y_1.snd.snd (53 : Nat) else (0 : Int)) ∧ ((0 : Int) = if (54 : Nat) < y_1.fst then strF y_1.snd.snd (54 : Nat) else (0 : Int)) ∧ ((0 : Int) = if (55 : Nat) < y_1.fst then strF y_1.snd.snd (55 : Nat) else (0 : Int)) ∧ ((0 : Int) = if (56 : Nat) < y_1.fst then strF y_1.snd.snd (56 : Nat) else (0 : Int)) ∧ ((0 : Int) = if (57 : Nat) < y_1.fst then strF y_1.snd.snd (57 : Nat) else (0 : Int)) ∧ ((0 : Int) = if (58 : Nat) < y_1.fst then strF y_1.snd.snd (58 : Nat) else (0 : Int)) ∧ ((0 : Int) = if (59 : Nat) < y_1.fst then strF y_1.snd.snd (59 : Nat) else (0 : Int)) ∧ ((0 : Int) = if (60 : Nat) < y_1.fst then strF y_1.snd.snd (60 : Nat) else (0 : Int)) ∧ ((0 : Int) = if (61 : Nat) < y_1.fst then strF y_1.snd.snd (61 : Nat) else (0 : Int)) ∧ ((0 : Int) = if (62 : Nat) < y_1.fst then strF y_1.snd.snd (62 : Nat) else (0 : Int)) ∧ ((0 : Int) = if (63 : Nat) < y_1.fst then strF y_1.snd.snd (63 : Nat) else (0 : Int)) ∧ ((0 : Int) = if (64 : Nat) < y_1.fst then strF y_1.snd.snd (64 : Nat) else (0 : Int)) ∧ ((0 : Int) = if (65 : Nat) < y_1.fst then strF y_1.snd.snd (65 : Nat) else (0 : Int)) ∧ ((0 : Int) = if (66 : Nat) < y_1.fst then strF y_1.snd.snd (66 : Nat) else (0 : Int)) ∧ ((0 : Int) = if (67 : Nat) < y_1.fst then strF y_1.snd.snd (67 : Nat) else (0 : Int)) ∧ ((0 : Int) = if (68 : Nat) < y_1.fst then strF y_1.snd.snd (68 : Nat) else (0 : Int)) ∧ ((0 : Int) = if (69 : Nat) < y_1.fst then strF y_1.snd.snd (69 : Nat) else (0 : Int)) ∧ ((0 : Int) = if (70 : Nat) < y_1.fst then strF y_1.snd.snd (70 : Nat) else (0 : Int)) ∧ ((0 : Int) = if (71 : Nat) < y_1.fst then strF y_1.snd.snd (71 : Nat) else (0 : Int)) ∧ ((0 : Int) = if (72 : Nat) < y_1.fst then strF y_1.snd.snd (72 : Nat) else (0 : Int)) ∧ ((0 : Int) = if (73 : Nat) < y_1.fst then strF y_1.snd.snd (73 : Nat) else (0 : Int)) ∧ ((0 : Int) = if (74 : Nat) < y_1.fst then strF y_1.snd.snd (74 : Nat) else (0 : Int)) ∧ ((0 : Int) = if (75 : Nat) < y_1.fst then strF y_1.snd.snd (75 : Nat) else (0 : Int)) ∧ ((0 : Int) = if (76 : Nat) < y_1.fst then strF y_1.snd.snd (76 : Nat) else (0 : Int)) ∧ ((0 : Int) = if (77 : Nat) < y_1.fst then strF y_1.snd.snd (77 : Nat) else (0 : Int)) ∧ ((0 : Int) = if (78 : Nat) < y_1.fst then strF y_1.snd.snd (78 : Nat) else (0 : Int)) ∧ ((0 : Int) = if (79 : Nat) < y_1.fst then strF y_1.snd.snd (79 : Nat) else (0 : Int)) ∧ ((0 : Int) = if (80 : Nat) < y_1.fst then strF y_1.snd.snd (80 : Nat) else (0 : Int)) ∧ ((0 : Int) = if (81 : Nat) < y_1.fst then strF y_1.snd.snd (81 : Nat) else (0 : Int)) ∧ ((0 : Int) = if (82 : Nat) < y_1.fst then strF y_1.snd.snd (82 : Nat) else (0 : Int)) ∧ ((0 : Int) = if (83 : Nat) < y_1.fst then strF y_1.snd.snd (83 : Nat) else (0 : Int)) ∧ ((0 : Int) = if (84 : Nat) < y_1.fst then strF y_1.snd.snd (84 : Nat) else (0 : Int)) ∧ ((0 : Int) = if (85 : Nat) < y_1.fst then strF y_1.snd.snd (85 : Nat) else (0 : Int)) ∧ ((0 : Int) = if (86 : Nat) < y_1.fst then strF y_1.snd.snd (86 : Nat) else (0 : Int)) ∧ ((0 : Int) = if (87 : Nat) < y_1.fst then strF y_1.snd.snd (87 : Nat) else (0 : Int)) ∧ ((0 : Int) = if (88 : Nat) < y_1.fst then strF y_1.snd.snd (88 : Nat) else (0 : Int)) ∧ ((0 : Int) = if (89 : Nat) < y_1.fst then strF y_1.snd.snd (89 : Nat) else (0 : Int)) ∧ ((0 : Int) = if (90 : Nat) < y_1.fst then strF y_1.snd.snd (90 : Nat) else (0 : Int)) ∧ ((0 : Int) = if (91 : Nat) < y_1.fst then strF y_1.snd.snd (91 : Nat) else (0 : Int)) ∧ ((0 : Int) = if (92 : Nat) < y_1.fst then strF y_1.snd.snd (92 : Nat) else (0 : Int)) ∧ ((0 : Int) = if (93 : Nat) < y_1.fst then strF y_1.snd.snd (93 : Nat) else (0 : Int)) ∧ ((0 : Int) = if (94 : Nat) < y_1.fst then strF y_1.snd.snd (94 : Nat) else (0 : Int)) ∧ ((0 : Int) = if (95 : Nat) < y_1.fst then strF y_1.snd.snd (95 : Nat) else (0 : Int)) ∧ ((0 : Int) = if (96 : Nat) < y_1.fst then strF y_1.snd.snd (96 : Nat) else (0 : Int)) ∧ ((0 : Int) = if (97 : Nat) < y_1.fst then strF y_1.snd.snd (97 : Nat) else (0 : Int)) ∧ ((0 : Int) = if (98 : Nat) < y_1.fst then strF y_1.snd.snd (98 : Nat) else (0 : Int)) ∧ ((0 : Int) = if (99 : Nat) < y_1.fst then strF y_1.snd.snd (99 : Nat) else (0 : Int)) ∧ ((0 : Int) = if (100 : Nat) < y_1.fst then strF y_1.snd.snd (100 : Nat) else (0 : Int)) ∧ ((0 : Int) = if (101 : Nat) < y_1.fst then strF y_1.snd.snd (101 : Nat) else (0 : Int)) ∧ ((0 : Int) = if (102 : Nat) < y_1.fst then strF y_1.snd.snd (102 : Nat) else (0 : Int)) ∧ ((0 : Int) = if (103 : Nat) < y_1.fst then strF y_1.snd.snd (103 : Nat) else (0 : Int)) ∧ ((0 : Int) = if (104 : Nat) < y_1.fst then strF y_1.snd.snd (104 : Nat) else (0 : Int)) ∧ ((0 : Int) = if (105 : Nat) < y_1.fst then strF y_1.snd.snd (105 : Nat) else (0 : Int)) ∧ ((0 : Int) = if (106 : Nat) < y_1.fst then strF y_1.snd.snd (106 : Nat) else (0 : Int)) ∧ ((0 : Int) = if (107 : Nat) < y_1.fst then strF y_1.snd.snd (107 : Nat) else (0 : Int)) ∧ ((0 : Int) = if (108 : Nat) < y_1.fst then strF y_1.snd.snd (108 : Nat) else (0 : Int)) ∧ ((0 : Int) = if (109 : Nat) < y_1.fst then strF y_1.snd.snd (109 : Nat) else (0 : Int)) ∧ ((0 : Int) = if (110 : Nat) < y_1.fst then strF y_1.snd.snd (110 : Nat) else (0 : Int)) ∧ ((0 : Int) = if (111 : Nat) < y_1.fst then strF y_1.snd.snd (111 : Nat) else (0 : Int)) ∧ ((0 : Int) = if (112 : Nat) < y_1.fst then strF y_1.snd.snd (112 : Nat) else (0 : Int)) ∧ ((0 : Int) = if (113 : Nat) < y_1.fst then strF y_1.snd.snd (113 : Nat) else (0 : Int)) ∧ ((0 : Int) = if (114 : Nat) < y_1.fst then strF y_1.snd.snd (114 : Nat) else (0 : Int)) ∧ ((0 : Int) = if (115 : Nat) < y_1.fst then strF y_1.snd.snd (115 : Nat) else (0 : Int)) ∧ ((0 : Int) = if (116 : Nat) < y_1.fst then strF y_1.snd.snd (116 : Nat) else (0 : Int)) ∧ ((0 : Int) = if (117 : Nat) < y_1.fst then strF y_1.snd.snd (117 : Nat) else (0 : Int)) ∧ ((0 : Int) = if (118 : Nat) < y_1.fst then strF y_1.snd.snd (118 : Nat) else (0 : Int)) ∧ ((0 : Int) = if (119 : Nat) < y_1.fst then strF y_1.snd.snd (119 : Nat) else (0 : Int)) ∧ ((0 : Int) = if (120 : Nat) < y_1.fst then strF y_1.snd.snd (120 : Nat) else (0 : Int)) ∧ ((0 : Int) = if (121 : Nat) < y_1.fst then strF y_1.snd.snd (121 : Nat) else (0 : Int)) ∧ ((0 : Int) = if (122 : Nat) < y_1.fst then strF y_1.snd.snd (122 : Nat) else (0 : Int)) ∧ ((0 : Int) = if (123 : Nat) < y_1.fst then strF y_1.snd.snd (123 : Nat) else (0 : Int)) ∧ ((0 : Int) = if (124 : Nat) < y_1.fst then strF y_1.snd.snd (124 : Nat) else (0 : Int)) ∧ ((0 : Int) = if (125 : Nat) < y_1.fst then strF y_1.snd.snd (125 : Nat) else (0 : Int)) ∧ ((0 : Int) = if (126 : Nat) < y_1.fst then strF y_1.snd.snd (126 : Nat) else (0 : Int)) ∧ ((0 : Int) = if (127 : Nat) < y_1.fst then strF y_1.snd.snd (127 : Nat) else (0 : Int)) ∧ ((0 : Int) = if (128 : Nat) < y_1.fst then strF y_1.snd.snd (128 : Nat) else (0 : Int)) ∧ ((0 : Int) = if (129 : Nat) < y_1.fst then strF y_1.snd.snd (129 : Nat) else (0 : Int)) ∧ ((0 : Int) = if (130 : Nat) < y_1.fst then strF y_1.snd.snd (130 : Nat) else (0 : Int)) ∧ ((0 : Int) = if (131 : Nat) < y_1.fst then strF y_1.snd.snd (131 : Nat) else (0 : Int)) ∧ ((0 : Int) = if (132 : Nat) < y_1.fst then strF y_1.snd.snd (132 : Nat) else (0 : Int)) ∧ ((0 : Int) = if (133 : Nat) < y_1.fst then strF y_1.snd.snd (133 : Nat) else (0 : Int)) ∧ ((0 : Int) = if (134 : Nat) < y_1.fst then strF y_1.snd.snd (134 : Nat) else (0 : Int)) ∧ ((0 : Int) = if (135 : Nat) < y_1.fst then strF y_1.snd.snd (135 : Nat) else (0 : Int)) ∧ (↑y.snd.size : Int) = (↑y_1.snd.snd.size : Int) ∧ True) ∧ (0 : Nat) = (0 : Nat) ∧ ∀ (y : Nat × (Nat → BitVec (64 : Nat)) × ByteArray), P y.snd.fst y.snd.snd ∧ y.snd.snd.size < (136 : Nat) ∧ y.fst ≤ y.snd.snd.size → (Decidable.decide ((↑y.fst : Int) < (↑y.snd.snd.size : Int)) = Bool.true → ((0 : Int) ≤ (↑y.fst : Int) ∧ (↑y.fst : Int).toNat < y.snd.snd.size) ∧ ((0 : Int) ≤ (↑y.fst : Int) ∧ (↑y.fst : Int) < (136 : Int)) ∧ ((0 : Int) ≤ (↑y.fst : Int) ∧ (↑y.fst : Int) < (136 : Int)) ∧ ∃ (y' : Nat × (Nat → BitVec (64 : Nat)) × ByteArray), (P y'.snd.fst y'.snd.snd ∧ y'.snd.snd.size < (136 : Nat) ∧ y'.fst ≤ y'.snd.snd.size) ∧ y.snd.snd = y'.snd.snd ∧ Go.IntKind.i64.wrap ((↑y.fst : Int) + (1 : Int)) = (↑y'.fst : Int) ∧ ((∀ (j : Nat), j < (25 : Nat) → L j = L j) ∧ (∀ (j : Nat), j < (136 : Nat) → H j = H j) ∧ N = N ∧ True) ∧ (0 : Nat) = (0 : Nat) ∧ (0 : Nat) = (0 : Nat) ∧ ((∀ (j : Nat), j < (136 : Nat) → H j = H j) ∧ True) ∧ (0 : Nat) = (0 : Nat) ∧ ((∀ (j : Nat), j < (25 : Nat) → Go.Sx.lw (y.snd.fst j) = Go.Sx.lw (y'.snd.fst j)) ∧ True) ∧ (0 : Nat) = (0 : Nat) ∧ ((∀ (j : Nat), j < (25 : Nat) → Go.Sx.lw (y.snd.fst j) = Go.Sx.lw (y'.snd.fst j)) ∧ (∀ (j : Nat), j < (136 : Nat) → (if j = (↑y.fst : Int).toNat then (↑(y.snd.snd.data.getD (↑y.fst : Int).toNat (0 : UInt8)).toNat : Int) else if j < y.fst then strF y.snd.snd j else (0 : Int)) = if j < y'.fst then strF y'.snd.snd j else (0 : Int)) ∧ (↑y.snd.snd.size : Int) = (↑y'.snd.snd.size : Int) ∧ True) ∧ (0 : Nat) = (0 : Nat) ∧ (136 : Nat) - y'.fst < (136 : Nat) - y.fst) ∧ (Decidable.decide ((↑y.fst : Int) < (↑y.snd.snd.size : Int)) = Bool.false → ((∀ (j : Nat), j < (25 : Nat) → Go.Sx.lw (y.snd.fst j) = A j) ∧ (∀ (j : Nat), j < (136 : Nat) → (if j < y.fst then strF y.snd.snd j else (0 : Int)) = G j) ∧ (↑y.snd.snd.size : Int) = n ∧ True) ∧ (0 : Int) = x1)))) := by kernel_rfl
-- END VC
end Go.Proofs.YtfoklomipdkomaaDoor
end

section
/-
  Texts that a sponge takes in, cut at 136 bytes.
-/
namespace Go.Proofs.YtfoklomipdkomaaDoor
open Go Go.Sx Go.RowKit

theorem strF_cut (s : ByteArray) (i j k : Nat) (hj : j ≤ s.size) (hk : i + k < j) : strF (s.extract i j) k = strF s (i + k) := by
  unfold strF
  have e : (s.extract i j).data = s.data.extract i j := by simp [ByteArray.data_extract]
  have hs : s.size = s.data.size := rfl
  rw [e, Array.getD_eq_getD_getElem?, Array.getD_eq_getD_getElem?, Array.getElem?_extract, if_pos (by omega)]
theorem size_cut (s : ByteArray) (i j : Nat) (hj : j ≤ s.size) : (s.extract i j).size = j - i := by
  rw [ByteArray.size_extract, Nat.min_eq_left hj]
theorem strF_app (s t : ByteArray) (k : Nat) : strF (s ++ t) k = if k < s.size then strF s k else strF t (k - s.size) := by
  unfold strF
  have e : (s ++ t).data = s.data ++ t.data := by simp
  have hs : s.size = s.data.size := rfl
  rw [e, Array.getD_eq_getD_getElem?, Array.getElem?_append]
  by_cases c : k < s.size
  · rw [if_pos (by omega), if_pos c, Array.getD_eq_getD_getElem?]
  · rw [if_neg (by omega), if_neg c, Array.getD_eq_getD_getElem?, hs]
theorem feed_step (a : Nat → BitVec 64) (s : ByteArray) (h : 136 ≤ s.size) :
    addB ⟨turnB (absB a (strF (s.extract 0 136)) 136), fun _ => 0, 0⟩ (strF (s.extract 136 s.size)) (s.extract 136 s.size).size = addB ⟨a, fun _ => 0, 0⟩ (strF s) s.size := by
  have e1 := addB_add ⟨a, fun _ => 0, 0⟩ (strF s) 136 (s.size - 136)
  rw [show 136 + (s.size - 136) = s.size by omega] at e1
  have e2 := addB_full ⟨a, fun _ => 0, 0⟩ (strF s) (m := 136) (show (0 : Nat) < 136 by decide) (show (0 : Nat) + 136 = 136 from rfl)
  have e3 : absB a (fun j => if (0 : Nat) ≤ j ∧ j < 0 + 136 then strF s (j - 0) else 0) 136 = absB a (strF (s.extract 0 136)) 136 := absB_same fun i hi => by
    rw [strF_cut s 0 136 i h (by omega), if_pos (by omega), Nat.zero_add, Nat.sub_zero]
  rw [← e1, e2]
  unfold soakB
  rw [show (Sp.a ⟨a, fun _ => 0, 0⟩) = a from rfl, ← e3, size_cut s 136 s.size (Nat.le_refl _)]
  exact addB_congr fun i hi => strF_cut s 136 s.size i (Nat.le_refl _) (by omega)
/-- Two sponges that are one as far as they reach. -/
def Spq (t u : Sp) : Prop := t.a = u.a ∧ t.n = u.n ∧ ∀ j, j < 136 → t.H j = u.H j
theorem spq_push {t u : Sp} (h : Spq t u) (b : Int) : Spq (pushB t b) (pushB u b) := by
  obtain ⟨ta, tH, tn⟩ := t
  obtain ⟨ua, uH, un⟩ := u
  obtain ⟨h1, h2, h3⟩ := h
  have h1 : ta = ua := h1
  have h2 : tn = un := h2
  have h3 : ∀ j, j < 136 → tH j = uH j := h3
  subst h1 h2
  have e : ∀ j, j < 136 → (if j = tn then b else tH j) = if j = tn then b else uH j := fun j hj => by rw [show tH j = uH j from h3 j hj]
  unfold pushB
  by_cases c : tn + 1 = 136
  · rw [if_pos c, if_pos c]
    refine ⟨?_, rfl, fun _ _ => rfl⟩
    show turnB (absB ta _ 136) = turnB (absB ta _ 136)
    exact congrArg turnB (absB_same e)
  · rw [if_neg c, if_neg c]
    exact ⟨rfl, rfl, e⟩
theorem spq_add {t u : Sp} (h : Spq t u) {f g : Nat → Int} : ∀ {m : Nat}, (∀ i, i < m → f i = g i) → Spq (addB t f m) (addB u g m)
  | 0, _ => h
  | m + 1, hf => by
    show Spq (pushB _ _) (pushB _ _)
    rw [hf m (by omega)]
    exact spq_push (spq_add h fun i hi => hf i (by omega)) _
theorem feed_start {L H : Nat → Int} {N : Int} (hm : mayG H N = true) (hH : bytesH H) {f : Nat → Int} {m : Nat} (hf : ∀ i, 0 ≤ f i ∧ f i < 256) (l : List Int) (hl : l = (List.range 136).map H) :
    Spq (addB ⟨ofRow L, fun _ => 0, 0⟩ (strF ((bytesI l).extract 0 N.toNat ++ bytesI ((List.range m).map f))) (N.toNat + m)) (addB (spOf L H N) f m) := by
  obtain ⟨hN, hz⟩ := (mayG_iff H N).1 hm
  have hs : (bytesI l).size = 136 := by rw [bytesI_sz, hl]; simp
  have hc : ((bytesI l).extract 0 N.toNat).size = N.toNat := size_cut _ 0 N.toNat (by omega)
  have g1 : ∀ j, j < N.toNat → strF ((bytesI l).extract 0 N.toNat ++ bytesI ((List.range m).map f)) j = H j := fun j hj => by
    have e : l.getD j 0 = H j := by rw [hl, List.getD_eq_getElem?_getD, List.getElem?_map, List.getElem?_range (by omega)]; rfl
    rw [strF_app, if_pos (by omega), strF_cut _ 0 N.toNat j (by omega) (by omega), Nat.zero_add, strF_bytes (by rw [e]; exact hH j (by omega)), e]
  have g2 : ∀ i, i < m → strF ((bytesI l).extract 0 N.toNat ++ bytesI ((List.range m).map f)) (N.toNat + i) = f i := fun i hi => by
    have e : ((List.range m).map f).getD i 0 = f i := by rw [List.getD_eq_getElem?_getD, List.getElem?_map, List.getElem?_range hi]; rfl
    rw [strF_app, if_neg (by omega), hc, Nat.add_sub_cancel_left, strF_bytes (by rw [e]; exact hf i), e]
  rw [← addB_add]
  refine spq_add ?_ g2
  rw [addB_held ⟨ofRow L, fun _ => 0, 0⟩ _ N.toNat (show 0 + N.toNat < 136 by omega)]
  refine ⟨rfl, Nat.zero_add _, fun j hj => ?_⟩
  show (if 0 ≤ j ∧ j < 0 + N.toNat then strF _ (j - 0) else 0) = H j
  by_cases c : j < N.toNat
  · rw [if_pos (by omega), Nat.sub_zero, g1 j c]
  · rw [if_neg (by omega)]
    have := hz (j - N.toNat) (by omega)
    rw [show N.toNat + (j - N.toNat) = j by omega] at this
    exact this.symm
theorem feed_end (a : Nat → BitVec 64) (s : ByteArray) (h : s.size < 136) : addB ⟨a, fun _ => 0, 0⟩ (strF s) s.size = ⟨a, fun j => if j < s.size then strF s j else 0, s.size⟩ := by
  rw [addB_held ⟨a, fun _ => 0, 0⟩ _ s.size (show 0 + s.size < 136 by omega)]
  simp only [Nat.zero_le, true_and, Nat.zero_add, Nat.sub_zero]
end Go.Proofs.YtfoklomipdkomaaDoor
end

section
/-
  The reference's soaking is the code's.
-/
namespace Go.Proofs.YtfoklomipdkomaaDoor
open Go Go.Sx Go.RowKit

def PE (L H : Nat → Int) (N : Int) (f : Nat → Int) (m : Nat) (a : Nat → BitVec 64) (s : ByteArray) : Prop := Spq (addB ⟨a, fun _ => 0, 0⟩ (strF s) s.size) (addB (spOf L H N) f m)
theorem ok_Soaked (L H : Nat → Int) (N : Int) (a : Option Addr) (m cap : Nat) (f : Nat → Int) (hL : lanes 25 L) (hH : bytesH H) (hf : ∀ i, 0 ≤ f i ∧ f i < 256) (hm' : m ≤ 140737488355327) :
    Owes Tryd.prog (cxSoaked turnB) [(6, .inv (invEat L H N (PE L H N f m))), (10, .inv (invLay L H N (PE L H N f m)))] 200 Tryd.f6 [sSp L H N, sXs a m cap f] (kAddG L H N m f) := by
  show Owes _ _ _ _ _ _ (.tup [sSp (fun i => if mayG H N then lw ((addB (spOf L H N) f m).a i) else 0) (fun j => if mayG H N then (addB (spOf L H N) f m).H j else 0) (if mayG H N then ((addB (spOf L H N) f m).n : Int) else 0), sI .i64 (if mayG H N then 0 else 12)])
  rw [vc_Soaked]
  intro x1
  cases hm : mayG H N with
  | false =>
    refine ⟨fun _ => ?_, fun h => (by cases h)⟩
    simp only [x1, hm, Bool.false_eq_true, if_false, and_self]
  | true =>
    refine ⟨fun h => (by cases h), fun _ => ?_⟩
    have hx : x1 = 0 := by simp only [x1, hm, if_true]
    clear_value x1
    subst hx
    obtain ⟨hN, hz⟩ := (mayG_iff H N).1 hm
    have hs1 : (bytesI (intsL [SK.f .u8 136 H])).size = 136 := by rw [bytesI_sz]; rfl
    have hs2 : (bytesI ((List.range m).map f)).size = m := by rw [bytesI_sz]; simp
    have hs3 : ((bytesI (intsL [SK.f .u8 136 H])).extract 0 N.toNat).size = N.toNat := size_cut _ 0 N.toNat (by omega)
    refine ⟨⟨by omega, hN.1, by rw [hs1]; exact Int.le_of_lt hN.2⟩, fun _ => trivial, by rw [hs3, hs2]; omega, fun y => rfl, (ofRow L, _), ?_, rfl, ⟨fun _ _ => rfl, fun _ _ => rfl, rfl, trivial⟩, rfl, rfl, ⟨fun _ _ => rfl, trivial⟩, rfl, ⟨fun j hj => (lw_ofRow hL hj).symm, trivial⟩, rfl, ?_⟩
    · unfold PE
      rw [ByteArray.size_append, hs3, hs2]
      exact feed_start hm hH hf _ (by show _ ++ [] = _; rw [List.append_nil])
    rintro ⟨b, s⟩ hP
    have hP : PE L H N f m b s := hP
    refine ⟨fun h => ?_, fun h => ?_⟩
    · have h : (s.size : Int) ≥ 136 := of_decide_eq_true h
      refine ⟨⟨by omega, by omega, h⟩, lanes_lw _ _, by rw [size_cut s 0 136 (by omega)], ⟨by omega, h, Int.le_refl _⟩, (turnB (absB b (strF (s.extract 0 136)) 136), s.extract 136 s.size), ?_, by rw [Int.toNat_natCast], ⟨fun _ _ => rfl, fun _ _ => rfl, rfl, trivial⟩, rfl, rfl, ⟨fun _ _ => rfl, trivial⟩, rfl, ⟨fun j _ => by rw [ofRow_lw], trivial⟩, rfl, ?_⟩
      · unfold PE
        rw [feed_step b s (by omega)]
        exact hP
      · show (s.extract 136 s.size).size < s.size
        rw [size_cut s 136 s.size (Nat.le_refl _)]; omega
    · have h : ¬ (s.size : Int) ≥ 136 := of_decide_eq_false h
      refine ⟨fun y => rfl, (0, b, s), ⟨hP, by show s.size < 136; omega, Nat.zero_le _⟩, rfl, rfl, ⟨fun _ _ => rfl, fun _ _ => rfl, rfl, trivial⟩, rfl, rfl, ⟨fun _ _ => rfl, trivial⟩, rfl, ⟨fun _ _ => rfl, trivial⟩, rfl, by simp only [Nat.not_lt_zero, if_false, implies_true, and_self], rfl, ?_⟩
      rintro ⟨i, c, t⟩ ⟨hQ, ht, hi⟩
      have hQ : PE L H N f m c t := hQ
      have ht : t.size < 136 := ht
      have hi : i ≤ t.size := hi
      refine ⟨fun h => ?_, fun h => ?_⟩
      · have h : (i : Int) < (t.size : Int) := of_decide_eq_true h
        refine ⟨⟨by show (0 : Int) ≤ (i : Int); omega, by show ((i : Int)).toNat < t.size; omega⟩, ⟨by show (0 : Int) ≤ (i : Int); omega, by show (i : Int) < 136; omega⟩, ⟨by show (0 : Int) ≤ (i : Int); omega, by show (i : Int) < 136; omega⟩, (i + 1, c, t), ⟨hQ, ht, by show i + 1 ≤ t.size; omega⟩, rfl, ?_, ⟨fun _ _ => rfl, fun _ _ => rfl, rfl, trivial⟩, rfl, rfl, ⟨fun _ _ => rfl, trivial⟩, rfl, ⟨fun _ _ => rfl, trivial⟩, rfl, ⟨fun _ _ => rfl, fun j _ => ?_, rfl, trivial⟩, rfl, by show 136 - (i + 1) < 136 - i; omega⟩
        · show IntKind.i64.wrap ((i : Int) + 1) = ((i + 1 : Nat) : Int)
          rw [IntKind.wrap_i64]; omega
        · show (if j = ((i : Int)).toNat then ((t.data.getD ((i : Int)).toNat 0).toNat : Int) else if j < i then strF t j else 0) = if j < i + 1 then strF t j else 0
          rw [Int.toNat_natCast]
          by_cases e : j = i
          · subst e
            rw [if_pos rfl, if_pos (by omega)]; rfl
          · rw [if_neg e]
            by_cases g : j < i
            · rw [if_pos g, if_pos (by omega)]
            · rw [if_neg g, if_neg (by omega)]
      · have h : ¬ (i : Int) < (t.size : Int) := of_decide_eq_false h
        have : i = t.size := by omega
        subst this
        unfold PE at hQ
        rw [feed_end c t ht] at hQ
        obtain ⟨q1, q2, q3⟩ := hQ
        exact ⟨⟨fun j _ => by rw [if_pos rfl, ← q1], fun j hj => (q3 j hj).trans (if_pos rfl).symm, by rw [if_pos rfl, ← q2], trivial⟩, rfl⟩
end Go.Proofs.YtfoklomipdkomaaDoor
end

section
/-
  Duties of package keccak's laws.
-/
namespace Go.Proofs.YtfoklomipdkomaaDoor
open Go Go.Sx Go.RowKit
def cxKSum : Cx := ⟨[(5, cAddM), (14, cEndM)], glK, 0⟩
def kSumG (n : Nat) (f : Nat → Int) : SV := .one (sRow .u8 32 (sumB n f))
-- VC vc_Sum HASH 5ecf70b83b16fb51
theorem vc_Sum (a : Option Addr) (n cap : Nat) (f : Nat → Int) :
    Owes Tryd.prog cxKSum [] 10 Tryd.f8 [sXs a n cap f] (kSumG n f) =
    (let x1 : Int := (↑(Go.Sx.addB (spOf (fun (x : Nat) => (0 : Int)) (fun (x : Nat) => (0 : Int)) (0 : Int)) (fun (j : Nat) => f j) n).n : Int); (∀ (j : Nat), True) ∧ (∀ (i : Nat), i < (25 : Nat) → (0 : Int) ≤ (0 : Int) ∧ (0 : Int) < (18446744073709551616 : Int)) ∧ mayG (fun (x : Nat) => (0 : Int)) (0 : Int) = Bool.true ∧ (∀ (i : Nat), i < (25 : Nat) → (0 : Int) ≤ Go.Sx.lw ((Go.Sx.addB (spOf (fun (x : Nat) => (0 : Int)) (fun (x : Nat) => (0 : Int)) (0 : Int)) (fun (j : Nat) => f j) n).a i) ∧ Go.Sx.lw ((Go.Sx.addB (spOf (fun (x : Nat) => (0 : Int)) (fun (x : Nat) => (0 : Int)) (0 : Int)) (fun (j : Nat) => f j) n).a i) < (18446744073709551616 : Int)) ∧ mayG (Go.Sx.addB (spOf (fun (x : Nat) => (0 : Int)) (fun (x : Nat) => (0 : Int)) (0 : Int)) (fun (j : Nat) => f j) n).2 x1 = Bool.true ∧ (∀ (j : Nat), j < (32 : Nat) → Go.Sx.endB (spOf (fun (i : Nat) => Go.Sx.lw ((Go.Sx.addB (spOf (fun (x : Nat) => (0 : Int)) (fun (x : Nat) => (0 : Int)) (0 : Int)) (fun (j : Nat) => f j) n).a i)) (Go.Sx.addB (spOf (fun (x : Nat) => (0 : Int)) (fun (x : Nat) => (0 : Int)) (0 : Int)) (fun (j : Nat) => f j) n).2 x1) j = Go.Sx.sumB n f j) ∧ True) := by kernel_rfl
-- END VC
end Go.Proofs.YtfoklomipdkomaaDoor
end

section
/-
  The laws of package keccak: what the whole world knows; bytes cut in any way.
-/
namespace Go.Proofs.YtfoklomipdkomaaDoor
open Go Go.Sx Go.RowKit

theorem sp0_eq : spOf (fun _ => 0) (fun _ => 0) 0 = sp0 := by
  unfold spOf sp0
  congr 1
theorem sp0_clean : clean sp0 := ⟨(by decide : (0 : Nat) < 136), fun j _ _ => (rfl : sp0.H j = 0)⟩
theorem may_zero : mayG (fun _ => 0) 0 = true := by
  rw [mayG_iff]
  exact ⟨⟨by omega, by omega⟩, fun _ _ => rfl⟩
theorem ok_Sum (a : Option Addr) (n cap : Nat) (f : Nat → Int) : Owes Tryd.prog cxKSum [] 10 Tryd.f8 [sXs a n cap f] (kSumG n f) := by
  rw [vc_Sum]
  intro x1
  have e0 : spOf (fun _ => 0) (fun _ => 0) 0 = sp0 := sp0_eq
  simp only [x1, e0, spOf_lw]
  exact ⟨fun _ => trivial, fun _ _ => ⟨by omega, by omega⟩, may_zero, lanes_lw _ _, may_clean (addB_clean sp0_clean _ _), fun _ _ => rfl, trivial⟩
theorem card_Sum : FnOKg Tryd.prog glK 8 (specBs (fun _ _ => []) kSumG) :=
  FnOK_Bs (cx := cxKSum) (iv := fun _ _ _ _ => []) (N := 10) (by
    intro p hp
    simp only [cxKSum, List.mem_cons, List.not_mem_nil, or_false] at hp
    rcases hp with rfl | rfl
    · exact card_AddM
    · exact card_EndM) Tryd.func8 (by kernel_rfl) (by kernel_rfl) (fun _ _ => bnd_row _ _ _ _) fun a n cap f _ => ok_Sum a n cap f
theorem sumB_congr {n : Nat} {f g : Nat → Int} (h : ∀ i, i < n → f i = g i) : sumB n f = sumB n g := by
  funext j
  unfold sumB
  rw [addB_congr h]
end Go.Proofs.YtfoklomipdkomaaDoor
end

section
/-
  KeccakAdds and KeccakSums: the code's soaking and the document's are the same; how many bytes an argument holds.
-/
namespace Go.Proofs.YtfoklomipdkomaaDoor
open Go Go.Sx Go.RowKit

def aA (L H : Nat → Int) (N : Int) (n : Nat) (f : Nat → Int) (i : Nat) : Int := if mayG H N then lw ((addB (spOf L H N) f n).a i) else 0
def aG (L H : Nat → Int) (N : Int) (n : Nat) (f : Nat → Int) (j : Nat) : Int := if mayG H N then (addB (spOf L H N) f n).H j else 0
def aM (L H : Nat → Int) (N : Int) (n : Nat) (f : Nat → Int) : Int := if mayG H N then ((addB (spOf L H N) f n).n : Int) else 0
def aX (_ H : Nat → Int) (N : Int) (_ : Nat) (_ : Nat → Int) : Int := if mayG H N then 0 else 12
theorem addGG_eq : addGG aA aG aM aX = kAddG := rfl
theorem kAddG_bnd (L H : Nat → Int) (N : Int) (n : Nat) (f : Nat → Int) : (kAddG L H N n f).bnd none0 := by
  unfold kAddG
  intro x hx
  simp only [List.mem_cons, List.not_mem_nil, or_false] at hx
  rcases hx with rfl | rfl
  · exact bnd_sSp _ _ _ _
  · trivial
theorem card_Soaked : FnOKg Tryd.prog [] 6 (specSpB soakC kAddG) :=
  FnOK_SpB (cx := cxSoaked turnB) (by
    intro p hp
    simp only [cxSoaked, List.mem_cons, List.not_mem_nil, or_false] at hp
    rcases hp with rfl | rfl
    · exact card_badSponge
    · exact card_soaked) (iv := fun L H N _ m _ f => [(6, .inv (invEat L H N (PE L H N f m))), (10, .inv (invLay L H N (PE L H N f m)))]) (N := 200) Tryd.func6 (by kernel_rfl) (by kernel_rfl) kAddG_bnd fun L H N a m cap f hc => ok_Soaked L H N a m cap f hc.1 hc.2.1 hc.2.2.1 hc.2.2.2.1
theorem cxok_Adds : CxOK Tryd.prog (cxAdds aA aG aM aX) := by
  intro p hp
  unfold cxAdds at hp
  rw [addGG_eq] at hp
  simp only [List.mem_cons, List.not_mem_nil, or_false] at hp
  rcases hp with rfl | rfl
  · exact card_kAdd
  · exact card_Soaked.up _
set_option maxRecDepth 100000 in
theorem ok_KeccakAdds (L H : Nat → Int) (N : Int) (a : Option Addr) (n cap : Nat) (f : Nat → Int) (hL : lanes 25 L) (hH : bytesH H) (_ : i64ok N) (hn : n ≤ 140737488355327) (hf : ∀ i, 0 ≤ f i ∧ f i < 256) : Owes Tryd.prog (cxAdds aA aG aM aX) [] 10 Tryd.f3 [sSp L H N, sXs a n cap f] (.one (sB true)) := by
  rw [vc_KeccakAdds]
  generalize aA L H N n (fun j => f j) = A
  generalize aG L H N n (fun j => f j) = G
  generalize aM L H N n (fun j => f j) = M
  generalize aX L H N n (fun j => f j) = X
  have T : ∀ i : Nat, True := fun _ => trivial
  simp only [beq_self_eq_true, conj, Bool.and_self, Bool.true_eq_false, forall_const, false_implies, and_true, true_and, implies_true]
  exact ⟨hL, hL, hH, hf, hn⟩
theorem push_bytes {s : Sp} (h : bytesH s.H) {b : Int} (hb : 0 ≤ b ∧ b < 256) : bytesH (pushB s b).H := by
  unfold pushB
  split
  · exact fun _ _ => ⟨Int.le_refl _, (by decide : (0 : Int) < 256)⟩
  · intro j hj
    show 0 ≤ (if j = s.n then b else s.H j) ∧ (if j = s.n then b else s.H j) < 256
    split
    · exact hb
    · exact h j hj
theorem add_bytes {s : Sp} (h : bytesH s.H) {f : Nat → Int} (hf : ∀ i, 0 ≤ f i ∧ f i < 256) : ∀ m, bytesH (addB s f m).H
  | 0 => h
  | m + 1 => push_bytes (add_bytes h hf m) (hf m)
theorem ok_Hash (s : ByteArray) (hs : s.size ≤ 140737488355327) : Owes Tryd.prog (cxHash aA aG aM aX eE xE) [] 10 Tryd.f9 [.sc (.val (.string s))] (.one (sRow .u8 32 (sumB s.size fun j => ((s.data.getD j 0).toNat : Int)))) := by
  rw [vc_Hash]
  generalize hF : (fun j : Nat => ((s.data.getD j (0 : UInt8)).toNat : Int)) = F
  have hFb : ∀ i, 0 ≤ F i ∧ F i < 256 := fun i => by
    subst hF
    have := (s.data.getD i 0).toNat_lt
    show 0 ≤ ((s.data.getD i (0 : UInt8)).toNat : Int) ∧ ((s.data.getD i (0 : UInt8)).toNat : Int) < 256
    omega
  have hc := addB_clean sp0_clean F s.size
  have hb : bytesH (addB sp0 F s.size).H := add_bytes (fun _ _ => ⟨Int.le_refl _, (by decide : (0 : Int) < 256)⟩) hFb _
  have e1 : aA (fun _ => 0) (fun _ => 0) 0 s.size F = fun i => lw ((addB sp0 F s.size).a i) := by
    funext i
    simp only [aA, may_zero, if_true, sp0_eq]
  have e2 : aG (fun _ => 0) (fun _ => 0) 0 s.size F = (addB sp0 F s.size).H := by
    funext i
    simp only [aG, may_zero, if_true, sp0_eq]
  have e3 : aM (fun _ => 0) (fun _ => 0) 0 s.size F = ((addB sp0 F s.size).n : Int) := by
    simp only [aM, may_zero, if_true, sp0_eq]
  rw [e1, e2, e3]
  refine fun a cap _ => ⟨fun _ => trivial, fun _ _ => ⟨by decide, by decide⟩, fun _ _ => ⟨by decide, by decide⟩, fun i => ?_, hs, lanes_lw _ _, hb, fun j _ => ?_, trivial⟩
  · have := hFb i
    rw [← hF] at this
    exact this
  · simp only [eE, may_clean hc, if_true, spOf_lw, sumB]
theorem card_Hash : FnOKg Tryd.prog [] 9 cHash := by
  refine FnOK_of Tryd.func9 (by kernel_rfl) (by kernel_rfl) fun args ps sv hs hp => ?_
  unfold cHash at hs
  split at hs
  case h_2 => cases hs
  rename_i s
  simp only [Option.some.injEq, Prod.mk.injEq] at hs
  obtain ⟨rfl, rfl⟩ := hs
  have hb : (SV.one (sRow .u8 32 (sumB s.size fun j => ((s.data.getD j 0).toNat : Int)))).bnd none0 := bnd_row _ _ _ _
  have hcx : CxOK Tryd.prog (cxHash aA aG aM aX eE xE) := by
    intro p hp
    unfold cxHash at hp
    rw [addGG_eq] at hp
    simp only [List.mem_cons, List.not_mem_nil, or_false] at hp
    rcases hp with rfl | rfl
    · exact card_Soaked
    · exact card_Wrung
  refine ⟨hb, fun ρ w hz hg _ => ?_⟩
  refine (calls_of_owesG hcx Tryd.func9 (by kernel_rfl) (ok_Hash s hp.1) ρ w hz hg (fun x hx => ?_)).mono ?_
  · simp only [List.mem_singleton] at hx
    subst hx
    trivial
  · rintro e w' ⟨v, rfl, ⟨ρ', hr⟩, hbl⟩
    exact ⟨v, rfl, rep_none0 hb hr, hbl⟩
theorem cxok_Sums : CxOK Tryd.prog cxSums := by
  intro p hp
  simp only [cxSums, List.mem_cons, List.not_mem_nil, or_false] at hp
  rcases hp with rfl | rfl
  · exact card_Sum
  · exact card_Hash.up _
theorem ok_KeccakSums (a : Option Addr) (n cap : Nat) (f : Nat → Int) (hn : n ≤ 140737488355327) (hf : ∀ i, 0 ≤ f i ∧ f i < 256) : Owes Tryd.prog cxSums [] 10 Tryd.f4 [sXs a n cap f] (.one (sB true)) := by
  rw [vc_KeccakSums]
  intro x1
  have e : x1 = n := by
    show (bytesI _).size = n
    rw [bytesI_sz, List.length_map, List.length_range]
  clear_value x1
  subst e
  refine ⟨fun _ => trivial, fun _ => trivial, hn, ?_⟩
  have : sumB x1 (fun j => f j) = sumB x1 fun j => (((bytesI (List.map (fun j => f j) (List.range x1))).data.getD j (0 : UInt8)).toNat : Int) := sumB_congr fun i hi => by
    have h : ((List.range x1).map fun j => f j).getD i 0 = f i := by
      rw [List.getD_eq_getElem?_getD, List.getElem?_map, List.getElem?_range hi]; rfl
    have h2 := strF_bytes (l := (List.range x1).map fun j => f j) (j := i) (by rw [h]; exact hf i)
    rw [h] at h2
    exact h2.symm
  rw [← this]
  simp only [conj, beq_self_eq_true, List.all_eq_true, implies_true]
/-- How many bytes an argument holds. -/
theorem trod_len {H : Type} {enc : TypeId × Value → H} {P : Program} {W : World} {base : Nat} {sp : Nat → Bool} {held : Bool} {t e : TypeId} {a : Addr} {n cap : Nat} {d : DataW H} {ps : List MemPlace}
    (ht : P.underlying t = some (.slice e)) (hb : P.bytesOf e = 1) (h : DataW.Trod enc P W base sp held t (.slice (some a) n cap) d ps) (hw : (d.weights P t).all (· ≤ reachBytes) = true) : n ≤ 140737488355327 := by
  obtain ⟨fuel, hf⟩ := h
  have hel : (Value.slice (some a) n cap).cells.toList = [.slice (some a) n cap] := rfl
  rw [hel] at hf
  cases fuel with
  | zero => simp [DataW.trod] at hf
  | succ fuel =>
    simp only [DataW.trod, ht] at hf
    split at hf
    · obtain ⟨elems, hel, hr⟩ := Option.bind_eq_some_iff.1 hf
      obtain ⟨rest, _, he⟩ := Option.map_eq_some_iff.1 hr
      obtain ⟨h1, _⟩ := mapM_get hel
      rw [List.length_range] at h1
      have he := (Prod.mk.inj he).1
      subst he
      simp only [DataW.weights, ht, List.all_cons, Bool.and_eq_true, decide_eq_true_eq, hb, Nat.mul_one, List.length_map] at hw
      have := hw.1
      unfold reachBytes at this
      omega
    · cases hf
end Go.Proofs.YtfoklomipdkomaaDoor
end
