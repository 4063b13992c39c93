/-
  Texts: V121, P184, Tex, P185, P186, V112, P165, P166.
-/
import Derived.Test.YtamhchemnalfbaaM1
import Derived.Test.YtamhchemnalfbaaM2
import Derived.Test.YtamhchemnalfbaaM3
import Derived.Test.YtamhchemnalfbaaM4
import Derived.Test.YtamhchemnalfbaaM5
import Derived.Test.YtamhchemnalfbaaM6
import Derived.Test.YtamhchemnalfbaaM7
import Derived.Test.YtamhchemnalfbaaM8
import Derived.Test.YtamhchemnalfbaaM9
import Derived.Test.YtamhchemnalfbaaM10
import Derived.Test.YtamhchemnalfbaaM11
import Derived.Test.YtamhchemnalfbaaM12
section
namespace Go.Proofs.Ytamhchemnalfbaa
open Go.Sx
set_option maxRecDepth 100000
def invTu (n : Nat) (k : Nat → Nat → Int) (ix : Int) (y : Nat) : Inv where
  X := Nat × Option Addr × Nat
  tm x := slotsAt 34 [(0, .one (.sc (.ptr 1 0))), (4, .one (.sc (.fn 87 [.p 2 0]))), (5, .one (.sc (.slw 5 20 0 y y))), (18, .one (sI .i64 (y : Int))), (19, .one (sI .i64 (x.1 : Int)))]
  ob x := [.cells 44 zLoad 0, .cells 108 [.c (.val (.int .i64 ix)), .c (.val (.slice none 0 0))] 0, .cells 41 [.c (.xs x.2.1 (n - (6 + 20 * x.1)) x.2.2 1 (u8F fun j c => k (6 + 20 * x.1 + j) c))] 0, .dead, .dead, .row 63 20 y (u8F (keyG n k x.1)) 0]
  holds x := x.1 ≤ y
  less x := y - x.1
set_option maxHeartbeats 4000000 in
theorem vc_ldc4 (a : Option Addr) (n cap : Nat) (k : Nat → Nat → Int) (Y : Nat) (IX : Int) (am fe : Nat) (tk : Nat → Int) (hm : Int) (to : Nat → Int) (tc dc : Int) (sy : ByteArray) (m : Nat) (dk : Nat → Nat → Int) (ix : Int) (y : Nat) (kk : Nat → Nat → Int) (z e : Int) :
    OwesQ Try.prog cxLd [] [] [((128 + 1) * 100000 + 4, .inv (invTu n k IX Y))] 30 Try.f15 [.sc (.xs a n cap 1 (kdF 4 k))] false [.st [.k (.c (.val (.int .i64 z))), .k (.u am), .k (.u fe), .k (.f .u8 32 tk), .k (.c (.val (.int .i64 hm))), .k (.f .u8 32 to), .k (.c (.val (.int .i64 tc))), .k (.c (.val (.int .i64 dc))), .k (.c (.val (.string sy))), .s m 1 (u8F dk), .k (.c (.val (.int .i64 ix))), .s y 20 (u8F kk)], .v (sI .i64 e)] =
    (let x1 : Nat := n - 1; let x2 : Nat := x1.min 4; let x3 : Int := (↑x2 : Int); let x4 : Int := (↑x1 : Int); let x5 : Nat := x3.toNat; let x6 : Nat := x1 - x5; let x7 : Nat := x6.min 1; let x8 : Int := (↑x7 : Int); let x9 : Int := (↑x6 : Int); let x10 : Int := Go.IntKind.i64.wrap (Go.IntKind.u64.wrap (↑(BitVec.ofInt 64 (0 : Int) ||| BitVec.ofInt 64 (Go.IntKind.u64.wrap (if 0 < x7 then intsC (kdF (4 : Int) k (1 + (x5 + 0)) 0) else (0 : Int)))).toNat : Int)); let x11 : Nat := x10.toNat; let x12 : Nat := cap - 1; let x13 : Nat := x12 - x5; let x14 : Nat := x8.toNat; let x15 : Nat := x6 - x14; let x16 : Int := Go.IntKind.i64.wrap ((5 : Int) + Go.IntKind.i64.wrap ((20 : Int) * (↑Y : Int))); let x17 : Bool := Decidable.decide ((0 : Int) ≤ IX) && Decidable.decide (IX ≤ (4294967295 : Int)); let x18 : Bool := x17 && Decidable.decide ((↑Y : Int) > (0 : Int)); let x19 : Nat := 0 + Y; (((↑n : Int) == (0 : Int)) = Bool.true → (((0 : Int) = z ∧ True) ∧ (0 = am % M256 ∧ True) ∧ (0 = fe % M256 ∧ True) ∧ ((0 : Int) = tk 0 ∧ (0 : Int) = tk 1 ∧ (0 : Int) = tk 2 ∧ (0 : Int) = tk 3 ∧ (0 : Int) = tk 4 ∧ (0 : Int) = tk 5 ∧ (0 : Int) = tk 6 ∧ (0 : Int) = tk 7 ∧ (0 : Int) = tk 8 ∧ (0 : Int) = tk 9 ∧ (0 : Int) = tk 10 ∧ (0 : Int) = tk 11 ∧ (0 : Int) = tk 12 ∧ (0 : Int) = tk 13 ∧ (0 : Int) = tk 14 ∧ (0 : Int) = tk 15 ∧ (0 : Int) = tk 16 ∧ (0 : Int) = tk 17 ∧ (0 : Int) = tk 18 ∧ (0 : Int) = tk 19 ∧ (0 : Int) = tk 20 ∧ (0 : Int) = tk 21 ∧ (0 : Int) = tk 22 ∧ (0 : Int) = tk 23 ∧ (0 : Int) = tk 24 ∧ (0 : Int) = tk 25 ∧ (0 : Int) = tk 26 ∧ (0 : Int) = tk 27 ∧ (0 : Int) = tk 28 ∧ (0 : Int) = tk 29 ∧ (0 : Int) = tk 30 ∧ (0 : Int) = tk 31 ∧ True) ∧ ((0 : Int) = hm ∧ True) ∧ ((0 : Int) = to 0 ∧ (0 : Int) = to 1 ∧ (0 : Int) = to 2 ∧ (0 : Int) = to 3 ∧ (0 : Int) = to 4 ∧ (0 : Int) = to 5 ∧ (0 : Int) = to 6 ∧ (0 : Int) = to 7 ∧ (0 : Int) = to 8 ∧ (0 : Int) = to 9 ∧ (0 : Int) = to 10 ∧ (0 : Int) = to 11 ∧ (0 : Int) = to 12 ∧ (0 : Int) = to 13 ∧ (0 : Int) = to 14 ∧ (0 : Int) = to 15 ∧ (0 : Int) = to 16 ∧ (0 : Int) = to 17 ∧ (0 : Int) = to 18 ∧ (0 : Int) = to 19 ∧ (0 : Int) = to 20 ∧ (0 : Int) = to 21 ∧ (0 : Int) = to 22 ∧ (0 : Int) = to 23 ∧ (0 : Int) = to 24 ∧ (0 : Int) = to 25 ∧ (0 : Int) = to 26 ∧ (0 : Int) = to 27 ∧ (0 : Int) = to 28 ∧ (0 : Int) = to 29 ∧ (0 : Int) = to 30 ∧ (0 : Int) = to 31 ∧ True) ∧ ((0 : Int) = tc ∧ True) ∧ ((0 : Int) = dc ∧ True) ∧ ((ByteArray.mk #[]) = sy ∧ True) ∧ m = 0 ∧ ((0 : Int) = ix ∧ True) ∧ y = 0 ∧ True) ∧ (4 : Int) = e) ∧ (((↑n : Int) == (0 : Int)) = Bool.false → ((0 : Int) ≤ (0 : Int) ∧ (0 : Int) < (↑n : Int)) ∧ ((0 : Int) ≤ (1 : Int) ∧ (1 : Int) ≤ (↑n : Int) ∧ (↑n : Int) ≤ (↑n : Int)) ∧ (∀ (j : Nat), Option.rec False (fun (val : Go.IntKind × Int) => Prod.casesOn val fun (fst : Go.IntKind) (_ : Int) => if Go.IntKind.u8 = fst then True else False) (asI (SA.sc (kdF (4 : Int) k (1 + j) 0)))) ∧ ((0 : Int) ≤ x3 ∧ x3 ≤ x4 ∧ x4 ≤ x4) ∧ (∀ (j : Nat), Option.rec False (fun (val : Go.IntKind × Int) => Prod.casesOn val fun (fst : Go.IntKind) (_ : Int) => if Go.IntKind.u8 = fst then True else False) (asI (SA.sc (kdF (4 : Int) k (1 + (x5 + j)) 0)))) ∧ ((0 : Int) ≤ x8 ∧ x8 ≤ x9 ∧ x9 ≤ x9) ∧ ((0 : Int) ≤ x10 ∧ x10 ≤ x10 ∧ (20 : Int) * x10 ≤ (281474976710656 : Int) ∧ x10 ≤ (9223372036854775807 : Int)) ∧ (∀ (y : Nat × Option Go.Addr × Nat), closedB (slotsAt 34 [(0, SV.one (SA.sc (SC.ptr 1 0))), (4, SV.one (SA.sc (SC.fn 87 [PV.p 2 0]))), (5, SV.one (SA.sc (SC.slw 5 20 0 Y Y))), (18, SV.one (sI Go.IntKind.i64 (↑Y : Int))), (19, SV.one (sI Go.IntKind.i64 (↑y.fst : Int)))]) [SO.cells (44 : Go.TypeId) zLoad 0, SO.cells (108 : Go.TypeId) [SK.c (SC.val (Go.Value.int Go.IntKind.i64 IX)), SK.c (SC.val (Go.Value.slice Option.none 0 0))] 0, SO.cells (41 : Go.TypeId) [SK.c (SC.xs y.snd.fst (n - (6 + 20 * y.fst)) y.snd.snd 1 (u8F fun (j c : Nat) => k (6 + 20 * y.fst + j) c))] 0, SO.dead, SO.dead, SO.row (63 : Go.TypeId) 20 Y (u8F (keyG n k y.fst)) 0] = Bool.true) ∧ ∃ (y_1 : Nat × Option Go.Addr × Nat), y_1.fst ≤ Y ∧ (87 = 87 ∧ [PV.p 2 0] = [PV.p 2 0]) ∧ (5 = 5 ∧ 20 = 20 ∧ 0 = 0 ∧ x11 = Y ∧ x11 = Y) ∧ (↑x11 : Int) = (↑Y : Int) ∧ (0 : Int) = (↑y_1.fst : Int) ∧ (ByteArray.mk #[]) = (ByteArray.mk #[]) ∧ Go.Value.slice Option.none 0 0 = Go.Value.slice Option.none 0 0 ∧ Go.Value.slice Option.none 0 0 = Go.Value.slice Option.none 0 0 ∧ 0 = 0 ∧ Go.IntKind.i64.wrap (Go.IntKind.u64.wrap (↑(BitVec.ofInt 64 (Go.IntKind.u64.wrap (Go.IntKind.u64.wrap (↑(BitVec.ofInt 64 (Go.IntKind.u64.wrap (Go.IntKind.u64.wrap (↑(BitVec.ofInt 64 (Go.IntKind.u64.wrap (Go.IntKind.u64.wrap (↑(BitVec.ofInt 64 (0 : Int) ||| BitVec.ofInt 64 (Go.IntKind.u64.wrap (if 0 < x2 then k 1 0 else (0 : Int)))).toNat : Int) * (256 : Int))) ||| BitVec.ofInt 64 (Go.IntKind.u64.wrap (if 1 < x2 then k 2 0 else (0 : Int)))).toNat : Int) * (256 : Int))) ||| BitVec.ofInt 64 (Go.IntKind.u64.wrap (if 2 < x2 then k 3 0 else (0 : Int)))).toNat : Int) * (256 : Int))) ||| BitVec.ofInt 64 (Go.IntKind.u64.wrap (if 3 < x2 then k 4 0 else (0 : Int)))).toNat : Int)) = IX ∧ Go.Value.slice Option.none 0 0 = Go.Value.slice Option.none 0 0 ∧ 0 = 0 ∧ (adS x13 x14 1 (adS x12 x5 1 (adS cap 1 1 a)) = y_1.snd.fst ∧ x15 = n - (6 + 20 * y_1.fst) ∧ x13 - x14 = y_1.snd.snd ∧ ∀ (i : Nat), i < x15 → simC (kdF (4 : Int) k (1 + (x5 + (x14 + i))) 0) (u8F (fun (j c : Nat) => k (6 + 20 * y_1.fst + j) c) i 0)) ∧ 0 = 0 ∧ x11 = Y ∧ (x11 - x11) * 20 = 0 ∧ (∀ (i : Nat), i < x11 → (0 : Int) = keyG n k y_1.fst i 0 ∧ (0 : Int) = keyG n k y_1.fst i 1 ∧ (0 : Int) = keyG n k y_1.fst i 2 ∧ (0 : Int) = keyG n k y_1.fst i 3 ∧ (0 : Int) = keyG n k y_1.fst i 4 ∧ (0 : Int) = keyG n k y_1.fst i 5 ∧ (0 : Int) = keyG n k y_1.fst i 6 ∧ (0 : Int) = keyG n k y_1.fst i 7 ∧ (0 : Int) = keyG n k y_1.fst i 8 ∧ (0 : Int) = keyG n k y_1.fst i 9 ∧ (0 : Int) = keyG n k y_1.fst i 10 ∧ (0 : Int) = keyG n k y_1.fst i 11 ∧ (0 : Int) = keyG n k y_1.fst i 12 ∧ (0 : Int) = keyG n k y_1.fst i 13 ∧ (0 : Int) = keyG n k y_1.fst i 14 ∧ (0 : Int) = keyG n k y_1.fst i 15 ∧ (0 : Int) = keyG n k y_1.fst i 16 ∧ (0 : Int) = keyG n k y_1.fst i 17 ∧ (0 : Int) = keyG n k y_1.fst i 18 ∧ (0 : Int) = keyG n k y_1.fst i 19) ∧ ∀ (y_2 : Nat × Option Go.Addr × Nat), y_2.fst ≤ Y → (Decidable.decide ((↑y_2.fst : Int) < (↑Y : Int)) = Bool.true → (∀ (_ : Nat), True) ∧ ((0 : Int) ≤ (↑((n - (6 + 20 * y_2.fst)).min 20) : Int) ∧ (↑((n - (6 + 20 * y_2.fst)).min 20) : Int) ≤ (↑(n - (6 + 20 * y_2.fst)) : Int) ∧ (↑(n - (6 + 20 * y_2.fst)) : Int) ≤ (↑(n - (6 + 20 * y_2.fst)) : Int)) ∧ ((0 : Int) ≤ (↑y_2.fst : Int) ∧ (↑y_2.fst : Int) < (↑Y : Int)) ∧ 0 + (↑y_2.fst : Int).toNat < Y ∧ ∃ (y' : Nat × Option Go.Addr × Nat), y'.fst ≤ Y ∧ (87 = 87 ∧ [PV.p 2 0] = [PV.p 2 0]) ∧ (5 = 5 ∧ 20 = 20 ∧ 0 = 0 ∧ Y = Y ∧ Y = Y) ∧ (↑Y : Int) = (↑Y : Int) ∧ Go.IntKind.i64.wrap ((↑y_2.fst : Int) + (1 : Int)) = (↑y'.fst : Int) ∧ (ByteArray.mk #[]) = (ByteArray.mk #[]) ∧ Go.Value.slice Option.none 0 0 = Go.Value.slice Option.none 0 0 ∧ Go.Value.slice Option.none 0 0 = Go.Value.slice Option.none 0 0 ∧ 0 = 0 ∧ IX = IX ∧ Go.Value.slice Option.none 0 0 = Go.Value.slice Option.none 0 0 ∧ 0 = 0 ∧ (adS y_2.snd.snd (↑((n - (6 + 20 * y_2.fst)).min 20) : Int).toNat 1 y_2.snd.fst = y'.snd.fst ∧ n - (6 + 20 * y_2.fst) - (↑((n - (6 + 20 * y_2.fst)).min 20) : Int).toNat = n - (6 + 20 * y'.fst) ∧ y_2.snd.snd - (↑((n - (6 + 20 * y_2.fst)).min 20) : Int).toNat = y'.snd.snd ∧ ∀ (i : Nat), i < n - (6 + 20 * y_2.fst) - (↑((n - (6 + 20 * y_2.fst)).min 20) : Int).toNat → k (6 + 20 * y_2.fst + ((↑((n - (6 + 20 * y_2.fst)).min 20) : Int).toNat + i)) 0 = k (6 + 20 * y'.fst + i) 0) ∧ 0 = 0 ∧ Y = Y ∧ 0 = 0 ∧ (∀ (i : Nat), i < Y → (bif Decidable.decide (i = 0 + (↑y_2.fst : Int).toNat) then if 0 < (n - (6 + 20 * y_2.fst)).min 20 then (fun (j c : Nat) => k (6 + 20 * y_2.fst + j) c) 0 0 else (0 : Int) else keyG n k y_2.fst i 0) = keyG n k y'.fst i 0 ∧ (bif Decidable.decide (i = 0 + (↑y_2.fst : Int).toNat) then if 1 < (n - (6 + 20 * y_2.fst)).min 20 then (fun (j c : Nat) => k (6 + 20 * y_2.fst + j) c) 1 0 else (0 : Int) else keyG n k y_2.fst i 1) = keyG n k y'.fst i 1 ∧ (bif Decidable.decide (i = 0 + (↑y_2.fst : Int).toNat) then if 2 < (n - (6 + 20 * y_2.fst)).min 20 then (fun (j c : Nat) => k (6 + 20 * y_2.fst + j) c) 2 0 else (0 : Int) else keyG n k y_2.fst i 2) = keyG n k y'.fst i 2 ∧ (bif Decidable.decide (i = 0 + (↑y_2.fst : Int).toNat) then if 3 < (n - (6 + 20 * y_2.fst)).min 20 then (fun (j c : Nat) => k (6 + 20 * y_2.fst + j) c) 3 0 else (0 : Int) else keyG n k y_2.fst i 3) = keyG n k y'.fst i 3 ∧ (bif Decidable.decide (i = 0 + (↑y_2.fst : Int).toNat) then if 4 < (n - (6 + 20 * y_2.fst)).min 20 then (fun (j c : Nat) => k (6 + 20 * y_2.fst + j) c) 4 0 else (0 : Int) else keyG n k y_2.fst i 4) = keyG n k y'.fst i 4 ∧ (bif Decidable.decide (i = 0 + (↑y_2.fst : Int).toNat) then if 5 < (n - (6 + 20 * y_2.fst)).min 20 then (fun (j c : Nat) => k (6 + 20 * y_2.fst + j) c) 5 0 else (0 : Int) else keyG n k y_2.fst i 5) = keyG n k y'.fst i 5 ∧ (bif Decidable.decide (i = 0 + (↑y_2.fst : Int).toNat) then if 6 < (n - (6 + 20 * y_2.fst)).min 20 then (fun (j c : Nat) => k (6 + 20 * y_2.fst + j) c) 6 0 else (0 : Int) else keyG n k y_2.fst i 6) = keyG n k y'.fst i 6 ∧ (bif Decidable.decide (i = 0 + (↑y_2.fst : Int).toNat) then if 7 < (n - (6 + 20 * y_2.fst)).min 20 then (fun (j c : Nat) => k (6 + 20 * y_2.fst + j) c) 7 0 else (0 : Int) else keyG n k y_2.fst i 7) = keyG n k y'.fst i 7 ∧ (bif Decidable.decide (i = 0 + (↑y_2.fst : Int).toNat) then if 8 < (n - (6 + 20 * y_2.fst)).min 20 then (fun (j c : Nat) => k (6 + 20 * y_2.fst + j) c) 8 0 else (0 : Int) else keyG n k y_2.fst i 8) = keyG n k y'.fst i 8 ∧ (bif Decidable.decide (i = 0 + (↑y_2.fst : Int).toNat) then if 9 < (n - (6 + 20 * y_2.fst)).min 20 then (fun (j c : Nat) => k (6 + 20 * y_2.fst + j) c) 9 0 else (0 : Int) else keyG n k y_2.fst i 9) = keyG n k y'.fst i 9 ∧ (bif Decidable.decide (i = 0 + (↑y_2.fst : Int).toNat) then if 10 < (n - (6 + 20 * y_2.fst)).min 20 then (fun (j c : Nat) => k (6 + 20 * y_2.fst + j) c) 10 0 else (0 : Int) else keyG n k y_2.fst i 10) = keyG n k y'.fst i 10 ∧ (bif Decidable.decide (i = 0 + (↑y_2.fst : Int).toNat) then if 11 < (n - (6 + 20 * y_2.fst)).min 20 then (fun (j c : Nat) => k (6 + 20 * y_2.fst + j) c) 11 0 else (0 : Int) else keyG n k y_2.fst i 11) = keyG n k y'.fst i 11 ∧ (bif Decidable.decide (i = 0 + (↑y_2.fst : Int).toNat) then if 12 < (n - (6 + 20 * y_2.fst)).min 20 then (fun (j c : Nat) => k (6 + 20 * y_2.fst + j) c) 12 0 else (0 : Int) else keyG n k y_2.fst i 12) = keyG n k y'.fst i 12 ∧ (bif Decidable.decide (i = 0 + (↑y_2.fst : Int).toNat) then if 13 < (n - (6 + 20 * y_2.fst)).min 20 then (fun (j c : Nat) => k (6 + 20 * y_2.fst + j) c) 13 0 else (0 : Int) else keyG n k y_2.fst i 13) = keyG n k y'.fst i 13 ∧ (bif Decidable.decide (i = 0 + (↑y_2.fst : Int).toNat) then if 14 < (n - (6 + 20 * y_2.fst)).min 20 then (fun (j c : Nat) => k (6 + 20 * y_2.fst + j) c) 14 0 else (0 : Int) else keyG n k y_2.fst i 14) = keyG n k y'.fst i 14 ∧ (bif Decidable.decide (i = 0 + (↑y_2.fst : Int).toNat) then if 15 < (n - (6 + 20 * y_2.fst)).min 20 then (fun (j c : Nat) => k (6 + 20 * y_2.fst + j) c) 15 0 else (0 : Int) else keyG n k y_2.fst i 15) = keyG n k y'.fst i 15 ∧ (bif Decidable.decide (i = 0 + (↑y_2.fst : Int).toNat) then if 16 < (n - (6 + 20 * y_2.fst)).min 20 then (fun (j c : Nat) => k (6 + 20 * y_2.fst + j) c) 16 0 else (0 : Int) else keyG n k y_2.fst i 16) = keyG n k y'.fst i 16 ∧ (bif Decidable.decide (i = 0 + (↑y_2.fst : Int).toNat) then if 17 < (n - (6 + 20 * y_2.fst)).min 20 then (fun (j c : Nat) => k (6 + 20 * y_2.fst + j) c) 17 0 else (0 : Int) else keyG n k y_2.fst i 17) = keyG n k y'.fst i 17 ∧ (bif Decidable.decide (i = 0 + (↑y_2.fst : Int).toNat) then if 18 < (n - (6 + 20 * y_2.fst)).min 20 then (fun (j c : Nat) => k (6 + 20 * y_2.fst + j) c) 18 0 else (0 : Int) else keyG n k y_2.fst i 18) = keyG n k y'.fst i 18 ∧ (bif Decidable.decide (i = 0 + (↑y_2.fst : Int).toNat) then if 19 < (n - (6 + 20 * y_2.fst)).min 20 then (fun (j c : Nat) => k (6 + 20 * y_2.fst + j) c) 19 0 else (0 : Int) else keyG n k y_2.fst i 19) = keyG n k y'.fst i 19) ∧ (Y - y'.fst).succ.le (Y - y_2.fst)) ∧ (Decidable.decide ((↑y_2.fst : Int) < (↑Y : Int)) = Bool.false → (Decidable.decide (x4 < x16) = Bool.true → (((0 : Int) = z ∧ True) ∧ (0 = am % M256 ∧ True) ∧ (0 = fe % M256 ∧ True) ∧ ((0 : Int) = tk 0 ∧ (0 : Int) = tk 1 ∧ (0 : Int) = tk 2 ∧ (0 : Int) = tk 3 ∧ (0 : Int) = tk 4 ∧ (0 : Int) = tk 5 ∧ (0 : Int) = tk 6 ∧ (0 : Int) = tk 7 ∧ (0 : Int) = tk 8 ∧ (0 : Int) = tk 9 ∧ (0 : Int) = tk 10 ∧ (0 : Int) = tk 11 ∧ (0 : Int) = tk 12 ∧ (0 : Int) = tk 13 ∧ (0 : Int) = tk 14 ∧ (0 : Int) = tk 15 ∧ (0 : Int) = tk 16 ∧ (0 : Int) = tk 17 ∧ (0 : Int) = tk 18 ∧ (0 : Int) = tk 19 ∧ (0 : Int) = tk 20 ∧ (0 : Int) = tk 21 ∧ (0 : Int) = tk 22 ∧ (0 : Int) = tk 23 ∧ (0 : Int) = tk 24 ∧ (0 : Int) = tk 25 ∧ (0 : Int) = tk 26 ∧ (0 : Int) = tk 27 ∧ (0 : Int) = tk 28 ∧ (0 : Int) = tk 29 ∧ (0 : Int) = tk 30 ∧ (0 : Int) = tk 31 ∧ True) ∧ ((0 : Int) = hm ∧ True) ∧ ((0 : Int) = to 0 ∧ (0 : Int) = to 1 ∧ (0 : Int) = to 2 ∧ (0 : Int) = to 3 ∧ (0 : Int) = to 4 ∧ (0 : Int) = to 5 ∧ (0 : Int) = to 6 ∧ (0 : Int) = to 7 ∧ (0 : Int) = to 8 ∧ (0 : Int) = to 9 ∧ (0 : Int) = to 10 ∧ (0 : Int) = to 11 ∧ (0 : Int) = to 12 ∧ (0 : Int) = to 13 ∧ (0 : Int) = to 14 ∧ (0 : Int) = to 15 ∧ (0 : Int) = to 16 ∧ (0 : Int) = to 17 ∧ (0 : Int) = to 18 ∧ (0 : Int) = to 19 ∧ (0 : Int) = to 20 ∧ (0 : Int) = to 21 ∧ (0 : Int) = to 22 ∧ (0 : Int) = to 23 ∧ (0 : Int) = to 24 ∧ (0 : Int) = to 25 ∧ (0 : Int) = to 26 ∧ (0 : Int) = to 27 ∧ (0 : Int) = to 28 ∧ (0 : Int) = to 29 ∧ (0 : Int) = to 30 ∧ (0 : Int) = to 31 ∧ True) ∧ ((0 : Int) = tc ∧ True) ∧ ((0 : Int) = dc ∧ True) ∧ ((ByteArray.mk #[]) = sy ∧ True) ∧ m = 0 ∧ ((0 : Int) = ix ∧ True) ∧ y = 0 ∧ True) ∧ (4 : Int) = e) ∧ (Decidable.decide (x4 < x16) = Bool.false → ((!Decidable.decide (x4 > x16)) = Bool.true → (!Decidable.decide (x4 > x16)) = Bool.true ∧ (x17 = Bool.true → x17 = Bool.true) ∧ (x17 = Bool.true → x17 = Bool.true) ∧ (x17 = Bool.true → x17 = Bool.true) ∧ (x17 = Bool.true → x17 = Bool.true) ∧ (x17 = Bool.true → x17 = Bool.true) ∧ (x17 = Bool.true → x17 = Bool.true) ∧ (x18 = Bool.true → x18 = Bool.true) ∧ (x18 = Bool.true → x18 = Bool.true) ∧ (x18 = Bool.true → x18 = Bool.true) ∧ (x18 = Bool.true → x18 = Bool.true) ∧ (x18 = Bool.true → x18 = Bool.true) ∧ (x18 = Bool.true → x18 = Bool.true) ∧ ((!(x18 && Decidable.decide ((↑Y : Int) ≤ (19 : Int)))) = Bool.true → (((0 : Int) = z ∧ True) ∧ (0 = am % M256 ∧ True) ∧ (0 = fe % M256 ∧ True) ∧ ((0 : Int) = tk 0 ∧ (0 : Int) = tk 1 ∧ (0 : Int) = tk 2 ∧ (0 : Int) = tk 3 ∧ (0 : Int) = tk 4 ∧ (0 : Int) = tk 5 ∧ (0 : Int) = tk 6 ∧ (0 : Int) = tk 7 ∧ (0 : Int) = tk 8 ∧ (0 : Int) = tk 9 ∧ (0 : Int) = tk 10 ∧ (0 : Int) = tk 11 ∧ (0 : Int) = tk 12 ∧ (0 : Int) = tk 13 ∧ (0 : Int) = tk 14 ∧ (0 : Int) = tk 15 ∧ (0 : Int) = tk 16 ∧ (0 : Int) = tk 17 ∧ (0 : Int) = tk 18 ∧ (0 : Int) = tk 19 ∧ (0 : Int) = tk 20 ∧ (0 : Int) = tk 21 ∧ (0 : Int) = tk 22 ∧ (0 : Int) = tk 23 ∧ (0 : Int) = tk 24 ∧ (0 : Int) = tk 25 ∧ (0 : Int) = tk 26 ∧ (0 : Int) = tk 27 ∧ (0 : Int) = tk 28 ∧ (0 : Int) = tk 29 ∧ (0 : Int) = tk 30 ∧ (0 : Int) = tk 31 ∧ True) ∧ ((0 : Int) = hm ∧ True) ∧ ((0 : Int) = to 0 ∧ (0 : Int) = to 1 ∧ (0 : Int) = to 2 ∧ (0 : Int) = to 3 ∧ (0 : Int) = to 4 ∧ (0 : Int) = to 5 ∧ (0 : Int) = to 6 ∧ (0 : Int) = to 7 ∧ (0 : Int) = to 8 ∧ (0 : Int) = to 9 ∧ (0 : Int) = to 10 ∧ (0 : Int) = to 11 ∧ (0 : Int) = to 12 ∧ (0 : Int) = to 13 ∧ (0 : Int) = to 14 ∧ (0 : Int) = to 15 ∧ (0 : Int) = to 16 ∧ (0 : Int) = to 17 ∧ (0 : Int) = to 18 ∧ (0 : Int) = to 19 ∧ (0 : Int) = to 20 ∧ (0 : Int) = to 21 ∧ (0 : Int) = to 22 ∧ (0 : Int) = to 23 ∧ (0 : Int) = to 24 ∧ (0 : Int) = to 25 ∧ (0 : Int) = to 26 ∧ (0 : Int) = to 27 ∧ (0 : Int) = to 28 ∧ (0 : Int) = to 29 ∧ (0 : Int) = to 30 ∧ (0 : Int) = to 31 ∧ True) ∧ ((0 : Int) = tc ∧ True) ∧ ((0 : Int) = dc ∧ True) ∧ ((ByteArray.mk #[]) = sy ∧ True) ∧ m = 0 ∧ ((0 : Int) = ix ∧ True) ∧ y = 0 ∧ True) ∧ (3 : Int) = e) ∧ ((!(x18 && Decidable.decide ((↑Y : Int) ≤ (19 : Int)))) = Bool.false → x19 ≤ Y ∧ (0 ≤ 0 ∧ 0 ≤ Go.maxLen ∧ 0 = 0) ∧ (x19 ≤ Go.maxLen ∧ x19 * 20 ≤ 140737488355328) ∧ ∀ (c : Nat), x19 + c ≤ Go.maxLen → (((4 : Int) = z ∧ True) ∧ (0 = am % M256 ∧ True) ∧ (0 = fe % M256 ∧ True) ∧ ((0 : Int) = tk 0 ∧ (0 : Int) = tk 1 ∧ (0 : Int) = tk 2 ∧ (0 : Int) = tk 3 ∧ (0 : Int) = tk 4 ∧ (0 : Int) = tk 5 ∧ (0 : Int) = tk 6 ∧ (0 : Int) = tk 7 ∧ (0 : Int) = tk 8 ∧ (0 : Int) = tk 9 ∧ (0 : Int) = tk 10 ∧ (0 : Int) = tk 11 ∧ (0 : Int) = tk 12 ∧ (0 : Int) = tk 13 ∧ (0 : Int) = tk 14 ∧ (0 : Int) = tk 15 ∧ (0 : Int) = tk 16 ∧ (0 : Int) = tk 17 ∧ (0 : Int) = tk 18 ∧ (0 : Int) = tk 19 ∧ (0 : Int) = tk 20 ∧ (0 : Int) = tk 21 ∧ (0 : Int) = tk 22 ∧ (0 : Int) = tk 23 ∧ (0 : Int) = tk 24 ∧ (0 : Int) = tk 25 ∧ (0 : Int) = tk 26 ∧ (0 : Int) = tk 27 ∧ (0 : Int) = tk 28 ∧ (0 : Int) = tk 29 ∧ (0 : Int) = tk 30 ∧ (0 : Int) = tk 31 ∧ True) ∧ ((0 : Int) = hm ∧ True) ∧ ((0 : Int) = to 0 ∧ (0 : Int) = to 1 ∧ (0 : Int) = to 2 ∧ (0 : Int) = to 3 ∧ (0 : Int) = to 4 ∧ (0 : Int) = to 5 ∧ (0 : Int) = to 6 ∧ (0 : Int) = to 7 ∧ (0 : Int) = to 8 ∧ (0 : Int) = to 9 ∧ (0 : Int) = to 10 ∧ (0 : Int) = to 11 ∧ (0 : Int) = to 12 ∧ (0 : Int) = to 13 ∧ (0 : Int) = to 14 ∧ (0 : Int) = to 15 ∧ (0 : Int) = to 16 ∧ (0 : Int) = to 17 ∧ (0 : Int) = to 18 ∧ (0 : Int) = to 19 ∧ (0 : Int) = to 20 ∧ (0 : Int) = to 21 ∧ (0 : Int) = to 22 ∧ (0 : Int) = to 23 ∧ (0 : Int) = to 24 ∧ (0 : Int) = to 25 ∧ (0 : Int) = to 26 ∧ (0 : Int) = to 27 ∧ (0 : Int) = to 28 ∧ (0 : Int) = to 29 ∧ (0 : Int) = to 30 ∧ (0 : Int) = to 31 ∧ True) ∧ ((0 : Int) = tc ∧ True) ∧ ((0 : Int) = dc ∧ True) ∧ ((ByteArray.mk #[]) = sy ∧ True) ∧ m = 0 ∧ (IX = ix ∧ True) ∧ (0 + x19 ≤ x19 ∧ x19 = y ∧ x19 ≤ x19 + c ∧ ∀ (i : Nat), i < y → keyG n k y_2.fst (0 + (0 + i - 0)) 0 = kk i 0 ∧ keyG n k y_2.fst (0 + (0 + i - 0)) 1 = kk i 1 ∧ keyG n k y_2.fst (0 + (0 + i - 0)) 2 = kk i 2 ∧ keyG n k y_2.fst (0 + (0 + i - 0)) 3 = kk i 3 ∧ keyG n k y_2.fst (0 + (0 + i - 0)) 4 = kk i 4 ∧ keyG n k y_2.fst (0 + (0 + i - 0)) 5 = kk i 5 ∧ keyG n k y_2.fst (0 + (0 + i - 0)) 6 = kk i 6 ∧ keyG n k y_2.fst (0 + (0 + i - 0)) 7 = kk i 7 ∧ keyG n k y_2.fst (0 + (0 + i - 0)) 8 = kk i 8 ∧ keyG n k y_2.fst (0 + (0 + i - 0)) 9 = kk i 9 ∧ keyG n k y_2.fst (0 + (0 + i - 0)) 10 = kk i 10 ∧ keyG n k y_2.fst (0 + (0 + i - 0)) 11 = kk i 11 ∧ keyG n k y_2.fst (0 + (0 + i - 0)) 12 = kk i 12 ∧ keyG n k y_2.fst (0 + (0 + i - 0)) 13 = kk i 13 ∧ keyG n k y_2.fst (0 + (0 + i - 0)) 14 = kk i 14 ∧ keyG n k y_2.fst (0 + (0 + i - 0)) 15 = kk i 15 ∧ keyG n k y_2.fst (0 + (0 + i - 0)) 16 = kk i 16 ∧ keyG n k y_2.fst (0 + (0 + i - 0)) 17 = kk i 17 ∧ keyG n k y_2.fst (0 + (0 + i - 0)) 18 = kk i 18 ∧ keyG n k y_2.fst (0 + (0 + i - 0)) 19 = kk i 19) ∧ True) ∧ (0 : Int) = e)) ∧ ((!Decidable.decide (x4 > x16)) = Bool.false → (((0 : Int) = z ∧ True) ∧ (0 = am % M256 ∧ True) ∧ (0 = fe % M256 ∧ True) ∧ ((0 : Int) = tk 0 ∧ (0 : Int) = tk 1 ∧ (0 : Int) = tk 2 ∧ (0 : Int) = tk 3 ∧ (0 : Int) = tk 4 ∧ (0 : Int) = tk 5 ∧ (0 : Int) = tk 6 ∧ (0 : Int) = tk 7 ∧ (0 : Int) = tk 8 ∧ (0 : Int) = tk 9 ∧ (0 : Int) = tk 10 ∧ (0 : Int) = tk 11 ∧ (0 : Int) = tk 12 ∧ (0 : Int) = tk 13 ∧ (0 : Int) = tk 14 ∧ (0 : Int) = tk 15 ∧ (0 : Int) = tk 16 ∧ (0 : Int) = tk 17 ∧ (0 : Int) = tk 18 ∧ (0 : Int) = tk 19 ∧ (0 : Int) = tk 20 ∧ (0 : Int) = tk 21 ∧ (0 : Int) = tk 22 ∧ (0 : Int) = tk 23 ∧ (0 : Int) = tk 24 ∧ (0 : Int) = tk 25 ∧ (0 : Int) = tk 26 ∧ (0 : Int) = tk 27 ∧ (0 : Int) = tk 28 ∧ (0 : Int) = tk 29 ∧ (0 : Int) = tk 30 ∧ (0 : Int) = tk 31 ∧ True) ∧ ((0 : Int) = hm ∧ True) ∧ ((0 : Int) = to 0 ∧ (0 : Int) = to 1 ∧ (0 : Int) = to 2 ∧ (0 : Int) = to 3 ∧ (0 : Int) = to 4 ∧ (0 : Int) = to 5 ∧ (0 : Int) = to 6 ∧ (0 : Int) = to 7 ∧ (0 : Int) = to 8 ∧ (0 : Int) = to 9 ∧ (0 : Int) = to 10 ∧ (0 : Int) = to 11 ∧ (0 : Int) = to 12 ∧ (0 : Int) = to 13 ∧ (0 : Int) = to 14 ∧ (0 : Int) = to 15 ∧ (0 : Int) = to 16 ∧ (0 : Int) = to 17 ∧ (0 : Int) = to 18 ∧ (0 : Int) = to 19 ∧ (0 : Int) = to 20 ∧ (0 : Int) = to 21 ∧ (0 : Int) = to 22 ∧ (0 : Int) = to 23 ∧ (0 : Int) = to 24 ∧ (0 : Int) = to 25 ∧ (0 : Int) = to 26 ∧ (0 : Int) = to 27 ∧ (0 : Int) = to 28 ∧ (0 : Int) = to 29 ∧ (0 : Int) = to 30 ∧ (0 : Int) = to 31 ∧ True) ∧ ((0 : Int) = tc ∧ True) ∧ ((0 : Int) = dc ∧ True) ∧ ((ByteArray.mk #[]) = sy ∧ True) ∧ m = 0 ∧ ((0 : Int) = ix ∧ True) ∧ y = 0 ∧ True) ∧ (3 : Int) = e))))) := by kernel_rfl
end Go.Proofs.Ytamhchemnalfbaa
end

section
namespace Go.Proofs.Ytamhchemnalfbaa
open Go.Sx
set_option maxRecDepth 100000
def dY (n : Nat) (F : Nat → Int) : Nat := if 5 < n then (F 5).toNat else 0
def rdE4 (n : Nat) (F : Nat → Int) : Int := if n < 6 + 20 * dY n F then 4 else if n = 6 + 20 * dY n F ∧ 0 < dY n F ∧ dY n F ≤ 19 then 0 else 3
theorem keyG_0 (n : Nat) (k : Nat → Nat → Int) (i j : Nat) : keyG n k 0 i j = 0 := if_neg (by omega)
theorem bAt_in {n : Nat} {k : Nat → Nat → Int} (hk : ∀ i, i < n → 0 ≤ k i 0 ∧ k i 0 < 256) (p : Nat) : 0 ≤ bAt n k p ∧ bAt n k p < 256 := by
  unfold bAt
  split
  · rename_i h; exact hk p h
  · exact ⟨by omega, by omega⟩
theorem bAt_if {n m p q : Nat} {k : Nat → Nat → Int} (h : q < m ↔ p < n) : (if q < m then k p 0 else 0) = bAt n k p := by
  unfold bAt
  by_cases h1 : p < n
  · rw [if_pos h1, if_pos (h.2 h1)]
  · rw [if_neg h1, if_neg (fun x => h1 (h.1 x))]
theorem key_step (n : Nat) (k : Nat → Nat → Int) (x i c : Nat) (hc : c < 20) :
    (bif decide (i = 0 + ((x : Int)).toNat) then (if c < (n - (6 + 20 * x)).min 20 then k (6 + 20 * x + c) 0 else 0) else keyG n k x i c) = keyG n k (x + 1) i c := by
  rw [bif_if, Int.toNat_natCast, Nat.zero_add]
  have hm : (n - (6 + 20 * x)).min 20 = min (n - (6 + 20 * x)) 20 := rfl
  rw [hm]
  unfold keyG
  by_cases h : i = x
  · subst h
    rw [if_pos rfl, if_pos (Nat.lt_succ_self i)]
    exact bAt_if (by omega)
  · rw [if_neg h]
    by_cases h2 : i < x
    · rw [if_pos h2, if_pos (by omega)]
    · rw [if_neg h2, if_neg (by omega)]
theorem bAt_ix {n : Nat} {k : Nat → Nat → Int} {F : Nat → Int} (hF : ∀ i, k i 0 = F i) {p : Nat} (h : p < n) : bAt n k p = F p := by
  unfold bAt
  rw [if_pos h, hF]
theorem dY_le {n : Nat} {F : Nat → Int} (hk : ∀ i, i < n → 0 ≤ F i ∧ F i < 256) : dY n F ≤ 255 := by
  unfold dY
  split
  · have := hk 5 (by omega); omega
  · omega
theorem wrap_sz {Y : Nat} (h : Y ≤ 255) : IntKind.i64.wrap (5 + IntKind.i64.wrap (20 * (Y : Int))) = 5 + 20 * (Y : Int) := by
  rw [IntKind.wrap_i64, IntKind.wrap_i64]; omega
theorem len4 {n x1 x2 x5 x6 x7 x14 x15 : Nat} {x3 x4 x8 x9 : Int} (e1 : x1 = n - 1) (m2 : x2 = min x1 4) (i2 : x3 = (x2 : Int)) (j2 : x4 = (x1 : Int)) (t2 : x5 = x2) (d2 : x6 = x1 - x5) (m7 : x7 = min x6 1) (i7 : x8 = (x7 : Int)) (j7 : x9 = (x6 : Int)) (t7 : x14 = x7) (d7 : x15 = x6 - x14) :
    x15 = n - 6 ∧ (x14 + x5 = 5 ∨ n ≤ 5) ∧ (0 ≤ x3 ∧ x3 ≤ x4) ∧ (0 ≤ x8 ∧ x8 ≤ x9) := ⟨by omega, by omega, ⟨by omega, by omega⟩, ⟨by omega, by omega⟩⟩
theorem n4_in {F : Nat → Int} {o : Nat} (h : ∀ i, 0 ≤ F i ∧ F i < 256) : 0 ≤ n4 F o ∧ n4 F o ≤ 4294967295 := by
  have h0 := h o
  have h1 := h (o + 1)
  have h2 := h (o + 2)
  have h3 := h (o + 3)
  unfold n4
  exact ⟨by omega, by omega⟩
set_option maxHeartbeats 400000 in
theorem ok_ldc4 (a : Option Addr) (n cap : Nat) (k : Nat → Nat → Int) (hk : ∀ i, i < n → 0 ≤ k i 0 ∧ k i 0 < 256) (F : Nat → Int) (hF : ∀ i, k i 0 = F i) (tk to : Nat → Int) (ht : ∀ i, i < 32 → tk i = 0) (ho : ∀ i, i < 32 → to i = 0) (dk : Nat → Nat → Int) (h0 : 0 < n) :
    OwesQ Try.prog cxLd [] [] [((128 + 1) * 100000 + 4, .inv (invTu n k (n4 (bAt n k) 1) (dY n F)))] 30 Try.f15 [.sc (.xs a n cap 1 (kdF 4 k))] false
      [.st [.k (.c (.val (.int .i64 (zI (rdE4 n F) 4)))), .k (.u 0), .k (.u 0), .k (.f .u8 32 tk), .k (.c (.val (.int .i64 0))), .k (.f .u8 32 to), .k (.c (.val (.int .i64 0))), .k (.c (.val (.int .i64 0))), .k (.c (.val (.string ⟨#[]⟩))), .s 0 1 (u8F dk), .k (.c (.val (.int .i64 (zI (rdE4 n F) (n4 (bAt n k) 1))))), .s (zN (rdE4 n F) (dY n F)) 20 (u8F fun i j => bAt n k (6 + 20 * i + j))], .v (sI .i64 (rdE4 n F))] := by
  rw [vc_ldc4]
  have hB : ∀ i, i < n → 0 ≤ F i ∧ F i < 256 := fun i hi => by rw [← hF]; exact hk i hi
  have hY := dY_le hB
  have hI := n4_in (o := 1) (bAt_in hk)
  have hI2 : (decide (0 ≤ n4 (bAt n k) 1) && decide (n4 (bAt n k) 1 ≤ 4294967295)) = true := by rw [decide_eq_true hI.1, decide_eq_true hI.2]; rfl
  have cE : rdE4 n F = if n < 6 + 20 * dY n F then 4 else if n = 6 + 20 * dY n F ∧ 0 < dY n F ∧ dY n F ≤ 19 then 0 else 3 := rfl
  have c10 : IntKind.i64.wrap (IntKind.u64.wrap (((BitVec.ofInt 64 0 ||| BitVec.ofInt 64 (IntKind.u64.wrap (if 0 < (n - 1 - (((n - 1).min 4 : Nat) : Int).toNat).min 1 then intsC (kdF 4 k (1 + ((((n - 1).min 4 : Nat) : Int).toNat + 0)) 0) else 0))).toNat : Nat) : Int)) = (dY n F : Int) := by
    rw [kdF_1, intsC_u8, Int.toNat_natCast]
    have hm : (n - 1).min 4 = min (n - 1) 4 := rfl
    have hm2 : ∀ r : Nat, r.min 1 = min r 1 := fun _ => rfl
    rw [hm, hm2]
    by_cases h : 5 < n
    · rw [if_pos (by omega), show 1 + (min (n - 1) 4 + 0) = 5 by omega, num_1 (hk 5 h), hF]
      unfold dY
      rw [if_pos h]
      have := hB 5 h
      omega
    · rw [if_neg (by omega), num_1 (by omega)]
      unfold dY
      rw [if_neg h]; rfl
  generalize rdE4 n F = e at cE ⊢
  generalize dY n F = Y at *
  intro x1 x2 x3 x4 x5 x6 x7 x8 x9 x10 x11 x12 x13 x14 x15 x16 x17 x18 x19
  have d10 : x10 = (Y : Int) := c10
  have e1 : x1 = n - 1 := rfl
  have l2 : x2 ≤ x1 := Nat.min_le_left _ _
  have m2 : x2 = min x1 4 := rfl
  have i2 : x3 = (x2 : Int) := rfl
  have j2 : x4 = (x1 : Int) := rfl
  have t2 : x5 = x2 := Int.toNat_natCast _
  have d2 : x6 = x1 - x5 := rfl
  have l7 : x7 ≤ x6 := Nat.min_le_left _ _
  have m7 : x7 = min x6 1 := rfl
  have i7 : x8 = (x7 : Int) := rfl
  have j7 : x9 = (x6 : Int) := rfl
  have t7 : x14 = x7 := Int.toNat_natCast _
  have d7 : x15 = x6 - x14 := rfl
  have t11 : x11 = Y := by show x10.toNat = Y; rw [d10]; exact Int.toNat_natCast _
  have e16 : x16 = 5 + 20 * (Y : Int) := by
    show IntKind.i64.wrap (5 + IntKind.i64.wrap (20 * (Y : Int))) = _
    exact wrap_sz hY
  have e17 : x17 = true := hI2
  have e18 : x18 = decide ((Y : Int) > 0) := by show (x17 && decide ((Y : Int) > 0)) = _; rw [e17]; rfl
  have e19 : x19 = 0 + Y := rfl
  obtain ⟨e15, b0, r3, r8⟩ := len4 e1 m2 i2 j2 t2 d2 m7 i7 j7 t7 d7
  have cI : IntKind.i64.wrap (IntKind.u64.wrap (((BitVec.ofInt 64 (IntKind.u64.wrap (IntKind.u64.wrap (((BitVec.ofInt 64 (IntKind.u64.wrap (IntKind.u64.wrap (((BitVec.ofInt 64 (IntKind.u64.wrap (IntKind.u64.wrap (((BitVec.ofInt 64 0 ||| BitVec.ofInt 64 (IntKind.u64.wrap (if 0 < x2 then k 1 0 else 0))).toNat : Nat) : Int) * 256)) ||| BitVec.ofInt 64 (IntKind.u64.wrap (if 1 < x2 then k 2 0 else 0))).toNat : Nat) : Int) * 256)) ||| BitVec.ofInt 64 (IntKind.u64.wrap (if 2 < x2 then k 3 0 else 0))).toNat : Nat) : Int) * 256)) ||| BitVec.ofInt 64 (IntKind.u64.wrap (if 3 < x2 then k 4 0 else 0))).toNat : Nat) : Int)) = n4 (bAt n k) 1 := by
    rw [bAt_if (n := n) (p := 1) (by omega), bAt_if (n := n) (p := 2) (by omega), bAt_if (n := n) (p := 3) (by omega), bAt_if (n := n) (p := 4) (by omega)]
    exact num_4 (bAt_in hk 1) (bAt_in hk 2) (bAt_in hk 3) (bAt_in hk 4)
  have b0' : ∀ _ : Unit, x14 + x5 = 5 ∨ n ≤ 5 := fun _ => b0
  generalize n4 (bAt n k) 1 = IX at *
  clear_value x1 x2 x3 x4 x5 x6 x7 x8 x9 x10 x11 x12 x13 x14 x15 x16 x17 x18 x19
  clear m2 l2 i2 t2 d2 l7 m7 i7 j7 t7 d7 c10 b0
  subst e17
  simp only [eq_self, true_and, and_true, and_self, imp_self, implies_true, keyG_0]
  refine ⟨fun h => ?_, fun h => ⟨⟨by omega, by omega⟩, ⟨by omega, by omega⟩, fun j => ?_, ⟨r3.1, r3.2, by omega⟩, fun j => ?_, ⟨r8.1, r8.2, by omega⟩, ⟨by omega, by omega, by omega⟩, fun _ => rfl, (0, adS x13 x14 1 (adS x12 x5 1 (adS cap 1 1 a)), x13 - x14), ?_⟩⟩
  · have := eq_of_beq h; omega
  · rw [kdF_u8]; exact trivial
  · rw [kdF_u8]; exact trivial
  · have hb0 := b0' ()
    refine ⟨Nat.zero_le _, t11, by rw [t11], rfl, cI, ⟨rfl, e15, rfl, fun i hi => ?_⟩, t11, by rw [Nat.sub_self, Nat.zero_mul], fun i _ => ?_, fun y hy => ⟨fun hl => ?_, fun hl => ?_⟩⟩
    · rw [kdF_1]
      show k (1 + (x5 + (x14 + i))) 0 = k (6 + 20 * 0 + i) 0
      rw [show 1 + (x5 + (x14 + i)) = 6 + 20 * 0 + i by omega]
    · simp only [keyG_0, and_self]
    · clear cI hb0 b0' hI hI2 e18 e16 cE
      obtain ⟨y, A, C⟩ := y
      dsimp only at *
      have hl := of_decide_eq_true hl
      have q3 : (n - (6 + 20 * y)).min 20 = min (n - (6 + 20 * y)) 20 := rfl
      refine ⟨⟨by omega, by omega, by omega⟩, ⟨by omega, by omega⟩, by omega, (y + 1, adS C (((n - (6 + 20 * y)).min 20 : Nat) : Int).toNat 1 A, C - (((n - (6 + 20 * y)).min 20 : Nat) : Int).toNat), by omega, by rw [IntKind.wrap_i64]; dsimp only; omega, ⟨rfl, by dsimp only; omega, rfl, fun i hi => ?_⟩, fun i _ => ⟨key_step n k y i 0 (by omega), key_step n k y i 1 (by omega), key_step n k y i 2 (by omega), key_step n k y i 3 (by omega), key_step n k y i 4 (by omega), key_step n k y i 5 (by omega), key_step n k y i 6 (by omega), key_step n k y i 7 (by omega), key_step n k y i 8 (by omega), key_step n k y i 9 (by omega), key_step n k y i 10 (by omega), key_step n k y i 11 (by omega), key_step n k y i 12 (by omega), key_step n k y i 13 (by omega), key_step n k y i 14 (by omega), key_step n k y i 15 (by omega), key_step n k y i 16 (by omega), key_step n k y i 17 (by omega), key_step n k y i 18 (by omega), key_step n k y i 19 (by omega)⟩, by show Y - (y + 1) + 1 ≤ Y - y; omega⟩
      dsimp only
      rw [show 6 + 20 * y + ((((n - (6 + 20 * y)).min 20 : Nat) : Int).toNat + i) = 6 + 20 * (y + 1) + i by omega]
    · have hl := of_decide_eq_false hl
      have hyY : y.1 = Y := by omega
      refine ⟨fun hs => ?_, fun hs => ⟨fun hg => ⟨hg, fun hb => ?_, fun hb => ?_⟩, fun hg => ?_⟩⟩
      · have hs := of_decide_eq_true hs
        have he : e = 4 := by rw [cE, if_pos (by omega)]
        rw [he]
        simp [zI_4, zN_4, ht, ho]
      · have hs := of_decide_eq_false hs
        have hg : ¬ (x4 > x16) := by simpa using hg
        rw [e18] at hb
        have he : e = 3 := by
          rw [cE, if_neg (by omega), if_neg (fun h => ?_)]
          rw [decide_eq_true (by omega), decide_eq_true (by omega)] at hb
          exact absurd hb (by decide)
        rw [he]
        simp [zI_3, zN_3, ht, ho]
      · have hs := of_decide_eq_false hs
        have hg : ¬ (x4 > x16) := by simpa using hg
        rw [e18] at hb
        have hb : 0 < Y ∧ Y ≤ 19 := by
          have h2 : (decide ((Y : Int) > 0) && decide ((Y : Int) ≤ 19)) = true := by simpa using hb
          obtain ⟨h3, h4⟩ := Bool.and_eq_true_iff.1 h2
          have h3 := of_decide_eq_true h3
          have h4 := of_decide_eq_true h4
          omega
        have he : e = 0 := by
          rw [cE, if_neg (by omega), if_pos ⟨by omega, hb.1, hb.2⟩]
        rw [he]
        have q : ∀ i, i < Y → ∀ c, keyG n k y.1 (0 + (0 + i - 0)) c = bAt n k (6 + 20 * i + c) := fun i hi c => by
          rw [Nat.zero_add, Nat.zero_add, Nat.sub_zero]
          exact if_pos (by omega)
        have hML : maxLen = 9223372036854775807 := rfl
        rw [e19, hML]
        simp only [zI_0, zN_0, Nat.zero_mod, eq_self, true_and, and_true]
        refine ⟨by omega, by omega, ⟨by omega, by omega⟩, fun c hc => ⟨?_, ?_, by omega, by omega, by omega, fun i hi => ⟨q i hi 0, q i hi 1, q i hi 2, q i hi 3, q i hi 4, q i hi 5, q i hi 6, q i hi 7, q i hi 8, q i hi 9, q i hi 10, q i hi 11, q i hi 12, q i hi 13, q i hi 14, q i hi 15, q i hi 16, q i hi 17, q i hi 18, q i hi 19⟩⟩⟩
        · simp only [ht, Nat.reduceLT, and_self]
        · simp only [ho, Nat.reduceLT, and_self]
      · have hs := of_decide_eq_false hs
        have hg : x4 > x16 := by simpa using hg
        have he : e = 3 := by
          rw [cE, if_neg (by omega), if_neg (fun h => by omega)]
        rw [he]
        simp [zI_3, zN_3, ht, ho]
end Go.Proofs.Ytamhchemnalfbaa
end

section
namespace Go.Sx
theorem rowc_one {n : Nat} {g h : Nat → Nat → SC} (e : ∀ i, i < n → (g i 0).conc Rho.nil = (h i 0).conc Rho.nil) : rowc 1 n g = rowc 1 n h := by
  refine rowc_ext (rowc_length _ _ _) fun i c hi hc => ?_
  obtain rfl : c = 0 := by omega
  rw [rowc_get hi (by omega : (0 : Nat) < 1), e i hi]
theorem live_one {x : SO} {i : Nat} (h : live [x] i) : i = 0 := by
  obtain ⟨z, hz, _⟩ := h
  cases i with
  | zero => rfl
  | succ k => simp at hz
theorem live_row1 {e e' : TypeId} {w w' n n' : Nat} {g g' : Nat → Nat → SC} {sp sp' i : Nat} (h : live [SO.row e w n g sp] i) : live [SO.row e' w' n' g' sp'] i := by
  obtain rfl := live_one h
  exact ⟨_, rfl, rfl⟩
theorem mem_row1 {B : Nat} {ρ : Rho} {w : World} {e : TypeId} {n sp : Nat} {g h : Nat → Nat → SC} (hc : closedG n 1 h) (hg : ∀ i, i < n → (g i 0).conc Rho.nil = (h i 0).conc Rho.nil)
    (M : Mem B ρ [.row e 1 n g sp] w) : Mem B ρ [.row e 1 n h sp] w := by
  refine ⟨fun i x hi hx => ?_, fun i j hi hj => M.injs i j (live_row1 hi) (live_row1 hj), fun b o v hb => ⟨(M.frz b o v hb).1, fun i hi => (M.frz b o v hb).2 i (live_row1 hi)⟩⟩
  have h0 : i = 0 := live_one ⟨x, hi, hx⟩
  subst h0
  simp only [List.getElem?_cons_zero, Option.some.injEq] at hi
  subst hi
  obtain ⟨h1, ⟨rest, h2, h3⟩, _⟩ := M.objs 0 _ rfl rfl
  refine ⟨h1, ⟨rest, h2, ?_⟩, fun i hi c hc' => ⟨SC.bnd_mono none0_le (hc i hi c hc').1, (hc i hi c hc').2⟩⟩
  rw [h3]
  simp only [SO.vals, rowc_one hg, SO.elem]
theorem FnOKt_ext {P : Program} {gl : Globs} {f : Nat} {s s' : TSpec} (he : s'.e = s.e) (hw : s'.wd = 1) (hw' : s.wd = 1) (hk : FnOKt P gl f s)
    (hx : ∀ args n g ps n' g' vs, s'.of args n g = some (ps, n', g', vs) → Ok ps → ∃ h ps', s.of args n h = some (ps', n', g', vs) ∧ Ok ps' ∧ closedG n 1 h ∧ ∀ i, i < n → (g i 0).conc Rho.nil = (h i 0).conc Rho.nil) : FnOKt P gl f s' := by
  obtain ⟨e, wd, of⟩ := s
  obtain ⟨e', wd', of'⟩ := s'
  simp only at he hw hw' hx
  subst he hw hw'
  intro args n g ps n' g' vs hs hp
  obtain ⟨h, ps', h1, h2, h3, h4⟩ := hx args n g ps n' g' vs hs hp
  obtain ⟨k1, k2, k3⟩ := hk args n h ps' n' g' vs h1 h2
  refine ⟨k1, k2, fun Z ρ w hd ob H hB hM hG hb keep hK => ?_⟩
  cases H with
  | none => exact k3 Z ρ w _ _ .none hB hM hG hb keep hK
  | own _ cap sp hcap => exact k3 Z ρ w _ _ (.own n cap sp hcap) hB (mem_row1 h3 h4 hM) hG hb keep fun b x hbx => ⟨(hK b x hbx).1, fun i hi => (hK b x hbx).2 i (live_row1 hi)⟩
theorem FnOKs_cases {P : Program} {gl : Globs} {f : Nat} {share : Bool} {aq : List AQ} {nf : List (List FD) → List (List FD)} {c : List (List FD) → List Prop} {g : List (List FD) → List RS}
    (h : ∀ ls, Ok (c ls) → ∃ c' : List (List FD) → List Prop, Ok (c' ls) ∧ FnOKs P gl f (specQ share aq nf c' g)) : FnOKs P gl f (specQ share aq nf c g) := by
  intro args ps rs hs hp
  simp only [specQ] at hs
  split at hs
  case h_2 => cases hs
  rename_i q ls ha
  simp only [Option.some.injEq, Prod.mk.injEq] at hs
  obtain ⟨rfl, rfl⟩ := hs
  obtain ⟨o1, o23⟩ := Ok.append.1 hp
  obtain ⟨o2, o3⟩ := Ok.append.1 o23
  obtain ⟨c', hc', hF⟩ := h _ o3
  exact hF args (q ++ (simQs aq ls (nf ls) ++ c' (nf ls))) (g (nf ls)) (by simp only [specQ, ha]) (Ok.append.2 ⟨o1, Ok.append.2 ⟨o2, hc'⟩⟩)
theorem FnOKs_QM {P : Program} {cx : Cx} (hcx : CxOK P cx) {sl : List (Nat × SSpec)} (hsl : ∀ p ∈ sl, FnOKs P cx.gl p.1 p.2) {tl : List (Nat × TSpec)} (htl : ∀ p ∈ tl, FnOKt P cx.gl p.1 p.2) {f : Nat} {fn : Func} (hf : P.funcs[f]? = some fn) (hb : fn.body.isSome = true) (hn : (fn.name == "runtime.NumGoroutine") = false)
    {share : Bool} {aq : List AQ} {nf : List (List FD) → List (List FD)} {c : List (List FD) → List Prop} {g : List (List FD) → List RS}
    (h : ∀ ls, Ok (c ls) → ∃ iv N args', (∀ ρ, (mkQs aq ls).map (SA.conc ρ) = args'.map (SA.conc ρ)) ∧ (∀ E, (∀ x ∈ mkQs aq ls, x.bnd E) → ∀ x ∈ args', x.bnd E) ∧ (∀ r ∈ g ls, r.closed) ∧ OwesQ P cx sl tl iv N fn args' share (g ls)) : FnOKs P cx.gl f (specQ share aq nf c g) := by
  refine FnOKs_owesQ hcx hsl htl hf hb hn fun args ps rs hs hp => ?_
  simp only [specQ] at hs
  split at hs
  case h_2 => cases hs
  rename_i q ls ha
  simp only [Option.some.injEq, Prod.mk.injEq] at hs
  obtain ⟨rfl, rfl⟩ := hs
  obtain ⟨o1, o23⟩ := Ok.append.1 hp
  obtain ⟨o2, o3⟩ := Ok.append.1 o23
  obtain ⟨a1, a2⟩ := asQs_sound ha
  obtain ⟨b1, b2⟩ := simQs_sound o2
  obtain ⟨iv, N, args', h1, h2, hc, hw⟩ := h (nf ls) o3
  refine ⟨iv, N, args', fun ρ => by rw [a1 o1 ρ, b1 ρ, h1], fun fz hx x hxm => ?_, hc, hw⟩
  exact h2 _ (b2 ⟨fun _ => False, fz⟩ (fun y hy => a2 ⟨fun _ => True, fz⟩ hx y hy)) x hxm
end Go.Sx
end

section
namespace Go.Proofs.Ytamhchemnalfbaa
open Go.Sx
set_option maxRecDepth 100000
def rdE (n : Nat) (F : Nat → Int) : Int :=
  if n = 0 then 4 else if F 0 = 1 then rdE1 n F else if F 0 = 3 then rdE3 n F else if F 0 = 2 then rdE2 n F else if F 0 = 4 then rdE4 n F else 2
def k13 (F : Nat → Int) : Prop := F 0 = 1 ∨ F 0 = 3
instance k13dec (F : Nat → Int) : Decidable (k13 F) := inferInstanceAs (Decidable (_ ∨ _))
def rKd (n : Nat) (F : Nat → Int) : Int := zI (rdE n F) (F 0)
def rAm (n : Nat) (F : Nat → Int) : Nat := if k13 F then zN (rdE n F) (dAm F) else 0
def rFe (n : Nat) (F : Nat → Int) : Nat := if k13 F then zN (rdE n F) (dFe F) else 0
def rTk (n : Nat) (F : Nat → Int) (j : Nat) : Int := if k13 F then zI (rdE n F) (F (33 + j)) else if F 0 = 2 then zI (rdE n F) (F (1 + j)) else 0
def rHm (n : Nat) (F : Nat → Int) : Int := if k13 F then zI (rdE n F) (n2 F 65) else if F 0 = 2 then zI (rdE n F) (n2 F 33) else 0
def rTo (n : Nat) (F : Nat → Int) (j : Nat) : Int := if k13 F then zI (rdE n F) (F (67 + j)) else 0
def rTc (n : Nat) (F : Nat → Int) : Int := if k13 F then zI (rdE n F) (n2 F 99) else 0
def rDc (n : Nat) (F : Nat → Int) : Int := if F 0 = 2 then zI (rdE n F) (F 35) else 0
def rSy (n : Nat) (F : Nat → Int) : ByteArray := if F 0 = 2 then zT (rdE n F) (dSy F) else ⟨#[]⟩
def rM (n : Nat) (F : Nat → Int) : Nat := if F 0 = 3 then zN (rdE n F) (n - 133) else 0
def rIx (n : Nat) (F : Nat → Int) : Int := if F 0 = 4 then zI (rdE n F) (n4 (bAt n fun i _ => F i) 1) else 0
def rY (n : Nat) (F : Nat → Int) : Nat := if F 0 = 4 then zN (rdE n F) (dY n F) else 0
def rDk (F : Nat → Int) (i _j : Nat) : Int := F (133 + i)
def rKk (n : Nat) (F : Nat → Int) (i j : Nat) : Int := bAt n (fun i _ => F i) (6 + 20 * i + j)
structure rdP (a : Option Addr) (n : Nat) (f : Nat → Nat → SC) : Prop where
  nf : f = u8F (kOf f)
  hb : ∀ i, i < n → 0 ≤ kOf f i 0 ∧ kOf f i 0 < 256
  hn : (n : Int) ≤ 9223372036854775807
  ha : a = none → n = 0
def shRd : List AQ := [.one (.x 1)]
def nfRd : List (List FD) → List (List FD)
  | [[.x a n c f]] => [[.x a n c (u8F (kOf f))]]
  | ls => ls
def rdC : List (List FD) → List Prop
  | [[.x a n _ f]] => [rdP a n f]
  | _ => [False]
def rdR (n : Nat) (F : Nat → Int) : List RS :=
  [.st [.k (.c (.val (.int .i64 (rKd n F)))), .k (.u (rAm n F)), .k (.u (rFe n F)), .k (.f .u8 32 (rTk n F)), .k (.c (.val (.int .i64 (rHm n F)))), .k (.f .u8 32 (rTo n F)), .k (.c (.val (.int .i64 (rTc n F)))), .k (.c (.val (.int .i64 (rDc n F)))), .k (.c (.val (.string (rSy n F)))), .s (rM n F) 1 (u8F (rDk F)), .k (.c (.val (.int .i64 (rIx n F)))), .s (rY n F) 20 (u8F (rKk n F))], .v (sI .i64 (rdE n F))]
def rdS : List (List FD) → List RS
  | [[.x _ n _ f]] => rdR n (fun i => kOf f i 0)
  | _ => []
def cRd : SSpec := specQ false shRd nfRd rdC rdS
theorem kd_bnd {E : Env} {a : Option Addr} {n cap : Nat} {z : Int} {k : Nat → Nat → Int} (hz : 0 < n → k 0 0 = z) (h : SA.bnd E (.sc (.xs a n cap 1 (u8F k)))) : SA.bnd E (.sc (.xs a n cap 1 (kdF z k))) := by
  obtain ⟨h1, h2, h3⟩ := h
  refine ⟨h1, h2, fun b hb => ⟨(h3 b hb).1, fun i hi c hc => ?_⟩⟩
  have q := (h3 b hb).2 i hi c hc
  have hc0 : c = 0 := by omega
  subst hc0
  cases i with
  | zero =>
    have e : k 0 0 = z := hz hi
    refine ⟨trivial, rfl, ?_⟩
    have := q.2.2
    rw [show (u8F k 0 0) = .val (.int .u8 (k 0 0)) from rfl, e] at this
    exact this
  | succ i =>
    have e : kdF z k (i + 1) 0 = u8F k (i + 1) 0 := by rw [show i + 1 = 1 + i from Nat.add_comm i 1, kdF_1]; rfl
    rw [e]
    exact q
theorem rcl_st {ks : List RK} (h : ∀ k ∈ ks, k.closed) : (RS.st ks).closed := h
theorem rcl_u8 (n w : Nat) (k : Nat → Nat → Int) : closedG n w (u8F k) := fun i _ c _ => by unfold u8F; exact ⟨trivial, rfl⟩
theorem rd_closed (n : Nat) (F : Nat → Int) : ∀ r ∈ rdR n F, r.closed := by
  intro r hr
  rcases List.mem_cons.1 hr with rfl | hr
  · refine rcl_st fun z hz => ?_
    simp only [List.mem_cons, List.not_mem_nil, or_false] at hz
    rcases hz with rfl | rfl | rfl | rfl | rfl | rfl | rfl | rfl | rfl | rfl | rfl | rfl
    · exact trivial
    · exact trivial
    · exact trivial
    · exact trivial
    · exact trivial
    · exact trivial
    · exact trivial
    · exact trivial
    · exact trivial
    · exact rcl_u8 _ _ _
    · exact trivial
    · exact rcl_u8 _ _ _
  · rw [List.mem_singleton.1 hr]; exact trivial
theorem ok_trr (s : ByteArray) (hs : (s.size : Int) ≤ 9223372036854775807) :
    Owes Try.prog cxTrR [] 12 Try.f96 [sStr s, .sc (.val (.string ⟨#[0]⟩))] (.one (sStr (trimT s))) := by
  rw [vc_trr]
  intro x1 x2
  have h2 : x2 = true := rfl
  have h1 : x1 = (s.toList == (ByteArray.mk #[]).toList) := rfl
  have hl : ((ByteArray.mk #[(0 : UInt8)]).toList == (ByteArray.mk #[]).toList) = false := by
    rw [ByteArray.toList_eq, ByteArray.toList_eq]; decide
  rw [hl]
  refine ⟨id, fun h => by rw [h]; rfl, fun h => ?_, fun h => ⟨id, fun _ => ⟨by omega, by omega⟩, id, id, fun _ => ⟨⟨by omega, by omega⟩, hs, rfl⟩, fun h => ?_⟩⟩
  · rw [Bool.or_false, h1] at h
    have e := txt_same.1 h
    subst e
    exact ByteArray.ext rfl
  · rw [h2] at h; exact absurd h (by decide)
theorem card_trr : FnOK Try.prog 96 specTrR := by
  refine FnOK_owesG (cx := cxTrR) (okx_cons card_trim (okx_cons (fun _ _ _ h => by cases h) (okx_cons (fun _ _ _ h => by cases h) (okx_cons (fun _ _ _ h => by cases h) okx_nil)))) Try.func96 (by kernel_rfl) (by kernel_rfl) fun args ps sv hs hp => ?_
  unfold specTrR at hs
  split at hs
  · rename_i s c
    simp only [Option.some.injEq, Prod.mk.injEq] at hs
    obtain ⟨rfl, rfl⟩ := hs
    obtain ⟨h1, rfl, _⟩ := hp
    refine ⟨_, _, [.sc (.val (.string s)), .sc (.val (.string ⟨#[0]⟩))], fun ρ => rfl, ?_, trivial, ok_trr s h1⟩
    intro fz _ x hx
    rcases List.mem_cons.1 hx with rfl | hx
    · exact trivial
    · rw [List.mem_singleton.1 hx]; exact trivial
  · cases hs
theorem zI_ne {e : Int} (h : e ≠ 0) (v : Int) : zI e v = 0 := if_neg h
theorem zN_ne {e : Int} (h : e ≠ 0) (v : Nat) : zN e v = 0 := if_neg h
theorem zT_ne {e : Int} (h : e ≠ 0) (v : ByteArray) : zT e v = ⟨#[]⟩ := if_neg h
theorem rdR_1 {n : Nat} {F : Nat → Int} (h : F 0 = 1) (hn : n ≠ 0) : rdR n F = [.st [.k (.c (.val (.int .i64 (zI (rdE1 n F) 1)))), .k (.u (zN (rdE1 n F) (dAm F))), .k (.u (zN (rdE1 n F) (dFe F))), .k (.f .u8 32 (fun j => zI (rdE1 n F) (F (33 + j)))), .k (.c (.val (.int .i64 (zI (rdE1 n F) (n2 F 65))))), .k (.f .u8 32 (fun j => zI (rdE1 n F) (F (67 + j)))), .k (.c (.val (.int .i64 (zI (rdE1 n F) (n2 F 99))))), .k (.c (.val (.int .i64 (0)))), .k (.c (.val (.string (⟨#[]⟩)))), .s (0) 1 (u8F (rDk F)), .k (.c (.val (.int .i64 (0)))), .s (0) 20 (u8F (rKk n F))], .v (sI .i64 (rdE1 n F))] := by
  have e : rdE n F = rdE1 n F := by
    unfold rdE
    rw [if_neg hn, if_pos h]
  have k := h
  have K : k13 F := .inl k
  have akd : rKd n F = zI (rdE1 n F) 1 := by unfold rKd; rw [e, k]
  have aam : rAm n F = zN (rdE1 n F) (dAm F) := (if_pos K).trans (by rw [e])
  have afe : rFe n F = zN (rdE1 n F) (dFe F) := (if_pos K).trans (by rw [e])
  have atk : rTk n F = fun j => zI (rdE1 n F) (F (33 + j)) := funext fun _ => (if_pos K).trans (by rw [e])
  have ahm : rHm n F = zI (rdE1 n F) (n2 F 65) := (if_pos K).trans (by rw [e])
  have ato : rTo n F = fun j => zI (rdE1 n F) (F (67 + j)) := funext fun _ => (if_pos K).trans (by rw [e])
  have atc : rTc n F = zI (rdE1 n F) (n2 F 99) := (if_pos K).trans (by rw [e])
  have adc : rDc n F = 0 := if_neg (by omega)
  have asy : rSy n F = ⟨#[]⟩ := if_neg (by omega)
  have am : rM n F = 0 := if_neg (by omega)
  have aix : rIx n F = 0 := if_neg (by omega)
  have ay : rY n F = 0 := if_neg (by omega)
  unfold rdR
  rw [akd, aam, afe, atk, ahm, ato, atc, adc, asy, am, aix, ay, e]
theorem rdR_3 {n : Nat} {F : Nat → Int} (h : F 0 = 3) (hn : n ≠ 0) : rdR n F = [.st [.k (.c (.val (.int .i64 (zI (rdE3 n F) 3)))), .k (.u (zN (rdE3 n F) (dAm F))), .k (.u (zN (rdE3 n F) (dFe F))), .k (.f .u8 32 (fun j => zI (rdE3 n F) (F (33 + j)))), .k (.c (.val (.int .i64 (zI (rdE3 n F) (n2 F 65))))), .k (.f .u8 32 (fun j => zI (rdE3 n F) (F (67 + j)))), .k (.c (.val (.int .i64 (zI (rdE3 n F) (n2 F 99))))), .k (.c (.val (.int .i64 (0)))), .k (.c (.val (.string (⟨#[]⟩)))), .s (zN (rdE3 n F) (n - 133)) 1 (u8F (rDk F)), .k (.c (.val (.int .i64 (0)))), .s (0) 20 (u8F (rKk n F))], .v (sI .i64 (rdE3 n F))] := by
  have e : rdE n F = rdE3 n F := by
    unfold rdE
    rw [if_neg hn, if_neg (by omega), if_pos h]
  have k := h
  have K : k13 F := .inr k
  have akd : rKd n F = zI (rdE3 n F) 3 := by unfold rKd; rw [e, k]
  have aam : rAm n F = zN (rdE3 n F) (dAm F) := (if_pos K).trans (by rw [e])
  have afe : rFe n F = zN (rdE3 n F) (dFe F) := (if_pos K).trans (by rw [e])
  have atk : rTk n F = fun j => zI (rdE3 n F) (F (33 + j)) := funext fun _ => (if_pos K).trans (by rw [e])
  have ahm : rHm n F = zI (rdE3 n F) (n2 F 65) := (if_pos K).trans (by rw [e])
  have ato : rTo n F = fun j => zI (rdE3 n F) (F (67 + j)) := funext fun _ => (if_pos K).trans (by rw [e])
  have atc : rTc n F = zI (rdE3 n F) (n2 F 99) := (if_pos K).trans (by rw [e])
  have adc : rDc n F = 0 := if_neg (by omega)
  have asy : rSy n F = ⟨#[]⟩ := if_neg (by omega)
  have am : rM n F = zN (rdE3 n F) (n - 133) := (if_pos k).trans (by rw [e])
  have aix : rIx n F = 0 := if_neg (by omega)
  have ay : rY n F = 0 := if_neg (by omega)
  unfold rdR
  rw [akd, aam, afe, atk, ahm, ato, atc, adc, asy, am, aix, ay, e]
theorem rdR_2 {n : Nat} {F : Nat → Int} (h : F 0 = 2) (hn : n ≠ 0) : rdR n F = [.st [.k (.c (.val (.int .i64 (zI (rdE2 n F) 2)))), .k (.u (0)), .k (.u (0)), .k (.f .u8 32 (fun j => zI (rdE2 n F) (F (1 + j)))), .k (.c (.val (.int .i64 (zI (rdE2 n F) (n2 F 33))))), .k (.f .u8 32 (fun _ => 0)), .k (.c (.val (.int .i64 (0)))), .k (.c (.val (.int .i64 (zI (rdE2 n F) (F 35))))), .k (.c (.val (.string (zT (rdE2 n F) (dSy F))))), .s (0) 1 (u8F (rDk F)), .k (.c (.val (.int .i64 (0)))), .s (0) 20 (u8F (rKk n F))], .v (sI .i64 (rdE2 n F))] := by
  have e : rdE n F = rdE2 n F := by
    unfold rdE
    rw [if_neg hn, if_neg (by omega), if_neg (by omega), if_pos h]
  have k := h
  have K : ¬ k13 F := fun x => by unfold k13 at x; omega
  have akd : rKd n F = zI (rdE2 n F) 2 := by unfold rKd; rw [e, k]
  have aam : rAm n F = 0 := if_neg K
  have afe : rFe n F = 0 := if_neg K
  have atk : rTk n F = fun j => zI (rdE2 n F) (F (1 + j)) := funext fun _ => (if_neg K).trans ((if_pos k).trans (by rw [e]))
  have ahm : rHm n F = zI (rdE2 n F) (n2 F 33) := (if_neg K).trans ((if_pos k).trans (by rw [e]))
  have ato : rTo n F = fun _ => 0 := funext fun _ => if_neg K
  have atc : rTc n F = 0 := if_neg K
  have adc : rDc n F = zI (rdE2 n F) (F 35) := (if_pos k).trans (by rw [e])
  have asy : rSy n F = zT (rdE2 n F) (dSy F) := (if_pos k).trans (by rw [e])
  have am : rM n F = 0 := if_neg (by omega)
  have aix : rIx n F = 0 := if_neg (by omega)
  have ay : rY n F = 0 := if_neg (by omega)
  unfold rdR
  rw [akd, aam, afe, atk, ahm, ato, atc, adc, asy, am, aix, ay, e]
theorem rdR_4 {n : Nat} {F : Nat → Int} (h : F 0 = 4) (hn : n ≠ 0) : rdR n F = [.st [.k (.c (.val (.int .i64 (zI (rdE4 n F) 4)))), .k (.u (0)), .k (.u (0)), .k (.f .u8 32 (fun _ => 0)), .k (.c (.val (.int .i64 (0)))), .k (.f .u8 32 (fun _ => 0)), .k (.c (.val (.int .i64 (0)))), .k (.c (.val (.int .i64 (0)))), .k (.c (.val (.string (⟨#[]⟩)))), .s (0) 1 (u8F (rDk F)), .k (.c (.val (.int .i64 (zI (rdE4 n F) (n4 (bAt n fun i _ => F i) 1))))), .s (zN (rdE4 n F) (dY n F)) 20 (u8F (rKk n F))], .v (sI .i64 (rdE4 n F))] := by
  have e : rdE n F = rdE4 n F := by
    unfold rdE
    rw [if_neg hn, if_neg (by omega), if_neg (by omega), if_neg (by omega), if_pos h]
  have k := h
  have K : ¬ k13 F := fun x => by unfold k13 at x; omega
  have akd : rKd n F = zI (rdE4 n F) 4 := by unfold rKd; rw [e, k]
  have aam : rAm n F = 0 := if_neg K
  have afe : rFe n F = 0 := if_neg K
  have atk : rTk n F = fun _ => 0 := funext fun _ => (if_neg K).trans (if_neg (by omega))
  have ahm : rHm n F = 0 := (if_neg K).trans (if_neg (by omega))
  have ato : rTo n F = fun _ => 0 := funext fun _ => if_neg K
  have atc : rTc n F = 0 := if_neg K
  have adc : rDc n F = 0 := if_neg (by omega)
  have asy : rSy n F = ⟨#[]⟩ := if_neg (by omega)
  have am : rM n F = 0 := if_neg (by omega)
  have aix : rIx n F = zI (rdE4 n F) (n4 (bAt n fun i _ => F i) 1) := (if_pos k).trans (by rw [e])
  have ay : rY n F = zN (rdE4 n F) (dY n F) := (if_pos k).trans (by rw [e])
  unfold rdR
  rw [akd, aam, afe, atk, ahm, ato, atc, adc, asy, am, aix, ay, e]
theorem rdR_0 {n : Nat} {F : Nat → Int} (h : rdE n F ≠ 0) : rdR n F = [.st [.k (.c (.val (.int .i64 (0)))), .k (.u (0)), .k (.u (0)), .k (.f .u8 32 (fun _ => 0)), .k (.c (.val (.int .i64 (0)))), .k (.f .u8 32 (fun _ => 0)), .k (.c (.val (.int .i64 (0)))), .k (.c (.val (.int .i64 (0)))), .k (.c (.val (.string (⟨#[]⟩)))), .s (0) 1 (u8F (rDk F)), .k (.c (.val (.int .i64 (0)))), .s (0) 20 (u8F (rKk n F))], .v (sI .i64 (rdE n F))] := by
  have akd : rKd n F = 0 := zI_ne h _
  have aam : rAm n F = 0 := by unfold rAm; rw [zN_ne h, ite_self]
  have afe : rFe n F = 0 := by unfold rFe; rw [zN_ne h, ite_self]
  have atk : rTk n F = fun _ => 0 := funext fun _ => by unfold rTk; rw [zI_ne h, zI_ne h, ite_self, ite_self]
  have ahm : rHm n F = 0 := by unfold rHm; rw [zI_ne h, zI_ne h, ite_self, ite_self]
  have ato : rTo n F = fun _ => 0 := funext fun _ => by unfold rTo; rw [zI_ne h, ite_self]
  have atc : rTc n F = 0 := by unfold rTc; rw [zI_ne h, ite_self]
  have adc : rDc n F = 0 := by unfold rDc; rw [zI_ne h, ite_self]
  have asy : rSy n F = ⟨#[]⟩ := by unfold rSy; rw [zT_ne h, ite_self]
  have am : rM n F = 0 := by unfold rM; rw [zN_ne h, ite_self]
  have aix : rIx n F = 0 := by unfold rIx; rw [zI_ne h, ite_self]
  have ay : rY n F = 0 := by unfold rY; rw [zN_ne h, ite_self]
  unfold rdR
  rw [akd, aam, afe, atk, ahm, ato, atc, adc, asy, am, aix, ay]
theorem card_rd {gl : Globs} : FnOKs Try.prog gl 15 cRd := by
  refine FnOKs_cases fun ls hc => ⟨fun l => [l = ls], ⟨rfl, trivial⟩, ?_⟩
  unfold rdC at hc
  split at hc
  · rename_i a n cap f
    obtain ⟨p, _⟩ := hc
    have bnd : ∀ {z : Int}, kOf f 0 0 = z → ∀ E : Env, (∀ x ∈ mkQs shRd [[.x a n cap f]], x.bnd E) → ∀ x ∈ [SA.sc (.xs a n cap 1 (kdF z (kOf f)))], x.bnd E := fun hz E hE x hx => by
      rw [List.mem_singleton.1 hx]
      refine kd_bnd (fun _ => hz) ?_
      have := hE (.sc (.xs a n cap 1 f)) (List.mem_singleton.2 rfl)
      rw [p.nf] at this
      exact this
    by_cases h0 : n = 0 ∨ ¬ (kOf f 0 0 = 1 ∨ kOf f 0 0 = 2 ∨ kOf f 0 0 = 3 ∨ kOf f 0 0 = 4)
    · refine FnOKs.up0 (FnOKs_QM (cx := cxLd8) (okx_mark okx_nil) (sl := []) oks_nil (tl := []) tl_nil Try.func15 (by kernel_rfl) (by kernel_rfl) fun l hl => ?_) gl
      obtain ⟨rfl, _⟩ := hl
      have he : rdE n (fun i => kOf f i 0) = if n = 0 then 4 else 2 := by
        unfold rdE
        by_cases hn : n = 0
        · rw [if_pos hn, if_pos hn]
        · have h := h0.resolve_left hn
          rw [if_neg hn, if_neg hn, if_neg (fun x => h (.inl x)), if_neg (fun x => h (.inr (.inr (.inl x)))), if_neg (fun x => h (.inr (.inl x))), if_neg (fun x => h (.inr (.inr (.inr x))))]
      have := ok_ldc0 a n cap (kOf f) (fun i => kOf f i 0) (fun _ => rfl) (fun _ => 0) (fun _ => 0) (rDk fun i => kOf f i 0) (rKk n fun i => kOf f i 0) (p.hb 0) (fun _ _ => rfl) (fun _ _ => rfl) h0
      rw [← he, ← rdR_0 (F := fun i => kOf f i 0) (by rw [he]; split <;> decide)] at this
      refine ⟨[], 30, [.sc (.xs a n cap 1 (u8F (kOf f)))], fun ρ => rfl, fun E hE => ?_, rd_closed n _, this⟩
      intro x hx
      have := hE (.sc (.xs a n cap 1 f)) (List.mem_singleton.2 rfl)
      rw [p.nf] at this
      rw [List.mem_singleton.1 hx]
      exact this
    have hn : 0 < n := by omega
    have hn0 : n ≠ 0 := by omega
    have hk := Decidable.of_not_not fun x => h0 (.inr x)
    by_cases h1 : kOf f 0 0 = 1
    · refine FnOKs.up0 (FnOKs_QM (cx := cxLd) (okx_cons card_From (okx_cons card_lwin (okx_cons card_Cmp (okx_mark (okx_mark (okx_mark (okx_mark okx_nil))))))) (sl := []) oks_nil (tl := []) tl_nil Try.func15 (by kernel_rfl) (by kernel_rfl) fun l hl => ?_) gl
      obtain ⟨rfl, _⟩ := hl
      have := ok_ldc1 a n cap (kOf f) p.hb (fun i => kOf f i 0) (fun _ => rfl) (rDk fun i => kOf f i 0) (rKk n fun i => kOf f i 0) hn
      rw [← rdR_1 (F := fun i => kOf f i 0) h1 hn0] at this
      exact ⟨_, _, [.sc (.xs a n cap 1 (kdF 1 (kOf f)))], fun ρ => rfl, bnd h1, rd_closed n _, this⟩
    by_cases h3 : kOf f 0 0 = 3
    · refine FnOKs.up0 (FnOKs_QM (cx := cxLd3) (okx_cons card_From (okx_cons card_lwin (okx_cons card_Cmp (okx_mark (okx_mark (okx_mark (okx_mark (okx_mark okx_nil)))))))) (sl := []) oks_nil (tl := []) tl_nil Try.func15 (by kernel_rfl) (by kernel_rfl) fun l hl => ?_) gl
      obtain ⟨rfl, _⟩ := hl
      have := ok_ldc3 a n cap (kOf f) p.hb (fun i => kOf f i 0) (fun _ => rfl) (rKk n fun i => kOf f i 0) hn p.ha p.hn
      rw [show (fun i (_ : Nat) => (fun i => kOf f i 0) (133 + i)) = rDk (fun i => kOf f i 0) from rfl, ← rdR_3 (F := fun i => kOf f i 0) h3 hn0] at this
      exact ⟨_, _, [.sc (.xs a n cap 1 (kdF 3 (kOf f)))], fun ρ => rfl, bnd h3, rd_closed n _, this⟩
    by_cases h2 : kOf f 0 0 = 2
    · refine FnOKs.up0 (FnOKs_QM (cx := cxLd2) (okx_cons card_From (okx_cons card_lwin (okx_cons card_Cmp (okx_cons card_con (okx_cons card_trr (okx_mark (okx_mark (okx_mark (okx_mark okx_nil))))))))) (sl := []) oks_nil (tl := []) tl_nil Try.func15 (by kernel_rfl) (by kernel_rfl) fun l hl => ?_) gl
      obtain ⟨rfl, _⟩ := hl
      have := ok_ldc2 a n cap (kOf f) p.hb (fun i => kOf f i 0) (fun _ => rfl) (fun _ => 0) (fun _ _ => rfl) (rDk fun i => kOf f i 0) (rKk n fun i => kOf f i 0) hn
      rw [← rdR_2 (F := fun i => kOf f i 0) h2 hn0] at this
      exact ⟨_, _, [.sc (.xs a n cap 1 (kdF 2 (kOf f)))], fun ρ => rfl, bnd h2, rd_closed n _, this⟩
    · have h4 : kOf f 0 0 = 4 := by
        rcases hk with h | h | h | h
        · exact absurd h h1
        · exact absurd h h2
        · exact absurd h h3
        · exact h
      refine FnOKs.up0 (FnOKs_QM (cx := cxLd) (okx_cons card_From (okx_cons card_lwin (okx_cons card_Cmp (okx_mark (okx_mark (okx_mark (okx_mark okx_nil))))))) (sl := []) oks_nil (tl := []) tl_nil Try.func15 (by kernel_rfl) (by kernel_rfl) fun l hl => ?_) gl
      obtain ⟨rfl, _⟩ := hl
      have := ok_ldc4 a n cap (kOf f) p.hb (fun i => kOf f i 0) (fun _ => rfl) (fun _ => 0) (fun _ => 0) (fun _ _ => rfl) (fun _ _ => rfl) (rDk fun i => kOf f i 0) hn
      have e := rdR_4 (F := fun i => kOf f i 0) h4 hn0
      have this' : OwesQ Try.prog cxLd [] [] [((128 + 1) * 100000 + 4, .inv (invTu n (kOf f) (n4 (bAt n (kOf f)) 1) (dY n fun i => kOf f i 0)))] 30 Try.f15 [.sc (.xs a n cap 1 (kdF 4 (kOf f)))] false (rdR n fun i => kOf f i 0) := by
        rw [e]
        exact this
      exact ⟨_, _, [.sc (.xs a n cap 1 (kdF 4 (kOf f)))], fun ρ => rfl, bnd h4, rd_closed n _, this'⟩
  · exact hc.1.elim
end Go.Proofs.Ytamhchemnalfbaa
end

section
namespace Go.Proofs.Ytamhchemnalfbaa
open Go.Sx
set_option maxRecDepth 100000
theorem rf_1 {n : Nat} {F : Nat → Int} (k : F 0 = 1) (h : rdE n F = 0) : rKd n F = 1 ∧ rAm n F = dAm F ∧ rFe n F = dFe F ∧ rTk n F = (fun j => F (33 + j)) ∧ rHm n F = n2 F 65 ∧ rTo n F = (fun j => F (67 + j)) ∧ rTc n F = n2 F 99 ∧ rDc n F = 0 ∧ rSy n F = ⟨#[]⟩ ∧ rM n F = 0 ∧ rIx n F = 0 ∧ rY n F = 0 := by
  have K : k13 F := .inl k
  exact ⟨by unfold rKd; rw [h, zI_0, k], (if_pos K).trans (by rw [h, zN_0]), (if_pos K).trans (by rw [h, zN_0]), funext fun _ => (if_pos K).trans (by rw [h, zI_0]), (if_pos K).trans (by rw [h, zI_0]), funext fun _ => (if_pos K).trans (by rw [h, zI_0]), (if_pos K).trans (by rw [h, zI_0]), if_neg (by omega), if_neg (by omega), if_neg (by omega), if_neg (by omega), if_neg (by omega)⟩
theorem rf_3 {n : Nat} {F : Nat → Int} (k : F 0 = 3) (h : rdE n F = 0) : rKd n F = 3 ∧ rAm n F = dAm F ∧ rFe n F = dFe F ∧ rTk n F = (fun j => F (33 + j)) ∧ rHm n F = n2 F 65 ∧ rTo n F = (fun j => F (67 + j)) ∧ rTc n F = n2 F 99 ∧ rDc n F = 0 ∧ rSy n F = ⟨#[]⟩ ∧ rM n F = n - 133 ∧ rIx n F = 0 ∧ rY n F = 0 := by
  have K : k13 F := .inr k
  exact ⟨by unfold rKd; rw [h, zI_0, k], (if_pos K).trans (by rw [h, zN_0]), (if_pos K).trans (by rw [h, zN_0]), funext fun _ => (if_pos K).trans (by rw [h, zI_0]), (if_pos K).trans (by rw [h, zI_0]), funext fun _ => (if_pos K).trans (by rw [h, zI_0]), (if_pos K).trans (by rw [h, zI_0]), if_neg (by omega), if_neg (by omega), (if_pos k).trans (by rw [h, zN_0]), if_neg (by omega), if_neg (by omega)⟩
theorem rf_2 {n : Nat} {F : Nat → Int} (k : F 0 = 2) (h : rdE n F = 0) : rKd n F = 2 ∧ rAm n F = 0 ∧ rFe n F = 0 ∧ rTk n F = (fun j => F (1 + j)) ∧ rHm n F = n2 F 33 ∧ rTo n F = (fun _ => 0) ∧ rTc n F = 0 ∧ rDc n F = F 35 ∧ rSy n F = dSy F ∧ rM n F = 0 ∧ rIx n F = 0 ∧ rY n F = 0 := by
  have K : ¬ k13 F := fun x => by unfold k13 at x; omega
  exact ⟨by unfold rKd; rw [h, zI_0, k], if_neg K, if_neg K, funext fun _ => (if_neg K).trans ((if_pos k).trans (by rw [h, zI_0])), (if_neg K).trans ((if_pos k).trans (by rw [h, zI_0])), funext fun _ => if_neg K, if_neg K, (if_pos k).trans (by rw [h, zI_0]), (if_pos k).trans (by rw [h, zT_0]), if_neg (by omega), if_neg (by omega), if_neg (by omega)⟩
theorem rf_4 {n : Nat} {F : Nat → Int} (k : F 0 = 4) (h : rdE n F = 0) : rKd n F = 4 ∧ rAm n F = 0 ∧ rFe n F = 0 ∧ rTk n F = (fun _ => 0) ∧ rHm n F = 0 ∧ rTo n F = (fun _ => 0) ∧ rTc n F = 0 ∧ rDc n F = 0 ∧ rSy n F = ⟨#[]⟩ ∧ rM n F = 0 ∧ rIx n F = n4 (bAt n fun i _ => F i) 1 ∧ rY n F = dY n F := by
  have K : ¬ k13 F := fun x => by unfold k13 at x; omega
  exact ⟨by unfold rKd; rw [h, zI_0, k], if_neg K, if_neg K, funext fun _ => (if_neg K).trans (if_neg (by omega)), (if_neg K).trans (if_neg (by omega)), funext fun _ => if_neg K, if_neg K, if_neg (by omega), if_neg (by omega), if_neg (by omega), (if_pos k).trans (by rw [h, zI_0]), (if_pos k).trans (by rw [h, zN_0])⟩
end Go.Proofs.Ytamhchemnalfbaa
end

section
namespace Go.Proofs.Ytamhchemnalfbaa
open Go.Sx
set_option maxRecDepth 100000
end Go.Proofs.Ytamhchemnalfbaa
end

section
namespace Go.Proofs.Ytamhchemnalfbaa
open Go.Sx
end Go.Proofs.Ytamhchemnalfbaa
end

section
namespace Go.Proofs.Ytamhchemnalfbaa
open Go.Sx
section
variable {kd : Int} {am fe : Nat} {tk : Nat → Int} {hm : Int} {to : Nat → Int} {tc dc : Int} {sy : ByteArray} {m : Nat} {dk : Nat → Nat → Int} {ix : Int} {y : Nat} {kk Z Z' : Nat → Nat → Int}
end
structure ldQ (sy : ByteArray) (a : Option Addr) (m : Nat) (f : Nat → Nat → SC) (b : Option Addr) (y : Nat) (h : Nat → Nat → SC) : Prop where
  qf : f = u8F (kOf f)
  qh : h = u8F (kOf h)
  qs : (sy.size : Int) ≤ 9223372036854775807
  qy : (y : Int) ≤ 9223372036854775807
  qa : a = none → m = 0
  qb : b = none → y = 0
def ldC : List (List FD) → List Prop
  | [[.i _, .u _, .u _, .y _, .i _, .y _, .i _, .i _, .t sy, .x a m _ f, .i _, .x b y _ h]] => [ldQ sy a m f b y h]
  | _ => [False]
noncomputable def ldS : List (List FD) → List RS
  | [[.i kd, .u am, .u fe, .y tk, .i hm, .y to, .i tc, .i dc, .t sy, .x _ m _ _, .i ix, .x _ y _ _]] => [.v (sI .i64 (ldE kd am fe tk hm to tc dc sy m ix y))]
  | _ => []
noncomputable def cLd : SSpec := specQ false shLd nfLd ldC ldS
theorem card_lck {gl : Globs} : FnOKs Try.prog gl 16 cLd := by
  refine FnOKs.up0 (FnOKs_Q (cx := cxLck) (okx_cons card_lwin (okx_cons card_Cmp (okx_cons card_con (okx_mark (okx_mark (okx_mark (okx_mark (okx_mark okx_nil)))))))) (sl := slLck) (oks_cons card_alk oks_nil) Try.func16 (by kernel_rfl) (by kernel_rfl) fun ls hc => ?_) gl
  unfold ldC at hc
  split at hc
  · rename_i kd am fe tk hm to tc dc sy a m cap f ix b y cy h
    obtain ⟨p, _⟩ := hc
    have := ok_lck kd am fe tk hm to tc dc sy a m cap (kOf f) ix b y cy (kOf h) p.qa p.qb p.qy
    unfold ksLoad at this
    rw [← p.qf, ← p.qh] at this
    refine ⟨_, _, fun r hr => ?_, this⟩
    rw [List.mem_singleton.1 hr]; exact trivial
  · exact hc.1.elim
end Go.Proofs.Ytamhchemnalfbaa
end
