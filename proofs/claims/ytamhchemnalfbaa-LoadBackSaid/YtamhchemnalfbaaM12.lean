/-
  Texts: V120, V122, P180, P181, P182, P183.
-/
import Derived.Test.YtamhchemnalfbaaM1
import Derived.Test.YtamhchemnalfbaaM2
import Derived.Test.YtamhchemnalfbaaM3
import Derived.Test.YtamhchemnalfbaaM4
import Derived.Test.YtamhchemnalfbaaM5
import Derived.Test.YtamhchemnalfbaaM6
import Derived.Test.YtamhchemnalfbaaM7
import Derived.Test.YtamhchemnalfbaaM8
import Derived.Test.YtamhchemnalfbaaM9
import Derived.Test.YtamhchemnalfbaaM10
import Derived.Test.YtamhchemnalfbaaM11
section
namespace Go.Proofs.Ytamhchemnalfbaa
open Go.Sx
set_option maxRecDepth 100000
def kdF (z : Int) (k : Nat → Nat → Int) (i c : Nat) : SC :=
  match Nat.ble 1 i with
  | true => .val (.int .u8 (k i c))
  | false => .num .u8 z
def trimN (s : ByteArray) : Nat → Nat
  | 0 => 0
  | n + 1 => if ((s.data.getD n 0).toNat : Int) = 0 then trimN s n else n + 1
def trimT (s : ByteArray) : ByteArray := s.extract 0 (trimN s s.size)
def invTrim (s : ByteArray) : Inv where
  X := Nat
  tm m := slotsAt 23 [(0, .one (sStr (s.extract 0 m))), (1, .one (.sc (.num .u8 0)))]
  ob _ := []
  holds m := m ≤ s.size ∧ trimN s m = trimN s s.size
  less m := m
def specTrim : FSpec := fun args =>
  match args with
  | [.sc (.val (.string s)), y] => match asI y with
    | some (.u8, 0) => some ([(s.size : Int) ≤ 9223372036854775807], .one (.sc (.val (.string (trimT s)))))
    | _ => none
  | _ => none
def bAt (n : Nat) (k : Nat → Nat → Int) (p : Nat) : Int := if p < n then k p 0 else 0
def keyG (n : Nat) (k : Nat → Nat → Int) (x i j : Nat) : Int := if i < x then bAt n k (6 + 20 * i + j) else 0
def zLoad : List SK := [.c (.num .i64 0)] ++ List.replicate 8 (.c (.num .u64 0)) ++ List.replicate 32 (.c (.num .u8 0)) ++ [.c (.num .i64 0)] ++ List.replicate 32 (.c (.num .u8 0)) ++ [.c (.num .i64 0), .c (.num .i64 0), .c (.val (.string ⟨#[]⟩)), .c (.val (.slice none 0 0)), .c (.num .i64 0), .c (.val (.slice none 0 0))]
def cxLd8 : Cx := ⟨[(1000000008, fun _ => none)], [], 0, []⟩
def cxLd : Cx := ⟨[(88, specB fromG), (79, specII (fun _ _ => []) inL), (12, specUU cmpG), (1000000010, fun _ => none), (1000000012, fun _ => none), (1000000013, fun _ => none), (1000000014, fun _ => none)], [], 0, []⟩
def specTrR : FSpec := fun args =>
  match args with
  | [.sc (.val (.string s)), .sc (.val (.string c))] => some ([(s.size : Int) ≤ 9223372036854775807, c = ⟨#[0]⟩], .one (.sc (.val (.string (trimT s)))))
  | _ => none
def cxTrR : Cx := ⟨[(98, specTrim), (99, fun _ => none), (101, fun _ => none), (100, fun _ => none)], [], 0, []⟩
def cxLd2 : Cx := ⟨[(88, specB fromG), (79, specII (fun _ _ => []) inL), (12, specUU cmpG), (95, specCon conG), (96, specTrR), (1000000010, fun _ => none), (1000000012, fun _ => none), (1000000013, fun _ => none), (1000000014, fun _ => none)], [], 0, []⟩
def cxLd3 : Cx := ⟨[(88, specB fromG), (79, specII (fun _ _ => []) inL), (12, specUU cmpG), (1000000007, fun _ => none), (1000000010, fun _ => none), (1000000012, fun _ => none), (1000000013, fun _ => none), (1000000014, fun _ => none)], [], 0, []⟩
theorem vc_trim (s t : ByteArray) :
    Owes Try.prog Cx.none [(1, .inv (invTrim s))] 12 Try.f98 [sStr s, .sc (.num .u8 0)] (.one (sStr t)) =
    ((∀ (y : Nat), closedB (slotsAt 23 [(0, SV.one (sStr (s.extract 0 y))), (1, SV.one (SA.sc (SC.num Go.IntKind.u8 (0 : Int))))]) [] = Bool.true) ∧ ∃ (y : Nat), (y ≤ s.size ∧ trimN s y = trimN s s.size) ∧ s = s.extract 0 y ∧ ∀ (y : Nat), y ≤ s.size ∧ trimN s y = trimN s s.size → (Decidable.decide ((↑(s.extract 0 y).size : Int) > (0 : Int)) = Bool.true → Decidable.decide ((↑(s.extract 0 y).size : Int) > (0 : Int)) = Bool.true) ∧ (Decidable.decide ((↑(s.extract 0 y).size : Int) > (0 : Int)) = Bool.true → Decidable.decide ((↑(s.extract 0 y).size : Int) > (0 : Int)) = Bool.true) ∧ (Decidable.decide ((↑(s.extract 0 y).size : Int) > (0 : Int)) = Bool.true → Decidable.decide ((↑(s.extract 0 y).size : Int) > (0 : Int)) = Bool.true) ∧ (Decidable.decide ((↑(s.extract 0 y).size : Int) > (0 : Int)) = Bool.true → Decidable.decide ((↑(s.extract 0 y).size : Int) > (0 : Int)) = Bool.true) ∧ (Decidable.decide ((↑(s.extract 0 y).size : Int) > (0 : Int)) = Bool.true → (0 : Int) ≤ Go.IntKind.i64.wrap ((↑(s.extract 0 y).size : Int) - (1 : Int)) ∧ (Go.IntKind.i64.wrap ((↑(s.extract 0 y).size : Int) - (1 : Int))).toNat < (s.extract 0 y).size) ∧ (Decidable.decide ((↑(s.extract 0 y).size : Int) > (0 : Int)) = Bool.true → Decidable.decide ((↑(s.extract 0 y).size : Int) > (0 : Int)) = Bool.true) ∧ (Decidable.decide ((↑(s.extract 0 y).size : Int) > (0 : Int)) = Bool.true → Decidable.decide ((↑(s.extract 0 y).size : Int) > (0 : Int)) = Bool.true) ∧ (Decidable.decide ((↑(s.extract 0 y).size : Int) > (0 : Int)) = Bool.true → Decidable.decide ((↑(s.extract 0 y).size : Int) > (0 : Int)) = Bool.true) ∧ ((Decidable.decide ((↑(s.extract 0 y).size : Int) > (0 : Int)) && (↑((s.extract 0 y).data.getD (Go.IntKind.i64.wrap ((↑(s.extract 0 y).size : Int) - (1 : Int))).toNat (0 : UInt8)).toNat : Int) == (0 : Int)) = Bool.true → ((0 : Int) ≤ (0 : Int) ∧ (0 : Int) ≤ Go.IntKind.i64.wrap ((↑(s.extract 0 y).size : Int) - (1 : Int)) ∧ Go.IntKind.i64.wrap ((↑(s.extract 0 y).size : Int) - (1 : Int)) ≤ (↑(s.extract 0 y).size : Int)) ∧ ∃ (y' : Nat), (y' ≤ s.size ∧ trimN s y' = trimN s s.size) ∧ (s.extract 0 y).extract 0 (Go.IntKind.i64.wrap ((↑(s.extract 0 y).size : Int) - (1 : Int))).toNat = s.extract 0 y' ∧ y'.succ.le y) ∧ ((Decidable.decide ((↑(s.extract 0 y).size : Int) > (0 : Int)) && (↑((s.extract 0 y).data.getD (Go.IntKind.i64.wrap ((↑(s.extract 0 y).size : Int) - (1 : Int))).toNat (0 : UInt8)).toNat : Int) == (0 : Int)) = Bool.false → s.extract 0 y = t)) := by kernel_rfl
theorem vc_trr (s t : ByteArray) :
    Owes Try.prog cxTrR [] 12 Try.f96 [sStr s, .sc (.val (.string ⟨#[0]⟩))] (.one (sStr t)) =
    (let x1 : Bool := s.toList == (ByteArray.mk #[]).toList; let x2 : Bool := (1 : Int) == (1 : Int); ((!x1) = Bool.true → (!x1) = Bool.true) ∧ (x1 = Bool.false → (!x1) = Bool.true) ∧ ((x1 || (ByteArray.mk #[(0 : UInt8)]).toList == (ByteArray.mk #[]).toList) = Bool.true → s = t) ∧ ((x1 || (ByteArray.mk #[(0 : UInt8)]).toList == (ByteArray.mk #[]).toList) = Bool.false → (x2 = Bool.true → x2 = Bool.true) ∧ (x2 = Bool.true → (0 : Int) ≤ (0 : Int) ∧ 0 < 1) ∧ (x2 = Bool.true → x2 = Bool.true) ∧ (x2 = Bool.true → x2 = Bool.true) ∧ ((x2 && Decidable.decide ((0 : Int) < (128 : Int))) = Bool.true → ((0 : Int) ≤ (0 : Int) ∧ 0 < 1) ∧ (↑s.size : Int) ≤ (9223372036854775807 : Int) ∧ trimT s = t) ∧ ((x2 && Decidable.decide ((0 : Int) < (128 : Int))) = Bool.false → Stuck { dst := Option.some 28, op := Go.Op.call { callee := Go.Callee.value (Go.Operand.func 99), args := #[Go.Operand.tmp 27], argTypes := #[9] }, type := 157, pos := "strings.go:1049", after := #[{ on := 0, ground := Go.Ground.data }], guard := Option.none }))) := by kernel_rfl
theorem vc_ldc1 (a : Option Addr) (n cap : Nat) (k : Nat → Nat → Int) (am fe : Nat) (tk : Nat → Int) (hm : Int) (to : Nat → Int) (tc dc : Int) (sy : ByteArray) (m : Nat) (dk : Nat → Nat → Int) (ix : Int) (y : Nat) (kk : Nat → Nat → Int) (z e : Int) :
    OwesQ Try.prog cxLd [] [] [] 30 Try.f15 [.sc (.xs a n cap 1 (kdF 1 k))] false [.st [.k (.c (.val (.int .i64 z))), .k (.u am), .k (.u fe), .k (.f .u8 32 tk), .k (.c (.val (.int .i64 hm))), .k (.f .u8 32 to), .k (.c (.val (.int .i64 tc))), .k (.c (.val (.int .i64 dc))), .k (.c (.val (.string sy))), .s m 1 (u8F dk), .k (.c (.val (.int .i64 ix))), .s y 20 (u8F kk)], .v (sI .i64 e)] =
    (let x1 : Nat := am % M256; let x2 : Nat := fe % M256; let x3 : Nat := n - 1; let x4 : Nat := x3.min 32; let x5 : Int := (↑x4 : Int); let x6 : Int := (↑x3 : Int); let x7 : Nat := x5.toNat; let x8 : Nat := x3 - x7; let x9 : Nat := x8.min 32; let x10 : Int := (↑x9 : Int); let x11 : Int := (↑x8 : Int); let x12 : Nat := x10.toNat; let x13 : Nat := x8 - x12; let x14 : Nat := x13.min 2; let x15 : Int := (↑x14 : Int); let x16 : Int := (↑x13 : Int); let x17 : Nat := x15.toNat; let x18 : Nat := x13 - x17; let x19 : Nat := x18.min 32; let x20 : Int := (↑x19 : Int); let x21 : Int := (↑x18 : Int); let x22 : Nat := x20.toNat; let x23 : Nat := x18 - x22; let x24 : Nat := x23.min 2; let x25 : Int := (↑x24 : Int); let x26 : Int := (↑x23 : Int); let x27 : Nat := x25.toNat; let x28 : Nat := x23 - x27; let x29 : Nat := x28.min 32; let x30 : Int := (↑x29 : Int); let x31 : Int := (↑x28 : Int); let x32 : Int := Go.IntKind.i64.wrap (Go.IntKind.u64.wrap (↑(BitVec.ofInt 64 (Go.IntKind.u64.wrap (Go.IntKind.u64.wrap (↑(BitVec.ofInt 64 (0 : Int) ||| BitVec.ofInt 64 (Go.IntKind.u64.wrap (if 0 < x14 then intsC (kdF (1 : Int) k (1 + (x7 + (x12 + 0))) 0) else (0 : Int)))).toNat : Int) * (256 : Int))) ||| BitVec.ofInt 64 (Go.IntKind.u64.wrap (if 1 < x14 then k (1 + (x7 + (x12 + 1))) 0 else (0 : Int)))).toNat : Int)); let x33 : Bool := Decidable.decide ((0 : Int) ≤ x32) && Decidable.decide (x32 ≤ (65535 : Int)); let x34 : Int := Go.IntKind.i64.wrap (Go.IntKind.u64.wrap (↑(BitVec.ofInt 64 (Go.IntKind.u64.wrap (Go.IntKind.u64.wrap (↑(BitVec.ofInt 64 (0 : Int) ||| BitVec.ofInt 64 (Go.IntKind.u64.wrap (if 0 < x24 then intsC (kdF (1 : Int) k (1 + (x7 + (x12 + (x17 + (x22 + 0))))) 0) else (0 : Int)))).toNat : Int) * (256 : Int))) ||| BitVec.ofInt 64 (Go.IntKind.u64.wrap (if 1 < x24 then k (1 + (x7 + (x12 + (x17 + (x22 + 1))))) 0 else (0 : Int)))).toNat : Int)); let x35 : Bool := x33 && (Decidable.decide ((0 : Int) ≤ x34) && Decidable.decide (x34 ≤ (65535 : Int))); let x36 : Nat := fromN (fun (j : Nat) => if j < x29 then intsC (kdF (1 : Int) k (1 + (x7 + (x12 + (x17 + (x22 + (x27 + j)))))) 0) else (0 : Int)) 32; let x37 : Nat := fromN (fun (j : Nat) => if j < x4 then intsC (kdF (1 : Int) k (1 + j) 0) else (0 : Int)) 32; let x38 : Int := cmpN x36 x37; (((↑n : Int) == (0 : Int)) = Bool.true → (((0 : Int) = z ∧ True) ∧ (0 = x1 ∧ True) ∧ (0 = x2 ∧ True) ∧ ((0 : Int) = tk 0 ∧ (0 : Int) = tk 1 ∧ (0 : Int) = tk 2 ∧ (0 : Int) = tk 3 ∧ (0 : Int) = tk 4 ∧ (0 : Int) = tk 5 ∧ (0 : Int) = tk 6 ∧ (0 : Int) = tk 7 ∧ (0 : Int) = tk 8 ∧ (0 : Int) = tk 9 ∧ (0 : Int) = tk 10 ∧ (0 : Int) = tk 11 ∧ (0 : Int) = tk 12 ∧ (0 : Int) = tk 13 ∧ (0 : Int) = tk 14 ∧ (0 : Int) = tk 15 ∧ (0 : Int) = tk 16 ∧ (0 : Int) = tk 17 ∧ (0 : Int) = tk 18 ∧ (0 : Int) = tk 19 ∧ (0 : Int) = tk 20 ∧ (0 : Int) = tk 21 ∧ (0 : Int) = tk 22 ∧ (0 : Int) = tk 23 ∧ (0 : Int) = tk 24 ∧ (0 : Int) = tk 25 ∧ (0 : Int) = tk 26 ∧ (0 : Int) = tk 27 ∧ (0 : Int) = tk 28 ∧ (0 : Int) = tk 29 ∧ (0 : Int) = tk 30 ∧ (0 : Int) = tk 31 ∧ True) ∧ ((0 : Int) = hm ∧ True) ∧ ((0 : Int) = to 0 ∧ (0 : Int) = to 1 ∧ (0 : Int) = to 2 ∧ (0 : Int) = to 3 ∧ (0 : Int) = to 4 ∧ (0 : Int) = to 5 ∧ (0 : Int) = to 6 ∧ (0 : Int) = to 7 ∧ (0 : Int) = to 8 ∧ (0 : Int) = to 9 ∧ (0 : Int) = to 10 ∧ (0 : Int) = to 11 ∧ (0 : Int) = to 12 ∧ (0 : Int) = to 13 ∧ (0 : Int) = to 14 ∧ (0 : Int) = to 15 ∧ (0 : Int) = to 16 ∧ (0 : Int) = to 17 ∧ (0 : Int) = to 18 ∧ (0 : Int) = to 19 ∧ (0 : Int) = to 20 ∧ (0 : Int) = to 21 ∧ (0 : Int) = to 22 ∧ (0 : Int) = to 23 ∧ (0 : Int) = to 24 ∧ (0 : Int) = to 25 ∧ (0 : Int) = to 26 ∧ (0 : Int) = to 27 ∧ (0 : Int) = to 28 ∧ (0 : Int) = to 29 ∧ (0 : Int) = to 30 ∧ (0 : Int) = to 31 ∧ True) ∧ ((0 : Int) = tc ∧ True) ∧ ((0 : Int) = dc ∧ True) ∧ ((ByteArray.mk #[]) = sy ∧ True) ∧ m = 0 ∧ ((0 : Int) = ix ∧ True) ∧ y = 0 ∧ True) ∧ (4 : Int) = e) ∧ (((↑n : Int) == (0 : Int)) = Bool.false → ((0 : Int) ≤ (0 : Int) ∧ (0 : Int) < (↑n : Int)) ∧ ((0 : Int) ≤ (1 : Int) ∧ (1 : Int) ≤ (↑n : Int) ∧ (↑n : Int) ≤ (↑n : Int)) ∧ (∀ (j : Nat), Option.rec False (fun (val : Go.IntKind × Int) => Prod.casesOn val fun (fst : Go.IntKind) (_ : Int) => if Go.IntKind.u8 = fst then True else False) (asI (SA.sc (kdF (1 : Int) k (1 + j) 0)))) ∧ ((0 : Int) ≤ x5 ∧ x5 ≤ x6 ∧ x6 ≤ x6) ∧ (∀ (j : Nat), j < 32 → ((0 : Int) ≤ if j < x4 then intsC (kdF (1 : Int) k (1 + j) 0) else (0 : Int)) ∧ (if j < x4 then intsC (kdF (1 : Int) k (1 + j) 0) else (0 : Int)) < (256 : Int)) ∧ (∀ (j : Nat), Option.rec False (fun (val : Go.IntKind × Int) => Prod.casesOn val fun (fst : Go.IntKind) (_ : Int) => if Go.IntKind.u8 = fst then True else False) (asI (SA.sc (kdF (1 : Int) k (1 + (x7 + j)) 0)))) ∧ ((0 : Int) ≤ x10 ∧ x10 ≤ x11 ∧ x11 ≤ x11) ∧ (∀ (j : Nat), Option.rec False (fun (val : Go.IntKind × Int) => Prod.casesOn val fun (fst : Go.IntKind) (_ : Int) => if Go.IntKind.u8 = fst then True else False) (asI (SA.sc (kdF (1 : Int) k (1 + (x7 + (x12 + j))) 0)))) ∧ ((0 : Int) ≤ x15 ∧ x15 ≤ x16 ∧ x16 ≤ x16) ∧ (∀ (j : Nat), Option.rec False (fun (val : Go.IntKind × Int) => Prod.casesOn val fun (fst : Go.IntKind) (_ : Int) => if Go.IntKind.u8 = fst then True else False) (asI (SA.sc (kdF (1 : Int) k (1 + (x7 + (x12 + (x17 + j)))) 0)))) ∧ ((0 : Int) ≤ x20 ∧ x20 ≤ x21 ∧ x21 ≤ x21) ∧ (∀ (j : Nat), Option.rec False (fun (val : Go.IntKind × Int) => Prod.casesOn val fun (fst : Go.IntKind) (_ : Int) => if Go.IntKind.u8 = fst then True else False) (asI (SA.sc (kdF (1 : Int) k (1 + (x7 + (x12 + (x17 + (x22 + j))))) 0)))) ∧ ((0 : Int) ≤ x25 ∧ x25 ≤ x26 ∧ x26 ≤ x26) ∧ (∀ (j : Nat), Option.rec False (fun (val : Go.IntKind × Int) => Prod.casesOn val fun (fst : Go.IntKind) (_ : Int) => if Go.IntKind.u8 = fst then True else False) (asI (SA.sc (kdF (1 : Int) k (1 + (x7 + (x12 + (x17 + (x22 + (x27 + j)))))) 0)))) ∧ ((0 : Int) ≤ x30 ∧ x30 ≤ x31 ∧ x31 ≤ x31) ∧ (∀ (j : Nat), j < 32 → ((0 : Int) ≤ if j < x29 then intsC (kdF (1 : Int) k (1 + (x7 + (x12 + (x17 + (x22 + (x27 + j)))))) 0) else (0 : Int)) ∧ (if j < x29 then intsC (kdF (1 : Int) k (1 + (x7 + (x12 + (x17 + (x22 + (x27 + j)))))) 0) else (0 : Int)) < (256 : Int)) ∧ (Decidable.decide (x6 < (132 : Int)) = Bool.true → (((0 : Int) = z ∧ True) ∧ (0 = x1 ∧ True) ∧ (0 = x2 ∧ True) ∧ ((0 : Int) = tk 0 ∧ (0 : Int) = tk 1 ∧ (0 : Int) = tk 2 ∧ (0 : Int) = tk 3 ∧ (0 : Int) = tk 4 ∧ (0 : Int) = tk 5 ∧ (0 : Int) = tk 6 ∧ (0 : Int) = tk 7 ∧ (0 : Int) = tk 8 ∧ (0 : Int) = tk 9 ∧ (0 : Int) = tk 10 ∧ (0 : Int) = tk 11 ∧ (0 : Int) = tk 12 ∧ (0 : Int) = tk 13 ∧ (0 : Int) = tk 14 ∧ (0 : Int) = tk 15 ∧ (0 : Int) = tk 16 ∧ (0 : Int) = tk 17 ∧ (0 : Int) = tk 18 ∧ (0 : Int) = tk 19 ∧ (0 : Int) = tk 20 ∧ (0 : Int) = tk 21 ∧ (0 : Int) = tk 22 ∧ (0 : Int) = tk 23 ∧ (0 : Int) = tk 24 ∧ (0 : Int) = tk 25 ∧ (0 : Int) = tk 26 ∧ (0 : Int) = tk 27 ∧ (0 : Int) = tk 28 ∧ (0 : Int) = tk 29 ∧ (0 : Int) = tk 30 ∧ (0 : Int) = tk 31 ∧ True) ∧ ((0 : Int) = hm ∧ True) ∧ ((0 : Int) = to 0 ∧ (0 : Int) = to 1 ∧ (0 : Int) = to 2 ∧ (0 : Int) = to 3 ∧ (0 : Int) = to 4 ∧ (0 : Int) = to 5 ∧ (0 : Int) = to 6 ∧ (0 : Int) = to 7 ∧ (0 : Int) = to 8 ∧ (0 : Int) = to 9 ∧ (0 : Int) = to 10 ∧ (0 : Int) = to 11 ∧ (0 : Int) = to 12 ∧ (0 : Int) = to 13 ∧ (0 : Int) = to 14 ∧ (0 : Int) = to 15 ∧ (0 : Int) = to 16 ∧ (0 : Int) = to 17 ∧ (0 : Int) = to 18 ∧ (0 : Int) = to 19 ∧ (0 : Int) = to 20 ∧ (0 : Int) = to 21 ∧ (0 : Int) = to 22 ∧ (0 : Int) = to 23 ∧ (0 : Int) = to 24 ∧ (0 : Int) = to 25 ∧ (0 : Int) = to 26 ∧ (0 : Int) = to 27 ∧ (0 : Int) = to 28 ∧ (0 : Int) = to 29 ∧ (0 : Int) = to 30 ∧ (0 : Int) = to 31 ∧ True) ∧ ((0 : Int) = tc ∧ True) ∧ ((0 : Int) = dc ∧ True) ∧ ((ByteArray.mk #[]) = sy ∧ True) ∧ m = 0 ∧ ((0 : Int) = ix ∧ True) ∧ y = 0 ∧ True) ∧ (4 : Int) = e) ∧ (Decidable.decide (x6 < (132 : Int)) = Bool.false → ((!Decidable.decide (x6 > (132 : Int))) = Bool.true → (!Decidable.decide (x6 > (132 : Int))) = Bool.true ∧ (x33 = Bool.true → x33 = Bool.true) ∧ (x33 = Bool.true → x33 = Bool.true) ∧ (x33 = Bool.true → x33 = Bool.true) ∧ (x33 = Bool.true → x33 = Bool.true) ∧ (x33 = Bool.true → x33 = Bool.true) ∧ (x35 = Bool.true → x35 = Bool.true) ∧ (x35 = Bool.true → x35 = Bool.true) ∧ (x35 = Bool.true → x35 = Bool.true) ∧ (x35 = Bool.true → x35 = Bool.true) ∧ (x35 = Bool.true → x35 = Bool.true) ∧ (x35 = Bool.true → x35 = Bool.true) ∧ (x35 = Bool.true → x35 = Bool.true) ∧ (x35 = Bool.true → x35 = Bool.true) ∧ (x35 = Bool.true → x35 = Bool.true) ∧ (x35 = Bool.true → x35 = Bool.true) ∧ ((!(x35 && Decidable.decide (x38 ≤ (0 : Int)))) = Bool.true → (((0 : Int) = z ∧ True) ∧ (0 = x1 ∧ True) ∧ (0 = x2 ∧ True) ∧ ((0 : Int) = tk 0 ∧ (0 : Int) = tk 1 ∧ (0 : Int) = tk 2 ∧ (0 : Int) = tk 3 ∧ (0 : Int) = tk 4 ∧ (0 : Int) = tk 5 ∧ (0 : Int) = tk 6 ∧ (0 : Int) = tk 7 ∧ (0 : Int) = tk 8 ∧ (0 : Int) = tk 9 ∧ (0 : Int) = tk 10 ∧ (0 : Int) = tk 11 ∧ (0 : Int) = tk 12 ∧ (0 : Int) = tk 13 ∧ (0 : Int) = tk 14 ∧ (0 : Int) = tk 15 ∧ (0 : Int) = tk 16 ∧ (0 : Int) = tk 17 ∧ (0 : Int) = tk 18 ∧ (0 : Int) = tk 19 ∧ (0 : Int) = tk 20 ∧ (0 : Int) = tk 21 ∧ (0 : Int) = tk 22 ∧ (0 : Int) = tk 23 ∧ (0 : Int) = tk 24 ∧ (0 : Int) = tk 25 ∧ (0 : Int) = tk 26 ∧ (0 : Int) = tk 27 ∧ (0 : Int) = tk 28 ∧ (0 : Int) = tk 29 ∧ (0 : Int) = tk 30 ∧ (0 : Int) = tk 31 ∧ True) ∧ ((0 : Int) = hm ∧ True) ∧ ((0 : Int) = to 0 ∧ (0 : Int) = to 1 ∧ (0 : Int) = to 2 ∧ (0 : Int) = to 3 ∧ (0 : Int) = to 4 ∧ (0 : Int) = to 5 ∧ (0 : Int) = to 6 ∧ (0 : Int) = to 7 ∧ (0 : Int) = to 8 ∧ (0 : Int) = to 9 ∧ (0 : Int) = to 10 ∧ (0 : Int) = to 11 ∧ (0 : Int) = to 12 ∧ (0 : Int) = to 13 ∧ (0 : Int) = to 14 ∧ (0 : Int) = to 15 ∧ (0 : Int) = to 16 ∧ (0 : Int) = to 17 ∧ (0 : Int) = to 18 ∧ (0 : Int) = to 19 ∧ (0 : Int) = to 20 ∧ (0 : Int) = to 21 ∧ (0 : Int) = to 22 ∧ (0 : Int) = to 23 ∧ (0 : Int) = to 24 ∧ (0 : Int) = to 25 ∧ (0 : Int) = to 26 ∧ (0 : Int) = to 27 ∧ (0 : Int) = to 28 ∧ (0 : Int) = to 29 ∧ (0 : Int) = to 30 ∧ (0 : Int) = to 31 ∧ True) ∧ ((0 : Int) = tc ∧ True) ∧ ((0 : Int) = dc ∧ True) ∧ ((ByteArray.mk #[]) = sy ∧ True) ∧ m = 0 ∧ ((0 : Int) = ix ∧ True) ∧ y = 0 ∧ True) ∧ (3 : Int) = e) ∧ ((!(x35 && Decidable.decide (x38 ≤ (0 : Int)))) = Bool.false → (((1 : Int) = z ∧ True) ∧ (x37 % M256 = x1 ∧ True) ∧ (x36 % M256 = x2 ∧ True) ∧ ((∀ (j : Nat), j < 32 → (if j < x9 then intsC (kdF (1 : Int) k (1 + (x7 + j)) 0) else (0 : Int)) = tk j) ∧ True) ∧ (x32 = hm ∧ True) ∧ ((∀ (j : Nat), j < 32 → (if j < x19 then intsC (kdF (1 : Int) k (1 + (x7 + (x12 + (x17 + j)))) 0) else (0 : Int)) = to j) ∧ True) ∧ (x34 = tc ∧ True) ∧ ((0 : Int) = dc ∧ True) ∧ ((ByteArray.mk #[]) = sy ∧ True) ∧ m = 0 ∧ ((0 : Int) = ix ∧ True) ∧ y = 0 ∧ True) ∧ (0 : Int) = e)) ∧ ((!Decidable.decide (x6 > (132 : Int))) = Bool.false → (((0 : Int) = z ∧ True) ∧ (0 = x1 ∧ True) ∧ (0 = x2 ∧ True) ∧ ((0 : Int) = tk 0 ∧ (0 : Int) = tk 1 ∧ (0 : Int) = tk 2 ∧ (0 : Int) = tk 3 ∧ (0 : Int) = tk 4 ∧ (0 : Int) = tk 5 ∧ (0 : Int) = tk 6 ∧ (0 : Int) = tk 7 ∧ (0 : Int) = tk 8 ∧ (0 : Int) = tk 9 ∧ (0 : Int) = tk 10 ∧ (0 : Int) = tk 11 ∧ (0 : Int) = tk 12 ∧ (0 : Int) = tk 13 ∧ (0 : Int) = tk 14 ∧ (0 : Int) = tk 15 ∧ (0 : Int) = tk 16 ∧ (0 : Int) = tk 17 ∧ (0 : Int) = tk 18 ∧ (0 : Int) = tk 19 ∧ (0 : Int) = tk 20 ∧ (0 : Int) = tk 21 ∧ (0 : Int) = tk 22 ∧ (0 : Int) = tk 23 ∧ (0 : Int) = tk 24 ∧ (0 : Int) = tk 25 ∧ (0 : Int) = tk 26 ∧ (0 : Int) = tk 27 ∧ (0 : Int) = tk 28 ∧ (0 : Int) = tk 29 ∧ (0 : Int) = tk 30 ∧ (0 : Int) = tk 31 ∧ True) ∧ ((0 : Int) = hm ∧ True) ∧ ((0 : Int) = to 0 ∧ (0 : Int) = to 1 ∧ (0 : Int) = to 2 ∧ (0 : Int) = to 3 ∧ (0 : Int) = to 4 ∧ (0 : Int) = to 5 ∧ (0 : Int) = to 6 ∧ (0 : Int) = to 7 ∧ (0 : Int) = to 8 ∧ (0 : Int) = to 9 ∧ (0 : Int) = to 10 ∧ (0 : Int) = to 11 ∧ (0 : Int) = to 12 ∧ (0 : Int) = to 13 ∧ (0 : Int) = to 14 ∧ (0 : Int) = to 15 ∧ (0 : Int) = to 16 ∧ (0 : Int) = to 17 ∧ (0 : Int) = to 18 ∧ (0 : Int) = to 19 ∧ (0 : Int) = to 20 ∧ (0 : Int) = to 21 ∧ (0 : Int) = to 22 ∧ (0 : Int) = to 23 ∧ (0 : Int) = to 24 ∧ (0 : Int) = to 25 ∧ (0 : Int) = to 26 ∧ (0 : Int) = to 27 ∧ (0 : Int) = to 28 ∧ (0 : Int) = to 29 ∧ (0 : Int) = to 30 ∧ (0 : Int) = to 31 ∧ True) ∧ ((0 : Int) = tc ∧ True) ∧ ((0 : Int) = dc ∧ True) ∧ ((ByteArray.mk #[]) = sy ∧ True) ∧ m = 0 ∧ ((0 : Int) = ix ∧ True) ∧ y = 0 ∧ True) ∧ (3 : Int) = e)))) := by kernel_rfl
theorem vc_ldc0 (a : Option Addr) (n cap : Nat) (k : Nat → Nat → Int) (am fe : Nat) (tk : Nat → Int) (hm : Int) (to : Nat → Int) (tc dc : Int) (sy : ByteArray) (m : Nat) (dk : Nat → Nat → Int) (ix : Int) (y : Nat) (kk : Nat → Nat → Int) (z e : Int) :
    OwesQ Try.prog cxLd8 [] [] [] 30 Try.f15 [.sc (.xs a n cap 1 (u8F k))] false [.st [.k (.c (.val (.int .i64 z))), .k (.u am), .k (.u fe), .k (.f .u8 32 tk), .k (.c (.val (.int .i64 hm))), .k (.f .u8 32 to), .k (.c (.val (.int .i64 tc))), .k (.c (.val (.int .i64 dc))), .k (.c (.val (.string sy))), .s m 1 (u8F dk), .k (.c (.val (.int .i64 ix))), .s y 20 (u8F kk)], .v (sI .i64 e)] =
    ((((↑n : Int) == (0 : Int)) = Bool.true → (((0 : Int) = z ∧ True) ∧ (0 = am % M256 ∧ True) ∧ (0 = fe % M256 ∧ True) ∧ ((0 : Int) = tk 0 ∧ (0 : Int) = tk 1 ∧ (0 : Int) = tk 2 ∧ (0 : Int) = tk 3 ∧ (0 : Int) = tk 4 ∧ (0 : Int) = tk 5 ∧ (0 : Int) = tk 6 ∧ (0 : Int) = tk 7 ∧ (0 : Int) = tk 8 ∧ (0 : Int) = tk 9 ∧ (0 : Int) = tk 10 ∧ (0 : Int) = tk 11 ∧ (0 : Int) = tk 12 ∧ (0 : Int) = tk 13 ∧ (0 : Int) = tk 14 ∧ (0 : Int) = tk 15 ∧ (0 : Int) = tk 16 ∧ (0 : Int) = tk 17 ∧ (0 : Int) = tk 18 ∧ (0 : Int) = tk 19 ∧ (0 : Int) = tk 20 ∧ (0 : Int) = tk 21 ∧ (0 : Int) = tk 22 ∧ (0 : Int) = tk 23 ∧ (0 : Int) = tk 24 ∧ (0 : Int) = tk 25 ∧ (0 : Int) = tk 26 ∧ (0 : Int) = tk 27 ∧ (0 : Int) = tk 28 ∧ (0 : Int) = tk 29 ∧ (0 : Int) = tk 30 ∧ (0 : Int) = tk 31 ∧ True) ∧ ((0 : Int) = hm ∧ True) ∧ ((0 : Int) = to 0 ∧ (0 : Int) = to 1 ∧ (0 : Int) = to 2 ∧ (0 : Int) = to 3 ∧ (0 : Int) = to 4 ∧ (0 : Int) = to 5 ∧ (0 : Int) = to 6 ∧ (0 : Int) = to 7 ∧ (0 : Int) = to 8 ∧ (0 : Int) = to 9 ∧ (0 : Int) = to 10 ∧ (0 : Int) = to 11 ∧ (0 : Int) = to 12 ∧ (0 : Int) = to 13 ∧ (0 : Int) = to 14 ∧ (0 : Int) = to 15 ∧ (0 : Int) = to 16 ∧ (0 : Int) = to 17 ∧ (0 : Int) = to 18 ∧ (0 : Int) = to 19 ∧ (0 : Int) = to 20 ∧ (0 : Int) = to 21 ∧ (0 : Int) = to 22 ∧ (0 : Int) = to 23 ∧ (0 : Int) = to 24 ∧ (0 : Int) = to 25 ∧ (0 : Int) = to 26 ∧ (0 : Int) = to 27 ∧ (0 : Int) = to 28 ∧ (0 : Int) = to 29 ∧ (0 : Int) = to 30 ∧ (0 : Int) = to 31 ∧ True) ∧ ((0 : Int) = tc ∧ True) ∧ ((0 : Int) = dc ∧ True) ∧ ((ByteArray.mk #[]) = sy ∧ True) ∧ m = 0 ∧ ((0 : Int) = ix ∧ True) ∧ y = 0 ∧ True) ∧ (4 : Int) = e) ∧ (((↑n : Int) == (0 : Int)) = Bool.false → ((0 : Int) ≤ (0 : Int) ∧ (0 : Int) < (↑n : Int)) ∧ ((0 : Int) ≤ (1 : Int) ∧ (1 : Int) ≤ (↑n : Int) ∧ (↑n : Int) ≤ (↑n : Int)) ∧ ((Go.IntKind.i64.wrap (k 0 0) == (1 : Int)) = Bool.true → ∀ (_ : Go.Addr), Stuck { dst := Option.some 9, op := Go.Op.makeInterface 97 (Go.Operand.tmp 8), type := 76, pos := "said.go:26", after := #[{ on := 1, ground := Go.Ground.data }], guard := Option.none }) ∧ ((Go.IntKind.i64.wrap (k 0 0) == (1 : Int)) = Bool.false → ((Go.IntKind.i64.wrap (k 0 0) == (2 : Int)) = Bool.true → ∀ (_ : Go.Addr), Stuck { dst := Option.some 14, op := Go.Op.makeInterface 100 (Go.Operand.tmp 13), type := 76, pos := "said.go:28", after := #[{ on := 1, ground := Go.Ground.data }], guard := Option.none }) ∧ ((Go.IntKind.i64.wrap (k 0 0) == (2 : Int)) = Bool.false → ((Go.IntKind.i64.wrap (k 0 0) == (3 : Int)) = Bool.true → ∀ (_ : Go.Addr), Stuck { dst := Option.some 19, op := Go.Op.makeInterface 103 (Go.Operand.tmp 18), type := 76, pos := "said.go:30", after := #[{ on := 1, ground := Go.Ground.data }], guard := Option.none }) ∧ ((Go.IntKind.i64.wrap (k 0 0) == (3 : Int)) = Bool.false → ((Go.IntKind.i64.wrap (k 0 0) == (4 : Int)) = Bool.true → ∀ (_ : Go.Addr), Stuck { dst := Option.some 24, op := Go.Op.makeInterface 106 (Go.Operand.tmp 23), type := 76, pos := "said.go:32", after := #[{ on := 1, ground := Go.Ground.data }], guard := Option.none }) ∧ ((Go.IntKind.i64.wrap (k 0 0) == (4 : Int)) = Bool.false → (((0 : Int) = z ∧ True) ∧ (0 = am % M256 ∧ True) ∧ (0 = fe % M256 ∧ True) ∧ ((0 : Int) = tk 0 ∧ (0 : Int) = tk 1 ∧ (0 : Int) = tk 2 ∧ (0 : Int) = tk 3 ∧ (0 : Int) = tk 4 ∧ (0 : Int) = tk 5 ∧ (0 : Int) = tk 6 ∧ (0 : Int) = tk 7 ∧ (0 : Int) = tk 8 ∧ (0 : Int) = tk 9 ∧ (0 : Int) = tk 10 ∧ (0 : Int) = tk 11 ∧ (0 : Int) = tk 12 ∧ (0 : Int) = tk 13 ∧ (0 : Int) = tk 14 ∧ (0 : Int) = tk 15 ∧ (0 : Int) = tk 16 ∧ (0 : Int) = tk 17 ∧ (0 : Int) = tk 18 ∧ (0 : Int) = tk 19 ∧ (0 : Int) = tk 20 ∧ (0 : Int) = tk 21 ∧ (0 : Int) = tk 22 ∧ (0 : Int) = tk 23 ∧ (0 : Int) = tk 24 ∧ (0 : Int) = tk 25 ∧ (0 : Int) = tk 26 ∧ (0 : Int) = tk 27 ∧ (0 : Int) = tk 28 ∧ (0 : Int) = tk 29 ∧ (0 : Int) = tk 30 ∧ (0 : Int) = tk 31 ∧ True) ∧ ((0 : Int) = hm ∧ True) ∧ ((0 : Int) = to 0 ∧ (0 : Int) = to 1 ∧ (0 : Int) = to 2 ∧ (0 : Int) = to 3 ∧ (0 : Int) = to 4 ∧ (0 : Int) = to 5 ∧ (0 : Int) = to 6 ∧ (0 : Int) = to 7 ∧ (0 : Int) = to 8 ∧ (0 : Int) = to 9 ∧ (0 : Int) = to 10 ∧ (0 : Int) = to 11 ∧ (0 : Int) = to 12 ∧ (0 : Int) = to 13 ∧ (0 : Int) = to 14 ∧ (0 : Int) = to 15 ∧ (0 : Int) = to 16 ∧ (0 : Int) = to 17 ∧ (0 : Int) = to 18 ∧ (0 : Int) = to 19 ∧ (0 : Int) = to 20 ∧ (0 : Int) = to 21 ∧ (0 : Int) = to 22 ∧ (0 : Int) = to 23 ∧ (0 : Int) = to 24 ∧ (0 : Int) = to 25 ∧ (0 : Int) = to 26 ∧ (0 : Int) = to 27 ∧ (0 : Int) = to 28 ∧ (0 : Int) = to 29 ∧ (0 : Int) = to 30 ∧ (0 : Int) = to 31 ∧ True) ∧ ((0 : Int) = tc ∧ True) ∧ ((0 : Int) = dc ∧ True) ∧ ((ByteArray.mk #[]) = sy ∧ True) ∧ m = 0 ∧ ((0 : Int) = ix ∧ True) ∧ y = 0 ∧ True) ∧ (2 : Int) = e)))))) := by kernel_rfl
end Go.Proofs.Ytamhchemnalfbaa
end

section
namespace Go.Proofs.Ytamhchemnalfbaa
open Go.Sx
set_option maxRecDepth 100000
theorem vc_ldc2 (a : Option Addr) (n cap : Nat) (k : Nat → Nat → Int) (am fe : Nat) (tk : Nat → Int) (hm : Int) (to : Nat → Int) (tc dc : Int) (sy : ByteArray) (m : Nat) (dk : Nat → Nat → Int) (ix : Int) (y : Nat) (kk : Nat → Nat → Int) (z e : Int) :
    OwesQ Try.prog cxLd2 [] [] [] 30 Try.f15 [.sc (.xs a n cap 1 (kdF 2 k))] false [.st [.k (.c (.val (.int .i64 z))), .k (.u am), .k (.u fe), .k (.f .u8 32 tk), .k (.c (.val (.int .i64 hm))), .k (.f .u8 32 to), .k (.c (.val (.int .i64 tc))), .k (.c (.val (.int .i64 dc))), .k (.c (.val (.string sy))), .s m 1 (u8F dk), .k (.c (.val (.int .i64 ix))), .s y 20 (u8F kk)], .v (sI .i64 e)] =
    (let x1 : Nat := n - 1; let x2 : Nat := x1.min 32; let x3 : Int := (↑x2 : Int); let x4 : Int := (↑x1 : Int); let x5 : Nat := x3.toNat; let x6 : Nat := x1 - x5; let x7 : Nat := x6.min 2; let x8 : Int := (↑x7 : Int); let x9 : Int := (↑x6 : Int); let x10 : Nat := x8.toNat; let x11 : Nat := x6 - x10; let x12 : Nat := x11.min 1; let x13 : Int := (↑x12 : Int); let x14 : Int := (↑x11 : Int); let x15 : Nat := x13.toNat; let x16 : Nat := x11 - x15; let x17 : Nat := x16.min 32; let x18 : Int := (↑x17 : Int); let x19 : Int := (↑x16 : Int); let x20 : Int := Go.IntKind.i64.wrap (Go.IntKind.u64.wrap (↑(BitVec.ofInt 64 (Go.IntKind.u64.wrap (Go.IntKind.u64.wrap (↑(BitVec.ofInt 64 (0 : Int) ||| BitVec.ofInt 64 (Go.IntKind.u64.wrap (if 0 < x7 then intsC (kdF (2 : Int) k (1 + (x5 + 0)) 0) else (0 : Int)))).toNat : Int) * (256 : Int))) ||| BitVec.ofInt 64 (Go.IntKind.u64.wrap (if 1 < x7 then k (1 + (x5 + 1)) 0 else (0 : Int)))).toNat : Int)); let x21 : Bool := Decidable.decide ((0 : Int) ≤ x20) && Decidable.decide (x20 ≤ (65535 : Int)); let x22 : Int := Go.IntKind.i64.wrap (Go.IntKind.u64.wrap (↑(BitVec.ofInt 64 (0 : Int) ||| BitVec.ofInt 64 (Go.IntKind.u64.wrap (if 0 < x12 then intsC (kdF (2 : Int) k (1 + (x5 + (x10 + 0))) 0) else (0 : Int)))).toNat : Int)); let x23 : Bool := x21 && (Decidable.decide ((0 : Int) ≤ x22) && Decidable.decide (x22 ≤ (77 : Int))); let x24 : Int := (↑(trimT (bytesI (intsL [SK.f Go.IntKind.u8 32 fun (j : Nat) => if j < x17 then intsC (kdF (2 : Int) k (1 + (x5 + (x10 + (x15 + j)))) 0) else (0 : Int)]))).size : Int); let x25 : Bool := x23 && Decidable.decide (x24 ≤ (32 : Int)); (((↑n : Int) == (0 : Int)) = Bool.true → (((0 : Int) = z ∧ True) ∧ (0 = am % M256 ∧ True) ∧ (0 = fe % M256 ∧ True) ∧ ((0 : Int) = tk 0 ∧ (0 : Int) = tk 1 ∧ (0 : Int) = tk 2 ∧ (0 : Int) = tk 3 ∧ (0 : Int) = tk 4 ∧ (0 : Int) = tk 5 ∧ (0 : Int) = tk 6 ∧ (0 : Int) = tk 7 ∧ (0 : Int) = tk 8 ∧ (0 : Int) = tk 9 ∧ (0 : Int) = tk 10 ∧ (0 : Int) = tk 11 ∧ (0 : Int) = tk 12 ∧ (0 : Int) = tk 13 ∧ (0 : Int) = tk 14 ∧ (0 : Int) = tk 15 ∧ (0 : Int) = tk 16 ∧ (0 : Int) = tk 17 ∧ (0 : Int) = tk 18 ∧ (0 : Int) = tk 19 ∧ (0 : Int) = tk 20 ∧ (0 : Int) = tk 21 ∧ (0 : Int) = tk 22 ∧ (0 : Int) = tk 23 ∧ (0 : Int) = tk 24 ∧ (0 : Int) = tk 25 ∧ (0 : Int) = tk 26 ∧ (0 : Int) = tk 27 ∧ (0 : Int) = tk 28 ∧ (0 : Int) = tk 29 ∧ (0 : Int) = tk 30 ∧ (0 : Int) = tk 31 ∧ True) ∧ ((0 : Int) = hm ∧ True) ∧ ((0 : Int) = to 0 ∧ (0 : Int) = to 1 ∧ (0 : Int) = to 2 ∧ (0 : Int) = to 3 ∧ (0 : Int) = to 4 ∧ (0 : Int) = to 5 ∧ (0 : Int) = to 6 ∧ (0 : Int) = to 7 ∧ (0 : Int) = to 8 ∧ (0 : Int) = to 9 ∧ (0 : Int) = to 10 ∧ (0 : Int) = to 11 ∧ (0 : Int) = to 12 ∧ (0 : Int) = to 13 ∧ (0 : Int) = to 14 ∧ (0 : Int) = to 15 ∧ (0 : Int) = to 16 ∧ (0 : Int) = to 17 ∧ (0 : Int) = to 18 ∧ (0 : Int) = to 19 ∧ (0 : Int) = to 20 ∧ (0 : Int) = to 21 ∧ (0 : Int) = to 22 ∧ (0 : Int) = to 23 ∧ (0 : Int) = to 24 ∧ (0 : Int) = to 25 ∧ (0 : Int) = to 26 ∧ (0 : Int) = to 27 ∧ (0 : Int) = to 28 ∧ (0 : Int) = to 29 ∧ (0 : Int) = to 30 ∧ (0 : Int) = to 31 ∧ True) ∧ ((0 : Int) = tc ∧ True) ∧ ((0 : Int) = dc ∧ True) ∧ ((ByteArray.mk #[]) = sy ∧ True) ∧ m = 0 ∧ ((0 : Int) = ix ∧ True) ∧ y = 0 ∧ True) ∧ (4 : Int) = e) ∧ (((↑n : Int) == (0 : Int)) = Bool.false → ((0 : Int) ≤ (0 : Int) ∧ (0 : Int) < (↑n : Int)) ∧ ((0 : Int) ≤ (1 : Int) ∧ (1 : Int) ≤ (↑n : Int) ∧ (↑n : Int) ≤ (↑n : Int)) ∧ (∀ (j : Nat), Option.rec False (fun (val : Go.IntKind × Int) => Prod.casesOn val fun (fst : Go.IntKind) (_ : Int) => if Go.IntKind.u8 = fst then True else False) (asI (SA.sc (kdF (2 : Int) k (1 + j) 0)))) ∧ ((0 : Int) ≤ x3 ∧ x3 ≤ x4 ∧ x4 ≤ x4) ∧ (∀ (j : Nat), Option.rec False (fun (val : Go.IntKind × Int) => Prod.casesOn val fun (fst : Go.IntKind) (_ : Int) => if Go.IntKind.u8 = fst then True else False) (asI (SA.sc (kdF (2 : Int) k (1 + (x5 + j)) 0)))) ∧ ((0 : Int) ≤ x8 ∧ x8 ≤ x9 ∧ x9 ≤ x9) ∧ (∀ (j : Nat), Option.rec False (fun (val : Go.IntKind × Int) => Prod.casesOn val fun (fst : Go.IntKind) (_ : Int) => if Go.IntKind.u8 = fst then True else False) (asI (SA.sc (kdF (2 : Int) k (1 + (x5 + (x10 + j))) 0)))) ∧ ((0 : Int) ≤ x13 ∧ x13 ≤ x14 ∧ x14 ≤ x14) ∧ (∀ (j : Nat), Option.rec False (fun (val : Go.IntKind × Int) => Prod.casesOn val fun (fst : Go.IntKind) (_ : Int) => if Go.IntKind.u8 = fst then True else False) (asI (SA.sc (kdF (2 : Int) k (1 + (x5 + (x10 + (x15 + j)))) 0)))) ∧ ((0 : Int) ≤ x18 ∧ x18 ≤ x19 ∧ x19 ≤ x19) ∧ (↑(bytesI (intsL [SK.f Go.IntKind.u8 32 fun (j : Nat) => if j < x17 then intsC (kdF (2 : Int) k (1 + (x5 + (x10 + (x15 + j)))) 0) else (0 : Int)])).size : Int) ≤ (9223372036854775807 : Int) ∧ (ByteArray.mk #[(0 : UInt8)]) = (ByteArray.mk #[(0 : UInt8)]) ∧ (Decidable.decide (x4 < (67 : Int)) = Bool.true → (((0 : Int) = z ∧ True) ∧ (0 = am % M256 ∧ True) ∧ (0 = fe % M256 ∧ True) ∧ ((0 : Int) = tk 0 ∧ (0 : Int) = tk 1 ∧ (0 : Int) = tk 2 ∧ (0 : Int) = tk 3 ∧ (0 : Int) = tk 4 ∧ (0 : Int) = tk 5 ∧ (0 : Int) = tk 6 ∧ (0 : Int) = tk 7 ∧ (0 : Int) = tk 8 ∧ (0 : Int) = tk 9 ∧ (0 : Int) = tk 10 ∧ (0 : Int) = tk 11 ∧ (0 : Int) = tk 12 ∧ (0 : Int) = tk 13 ∧ (0 : Int) = tk 14 ∧ (0 : Int) = tk 15 ∧ (0 : Int) = tk 16 ∧ (0 : Int) = tk 17 ∧ (0 : Int) = tk 18 ∧ (0 : Int) = tk 19 ∧ (0 : Int) = tk 20 ∧ (0 : Int) = tk 21 ∧ (0 : Int) = tk 22 ∧ (0 : Int) = tk 23 ∧ (0 : Int) = tk 24 ∧ (0 : Int) = tk 25 ∧ (0 : Int) = tk 26 ∧ (0 : Int) = tk 27 ∧ (0 : Int) = tk 28 ∧ (0 : Int) = tk 29 ∧ (0 : Int) = tk 30 ∧ (0 : Int) = tk 31 ∧ True) ∧ ((0 : Int) = hm ∧ True) ∧ ((0 : Int) = to 0 ∧ (0 : Int) = to 1 ∧ (0 : Int) = to 2 ∧ (0 : Int) = to 3 ∧ (0 : Int) = to 4 ∧ (0 : Int) = to 5 ∧ (0 : Int) = to 6 ∧ (0 : Int) = to 7 ∧ (0 : Int) = to 8 ∧ (0 : Int) = to 9 ∧ (0 : Int) = to 10 ∧ (0 : Int) = to 11 ∧ (0 : Int) = to 12 ∧ (0 : Int) = to 13 ∧ (0 : Int) = to 14 ∧ (0 : Int) = to 15 ∧ (0 : Int) = to 16 ∧ (0 : Int) = to 17 ∧ (0 : Int) = to 18 ∧ (0 : Int) = to 19 ∧ (0 : Int) = to 20 ∧ (0 : Int) = to 21 ∧ (0 : Int) = to 22 ∧ (0 : Int) = to 23 ∧ (0 : Int) = to 24 ∧ (0 : Int) = to 25 ∧ (0 : Int) = to 26 ∧ (0 : Int) = to 27 ∧ (0 : Int) = to 28 ∧ (0 : Int) = to 29 ∧ (0 : Int) = to 30 ∧ (0 : Int) = to 31 ∧ True) ∧ ((0 : Int) = tc ∧ True) ∧ ((0 : Int) = dc ∧ True) ∧ ((ByteArray.mk #[]) = sy ∧ True) ∧ m = 0 ∧ ((0 : Int) = ix ∧ True) ∧ y = 0 ∧ True) ∧ (4 : Int) = e) ∧ (Decidable.decide (x4 < (67 : Int)) = Bool.false → ((!Decidable.decide (x4 > (67 : Int))) = Bool.true → (!Decidable.decide (x4 > (67 : Int))) = Bool.true ∧ (x21 = Bool.true → x21 = Bool.true) ∧ (x21 = Bool.true → x21 = Bool.true) ∧ (x21 = Bool.true → x21 = Bool.true) ∧ (x21 = Bool.true → x21 = Bool.true) ∧ (x21 = Bool.true → x21 = Bool.true) ∧ (x23 = Bool.true → x23 = Bool.true) ∧ (x23 = Bool.true → x23 = Bool.true) ∧ (x23 = Bool.true → x23 = Bool.true) ∧ (x23 = Bool.true → x23 = Bool.true) ∧ (x23 = Bool.true → x23 = Bool.true) ∧ (x23 = Bool.true → x23 = Bool.true) ∧ (x25 = Bool.true → x25 = Bool.true) ∧ (x25 = Bool.true → x25 = Bool.true) ∧ (x25 = Bool.true → x25 = Bool.true) ∧ (x25 = Bool.true → x25 = Bool.true) ∧ (x25 = Bool.true → (ByteArray.mk #[(0 : UInt8)]) = (ByteArray.mk #[(0 : UInt8)])) ∧ (x25 = Bool.true → x25 = Bool.true) ∧ (x25 = Bool.true → x25 = Bool.true) ∧ ((!(x25 && !hasNul (trimT (bytesI (intsL [SK.f Go.IntKind.u8 32 fun (j : Nat) => if j < x17 then intsC (kdF (2 : Int) k (1 + (x5 + (x10 + (x15 + j)))) 0) else (0 : Int)]))))) = Bool.true → (((0 : Int) = z ∧ True) ∧ (0 = am % M256 ∧ True) ∧ (0 = fe % M256 ∧ True) ∧ ((0 : Int) = tk 0 ∧ (0 : Int) = tk 1 ∧ (0 : Int) = tk 2 ∧ (0 : Int) = tk 3 ∧ (0 : Int) = tk 4 ∧ (0 : Int) = tk 5 ∧ (0 : Int) = tk 6 ∧ (0 : Int) = tk 7 ∧ (0 : Int) = tk 8 ∧ (0 : Int) = tk 9 ∧ (0 : Int) = tk 10 ∧ (0 : Int) = tk 11 ∧ (0 : Int) = tk 12 ∧ (0 : Int) = tk 13 ∧ (0 : Int) = tk 14 ∧ (0 : Int) = tk 15 ∧ (0 : Int) = tk 16 ∧ (0 : Int) = tk 17 ∧ (0 : Int) = tk 18 ∧ (0 : Int) = tk 19 ∧ (0 : Int) = tk 20 ∧ (0 : Int) = tk 21 ∧ (0 : Int) = tk 22 ∧ (0 : Int) = tk 23 ∧ (0 : Int) = tk 24 ∧ (0 : Int) = tk 25 ∧ (0 : Int) = tk 26 ∧ (0 : Int) = tk 27 ∧ (0 : Int) = tk 28 ∧ (0 : Int) = tk 29 ∧ (0 : Int) = tk 30 ∧ (0 : Int) = tk 31 ∧ True) ∧ ((0 : Int) = hm ∧ True) ∧ ((0 : Int) = to 0 ∧ (0 : Int) = to 1 ∧ (0 : Int) = to 2 ∧ (0 : Int) = to 3 ∧ (0 : Int) = to 4 ∧ (0 : Int) = to 5 ∧ (0 : Int) = to 6 ∧ (0 : Int) = to 7 ∧ (0 : Int) = to 8 ∧ (0 : Int) = to 9 ∧ (0 : Int) = to 10 ∧ (0 : Int) = to 11 ∧ (0 : Int) = to 12 ∧ (0 : Int) = to 13 ∧ (0 : Int) = to 14 ∧ (0 : Int) = to 15 ∧ (0 : Int) = to 16 ∧ (0 : Int) = to 17 ∧ (0 : Int) = to 18 ∧ (0 : Int) = to 19 ∧ (0 : Int) = to 20 ∧ (0 : Int) = to 21 ∧ (0 : Int) = to 22 ∧ (0 : Int) = to 23 ∧ (0 : Int) = to 24 ∧ (0 : Int) = to 25 ∧ (0 : Int) = to 26 ∧ (0 : Int) = to 27 ∧ (0 : Int) = to 28 ∧ (0 : Int) = to 29 ∧ (0 : Int) = to 30 ∧ (0 : Int) = to 31 ∧ True) ∧ ((0 : Int) = tc ∧ True) ∧ ((0 : Int) = dc ∧ True) ∧ ((ByteArray.mk #[]) = sy ∧ True) ∧ m = 0 ∧ ((0 : Int) = ix ∧ True) ∧ y = 0 ∧ True) ∧ (3 : Int) = e) ∧ ((!(x25 && !hasNul (trimT (bytesI (intsL [SK.f Go.IntKind.u8 32 fun (j : Nat) => if j < x17 then intsC (kdF (2 : Int) k (1 + (x5 + (x10 + (x15 + j)))) 0) else (0 : Int)]))))) = Bool.false → (((2 : Int) = z ∧ True) ∧ (0 = am % M256 ∧ True) ∧ (0 = fe % M256 ∧ True) ∧ ((∀ (j : Nat), j < 32 → (if j < x2 then intsC (kdF (2 : Int) k (1 + j) 0) else (0 : Int)) = tk j) ∧ True) ∧ (x20 = hm ∧ True) ∧ ((0 : Int) = to 0 ∧ (0 : Int) = to 1 ∧ (0 : Int) = to 2 ∧ (0 : Int) = to 3 ∧ (0 : Int) = to 4 ∧ (0 : Int) = to 5 ∧ (0 : Int) = to 6 ∧ (0 : Int) = to 7 ∧ (0 : Int) = to 8 ∧ (0 : Int) = to 9 ∧ (0 : Int) = to 10 ∧ (0 : Int) = to 11 ∧ (0 : Int) = to 12 ∧ (0 : Int) = to 13 ∧ (0 : Int) = to 14 ∧ (0 : Int) = to 15 ∧ (0 : Int) = to 16 ∧ (0 : Int) = to 17 ∧ (0 : Int) = to 18 ∧ (0 : Int) = to 19 ∧ (0 : Int) = to 20 ∧ (0 : Int) = to 21 ∧ (0 : Int) = to 22 ∧ (0 : Int) = to 23 ∧ (0 : Int) = to 24 ∧ (0 : Int) = to 25 ∧ (0 : Int) = to 26 ∧ (0 : Int) = to 27 ∧ (0 : Int) = to 28 ∧ (0 : Int) = to 29 ∧ (0 : Int) = to 30 ∧ (0 : Int) = to 31 ∧ True) ∧ ((0 : Int) = tc ∧ True) ∧ (x22 = dc ∧ True) ∧ (trimT (bytesI (intsL [SK.f Go.IntKind.u8 32 fun (j : Nat) => if j < x17 then intsC (kdF (2 : Int) k (1 + (x5 + (x10 + (x15 + j)))) 0) else (0 : Int)])) = sy ∧ True) ∧ m = 0 ∧ ((0 : Int) = ix ∧ True) ∧ y = 0 ∧ True) ∧ (0 : Int) = e)) ∧ ((!Decidable.decide (x4 > (67 : Int))) = Bool.false → (((0 : Int) = z ∧ True) ∧ (0 = am % M256 ∧ True) ∧ (0 = fe % M256 ∧ True) ∧ ((0 : Int) = tk 0 ∧ (0 : Int) = tk 1 ∧ (0 : Int) = tk 2 ∧ (0 : Int) = tk 3 ∧ (0 : Int) = tk 4 ∧ (0 : Int) = tk 5 ∧ (0 : Int) = tk 6 ∧ (0 : Int) = tk 7 ∧ (0 : Int) = tk 8 ∧ (0 : Int) = tk 9 ∧ (0 : Int) = tk 10 ∧ (0 : Int) = tk 11 ∧ (0 : Int) = tk 12 ∧ (0 : Int) = tk 13 ∧ (0 : Int) = tk 14 ∧ (0 : Int) = tk 15 ∧ (0 : Int) = tk 16 ∧ (0 : Int) = tk 17 ∧ (0 : Int) = tk 18 ∧ (0 : Int) = tk 19 ∧ (0 : Int) = tk 20 ∧ (0 : Int) = tk 21 ∧ (0 : Int) = tk 22 ∧ (0 : Int) = tk 23 ∧ (0 : Int) = tk 24 ∧ (0 : Int) = tk 25 ∧ (0 : Int) = tk 26 ∧ (0 : Int) = tk 27 ∧ (0 : Int) = tk 28 ∧ (0 : Int) = tk 29 ∧ (0 : Int) = tk 30 ∧ (0 : Int) = tk 31 ∧ True) ∧ ((0 : Int) = hm ∧ True) ∧ ((0 : Int) = to 0 ∧ (0 : Int) = to 1 ∧ (0 : Int) = to 2 ∧ (0 : Int) = to 3 ∧ (0 : Int) = to 4 ∧ (0 : Int) = to 5 ∧ (0 : Int) = to 6 ∧ (0 : Int) = to 7 ∧ (0 : Int) = to 8 ∧ (0 : Int) = to 9 ∧ (0 : Int) = to 10 ∧ (0 : Int) = to 11 ∧ (0 : Int) = to 12 ∧ (0 : Int) = to 13 ∧ (0 : Int) = to 14 ∧ (0 : Int) = to 15 ∧ (0 : Int) = to 16 ∧ (0 : Int) = to 17 ∧ (0 : Int) = to 18 ∧ (0 : Int) = to 19 ∧ (0 : Int) = to 20 ∧ (0 : Int) = to 21 ∧ (0 : Int) = to 22 ∧ (0 : Int) = to 23 ∧ (0 : Int) = to 24 ∧ (0 : Int) = to 25 ∧ (0 : Int) = to 26 ∧ (0 : Int) = to 27 ∧ (0 : Int) = to 28 ∧ (0 : Int) = to 29 ∧ (0 : Int) = to 30 ∧ (0 : Int) = to 31 ∧ True) ∧ ((0 : Int) = tc ∧ True) ∧ ((0 : Int) = dc ∧ True) ∧ ((ByteArray.mk #[]) = sy ∧ True) ∧ m = 0 ∧ ((0 : Int) = ix ∧ True) ∧ y = 0 ∧ True) ∧ (3 : Int) = e)))) := by kernel_rfl
theorem vc_ldc3 (a : Option Addr) (n cap : Nat) (k : Nat → Nat → Int) (am fe : Nat) (tk : Nat → Int) (hm : Int) (to : Nat → Int) (tc dc : Int) (sy : ByteArray) (m : Nat) (dk : Nat → Nat → Int) (ix : Int) (y : Nat) (kk : Nat → Nat → Int) (z e : Int) :
    OwesQ Try.prog cxLd3 [] [] [] 30 Try.f15 [.sc (.xs a n cap 1 (kdF 3 k))] false [.st [.k (.c (.val (.int .i64 z))), .k (.u am), .k (.u fe), .k (.f .u8 32 tk), .k (.c (.val (.int .i64 hm))), .k (.f .u8 32 to), .k (.c (.val (.int .i64 tc))), .k (.c (.val (.int .i64 dc))), .k (.c (.val (.string sy))), .s m 1 (u8F dk), .k (.c (.val (.int .i64 ix))), .s y 20 (u8F kk)], .v (sI .i64 e)] =
    (let x1 : Nat := am % M256; let x2 : Nat := fe % M256; let x3 : Nat := n - 1; let x4 : Nat := x3.min 32; let x5 : Int := (↑x4 : Int); let x6 : Int := (↑x3 : Int); let x7 : Nat := x5.toNat; let x8 : Nat := x3 - x7; let x9 : Nat := x8.min 32; let x10 : Int := (↑x9 : Int); let x11 : Int := (↑x8 : Int); let x12 : Nat := x10.toNat; let x13 : Nat := x8 - x12; let x14 : Nat := x13.min 2; let x15 : Int := (↑x14 : Int); let x16 : Int := (↑x13 : Int); let x17 : Nat := x15.toNat; let x18 : Nat := x13 - x17; let x19 : Nat := x18.min 32; let x20 : Int := (↑x19 : Int); let x21 : Int := (↑x18 : Int); let x22 : Nat := x20.toNat; let x23 : Nat := x18 - x22; let x24 : Nat := x23.min 2; let x25 : Int := (↑x24 : Int); let x26 : Int := (↑x23 : Int); let x27 : Nat := x25.toNat; let x28 : Nat := x23 - x27; let x29 : Nat := x28.min 32; let x30 : Int := (↑x29 : Int); let x31 : Int := (↑x28 : Int); let x32 : Int := if x6 < (132 : Int) then x6 else (132 : Int); let x33 : Nat := x32.toNat; let x34 : Nat := x3 - x33; let x35 : Int := (↑x34 : Int); let x36 : Int := Go.IntKind.i64.wrap ((132 : Int) + x35); let x37 : Int := Go.IntKind.i64.wrap (Go.IntKind.u64.wrap (↑(BitVec.ofInt 64 (Go.IntKind.u64.wrap (Go.IntKind.u64.wrap (↑(BitVec.ofInt 64 (0 : Int) ||| BitVec.ofInt 64 (Go.IntKind.u64.wrap (if 0 < x14 then intsC (kdF (3 : Int) k (1 + (x7 + (x12 + 0))) 0) else (0 : Int)))).toNat : Int) * (256 : Int))) ||| BitVec.ofInt 64 (Go.IntKind.u64.wrap (if 1 < x14 then k (1 + (x7 + (x12 + 1))) 0 else (0 : Int)))).toNat : Int)); let x38 : Bool := Decidable.decide ((0 : Int) ≤ x37) && Decidable.decide (x37 ≤ (65535 : Int)); let x39 : Int := Go.IntKind.i64.wrap (Go.IntKind.u64.wrap (↑(BitVec.ofInt 64 (Go.IntKind.u64.wrap (Go.IntKind.u64.wrap (↑(BitVec.ofInt 64 (0 : Int) ||| BitVec.ofInt 64 (Go.IntKind.u64.wrap (if 0 < x24 then intsC (kdF (3 : Int) k (1 + (x7 + (x12 + (x17 + (x22 + 0))))) 0) else (0 : Int)))).toNat : Int) * (256 : Int))) ||| BitVec.ofInt 64 (Go.IntKind.u64.wrap (if 1 < x24 then k (1 + (x7 + (x12 + (x17 + (x22 + 1))))) 0 else (0 : Int)))).toNat : Int)); let x40 : Bool := x38 && (Decidable.decide ((0 : Int) ≤ x39) && Decidable.decide (x39 ≤ (65535 : Int))); let x41 : Nat := fromN (fun (j : Nat) => if j < x29 then intsC (kdF (3 : Int) k (1 + (x7 + (x12 + (x17 + (x22 + (x27 + j)))))) 0) else (0 : Int)) 32; let x42 : Nat := fromN (fun (j : Nat) => if j < x4 then intsC (kdF (3 : Int) k (1 + j) 0) else (0 : Int)) 32; let x43 : Int := cmpN x41 x42; let x44 : Bool := x40 && Decidable.decide (x43 ≤ (0 : Int)); let x45 : Nat := 0 + x34; (((↑n : Int) == (0 : Int)) = Bool.true → (((0 : Int) = z ∧ True) ∧ (0 = x1 ∧ True) ∧ (0 = x2 ∧ True) ∧ ((0 : Int) = tk 0 ∧ (0 : Int) = tk 1 ∧ (0 : Int) = tk 2 ∧ (0 : Int) = tk 3 ∧ (0 : Int) = tk 4 ∧ (0 : Int) = tk 5 ∧ (0 : Int) = tk 6 ∧ (0 : Int) = tk 7 ∧ (0 : Int) = tk 8 ∧ (0 : Int) = tk 9 ∧ (0 : Int) = tk 10 ∧ (0 : Int) = tk 11 ∧ (0 : Int) = tk 12 ∧ (0 : Int) = tk 13 ∧ (0 : Int) = tk 14 ∧ (0 : Int) = tk 15 ∧ (0 : Int) = tk 16 ∧ (0 : Int) = tk 17 ∧ (0 : Int) = tk 18 ∧ (0 : Int) = tk 19 ∧ (0 : Int) = tk 20 ∧ (0 : Int) = tk 21 ∧ (0 : Int) = tk 22 ∧ (0 : Int) = tk 23 ∧ (0 : Int) = tk 24 ∧ (0 : Int) = tk 25 ∧ (0 : Int) = tk 26 ∧ (0 : Int) = tk 27 ∧ (0 : Int) = tk 28 ∧ (0 : Int) = tk 29 ∧ (0 : Int) = tk 30 ∧ (0 : Int) = tk 31 ∧ True) ∧ ((0 : Int) = hm ∧ True) ∧ ((0 : Int) = to 0 ∧ (0 : Int) = to 1 ∧ (0 : Int) = to 2 ∧ (0 : Int) = to 3 ∧ (0 : Int) = to 4 ∧ (0 : Int) = to 5 ∧ (0 : Int) = to 6 ∧ (0 : Int) = to 7 ∧ (0 : Int) = to 8 ∧ (0 : Int) = to 9 ∧ (0 : Int) = to 10 ∧ (0 : Int) = to 11 ∧ (0 : Int) = to 12 ∧ (0 : Int) = to 13 ∧ (0 : Int) = to 14 ∧ (0 : Int) = to 15 ∧ (0 : Int) = to 16 ∧ (0 : Int) = to 17 ∧ (0 : Int) = to 18 ∧ (0 : Int) = to 19 ∧ (0 : Int) = to 20 ∧ (0 : Int) = to 21 ∧ (0 : Int) = to 22 ∧ (0 : Int) = to 23 ∧ (0 : Int) = to 24 ∧ (0 : Int) = to 25 ∧ (0 : Int) = to 26 ∧ (0 : Int) = to 27 ∧ (0 : Int) = to 28 ∧ (0 : Int) = to 29 ∧ (0 : Int) = to 30 ∧ (0 : Int) = to 31 ∧ True) ∧ ((0 : Int) = tc ∧ True) ∧ ((0 : Int) = dc ∧ True) ∧ ((ByteArray.mk #[]) = sy ∧ True) ∧ m = 0 ∧ ((0 : Int) = ix ∧ True) ∧ y = 0 ∧ True) ∧ (4 : Int) = e) ∧ (((↑n : Int) == (0 : Int)) = Bool.false → ((0 : Int) ≤ (0 : Int) ∧ (0 : Int) < (↑n : Int)) ∧ ((0 : Int) ≤ (1 : Int) ∧ (1 : Int) ≤ (↑n : Int) ∧ (↑n : Int) ≤ (↑n : Int)) ∧ (∀ (j : Nat), Option.rec False (fun (val : Go.IntKind × Int) => Prod.casesOn val fun (fst : Go.IntKind) (_ : Int) => if Go.IntKind.u8 = fst then True else False) (asI (SA.sc (kdF (3 : Int) k (1 + j) 0)))) ∧ ((0 : Int) ≤ x5 ∧ x5 ≤ x6 ∧ x6 ≤ x6) ∧ (∀ (j : Nat), j < 32 → ((0 : Int) ≤ if j < x4 then intsC (kdF (3 : Int) k (1 + j) 0) else (0 : Int)) ∧ (if j < x4 then intsC (kdF (3 : Int) k (1 + j) 0) else (0 : Int)) < (256 : Int)) ∧ (∀ (j : Nat), Option.rec False (fun (val : Go.IntKind × Int) => Prod.casesOn val fun (fst : Go.IntKind) (_ : Int) => if Go.IntKind.u8 = fst then True else False) (asI (SA.sc (kdF (3 : Int) k (1 + (x7 + j)) 0)))) ∧ ((0 : Int) ≤ x10 ∧ x10 ≤ x11 ∧ x11 ≤ x11) ∧ (∀ (j : Nat), Option.rec False (fun (val : Go.IntKind × Int) => Prod.casesOn val fun (fst : Go.IntKind) (_ : Int) => if Go.IntKind.u8 = fst then True else False) (asI (SA.sc (kdF (3 : Int) k (1 + (x7 + (x12 + j))) 0)))) ∧ ((0 : Int) ≤ x15 ∧ x15 ≤ x16 ∧ x16 ≤ x16) ∧ (∀ (j : Nat), Option.rec False (fun (val : Go.IntKind × Int) => Prod.casesOn val fun (fst : Go.IntKind) (_ : Int) => if Go.IntKind.u8 = fst then True else False) (asI (SA.sc (kdF (3 : Int) k (1 + (x7 + (x12 + (x17 + j)))) 0)))) ∧ ((0 : Int) ≤ x20 ∧ x20 ≤ x21 ∧ x21 ≤ x21) ∧ (∀ (j : Nat), Option.rec False (fun (val : Go.IntKind × Int) => Prod.casesOn val fun (fst : Go.IntKind) (_ : Int) => if Go.IntKind.u8 = fst then True else False) (asI (SA.sc (kdF (3 : Int) k (1 + (x7 + (x12 + (x17 + (x22 + j))))) 0)))) ∧ ((0 : Int) ≤ x25 ∧ x25 ≤ x26 ∧ x26 ≤ x26) ∧ (∀ (j : Nat), Option.rec False (fun (val : Go.IntKind × Int) => Prod.casesOn val fun (fst : Go.IntKind) (_ : Int) => if Go.IntKind.u8 = fst then True else False) (asI (SA.sc (kdF (3 : Int) k (1 + (x7 + (x12 + (x17 + (x22 + (x27 + j)))))) 0)))) ∧ ((0 : Int) ≤ x30 ∧ x30 ≤ x31 ∧ x31 ≤ x31) ∧ (∀ (j : Nat), j < 32 → ((0 : Int) ≤ if j < x29 then intsC (kdF (3 : Int) k (1 + (x7 + (x12 + (x17 + (x22 + (x27 + j)))))) 0) else (0 : Int)) ∧ (if j < x29 then intsC (kdF (3 : Int) k (1 + (x7 + (x12 + (x17 + (x22 + (x27 + j)))))) 0) else (0 : Int)) < (256 : Int)) ∧ ((0 : Int) ≤ x32 ∧ x32 ≤ x6 ∧ x6 ≤ x6) ∧ (Decidable.decide (x6 < x36) = Bool.true → (((0 : Int) = z ∧ True) ∧ (0 = x1 ∧ True) ∧ (0 = x2 ∧ True) ∧ ((0 : Int) = tk 0 ∧ (0 : Int) = tk 1 ∧ (0 : Int) = tk 2 ∧ (0 : Int) = tk 3 ∧ (0 : Int) = tk 4 ∧ (0 : Int) = tk 5 ∧ (0 : Int) = tk 6 ∧ (0 : Int) = tk 7 ∧ (0 : Int) = tk 8 ∧ (0 : Int) = tk 9 ∧ (0 : Int) = tk 10 ∧ (0 : Int) = tk 11 ∧ (0 : Int) = tk 12 ∧ (0 : Int) = tk 13 ∧ (0 : Int) = tk 14 ∧ (0 : Int) = tk 15 ∧ (0 : Int) = tk 16 ∧ (0 : Int) = tk 17 ∧ (0 : Int) = tk 18 ∧ (0 : Int) = tk 19 ∧ (0 : Int) = tk 20 ∧ (0 : Int) = tk 21 ∧ (0 : Int) = tk 22 ∧ (0 : Int) = tk 23 ∧ (0 : Int) = tk 24 ∧ (0 : Int) = tk 25 ∧ (0 : Int) = tk 26 ∧ (0 : Int) = tk 27 ∧ (0 : Int) = tk 28 ∧ (0 : Int) = tk 29 ∧ (0 : Int) = tk 30 ∧ (0 : Int) = tk 31 ∧ True) ∧ ((0 : Int) = hm ∧ True) ∧ ((0 : Int) = to 0 ∧ (0 : Int) = to 1 ∧ (0 : Int) = to 2 ∧ (0 : Int) = to 3 ∧ (0 : Int) = to 4 ∧ (0 : Int) = to 5 ∧ (0 : Int) = to 6 ∧ (0 : Int) = to 7 ∧ (0 : Int) = to 8 ∧ (0 : Int) = to 9 ∧ (0 : Int) = to 10 ∧ (0 : Int) = to 11 ∧ (0 : Int) = to 12 ∧ (0 : Int) = to 13 ∧ (0 : Int) = to 14 ∧ (0 : Int) = to 15 ∧ (0 : Int) = to 16 ∧ (0 : Int) = to 17 ∧ (0 : Int) = to 18 ∧ (0 : Int) = to 19 ∧ (0 : Int) = to 20 ∧ (0 : Int) = to 21 ∧ (0 : Int) = to 22 ∧ (0 : Int) = to 23 ∧ (0 : Int) = to 24 ∧ (0 : Int) = to 25 ∧ (0 : Int) = to 26 ∧ (0 : Int) = to 27 ∧ (0 : Int) = to 28 ∧ (0 : Int) = to 29 ∧ (0 : Int) = to 30 ∧ (0 : Int) = to 31 ∧ True) ∧ ((0 : Int) = tc ∧ True) ∧ ((0 : Int) = dc ∧ True) ∧ ((ByteArray.mk #[]) = sy ∧ True) ∧ m = 0 ∧ ((0 : Int) = ix ∧ True) ∧ y = 0 ∧ True) ∧ (4 : Int) = e) ∧ (Decidable.decide (x6 < x36) = Bool.false → ((!Decidable.decide (x6 > x36)) = Bool.true → (!Decidable.decide (x6 > x36)) = Bool.true ∧ (x38 = Bool.true → x38 = Bool.true) ∧ (x38 = Bool.true → x38 = Bool.true) ∧ (x38 = Bool.true → x38 = Bool.true) ∧ (x38 = Bool.true → x38 = Bool.true) ∧ (x38 = Bool.true → x38 = Bool.true) ∧ (x40 = Bool.true → x40 = Bool.true) ∧ (x40 = Bool.true → x40 = Bool.true) ∧ (x40 = Bool.true → x40 = Bool.true) ∧ (x40 = Bool.true → x40 = Bool.true) ∧ (x40 = Bool.true → x40 = Bool.true) ∧ (x40 = Bool.true → x40 = Bool.true) ∧ (x40 = Bool.true → x40 = Bool.true) ∧ (x40 = Bool.true → x40 = Bool.true) ∧ (x40 = Bool.true → x40 = Bool.true) ∧ (x40 = Bool.true → x40 = Bool.true) ∧ (x44 = Bool.true → x44 = Bool.true) ∧ (x44 = Bool.true → x44 = Bool.true) ∧ (x44 = Bool.true → x44 = Bool.true) ∧ (x44 = Bool.true → x44 = Bool.true) ∧ (x44 = Bool.true → x44 = Bool.true) ∧ (x44 = Bool.true → x44 = Bool.true) ∧ ((!(x44 && Decidable.decide (x35 ≤ (100 : Int)))) = Bool.true → (((0 : Int) = z ∧ True) ∧ (0 = x1 ∧ True) ∧ (0 = x2 ∧ True) ∧ ((0 : Int) = tk 0 ∧ (0 : Int) = tk 1 ∧ (0 : Int) = tk 2 ∧ (0 : Int) = tk 3 ∧ (0 : Int) = tk 4 ∧ (0 : Int) = tk 5 ∧ (0 : Int) = tk 6 ∧ (0 : Int) = tk 7 ∧ (0 : Int) = tk 8 ∧ (0 : Int) = tk 9 ∧ (0 : Int) = tk 10 ∧ (0 : Int) = tk 11 ∧ (0 : Int) = tk 12 ∧ (0 : Int) = tk 13 ∧ (0 : Int) = tk 14 ∧ (0 : Int) = tk 15 ∧ (0 : Int) = tk 16 ∧ (0 : Int) = tk 17 ∧ (0 : Int) = tk 18 ∧ (0 : Int) = tk 19 ∧ (0 : Int) = tk 20 ∧ (0 : Int) = tk 21 ∧ (0 : Int) = tk 22 ∧ (0 : Int) = tk 23 ∧ (0 : Int) = tk 24 ∧ (0 : Int) = tk 25 ∧ (0 : Int) = tk 26 ∧ (0 : Int) = tk 27 ∧ (0 : Int) = tk 28 ∧ (0 : Int) = tk 29 ∧ (0 : Int) = tk 30 ∧ (0 : Int) = tk 31 ∧ True) ∧ ((0 : Int) = hm ∧ True) ∧ ((0 : Int) = to 0 ∧ (0 : Int) = to 1 ∧ (0 : Int) = to 2 ∧ (0 : Int) = to 3 ∧ (0 : Int) = to 4 ∧ (0 : Int) = to 5 ∧ (0 : Int) = to 6 ∧ (0 : Int) = to 7 ∧ (0 : Int) = to 8 ∧ (0 : Int) = to 9 ∧ (0 : Int) = to 10 ∧ (0 : Int) = to 11 ∧ (0 : Int) = to 12 ∧ (0 : Int) = to 13 ∧ (0 : Int) = to 14 ∧ (0 : Int) = to 15 ∧ (0 : Int) = to 16 ∧ (0 : Int) = to 17 ∧ (0 : Int) = to 18 ∧ (0 : Int) = to 19 ∧ (0 : Int) = to 20 ∧ (0 : Int) = to 21 ∧ (0 : Int) = to 22 ∧ (0 : Int) = to 23 ∧ (0 : Int) = to 24 ∧ (0 : Int) = to 25 ∧ (0 : Int) = to 26 ∧ (0 : Int) = to 27 ∧ (0 : Int) = to 28 ∧ (0 : Int) = to 29 ∧ (0 : Int) = to 30 ∧ (0 : Int) = to 31 ∧ True) ∧ ((0 : Int) = tc ∧ True) ∧ ((0 : Int) = dc ∧ True) ∧ ((ByteArray.mk #[]) = sy ∧ True) ∧ m = 0 ∧ ((0 : Int) = ix ∧ True) ∧ y = 0 ∧ True) ∧ (3 : Int) = e) ∧ ((!(x44 && Decidable.decide (x35 ≤ (100 : Int)))) = Bool.false → ((adS (cap - 1) x33 1 (adS cap 1 1 a)).isNone = Bool.true → (((3 : Int) = z ∧ True) ∧ (x42 % M256 = x1 ∧ True) ∧ (x41 % M256 = x2 ∧ True) ∧ ((∀ (j : Nat), j < 32 → (if j < x9 then intsC (kdF (3 : Int) k (1 + (x7 + j)) 0) else (0 : Int)) = tk j) ∧ True) ∧ (x37 = hm ∧ True) ∧ ((∀ (j : Nat), j < 32 → (if j < x19 then intsC (kdF (3 : Int) k (1 + (x7 + (x12 + (x17 + j)))) 0) else (0 : Int)) = to j) ∧ True) ∧ (x39 = tc ∧ True) ∧ ((0 : Int) = dc ∧ True) ∧ ((ByteArray.mk #[]) = sy ∧ True) ∧ m = 0 ∧ ((0 : Int) = ix ∧ True) ∧ y = 0 ∧ True) ∧ (0 : Int) = e) ∧ ((adS (cap - 1) x33 1 (adS cap 1 1 a)).isNone = Bool.false → (0 ≤ 0 ∧ 0 ≤ Go.maxLen ∧ 0 = 0) ∧ (x45 ≤ Go.maxLen ∧ x45 * 1 ≤ 140737488355328) ∧ ∀ (c : Nat), x45 + c ≤ Go.maxLen → (((3 : Int) = z ∧ True) ∧ (x42 % M256 = x1 ∧ True) ∧ (x41 % M256 = x2 ∧ True) ∧ ((∀ (j : Nat), j < 32 → (if j < x9 then intsC (kdF (3 : Int) k (1 + (x7 + j)) 0) else (0 : Int)) = tk j) ∧ True) ∧ (x37 = hm ∧ True) ∧ ((∀ (j : Nat), j < 32 → (if j < x19 then intsC (kdF (3 : Int) k (1 + (x7 + (x12 + (x17 + j)))) 0) else (0 : Int)) = to j) ∧ True) ∧ (x39 = tc ∧ True) ∧ ((0 : Int) = dc ∧ True) ∧ ((ByteArray.mk #[]) = sy ∧ True) ∧ (0 + x45 ≤ x45 ∧ x45 = m ∧ x45 ≤ x45 + c ∧ ∀ (i : Nat), i < m → (SC.brecOn.go (motive := fun (_ : SC) => SC → Prop) (selC (Decidable.decide (0 + i < 0)) (fixAt (flat []) 1 0 0 (0 + i) 0) (kdF (3 : Int) k (1 + (x33 + (0 + i - 0))) 0)) simC._f).1 (u8F dk i 0)) ∧ ((0 : Int) = ix ∧ True) ∧ y = 0 ∧ True) ∧ (0 : Int) = e))) ∧ ((!Decidable.decide (x6 > x36)) = Bool.false → (((0 : Int) = z ∧ True) ∧ (0 = x1 ∧ True) ∧ (0 = x2 ∧ True) ∧ ((0 : Int) = tk 0 ∧ (0 : Int) = tk 1 ∧ (0 : Int) = tk 2 ∧ (0 : Int) = tk 3 ∧ (0 : Int) = tk 4 ∧ (0 : Int) = tk 5 ∧ (0 : Int) = tk 6 ∧ (0 : Int) = tk 7 ∧ (0 : Int) = tk 8 ∧ (0 : Int) = tk 9 ∧ (0 : Int) = tk 10 ∧ (0 : Int) = tk 11 ∧ (0 : Int) = tk 12 ∧ (0 : Int) = tk 13 ∧ (0 : Int) = tk 14 ∧ (0 : Int) = tk 15 ∧ (0 : Int) = tk 16 ∧ (0 : Int) = tk 17 ∧ (0 : Int) = tk 18 ∧ (0 : Int) = tk 19 ∧ (0 : Int) = tk 20 ∧ (0 : Int) = tk 21 ∧ (0 : Int) = tk 22 ∧ (0 : Int) = tk 23 ∧ (0 : Int) = tk 24 ∧ (0 : Int) = tk 25 ∧ (0 : Int) = tk 26 ∧ (0 : Int) = tk 27 ∧ (0 : Int) = tk 28 ∧ (0 : Int) = tk 29 ∧ (0 : Int) = tk 30 ∧ (0 : Int) = tk 31 ∧ True) ∧ ((0 : Int) = hm ∧ True) ∧ ((0 : Int) = to 0 ∧ (0 : Int) = to 1 ∧ (0 : Int) = to 2 ∧ (0 : Int) = to 3 ∧ (0 : Int) = to 4 ∧ (0 : Int) = to 5 ∧ (0 : Int) = to 6 ∧ (0 : Int) = to 7 ∧ (0 : Int) = to 8 ∧ (0 : Int) = to 9 ∧ (0 : Int) = to 10 ∧ (0 : Int) = to 11 ∧ (0 : Int) = to 12 ∧ (0 : Int) = to 13 ∧ (0 : Int) = to 14 ∧ (0 : Int) = to 15 ∧ (0 : Int) = to 16 ∧ (0 : Int) = to 17 ∧ (0 : Int) = to 18 ∧ (0 : Int) = to 19 ∧ (0 : Int) = to 20 ∧ (0 : Int) = to 21 ∧ (0 : Int) = to 22 ∧ (0 : Int) = to 23 ∧ (0 : Int) = to 24 ∧ (0 : Int) = to 25 ∧ (0 : Int) = to 26 ∧ (0 : Int) = to 27 ∧ (0 : Int) = to 28 ∧ (0 : Int) = to 29 ∧ (0 : Int) = to 30 ∧ (0 : Int) = to 31 ∧ True) ∧ ((0 : Int) = tc ∧ True) ∧ ((0 : Int) = dc ∧ True) ∧ ((ByteArray.mk #[]) = sy ∧ True) ∧ m = 0 ∧ ((0 : Int) = ix ∧ True) ∧ y = 0 ∧ True) ∧ (3 : Int) = e)))) := by kernel_rfl
end Go.Proofs.Ytamhchemnalfbaa
end

section
namespace Go.Proofs.Ytamhchemnalfbaa
open Go.Sx
set_option maxRecDepth 100000
theorem trimN_le (s : ByteArray) : ∀ n, trimN s n ≤ n
  | 0 => Nat.le_refl _
  | n + 1 => by
    unfold trimN
    split
    · have := trimN_le s n; omega
    · exact Nat.le_refl _
theorem ext_size (s : ByteArray) (m : Nat) (h : m ≤ s.size) : (s.extract 0 m).size = m := by
  rw [ByteArray.size_extract]; omega
theorem ext_get (s : ByteArray) (m i : Nat) (h : m ≤ s.size) (hi : i < m) : (s.extract 0 m).data.getD i 0 = s.data.getD i 0 := by
  rw [ByteArray.data_extract, Array.getD_eq_getD_getElem?, Array.getD_eq_getD_getElem?, Array.getElem?_extract]
  have : s.size = s.data.size := rfl
  rw [if_pos (by omega), Nat.zero_add]
theorem ext_ext (s : ByteArray) (m j : Nat) (hj : j ≤ m) : (s.extract 0 m).extract 0 j = s.extract 0 j := by
  apply ByteArray.ext
  simp only [ByteArray.data_extract, Array.extract_extract, Nat.zero_add]
  rw [Nat.min_eq_left hj]
theorem ext_all (s : ByteArray) : s.extract 0 s.size = s := by
  apply ByteArray.ext
  have : s.size = s.data.size := rfl
  rw [ByteArray.data_extract, this, Array.extract_size]
theorem ok_trim (s : ByteArray) (hs : (s.size : Int) ≤ 9223372036854775807) :
    Owes Try.prog Cx.none [(1, .inv (invTrim s))] 12 Try.f98 [sStr s, .sc (.num .u8 0)] (.one (sStr (trimT s))) := by
  rw [vc_trim]
  refine ⟨fun _ => rfl, s.size, ⟨Nat.le_refl _, rfl⟩, (ext_all s).symm, fun m hm => ?_⟩
  obtain ⟨hm, ht⟩ := hm
  rw [ext_size s m hm]
  have hw : 0 < m → IntKind.i64.wrap ((m : Int) - 1) = ((m - 1 : Nat) : Int) := fun h => by rw [IntKind.wrap_i64]; omega
  refine ⟨id, id, id, id, fun h => ?_, id, id, id, fun h => ?_, fun h => ?_⟩
  · have h := of_decide_eq_true h
    rw [hw (by omega)]
    exact ⟨by omega, by omega⟩
  · obtain ⟨h1, h2⟩ := Bool.and_eq_true_iff.1 h
    have h1 := of_decide_eq_true h1
    have h0 : 0 < m := by omega
    rw [hw h0] at h2 ⊢
    rw [Int.toNat_natCast] at h2 ⊢
    rw [ext_get s m (m - 1) hm (by omega)] at h2
    have h2 := eq_of_beq h2
    refine ⟨⟨by omega, by omega, by omega⟩, m - 1, ⟨by omega, ?_⟩, ext_ext s m (m - 1) (by omega), by show m - 1 + 1 ≤ m; omega⟩
    rw [← ht]
    obtain ⟨j, rfl⟩ : ∃ j, m = j + 1 := ⟨m - 1, by omega⟩
    show trimN s j = trimN s (j + 1)
    have e : trimN s (j + 1) = if ((s.data.getD j 0).toNat : Int) = 0 then trimN s j else j + 1 := rfl
    rw [Nat.add_sub_cancel] at h2
    rw [e, if_pos h2]
  · unfold trimT
    rw [← ht]
    by_cases h0 : m = 0
    · subst h0; rfl
    · obtain ⟨j, rfl⟩ : ∃ j, m = j + 1 := ⟨m - 1, by omega⟩
      rw [hw (by omega), Int.toNat_natCast] at h
      have e : trimN s (j + 1) = if ((s.data.getD j 0).toNat : Int) = 0 then trimN s j else j + 1 := rfl
      rcases Bool.and_eq_false_iff.1 h with h | h
      · exact absurd (of_decide_eq_false h) (by omega)
      · rw [show j + 1 - 1 = j by omega, ext_get s (j + 1) j hm (by omega)] at h
        have h : ((s.data.getD j 0).toNat : Int) ≠ 0 := fun x => by rw [x] at h; exact absurd h (by decide)
        rw [e, if_neg h]
theorem card_trim : FnOK Try.prog 98 specTrim := by
  refine FnOK_owesG (cx := Cx.none) pcx_none Try.func98 (by kernel_rfl) (by kernel_rfl) fun args ps sv hs hp => ?_
  unfold specTrim at hs
  split at hs
  · rename_i s y
    split at hs
    · rename_i hc
      simp only [Option.some.injEq, Prod.mk.injEq] at hs
      obtain ⟨rfl, rfl⟩ := hs
      refine ⟨_, _, [.sc (.val (.string s)), .sc (.num .u8 0)], fun ρ => ?_, ?_, trivial, ok_trim s hp.1⟩
      · show [SA.conc ρ _, SA.conc ρ y] = [_, _]
        rw [asI_sound hc ρ]; rfl
      · intro fz _ x hx
        rcases List.mem_cons.1 hx with rfl | hx
        · exact trivial
        · rw [List.mem_singleton.1 hx]; exact trivial
    · cases hs
  · cases hs
theorem kdF_1 (z : Int) (k : Nat → Nat → Int) (p c : Nat) : kdF z k (1 + p) c = .val (.int .u8 (k (1 + p) c)) := by
  unfold kdF
  rw [show Nat.ble 1 (1 + p) = true from Nat.ble_eq_true_of_le (by omega)]
theorem intsC_u8 (v : Int) : intsC (.val (.int .u8 v)) = v := rfl
end Go.Proofs.Ytamhchemnalfbaa
end

section
namespace Go.Proofs.Ytamhchemnalfbaa
open Go.Sx
set_option maxRecDepth 100000
def n2 (F : Nat → Int) (o : Nat) : Int := F o * 256 + F (o + 1)
def n4 (F : Nat → Int) (o : Nat) : Int := ((F o * 256 + F (o + 1)) * 256 + F (o + 2)) * 256 + F (o + 3)
def zI (e x : Int) : Int := if e = 0 then x else 0
def zN (e : Int) (x : Nat) : Nat := if e = 0 then x else 0
def zT (e : Int) (t : ByteArray) : ByteArray := if e = 0 then t else ⟨#[]⟩
theorem zI_4 (v : Int) : zI 4 v = 0 := if_neg (by decide)
theorem zN_4 (v : Nat) : zN 4 v = 0 := if_neg (by decide)
theorem zT_4 (v : ByteArray) : zT 4 v = ⟨#[]⟩ := if_neg (by decide)
theorem zI_3 (v : Int) : zI 3 v = 0 := if_neg (by decide)
theorem zN_3 (v : Nat) : zN 3 v = 0 := if_neg (by decide)
theorem zT_3 (v : ByteArray) : zT 3 v = ⟨#[]⟩ := if_neg (by decide)
theorem zI_0 (v : Int) : zI 0 v = v := if_pos rfl
theorem zN_0 (v : Nat) : zN 0 v = v := if_pos rfl
theorem zT_0 (v : ByteArray) : zT 0 v = v := if_pos rfl
def dAm (F : Nat → Int) : Nat := fromN (fun j => F (1 + j)) 32
def dFe (F : Nat → Int) : Nat := fromN (fun j => F (101 + j)) 32
def rdE1 (n : Nat) (F : Nat → Int) : Int := if n < 133 then 4 else if n = 133 ∧ cmpN (dFe F) (dAm F) ≤ 0 then 0 else 3
theorem fromN_congr {g g' : Nat → Int} (h : ∀ j, j < 32 → g j = g' j) : ∀ n, fromN g n = fromN g' n
  | 0 => rfl
  | n + 1 => by
    unfold fromN
    rw [fromN_congr h n, h (31 - n) (by omega)]
theorem kdF_u8 (z : Int) (k : Nat → Nat → Int) (p : Nat) : asI (SA.sc (kdF z k (1 + p) 0)) = some (.u8, k (1 + p) 0) := by
  rw [kdF_1]; rfl
theorem two_in {F : Nat → Int} {o : Nat} (h0 : 0 ≤ F o ∧ F o < 256) (h1 : 0 ≤ F (o + 1) ∧ F (o + 1) < 256) : (decide (0 ≤ n2 F o) && decide (n2 F o ≤ 65535)) = true := by
  unfold n2
  rw [Bool.and_eq_true_iff]
  exact ⟨decide_eq_true (by omega), decide_eq_true (by omega)⟩
theorem kd_if {z : Int} {k : Nat → Nat → Int} {F : Nat → Int} (hF : ∀ i, k i 0 = F i) {p j m q : Nat} (hj : j < m) (hq : 1 + p = q) : (if j < m then intsC (kdF z k (1 + p) 0) else 0) = F q := by
  rw [if_pos hj, kdF_1, hq]
  exact hF q
theorem kd_if' {k : Nat → Nat → Int} {F : Nat → Int} (hF : ∀ i, k i 0 = F i) {p j m q : Nat} (hj : j < m) (hq : p = q) : (if j < m then k p 0 else 0) = F q := by
  rw [if_pos hj, hq]
  exact hF q
theorem kd_byte {z : Int} {k : Nat → Nat → Int} {n : Nat} (hk : ∀ i, i < n → 0 ≤ k i 0 ∧ k i 0 < 256) {p j m : Nat} (hj : j < m → 1 + p < n) : 0 ≤ (if j < m then intsC (kdF z k (1 + p) 0) else 0) ∧ (if j < m then intsC (kdF z k (1 + p) 0) else 0) < 256 := by
  by_cases h : j < m
  · rw [if_pos h, kdF_1]
    exact hk _ (hj h)
  · rw [if_neg h]
    exact ⟨by omega, by omega⟩
set_option maxHeartbeats 400000 in
theorem ok_ldc1 (a : Option Addr) (n cap : Nat) (k : Nat → Nat → Int) (hk : ∀ i, i < n → 0 ≤ k i 0 ∧ k i 0 < 256) (F : Nat → Int) (hF : ∀ i, k i 0 = F i) (dk kk : Nat → Nat → Int) (h0 : 0 < n) :
    OwesQ Try.prog cxLd [] [] [] 30 Try.f15 [.sc (.xs a n cap 1 (kdF 1 k))] false
      [.st [.k (.c (.val (.int .i64 (zI (rdE1 n F) 1)))), .k (.u (zN (rdE1 n F) (dAm F))), .k (.u (zN (rdE1 n F) (dFe F))), .k (.f .u8 32 (fun j => zI (rdE1 n F) (F (33 + j)))), .k (.c (.val (.int .i64 (zI (rdE1 n F) (n2 F 65))))), .k (.f .u8 32 (fun j => zI (rdE1 n F) (F (67 + j)))), .k (.c (.val (.int .i64 (zI (rdE1 n F) (n2 F 99))))), .k (.c (.val (.int .i64 0))), .k (.c (.val (.string ⟨#[]⟩))), .s 0 1 (u8F dk), .k (.c (.val (.int .i64 0))), .s 0 20 (u8F kk)], .v (sI .i64 (rdE1 n F))] := by
  rw [vc_ldc1]
  intro x1 x2 x3 x4 x5 x6 x7 x8 x9 x10 x11 x12 x13 x14 x15 x16 x17 x18 x19 x20 x21 x22 x23 x24 x25 x26 x27 x28 x29 x30 x31 x32 x33 x34 x35 x36 x37 x38
  have hx1 : x1 = zN (rdE1 n F) (dAm F) % M256 := rfl
  have hx2 : x2 = zN (rdE1 n F) (dFe F) % M256 := rfl
  have e3 : x3 = n - 1 := rfl
  have l4 : x4 ≤ x3 := Nat.min_le_left _ _
  have f4 : 32 ≤ x3 → x4 = 32 := fun h => Nat.min_eq_right h
  have i4 : x5 = (x4 : Int) := rfl
  have j4 : x6 = (x3 : Int) := rfl
  have t4 : x7 = x4 := Int.toNat_natCast _
  have d4 : x7 + x8 = x3 := Nat.add_sub_cancel' (by rw [t4]; exact l4)
  have l9 : x9 ≤ x8 := Nat.min_le_left _ _
  have f9 : 32 ≤ x8 → x9 = 32 := fun h => Nat.min_eq_right h
  have i9 : x10 = (x9 : Int) := rfl
  have j9 : x11 = (x8 : Int) := rfl
  have t9 : x12 = x9 := Int.toNat_natCast _
  have d9 : x12 + x13 = x8 := Nat.add_sub_cancel' (by rw [t9]; exact l9)
  have l14 : x14 ≤ x13 := Nat.min_le_left _ _
  have f14 : 2 ≤ x13 → x14 = 2 := fun h => Nat.min_eq_right h
  have i14 : x15 = (x14 : Int) := rfl
  have j14 : x16 = (x13 : Int) := rfl
  have t14 : x17 = x14 := Int.toNat_natCast _
  have d14 : x17 + x18 = x13 := Nat.add_sub_cancel' (by rw [t14]; exact l14)
  have l19 : x19 ≤ x18 := Nat.min_le_left _ _
  have f19 : 32 ≤ x18 → x19 = 32 := fun h => Nat.min_eq_right h
  have i19 : x20 = (x19 : Int) := rfl
  have j19 : x21 = (x18 : Int) := rfl
  have t19 : x22 = x19 := Int.toNat_natCast _
  have d19 : x22 + x23 = x18 := Nat.add_sub_cancel' (by rw [t19]; exact l19)
  have l24 : x24 ≤ x23 := Nat.min_le_left _ _
  have f24 : 2 ≤ x23 → x24 = 2 := fun h => Nat.min_eq_right h
  have i24 : x25 = (x24 : Int) := rfl
  have j24 : x26 = (x23 : Int) := rfl
  have t24 : x27 = x24 := Int.toNat_natCast _
  have d24 : x27 + x28 = x23 := Nat.add_sub_cancel' (by rw [t24]; exact l24)
  have l29 : x29 ≤ x28 := Nat.min_le_left _ _
  have f29 : 32 ≤ x28 → x29 = 32 := fun h => Nat.min_eq_right h
  have i29 : x30 = (x29 : Int) := rfl
  have j29 : x31 = (x28 : Int) := rfl
  have G : ∀ _ : Unit, 133 ≤ n → x4 = 32 ∧ x7 = 32 ∧ x8 = n - 33 ∧ x9 = 32 ∧ x12 = 32 ∧ x13 = n - 65 ∧ x14 = 2 ∧ x17 = 2 ∧ x18 = n - 67 ∧ x19 = 32 ∧ x22 = 32 ∧ x23 = n - 99 ∧ x24 = 2 ∧ x27 = 2 ∧ x28 = n - 101 ∧ x29 = 32 := fun _ h => by
    have q3 : x3 = n - 1 := e3
    have q4 := f4 (by omega)
    have q8 : x8 = n - 33 := by omega
    have q9 := f9 (by omega)
    have q13 : x13 = n - 65 := by omega
    have q14 := f14 (by omega)
    have q18 : x18 = n - 67 := by omega
    have q19 := f19 (by omega)
    have q23 : x23 = n - 99 := by omega
    have q24 := f24 (by omega)
    have q28 : x28 = n - 101 := by omega
    have q29 := f29 (by omega)
    exact ⟨q4, t4.trans q4, q8, q9, t9.trans q9, q13, q14, t14.trans q14, q18, q19, t19.trans q19, q23, q24, t24.trans q24, q28, q29⟩
  clear f4 f9 f14 f19 f24 f29
  have B : ∀ i, i < n → 0 ≤ F i ∧ F i < 256 := fun i hi => by rw [← hF]; exact hk i hi
  have c32 : ∀ _ : Unit, 133 ≤ n → x32 = n2 F 65 := fun _ h => by
    obtain ⟨q4, q7, q8, q9, q12, q13, q14, q17, q18, q19, q22, q23, q24, q27, q28, q29⟩ := G () h
    show IntKind.i64.wrap (IntKind.u64.wrap _) = _
    rw [kd_if hF (q := 65) (by omega) (by omega), kd_if' hF (q := 66) (by omega) (by omega)]
    exact num_2 (B 65 (by omega)) (B 66 (by omega))
  have c34 : ∀ _ : Unit, 133 ≤ n → x34 = n2 F 99 := fun _ h => by
    obtain ⟨q4, q7, q8, q9, q12, q13, q14, q17, q18, q19, q22, q23, q24, q27, q28, q29⟩ := G () h
    show IntKind.i64.wrap (IntKind.u64.wrap _) = _
    rw [kd_if hF (q := 99) (by omega) (by omega), kd_if' hF (q := 100) (by omega) (by omega)]
    exact num_2 (B 99 (by omega)) (B 100 (by omega))
  have c36 : ∀ _ : Unit, 133 ≤ n → x36 = dFe F := fun _ h => by
    obtain ⟨q4, q7, q8, q9, q12, q13, q14, q17, q18, q19, q22, q23, q24, q27, q28, q29⟩ := G () h
    exact fromN_congr (fun j hj => kd_if hF (by omega) (by omega)) 32
  have c37 : ∀ _ : Unit, 133 ≤ n → x37 = dAm F := fun _ h => by
    obtain ⟨q4, q7, q8, q9, q12, q13, q14, q17, q18, q19, q22, q23, q24, q27, q28, q29⟩ := G () h
    exact fromN_congr (fun j hj => kd_if hF (by omega) (by omega)) 32
  have c35 : ∀ _ : Unit, 133 ≤ n → x35 = true := fun _ h => by
    show (decide (0 ≤ x32) && decide (x32 ≤ 65535) && (decide (0 ≤ x34) && decide (x34 ≤ 65535))) = true
    rw [c32 () h, c34 () h, two_in (B 65 (by omega)) (B 66 (by omega)), two_in (B 99 (by omega)) (B 100 (by omega))]; rfl
  have c38 : ∀ _ : Unit, 133 ≤ n → x38 = cmpN (dFe F) (dAm F) := fun _ h => by
    show cmpN x36 x37 = _
    rw [c36 () h, c37 () h]
  clear_value x1 x2 x3 x4 x5 x6 x7 x8 x9 x10 x11 x12 x13 x14 x15 x16 x17 x18 x19 x20 x21 x22 x23 x24 x25 x26 x27 x28 x29 x30 x31 x32 x33 x34 x35 x36 x37 x38
  refine ⟨fun h => ?_, fun h => ⟨⟨by omega, by omega⟩, ⟨by omega, by omega, by omega⟩, fun j => ?_, ⟨by omega, by omega, by omega⟩, fun j hj => kd_byte hk (by omega), fun j => ?_, ⟨by omega, by omega, by omega⟩, fun j => ?_, ⟨by omega, by omega, by omega⟩, fun j => ?_, ⟨by omega, by omega, by omega⟩, fun j => ?_, ⟨by omega, by omega, by omega⟩, fun j => ?_, ⟨by omega, by omega, by omega⟩, fun j hj => kd_byte hk (by omega), fun hs => ?_, fun hs => ⟨fun hg => ⟨hg, id, id, id, id, id, id, id, id, id, id, id, id, id, id, id, fun hb => ?_, fun hb => ?_⟩, fun hg => ?_⟩⟩⟩
  · have := eq_of_beq h; omega
  · rw [kdF_u8]; exact trivial
  · rw [kdF_u8]; exact trivial
  · rw [kdF_u8]; exact trivial
  · rw [kdF_u8]; exact trivial
  · rw [kdF_u8]; exact trivial
  · rw [kdF_u8]; exact trivial
  · have hs := of_decide_eq_true hs
    have he : rdE1 n F = 4 := if_pos (by omega)
    rw [hx1, hx2, he]
    simp only [zI_4, zN_4, Nat.zero_mod, and_self]
  · have hs := of_decide_eq_false hs
    have hg : ¬ (x6 > 132) := by simpa using hg
    rw [c35 () (by omega), c38 () (by omega)] at hb
    have he : rdE1 n F = 3 := by
      unfold rdE1
      rw [if_neg (by omega), if_neg (fun h => by rw [decide_eq_true h.2] at hb; exact absurd hb (by decide))]
    rw [hx1, hx2, he]
    simp only [zI_3, zN_3, Nat.zero_mod, and_self]
  · have hs := of_decide_eq_false hs
    have hg : ¬ (x6 > 132) := by simpa using hg
    rw [c35 () (by omega), c38 () (by omega)] at hb
    have he : rdE1 n F = 0 := by
      unfold rdE1
      rw [if_neg (by omega), if_pos ⟨by omega, by simpa using hb⟩]
    rw [hx1, hx2, he, c32 () (by omega), c34 () (by omega), c36 () (by omega), c37 () (by omega)]
    simp only [zI_0, zN_0, and_self, and_true, true_and]
    obtain ⟨q4, q7, q8, q9, q12, q13, q14, q17, q18, q19, q22, q23, q24, q27, q28, q29⟩ := G () (by omega)
    exact ⟨fun j hj => kd_if hF (by omega) (by omega), fun j hj => kd_if hF (by omega) (by omega)⟩
  · have hs := of_decide_eq_false hs
    have hg : x6 > 132 := by simpa using hg
    have he : rdE1 n F = 3 := by
      unfold rdE1
      rw [if_neg (by omega), if_neg (fun h => by omega)]
    rw [hx1, hx2, he]
    simp only [zI_3, zN_3, Nat.zero_mod, and_self]
theorem ok_ldc0 (a : Option Addr) (n cap : Nat) (k : Nat → Nat → Int) (F : Nat → Int) (hF : ∀ i, k i 0 = F i) (tk to : Nat → Int) (dk kk : Nat → Nat → Int) (hk : 0 < n → 0 ≤ F 0 ∧ F 0 < 256) (ht : ∀ i, i < 32 → tk i = 0) (ho : ∀ i, i < 32 → to i = 0)
    (h : n = 0 ∨ ¬ (F 0 = 1 ∨ F 0 = 2 ∨ F 0 = 3 ∨ F 0 = 4)) :
    OwesQ Try.prog cxLd8 [] [] [] 30 Try.f15 [.sc (.xs a n cap 1 (u8F k))] false
      [.st [.k (.c (.val (.int .i64 0))), .k (.u 0), .k (.u 0), .k (.f .u8 32 tk), .k (.c (.val (.int .i64 0))), .k (.f .u8 32 to), .k (.c (.val (.int .i64 0))), .k (.c (.val (.int .i64 0))), .k (.c (.val (.string ⟨#[]⟩))), .s 0 1 (u8F dk), .k (.c (.val (.int .i64 0))), .s 0 20 (u8F kk)], .v (sI .i64 (if n = 0 then 4 else 2))] := by
  rw [vc_ldc0]
  refine ⟨fun h1 => ?_, fun h1 => ?_⟩
  · have h1 : n = 0 := by have := eq_of_beq h1; omega
    rw [if_pos h1]
    simp [ht, ho]
  · have h1 : n ≠ 0 := fun e => by subst e; exact absurd h1 (by decide)
    have b := hk (by omega)
    have w : IntKind.i64.wrap (k 0 0) = F 0 := by rw [hF, IntKind.wrap_i64]; omega
    rw [w, if_neg h1]
    have h : ¬ (F 0 = 1 ∨ F 0 = 2 ∨ F 0 = 3 ∨ F 0 = 4) := h.resolve_left h1
    have m1 : F 0 ≠ 1 := by omega
    have m2 : F 0 ≠ 2 := by omega
    have m3 : F 0 ≠ 3 := by omega
    have m4 : F 0 ≠ 4 := by omega
    simp [m1, m2, m3, m4, ht, ho]
    omega
end Go.Proofs.Ytamhchemnalfbaa
end

section
namespace Go.Proofs.Ytamhchemnalfbaa
open Go.Sx
set_option maxRecDepth 100000
def rdE3 (n : Nat) (F : Nat → Int) : Int := if n < 133 then 4 else if n ≤ 233 ∧ cmpN (dFe F) (dAm F) ≤ 0 then 0 else 3
set_option maxHeartbeats 400000 in
theorem ok_ldc3 (a : Option Addr) (n cap : Nat) (k : Nat → Nat → Int) (hk : ∀ i, i < n → 0 ≤ k i 0 ∧ k i 0 < 256) (F : Nat → Int) (hF : ∀ i, k i 0 = F i) (kk : Nat → Nat → Int) (h0 : 0 < n) (ha : a = none → n = 0) (hn : (n : Int) ≤ 9223372036854775807) :
    OwesQ Try.prog cxLd3 [] [] [] 30 Try.f15 [.sc (.xs a n cap 1 (kdF 3 k))] false
      [.st [.k (.c (.val (.int .i64 (zI (rdE3 n F) 3)))), .k (.u (zN (rdE3 n F) (dAm F))), .k (.u (zN (rdE3 n F) (dFe F))), .k (.f .u8 32 (fun j => zI (rdE3 n F) (F (33 + j)))), .k (.c (.val (.int .i64 (zI (rdE3 n F) (n2 F 65))))), .k (.f .u8 32 (fun j => zI (rdE3 n F) (F (67 + j)))), .k (.c (.val (.int .i64 (zI (rdE3 n F) (n2 F 99))))), .k (.c (.val (.int .i64 0))), .k (.c (.val (.string ⟨#[]⟩))), .s (zN (rdE3 n F) (n - 133)) 1 (u8F (fun i _ => F (133 + i))), .k (.c (.val (.int .i64 0))), .s 0 20 (u8F kk)], .v (sI .i64 (rdE3 n F))] := by
  rw [vc_ldc3]
  intro x1 x2 x3 x4 x5 x6 x7 x8 x9 x10 x11 x12 x13 x14 x15 x16 x17 x18 x19 x20 x21 x22 x23 x24 x25 x26 x27 x28 x29 x30 x31 x32 x33 x34 x35 x36 x37 x38 x39 x40 x41 x42 x43 x44 x45
  have hx1 : x1 = zN (rdE3 n F) (dAm F) % M256 := rfl
  have hx2 : x2 = zN (rdE3 n F) (dFe F) % M256 := rfl
  have e3 : x3 = n - 1 := rfl
  have l4 : x4 ≤ x3 := Nat.min_le_left _ _
  have f4 : 32 ≤ x3 → x4 = 32 := fun h => Nat.min_eq_right h
  have i4 : x5 = (x4 : Int) := rfl
  have j4 : x6 = (x3 : Int) := rfl
  have t4 : x7 = x4 := Int.toNat_natCast _
  have d4 : x7 + x8 = x3 := Nat.add_sub_cancel' (by rw [t4]; exact l4)
  have l9 : x9 ≤ x8 := Nat.min_le_left _ _
  have f9 : 32 ≤ x8 → x9 = 32 := fun h => Nat.min_eq_right h
  have i9 : x10 = (x9 : Int) := rfl
  have j9 : x11 = (x8 : Int) := rfl
  have t9 : x12 = x9 := Int.toNat_natCast _
  have d9 : x12 + x13 = x8 := Nat.add_sub_cancel' (by rw [t9]; exact l9)
  have l14 : x14 ≤ x13 := Nat.min_le_left _ _
  have f14 : 2 ≤ x13 → x14 = 2 := fun h => Nat.min_eq_right h
  have i14 : x15 = (x14 : Int) := rfl
  have j14 : x16 = (x13 : Int) := rfl
  have t14 : x17 = x14 := Int.toNat_natCast _
  have d14 : x17 + x18 = x13 := Nat.add_sub_cancel' (by rw [t14]; exact l14)
  have l19 : x19 ≤ x18 := Nat.min_le_left _ _
  have f19 : 32 ≤ x18 → x19 = 32 := fun h => Nat.min_eq_right h
  have i19 : x20 = (x19 : Int) := rfl
  have j19 : x21 = (x18 : Int) := rfl
  have t19 : x22 = x19 := Int.toNat_natCast _
  have d19 : x22 + x23 = x18 := Nat.add_sub_cancel' (by rw [t19]; exact l19)
  have l24 : x24 ≤ x23 := Nat.min_le_left _ _
  have f24 : 2 ≤ x23 → x24 = 2 := fun h => Nat.min_eq_right h
  have i24 : x25 = (x24 : Int) := rfl
  have j24 : x26 = (x23 : Int) := rfl
  have t24 : x27 = x24 := Int.toNat_natCast _
  have d24 : x27 + x28 = x23 := Nat.add_sub_cancel' (by rw [t24]; exact l24)
  have l29 : x29 ≤ x28 := Nat.min_le_left _ _
  have f29 : 32 ≤ x28 → x29 = 32 := fun h => Nat.min_eq_right h
  have i29 : x30 = (x29 : Int) := rfl
  have j29 : x31 = (x28 : Int) := rfl
  have G : ∀ _ : Unit, 133 ≤ n → x4 = 32 ∧ x7 = 32 ∧ x8 = n - 33 ∧ x9 = 32 ∧ x12 = 32 ∧ x13 = n - 65 ∧ x14 = 2 ∧ x17 = 2 ∧ x18 = n - 67 ∧ x19 = 32 ∧ x22 = 32 ∧ x23 = n - 99 ∧ x24 = 2 ∧ x27 = 2 ∧ x28 = n - 101 ∧ x29 = 32 := fun _ h => by
    have q3 : x3 = n - 1 := e3
    have q4 := f4 (by omega)
    have q8 : x8 = n - 33 := by omega
    have q9 := f9 (by omega)
    have q13 : x13 = n - 65 := by omega
    have q14 := f14 (by omega)
    have q18 : x18 = n - 67 := by omega
    have q19 := f19 (by omega)
    have q23 : x23 = n - 99 := by omega
    have q24 := f24 (by omega)
    have q28 : x28 = n - 101 := by omega
    have q29 := f29 (by omega)
    exact ⟨q4, t4.trans q4, q8, q9, t9.trans q9, q13, q14, t14.trans q14, q18, q19, t19.trans q19, q23, q24, t24.trans q24, q28, q29⟩
  clear f4 f9 f14 f19 f24 f29
  have B : ∀ i, i < n → 0 ≤ F i ∧ F i < 256 := fun i hi => by rw [← hF]; exact hk i hi
  have c37 : ∀ _ : Unit, 133 ≤ n → x37 = n2 F 65 := fun _ h => by
    obtain ⟨q4, q7, q8, q9, q12, q13, q14, q17, q18, q19, q22, q23, q24, q27, q28, q29⟩ := G () h
    show IntKind.i64.wrap (IntKind.u64.wrap _) = _
    rw [kd_if hF (q := 65) (by omega) (by omega), kd_if' hF (q := 66) (by omega) (by omega)]
    exact num_2 (B 65 (by omega)) (B 66 (by omega))
  have c39 : ∀ _ : Unit, 133 ≤ n → x39 = n2 F 99 := fun _ h => by
    obtain ⟨q4, q7, q8, q9, q12, q13, q14, q17, q18, q19, q22, q23, q24, q27, q28, q29⟩ := G () h
    show IntKind.i64.wrap (IntKind.u64.wrap _) = _
    rw [kd_if hF (q := 99) (by omega) (by omega), kd_if' hF (q := 100) (by omega) (by omega)]
    exact num_2 (B 99 (by omega)) (B 100 (by omega))
  have c41 : ∀ _ : Unit, 133 ≤ n → x41 = dFe F := fun _ h => by
    obtain ⟨q4, q7, q8, q9, q12, q13, q14, q17, q18, q19, q22, q23, q24, q27, q28, q29⟩ := G () h
    exact fromN_congr (fun j hj => kd_if hF (by omega) (by omega)) 32
  have c42 : ∀ _ : Unit, 133 ≤ n → x42 = dAm F := fun _ h => by
    obtain ⟨q4, q7, q8, q9, q12, q13, q14, q17, q18, q19, q22, q23, q24, q27, q28, q29⟩ := G () h
    exact fromN_congr (fun j hj => kd_if hF (by omega) (by omega)) 32
  have c40 : ∀ _ : Unit, 133 ≤ n → x40 = true := fun _ h => by
    show (decide (0 ≤ x37) && decide (x37 ≤ 65535) && (decide (0 ≤ x39) && decide (x39 ≤ 65535))) = true
    rw [c37 () h, c39 () h, two_in (B 65 (by omega)) (B 66 (by omega)), two_in (B 99 (by omega)) (B 100 (by omega))]; rfl
  have c44 : ∀ _ : Unit, 133 ≤ n → x44 = decide (cmpN (dFe F) (dAm F) ≤ 0) := fun _ h => by
    show (x40 && decide (cmpN x41 x42 ≤ 0)) = _
    rw [c40 () h, c41 () h, c42 () h]; rfl
  have e32 : 0 ≤ x32 ∧ x32 ≤ x6 ∧ (x6 < 132 → x33 = x3) ∧ (¬ x6 < 132 → x33 = 132) := by
    show 0 ≤ (if x6 < 132 then x6 else 132) ∧ (if x6 < 132 then x6 else 132) ≤ x6 ∧ (x6 < 132 → (if x6 < 132 then x6 else 132).toNat = x3) ∧ (¬ x6 < 132 → (if x6 < 132 then x6 else 132).toNat = 132)
    have j : x6 = (x3 : Int) := rfl
    split
    · exact ⟨by omega, by omega, fun _ => by omega, fun h => by omega⟩
    · exact ⟨by omega, by omega, fun h => by omega, fun _ => by omega⟩
  have e36 : x36 = IntKind.i64.wrap (132 + ((x3 - x33 : Nat) : Int)) := rfl
  have e36' : ∀ _ : Unit, x36 = 132 + ((x3 - x33 : Nat) : Int) := fun _ => by
    have : x3 = n - 1 := e3
    rw [e36, IntKind.wrap_i64]
    clear G
    omega
  have s36 : ∀ _ : Unit, x6 < 132 → x36 = 132 := fun _ h => by
    have := e32.2.2.1 h
    rw [e36' (), this]; omega
  have b36 : ∀ _ : Unit, ¬ x6 < 132 → x36 = x6 := fun _ h => by
    have h1 := e32.2.2.2 h
    have : x6 = (x3 : Int) := rfl
    rw [e36' (), h1]; omega
  have e33 : ∀ _ : Unit, ¬ x6 < 132 → x33 = 132 := fun _ => e32.2.2.2
  have e35 : x35 = ((x3 - x33 : Nat) : Int) := rfl
  have e45 : x45 = 0 + (x3 - x33) := rfl
  have r32 : 0 ≤ x32 ∧ x32 ≤ x6 := ⟨e32.1, e32.2.1⟩
  have hN : (adS (cap - 1) x33 1 (adS cap 1 1 a)).isNone = false := by
    have q : ∀ (c l : Nat) (b : Option Addr), (adS c l 1 b).isNone = b.isNone := fun c l b => by
      unfold adS
      split
      · rfl
      · cases b <;> rfl
    rw [q, q]
    cases h : a with
    | none => have := ha h; omega
    | some _ => rfl
  clear e32 e36 e36'
  clear_value x1 x2 x3 x4 x5 x6 x7 x8 x9 x10 x11 x12 x13 x14 x15 x16 x17 x18 x19 x20 x21 x22 x23 x24 x25 x26 x27 x28 x29 x30 x31 x32 x33 x34 x35 x36 x37 x38 x39 x40 x41 x42 x43 x44 x45
  refine ⟨fun h => ?_, fun h => ⟨⟨by omega, by omega⟩, ⟨by omega, by omega, by omega⟩, fun j => ?_, ⟨by omega, by omega, by omega⟩, fun j hj => kd_byte hk (by omega), fun j => ?_, ⟨by omega, by omega, by omega⟩, fun j => ?_, ⟨by omega, by omega, by omega⟩, fun j => ?_, ⟨by omega, by omega, by omega⟩, fun j => ?_, ⟨by omega, by omega, by omega⟩, fun j => ?_, ⟨by omega, by omega, by omega⟩, fun j hj => kd_byte hk (by omega), ⟨r32.1, r32.2, by omega⟩, fun hs => ?_, fun hs => ⟨fun hg => ⟨hg, id, id, id, id, id, id, id, id, id, id, id, id, id, id, id, id, id, id, id, id, id, fun hb => ?_, fun hb => ⟨fun hx => ?_, fun _ => ?_⟩⟩, fun hg => ?_⟩⟩⟩
  · have := eq_of_beq h; omega
  · rw [kdF_u8]; exact trivial
  · rw [kdF_u8]; exact trivial
  · rw [kdF_u8]; exact trivial
  · rw [kdF_u8]; exact trivial
  · rw [kdF_u8]; exact trivial
  · rw [kdF_u8]; exact trivial
  · have hs := of_decide_eq_true hs
    have hl : x6 < 132 := by
      by_cases q : x6 < 132
      · exact q
      · have := b36 () q; omega
    have he : rdE3 n F = 4 := if_pos (by omega)
    rw [hx1, hx2, he]
    simp only [zI_4, zN_4, Nat.zero_mod, and_self]
  · have hs := of_decide_eq_false hs
    have hl : ¬ x6 < 132 := fun q => by have := s36 () q; omega
    have h33 := e33 () hl
    rw [c44 () (by omega), e35, h33] at hb
    have he : rdE3 n F = 3 := by
      unfold rdE3
      rw [if_neg (by omega), if_neg (fun h => by rw [decide_eq_true h.2, decide_eq_true (by omega)] at hb; exact absurd hb (by decide))]
    rw [hx1, hx2, he]
    simp only [zI_3, zN_3, Nat.zero_mod, and_self]
  · rw [hN] at hx; exact absurd hx (by decide)
  · have hs := of_decide_eq_false hs
    have hl : ¬ x6 < 132 := fun q => by have := s36 () q; omega
    have h33 := e33 () hl
    rw [c44 () (by omega), e35, h33] at hb
    have hb : cmpN (dFe F) (dAm F) ≤ 0 ∧ ((x3 - 132 : Nat) : Int) ≤ 100 := by simpa using hb
    have hb1 := hb.1
    have hb2 := hb.2
    have he : rdE3 n F = 0 := by
      unfold rdE3
      rw [if_neg (by omega), if_pos ⟨by omega, hb1⟩]
    have hML : maxLen = 9223372036854775807 := rfl
    have hn1 : n - 1 - 132 = n - 133 := by omega
    refine ⟨⟨by omega, by omega, rfl⟩, ⟨by omega, by omega⟩, fun c hc => ?_⟩
    rw [hx1, hx2, he, c37 () (by omega), c39 () (by omega), c41 () (by omega), c42 () (by omega)]
    simp only [zI_0, zN_0, and_self, and_true, true_and]
    obtain ⟨q4, q7, q8, q9, q12, q13, q14, q17, q18, q19, q22, q23, q24, q27, q28, q29⟩ := G () (by omega)
    refine ⟨fun j hj => kd_if hF (by omega) (by omega), fun j hj => kd_if hF (by omega) (by omega), by omega, by omega, by omega, fun i hi => ?_⟩
    rw [kdF_1, show decide (0 + i < 0) = false from decide_eq_false (by omega)]
    show k (1 + (x33 + (0 + i - 0))) 0 = F (133 + i)
    rw [hF]
    exact congrArg F (by omega)
  · have hs := of_decide_eq_false hs
    have hg : x6 > x36 := by simpa using hg
    have hl : ¬ x6 < 132 := fun q => by have := s36 () q; omega
    have := b36 () hl
    omega
end Go.Proofs.Ytamhchemnalfbaa
end

section
namespace Go.Proofs.Ytamhchemnalfbaa
open Go.Sx
set_option maxRecDepth 100000
def dSy (F : Nat → Int) : ByteArray := trimT (bytesI (intsL [SK.f .u8 32 fun j => F (36 + j)]))
def rdE2 (n : Nat) (F : Nat → Int) : Int := if n < 68 then 4 else if n = 68 ∧ F 35 ≤ 77 ∧ hasNul (dSy F) = false then 0 else 3
theorem trimT_le (s : ByteArray) : (trimT s).size ≤ s.size := by
  unfold trimT
  have := trimN_le s s.size
  rw [ext_size s _ this]
  exact this
theorem f32_sz (g : Nat → Int) : (bytesI (intsL [SK.f IntKind.u8 32 g])).size = 32 := by rw [byI_size]; rfl
theorem f32_congr {g g' : Nat → Int} (h : ∀ j, j < 32 → g j = g' j) : intsL [SK.f IntKind.u8 32 g] = intsL [SK.f IntKind.u8 32 g'] := by
  have e : ∀ g : Nat → Int, intsL [SK.f IntKind.u8 32 g] = (List.range 32).map g := fun _ => rfl
  rw [e, e]
  exact row_congr h
set_option maxHeartbeats 400000 in
theorem ok_ldc2 (a : Option Addr) (n cap : Nat) (k : Nat → Nat → Int) (hk : ∀ i, i < n → 0 ≤ k i 0 ∧ k i 0 < 256) (F : Nat → Int) (hF : ∀ i, k i 0 = F i) (to : Nat → Int) (ho : ∀ i, i < 32 → to i = 0) (dk kk : Nat → Nat → Int) (h0 : 0 < n) :
    OwesQ Try.prog cxLd2 [] [] [] 30 Try.f15 [.sc (.xs a n cap 1 (kdF 2 k))] false
      [.st [.k (.c (.val (.int .i64 (zI (rdE2 n F) 2)))), .k (.u 0), .k (.u 0), .k (.f .u8 32 (fun j => zI (rdE2 n F) (F (1 + j)))), .k (.c (.val (.int .i64 (zI (rdE2 n F) (n2 F 33))))), .k (.f .u8 32 to), .k (.c (.val (.int .i64 0))), .k (.c (.val (.int .i64 (zI (rdE2 n F) (F 35))))), .k (.c (.val (.string (zT (rdE2 n F) (dSy F))))), .s 0 1 (u8F dk), .k (.c (.val (.int .i64 0))), .s 0 20 (u8F kk)], .v (sI .i64 (rdE2 n F))] := by
  rw [vc_ldc2]
  intro x1 x2 x3 x4 x5 x6 x7 x8 x9 x10 x11 x12 x13 x14 x15 x16 x17 x18 x19 x20 x21 x22 x23 x24 x25
  have e1 : x1 = n - 1 := rfl
  have l2 : x2 ≤ x1 := Nat.min_le_left _ _
  have f2 : 32 ≤ x1 → x2 = 32 := fun h => Nat.min_eq_right h
  have i2 : x3 = (x2 : Int) := rfl
  have j2 : x4 = (x1 : Int) := rfl
  have t2 : x5 = x2 := Int.toNat_natCast _
  have d2 : x5 + x6 = x1 := Nat.add_sub_cancel' (by rw [t2]; exact l2)
  have l7 : x7 ≤ x6 := Nat.min_le_left _ _
  have f7 : 2 ≤ x6 → x7 = 2 := fun h => Nat.min_eq_right h
  have i7 : x8 = (x7 : Int) := rfl
  have j7 : x9 = (x6 : Int) := rfl
  have t7 : x10 = x7 := Int.toNat_natCast _
  have d7 : x10 + x11 = x6 := Nat.add_sub_cancel' (by rw [t7]; exact l7)
  have l12 : x12 ≤ x11 := Nat.min_le_left _ _
  have f12 : 1 ≤ x11 → x12 = 1 := fun h => Nat.min_eq_right h
  have i12 : x13 = (x12 : Int) := rfl
  have j12 : x14 = (x11 : Int) := rfl
  have t12 : x15 = x12 := Int.toNat_natCast _
  have d12 : x15 + x16 = x11 := Nat.add_sub_cancel' (by rw [t12]; exact l12)
  have l17 : x17 ≤ x16 := Nat.min_le_left _ _
  have f17 : 32 ≤ x16 → x17 = 32 := fun h => Nat.min_eq_right h
  have i17 : x18 = (x17 : Int) := rfl
  have j17 : x19 = (x16 : Int) := rfl
  have G : ∀ _ : Unit, 68 ≤ n → x2 = 32 ∧ x5 = 32 ∧ x6 = n - 33 ∧ x7 = 2 ∧ x10 = 2 ∧ x11 = n - 35 ∧ x12 = 1 ∧ x15 = 1 ∧ x16 = n - 36 ∧ x17 = 32 := fun _ h => by
    have q3 : x1 = n - 1 := e1
    have q4 := f2 (by omega)
    have q8 : x6 = n - 33 := by omega
    have q9 := f7 (by omega)
    have q13 : x11 = n - 35 := by omega
    have q14 := f12 (by omega)
    have q18 : x16 = n - 36 := by omega
    have q19 := f17 (by omega)
    exact ⟨q4, t2.trans q4, q8, q9, t7.trans q9, q13, q14, t12.trans q14, q18, q19⟩
  clear f2 f7 f12 f17
  have B : ∀ i, i < n → 0 ≤ F i ∧ F i < 256 := fun i hi => by rw [← hF]; exact hk i hi
  have c20 : ∀ _ : Unit, 68 ≤ n → x20 = n2 F 33 := fun _ h => by
    obtain ⟨q2, q5, q6, q7, q10, q11, q12, q15, q16, q17⟩ := G () h
    show IntKind.i64.wrap (IntKind.u64.wrap _) = _
    rw [kd_if hF (q := 33) (by omega) (by omega), kd_if' hF (q := 34) (by omega) (by omega)]
    exact num_2 (B 33 (by omega)) (B 34 (by omega))
  have c22 : ∀ _ : Unit, 68 ≤ n → x22 = F 35 := fun _ h => by
    obtain ⟨q2, q5, q6, q7, q10, q11, q12, q15, q16, q17⟩ := G () h
    show IntKind.i64.wrap (IntKind.u64.wrap _) = _
    rw [kd_if hF (q := 35) (by omega) (by omega)]
    exact num_1 (B 35 (by omega))
  have cT : ∀ _ : Unit, 68 ≤ n → intsL [SK.f IntKind.u8 32 fun j => if j < x17 then intsC (kdF 2 k (1 + (x5 + (x10 + (x15 + j)))) 0) else 0] = intsL [SK.f IntKind.u8 32 fun j => F (36 + j)] := fun _ h => by
    obtain ⟨q2, q5, q6, q7, q10, q11, q12, q15, q16, q17⟩ := G () h
    exact f32_congr fun j hj => kd_if hF (by omega) (by omega)
  have c25 : ∀ _ : Unit, 68 ≤ n → x25 = decide (F 35 ≤ 77) := fun _ h => by
    show (decide (0 ≤ x20) && decide (x20 ≤ 65535) && (decide (0 ≤ x22) && decide (x22 ≤ 77)) && decide (((trimT (bytesI (intsL [SK.f IntKind.u8 32 fun j => if j < x17 then intsC (kdF 2 k (1 + (x5 + (x10 + (x15 + j)))) 0) else 0]))).size : Int) ≤ 32)) = _
    have hz : ((trimT (bytesI (intsL [SK.f IntKind.u8 32 fun j => if j < x17 then intsC (kdF 2 k (1 + (x5 + (x10 + (x15 + j)))) 0) else 0]))).size : Int) ≤ 32 := by
      have := trimT_le (bytesI (intsL [SK.f IntKind.u8 32 fun j => if j < x17 then intsC (kdF 2 k (1 + (x5 + (x10 + (x15 + j)))) 0) else 0]))
      rw [f32_sz] at this
      exact Int.ofNat_le.2 this
    rw [decide_eq_true hz, c20 () h, c22 () h, two_in (B 33 (by omega)) (B 34 (by omega)), decide_eq_true (B 35 (by omega)).1, Bool.true_and, Bool.true_and, Bool.and_true]
  clear_value x1 x2 x3 x4 x5 x6 x7 x8 x9 x10 x11 x12 x13 x14 x15 x16 x17 x18 x19 x20 x21 x22 x23 x24 x25
  refine ⟨fun h => ?_, fun h => ⟨⟨by omega, by omega⟩, ⟨by omega, by omega, by omega⟩, fun j => ?_, ⟨by omega, by omega, by omega⟩, fun j => ?_, ⟨by omega, by omega, by omega⟩, fun j => ?_, ⟨by omega, by omega, by omega⟩, fun j => ?_, ⟨by omega, by omega, by omega⟩, ?_, rfl, fun hs => ?_, fun hs => ⟨fun hg => ⟨hg, id, id, id, id, id, id, id, id, id, id, id, id, id, id, id, fun _ => rfl, id, id, fun hb => ?_, fun hb => ?_⟩, fun hg => ?_⟩⟩⟩
  · have := eq_of_beq h; omega
  · rw [kdF_u8]; exact trivial
  · rw [kdF_u8]; exact trivial
  · rw [kdF_u8]; exact trivial
  · rw [kdF_u8]; exact trivial
  · rw [f32_sz]; decide
  · have hs := of_decide_eq_true hs
    have he : rdE2 n F = 4 := if_pos (by omega)
    rw [he]
    simp only [zI_4, zT_4, ho 0 (by omega), Nat.zero_mod, and_self]
    simp [ho]
  · have hs := of_decide_eq_false hs
    have hg : ¬ (x4 > 67) := by simpa using hg
    rw [c25 () (by omega), cT () (by omega)] at hb
    have he : rdE2 n F = 3 := by
      unfold rdE2
      rw [if_neg (by omega), if_neg (fun h => ?_)]
      have hb' : (!(decide (F 35 ≤ 77) && !hasNul (dSy F))) = true := hb
      rw [decide_eq_true h.2.1, h.2.2] at hb'
      exact absurd hb' (by decide)
    rw [he]
    simp only [zI_3, zT_3, Nat.zero_mod, and_self]
    simp [ho]
  · have hs := of_decide_eq_false hs
    have hg : ¬ (x4 > 67) := by simpa using hg
    rw [c25 () (by omega), cT () (by omega)] at hb
    have hb' : (!(decide (F 35 ≤ 77) && !hasNul (dSy F))) = false := hb
    have hb : F 35 ≤ 77 ∧ hasNul (dSy F) = false := by simpa using hb'
    have he : rdE2 n F = 0 := by
      unfold rdE2
      rw [if_neg (by omega), if_pos ⟨by omega, hb.1, hb.2⟩]
    rw [he, c20 () (by omega), c22 () (by omega), cT () (by omega)]
    simp only [zI_0, zT_0, Nat.zero_mod, and_self, and_true, true_and]
    obtain ⟨q2, q5, q6, q7, q10, q11, q12, q15, q16, q17⟩ := G () (by omega)
    refine ⟨fun j hj => kd_if hF (by omega) (by omega), ?_, rfl⟩
    simp [ho]
  · have hs := of_decide_eq_false hs
    have hg : x4 > 67 := by simpa using hg
    have he : rdE2 n F = 3 := by
      unfold rdE2
      rw [if_neg (by omega), if_neg (fun h => by omega)]
    rw [he]
    simp only [zI_3, zT_3, Nat.zero_mod, and_self]
    simp [ho]
end Go.Proofs.Ytamhchemnalfbaa
end
