/-
  Texts: V117, P171, P172, P173, V120, V122, P179, P180, P181.
-/
import Derived.Test.YtajfifmlkgojnaaM1
import Derived.Test.YtajfifmlkgojnaaM2
import Derived.Test.YtajfifmlkgojnaaM3
import Derived.Test.YtajfifmlkgojnaaM4
import Derived.Test.YtajfifmlkgojnaaM5
import Derived.Test.YtajfifmlkgojnaaM6
import Derived.Test.YtajfifmlkgojnaaM7
import Derived.Test.YtajfifmlkgojnaaM8
import Derived.Test.YtajfifmlkgojnaaM9
import Derived.Test.YtajfifmlkgojnaaM10
import Derived.Test.YtajfifmlkgojnaaM11
import Derived.Test.YtajfifmlkgojnaaM12
section
namespace Go.Proofs.Ytajfifmlkgojnaa
open Go.Sx
set_option maxRecDepth 100000
theorem vc_len2 (am fe : Nat) (tk : Nat → Int) (hm : Int) (to : Nat → Int) (tc dc : Int) (sy : ByteArray) (a : Option Addr) (m cap : Nat) (dk : Nat → Nat → Int) (ix : Int) (b : Option Addr) (y cy : Nat) (kk : Nat → Nat → Int) (r : Nat) (g : Nat → Int) (e : Int) :
    OwesQ Try.prog cxLck slLck tlP2 [] 30 Try.f16 [kLd (.c (.num .i64 2)) am fe tk hm to tc dc sy a m cap dk ix b y cy kk] false [.s r .u8 g, .v (sI .i64 e)] =
    (let x1 : Bool := Decidable.decide ((0 : Int) ≤ hm) && Decidable.decide (hm ≤ (65535 : Int)); let x2 : Bool := x1 && (Decidable.decide ((0 : Int) ≤ dc) && Decidable.decide (dc ≤ (77 : Int))); let x3 : Bool := x2 && Decidable.decide ((↑sy.size : Int) ≤ (32 : Int)); let x4 : Nat := putM [[FD.i hm], [FD.i (2 : Int)]] 33; let x5 : Nat := putM [[FD.i dc], [FD.i (1 : Int)]] x4; let x6 : Nat := x5 + 32; (x1 = Bool.true → x1 = Bool.true) ∧ (x1 = Bool.true → x1 = Bool.true) ∧ (x1 = Bool.true → x1 = Bool.true) ∧ (x1 = Bool.true → x1 = Bool.true) ∧ (x1 = Bool.true → x1 = Bool.true) ∧ (x2 = Bool.true → x2 = Bool.true) ∧ (x2 = Bool.true → x2 = Bool.true) ∧ (x2 = Bool.true → x2 = Bool.true) ∧ (x2 = Bool.true → x2 = Bool.true) ∧ (x2 = Bool.true → x2 = Bool.true) ∧ (x2 = Bool.true → x2 = Bool.true) ∧ (x3 = Bool.true → x3 = Bool.true) ∧ (x3 = Bool.true → x3 = Bool.true) ∧ (x3 = Bool.true → x3 = Bool.true) ∧ (x3 = Bool.true → x3 = Bool.true) ∧ (x3 = Bool.true → (ByteArray.mk #[(0 : UInt8)]) = (ByteArray.mk #[(0 : UInt8)])) ∧ (x3 = Bool.true → x3 = Bool.true) ∧ (x3 = Bool.true → x3 = Bool.true) ∧ (((!!(x3 && !hasNul sy)) = Bool.true → (!!(x3 && !hasNul sy)) = Bool.true ∧ (0 : Int) = (0 : Int) ∧ 0 = 0 ∧ 0 = 0 ∧ (∀ (j : Nat), j < 32 → tk j = tk j) ∧ hm = hm ∧ (∀ (j : Nat), j < 32 → (0 : Int) = (0 : Int)) ∧ (0 : Int) = (0 : Int) ∧ dc = dc ∧ sy = sy ∧ (Option.none : Option Go.Addr) = Option.none ∧ 0 = 0 ∧ 0 = 0 ∧ (∀ (i : Nat), i < 0 → Go.Value.bool Bool.false = Go.Value.int Go.IntKind.u8 (kOf (fun (_ _ : Nat) => SC.bit Bool.false) i 0)) ∧ (0 : Int) = (0 : Int) ∧ (Option.none : Option Go.Addr) = Option.none ∧ 0 = 0 ∧ 0 = 0 ∧ (∀ (i : Nat), i < 0 → Go.Value.bool Bool.false = Go.Value.int Go.IntKind.u8 (kOf (fun (_ _ : Nat) => SC.bit Bool.false) i 0) ∧ Go.Value.bool Bool.false = Go.Value.int Go.IntKind.u8 (kOf (fun (_ _ : Nat) => SC.bit Bool.false) i 1) ∧ Go.Value.bool Bool.false = Go.Value.int Go.IntKind.u8 (kOf (fun (_ _ : Nat) => SC.bit Bool.false) i 2) ∧ Go.Value.bool Bool.false = Go.Value.int Go.IntKind.u8 (kOf (fun (_ _ : Nat) => SC.bit Bool.false) i 3) ∧ Go.Value.bool Bool.false = Go.Value.int Go.IntKind.u8 (kOf (fun (_ _ : Nat) => SC.bit Bool.false) i 4) ∧ Go.Value.bool Bool.false = Go.Value.int Go.IntKind.u8 (kOf (fun (_ _ : Nat) => SC.bit Bool.false) i 5) ∧ Go.Value.bool Bool.false = Go.Value.int Go.IntKind.u8 (kOf (fun (_ _ : Nat) => SC.bit Bool.false) i 6) ∧ Go.Value.bool Bool.false = Go.Value.int Go.IntKind.u8 (kOf (fun (_ _ : Nat) => SC.bit Bool.false) i 7) ∧ Go.Value.bool Bool.false = Go.Value.int Go.IntKind.u8 (kOf (fun (_ _ : Nat) => SC.bit Bool.false) i 8) ∧ Go.Value.bool Bool.false = Go.Value.int Go.IntKind.u8 (kOf (fun (_ _ : Nat) => SC.bit Bool.false) i 9) ∧ Go.Value.bool Bool.false = Go.Value.int Go.IntKind.u8 (kOf (fun (_ _ : Nat) => SC.bit Bool.false) i 10) ∧ Go.Value.bool Bool.false = Go.Value.int Go.IntKind.u8 (kOf (fun (_ _ : Nat) => SC.bit Bool.false) i 11) ∧ Go.Value.bool Bool.false = Go.Value.int Go.IntKind.u8 (kOf (fun (_ _ : Nat) => SC.bit Bool.false) i 12) ∧ Go.Value.bool Bool.false = Go.Value.int Go.IntKind.u8 (kOf (fun (_ _ : Nat) => SC.bit Bool.false) i 13) ∧ Go.Value.bool Bool.false = Go.Value.int Go.IntKind.u8 (kOf (fun (_ _ : Nat) => SC.bit Bool.false) i 14) ∧ Go.Value.bool Bool.false = Go.Value.int Go.IntKind.u8 (kOf (fun (_ _ : Nat) => SC.bit Bool.false) i 15) ∧ Go.Value.bool Bool.false = Go.Value.int Go.IntKind.u8 (kOf (fun (_ _ : Nat) => SC.bit Bool.false) i 16) ∧ Go.Value.bool Bool.false = Go.Value.int Go.IntKind.u8 (kOf (fun (_ _ : Nat) => SC.bit Bool.false) i 17) ∧ Go.Value.bool Bool.false = Go.Value.int Go.IntKind.u8 (kOf (fun (_ _ : Nat) => SC.bit Bool.false) i 18) ∧ Go.Value.bool Bool.false = Go.Value.int Go.IntKind.u8 (kOf (fun (_ _ : Nat) => SC.bit Bool.false) i 19)) ∧ (2 : Int) = (2 : Int) ∧ am = am ∧ fe = fe ∧ (∀ (j : Nat), j < 32 → tk j = tk j) ∧ hm = hm ∧ (∀ (j : Nat), j < 32 → to j = to j) ∧ tc = tc ∧ dc = dc ∧ sy = sy ∧ a = a ∧ m = m ∧ cap = cap ∧ (∀ (i : Nat), i < m → dk i 0 = kOf (u8F dk) i 0) ∧ ix = ix ∧ b = b ∧ y = y ∧ cy = cy ∧ (∀ (i : Nat), i < y → kk i 0 = kOf (u8F kk) i 0 ∧ kk i 1 = kOf (u8F kk) i 1 ∧ kk i 2 = kOf (u8F kk) i 2 ∧ kk i 3 = kOf (u8F kk) i 3 ∧ kk i 4 = kOf (u8F kk) i 4 ∧ kk i 5 = kOf (u8F kk) i 5 ∧ kk i 6 = kOf (u8F kk) i 6 ∧ kk i 7 = kOf (u8F kk) i 7 ∧ kk i 8 = kOf (u8F kk) i 8 ∧ kk i 9 = kOf (u8F kk) i 9 ∧ kk i 10 = kOf (u8F kk) i 10 ∧ kk i 11 = kOf (u8F kk) i 11 ∧ kk i 12 = kOf (u8F kk) i 12 ∧ kk i 13 = kOf (u8F kk) i 13 ∧ kk i 14 = kOf (u8F kk) i 14 ∧ kk i 15 = kOf (u8F kk) i 15 ∧ kk i 16 = kOf (u8F kk) i 16 ∧ kk i 17 = kOf (u8F kk) i 17 ∧ kk i 18 = kOf (u8F kk) i 18 ∧ kk i 19 = kOf (u8F kk) i 19) ∧ ldP (u8F (kOf fun (_ _ : Nat) => SC.bit Bool.false)) 0 (u8F (kOf fun (_ _ : Nat) => SC.bit Bool.false)) ∧ ldP (u8F (kOf (u8F dk))) y (u8F (kOf (u8F kk))) ∧ ((!alkL 0 0 tk hm (fun (_ : Nat) => (0 : Int)) (0 : Int) dc sy 0 (kOf (u8F (kOf fun (_ _ : Nat) => SC.bit Bool.false))) (0 : Int) 0 (kOf (u8F (kOf fun (_ _ : Nat) => SC.bit Bool.false))) am fe tk hm to tc dc sy m (kOf (u8F (kOf (u8F dk)))) ix y (kOf (u8F (kOf (u8F kk))))) = Bool.true → r = 0 ∧ (3 : Int) = e) ∧ ((!alkL 0 0 tk hm (fun (_ : Nat) => (0 : Int)) (0 : Int) dc sy 0 (kOf (u8F (kOf fun (_ _ : Nat) => SC.bit Bool.false))) (0 : Int) 0 (kOf (u8F (kOf fun (_ _ : Nat) => SC.bit Bool.false))) am fe tk hm to tc dc sy m (kOf (u8F (kOf (u8F dk)))) ix y (kOf (u8F (kOf (u8F kk))))) = Bool.false → (1 ≤ 1 ∧ 1 ≤ Go.maxLen ∧ 1 = 1) ∧ (33 ≤ Go.maxLen ∧ 33 ≤ 140737488355328) ∧ ∀ (c : Nat), 33 + c ≤ Go.maxLen → 0 = 0 ∧ 33 = 33 ∧ (33 ≤ 33 + c ∧ 33 + c ≤ Go.maxLen ∧ (33 + c) * 1 = 33 + c * 1) ∧ hm = hm ∧ (2 : Int) = (2 : Int) ∧ rowB (fun (i c : Nat) => selC (Decidable.decide (i < 1)) (fixAt (flat ([] ++ toKs (ofV Bool.true (Go.Value.int Go.IntKind.u8 (2 : Int))) ++ [])) 1 1 0 i c) (SC.val (Go.Value.int Go.IntKind.u8 (tk (i - 1))))) 33 8 ∧ ((1 : Int) ≤ (2 : Int) ∧ (2 : Int) ≤ (8 : Int)) ∧ ∀ (c : Nat), x4 + c ≤ Go.maxLen → 0 = 0 ∧ x4 = x4 ∧ (x4 ≤ x4 + c ∧ x4 + c ≤ Go.maxLen ∧ (x4 + c) * 1 = x4 * 1 + c * 1) ∧ dc = dc ∧ (1 : Int) = (1 : Int) ∧ rowB (putG [[FD.i hm], [FD.i (2 : Int)]] 33 fun (i c : Nat) => selC (Decidable.decide (i < 1)) (fixAt (flat ([] ++ toKs (ofV Bool.true (Go.Value.int Go.IntKind.u8 (2 : Int))) ++ [])) 1 1 0 i c) (SC.val (Go.Value.int Go.IntKind.u8 (tk (i - 1))))) x4 8 ∧ ((1 : Int) ≤ (1 : Int) ∧ (1 : Int) ≤ (8 : Int)) ∧ ∀ (c : Nat), x5 + c ≤ Go.maxLen → 0 = 0 ∧ x5 = x5 ∧ (x5 ≤ x5 + c ∧ x5 + c ≤ Go.maxLen ∧ (x5 + c) * 1 = x5 * 1 + c * 1) ∧ (x6 ≤ Go.maxLen ∧ x6 * 1 ≤ 140737488355328) ∧ ∀ (c : Nat), x6 + c ≤ Go.maxLen → (0 + x6 ≤ x6 ∧ x6 = r ∧ x6 ≤ x6 + c ∧ ∀ (i : Nat), i < r → (bif Decidable.decide (0 + i < x5) then catB x4 (hOf (putG [[FD.i hm], [FD.i (2 : Int)]] 33 fun (i c : Nat) => selC (Decidable.decide (i < 1)) (fixAt (flat ([] ++ toKs (ofV Bool.true (Go.Value.int Go.IntKind.u8 (2 : Int))) ++ [])) 1 1 0 i c) (SC.val (Go.Value.int Go.IntKind.u8 (tk (i - 1)))))) (bigAt 1 dc) (0 + i) else if 0 + i - x5 < sy.size then (↑(sy.data.getD (0 + i - x5) (0 : UInt8)).toNat : Int) else (0 : Int)) = g i) ∧ (0 : Int) = e)) ∧ ((!!(x3 && !hasNul sy)) = Bool.false → r = 0 ∧ (3 : Int) = e)) ∧ ((!!(x3 && !hasNul sy)) = Bool.true → (!!(x3 && !hasNul sy)) = Bool.true ∧ (!!(x3 && !hasNul sy)) = Bool.true ∧ (0 : Int) = (0 : Int) ∧ 0 = 0 ∧ 0 = 0 ∧ (∀ (j : Nat), j < 32 → tk j = tk j) ∧ hm = hm ∧ (∀ (j : Nat), j < 32 → (0 : Int) = (0 : Int)) ∧ (0 : Int) = (0 : Int) ∧ dc = dc ∧ sy = sy ∧ (Option.none : Option Go.Addr) = Option.none ∧ 0 = 0 ∧ 0 = 0 ∧ (∀ (i : Nat), i < 0 → Go.Value.bool Bool.false = Go.Value.int Go.IntKind.u8 (kOf (fun (_ _ : Nat) => SC.bit Bool.false) i 0)) ∧ (0 : Int) = (0 : Int) ∧ (Option.none : Option Go.Addr) = Option.none ∧ 0 = 0 ∧ 0 = 0 ∧ (∀ (i : Nat), i < 0 → Go.Value.bool Bool.false = Go.Value.int Go.IntKind.u8 (kOf (fun (_ _ : Nat) => SC.bit Bool.false) i 0) ∧ Go.Value.bool Bool.false = Go.Value.int Go.IntKind.u8 (kOf (fun (_ _ : Nat) => SC.bit Bool.false) i 1) ∧ Go.Value.bool Bool.false = Go.Value.int Go.IntKind.u8 (kOf (fun (_ _ : Nat) => SC.bit Bool.false) i 2) ∧ Go.Value.bool Bool.false = Go.Value.int Go.IntKind.u8 (kOf (fun (_ _ : Nat) => SC.bit Bool.false) i 3) ∧ Go.Value.bool Bool.false = Go.Value.int Go.IntKind.u8 (kOf (fun (_ _ : Nat) => SC.bit Bool.false) i 4) ∧ Go.Value.bool Bool.false = Go.Value.int Go.IntKind.u8 (kOf (fun (_ _ : Nat) => SC.bit Bool.false) i 5) ∧ Go.Value.bool Bool.false = Go.Value.int Go.IntKind.u8 (kOf (fun (_ _ : Nat) => SC.bit Bool.false) i 6) ∧ Go.Value.bool Bool.false = Go.Value.int Go.IntKind.u8 (kOf (fun (_ _ : Nat) => SC.bit Bool.false) i 7) ∧ Go.Value.bool Bool.false = Go.Value.int Go.IntKind.u8 (kOf (fun (_ _ : Nat) => SC.bit Bool.false) i 8) ∧ Go.Value.bool Bool.false = Go.Value.int Go.IntKind.u8 (kOf (fun (_ _ : Nat) => SC.bit Bool.false) i 9) ∧ Go.Value.bool Bool.false = Go.Value.int Go.IntKind.u8 (kOf (fun (_ _ : Nat) => SC.bit Bool.false) i 10) ∧ Go.Value.bool Bool.false = Go.Value.int Go.IntKind.u8 (kOf (fun (_ _ : Nat) => SC.bit Bool.false) i 11) ∧ Go.Value.bool Bool.false = Go.Value.int Go.IntKind.u8 (kOf (fun (_ _ : Nat) => SC.bit Bool.false) i 12) ∧ Go.Value.bool Bool.false = Go.Value.int Go.IntKind.u8 (kOf (fun (_ _ : Nat) => SC.bit Bool.false) i 13) ∧ Go.Value.bool Bool.false = Go.Value.int Go.IntKind.u8 (kOf (fun (_ _ : Nat) => SC.bit Bool.false) i 14) ∧ Go.Value.bool Bool.false = Go.Value.int Go.IntKind.u8 (kOf (fun (_ _ : Nat) => SC.bit Bool.false) i 15) ∧ Go.Value.bool Bool.false = Go.Value.int Go.IntKind.u8 (kOf (fun (_ _ : Nat) => SC.bit Bool.false) i 16) ∧ Go.Value.bool Bool.false = Go.Value.int Go.IntKind.u8 (kOf (fun (_ _ : Nat) => SC.bit Bool.false) i 17) ∧ Go.Value.bool Bool.false = Go.Value.int Go.IntKind.u8 (kOf (fun (_ _ : Nat) => SC.bit Bool.false) i 18) ∧ Go.Value.bool Bool.false = Go.Value.int Go.IntKind.u8 (kOf (fun (_ _ : Nat) => SC.bit Bool.false) i 19)) ∧ (2 : Int) = (2 : Int) ∧ am = am ∧ fe = fe ∧ (∀ (j : Nat), j < 32 → tk j = tk j) ∧ hm = hm ∧ (∀ (j : Nat), j < 32 → to j = to j) ∧ tc = tc ∧ dc = dc ∧ sy = sy ∧ a = a ∧ m = m ∧ cap = cap ∧ (∀ (i : Nat), i < m → dk i 0 = kOf (u8F dk) i 0) ∧ ix = ix ∧ b = b ∧ y = y ∧ cy = cy ∧ (∀ (i : Nat), i < y → kk i 0 = kOf (u8F kk) i 0 ∧ kk i 1 = kOf (u8F kk) i 1 ∧ kk i 2 = kOf (u8F kk) i 2 ∧ kk i 3 = kOf (u8F kk) i 3 ∧ kk i 4 = kOf (u8F kk) i 4 ∧ kk i 5 = kOf (u8F kk) i 5 ∧ kk i 6 = kOf (u8F kk) i 6 ∧ kk i 7 = kOf (u8F kk) i 7 ∧ kk i 8 = kOf (u8F kk) i 8 ∧ kk i 9 = kOf (u8F kk) i 9 ∧ kk i 10 = kOf (u8F kk) i 10 ∧ kk i 11 = kOf (u8F kk) i 11 ∧ kk i 12 = kOf (u8F kk) i 12 ∧ kk i 13 = kOf (u8F kk) i 13 ∧ kk i 14 = kOf (u8F kk) i 14 ∧ kk i 15 = kOf (u8F kk) i 15 ∧ kk i 16 = kOf (u8F kk) i 16 ∧ kk i 17 = kOf (u8F kk) i 17 ∧ kk i 18 = kOf (u8F kk) i 18 ∧ kk i 19 = kOf (u8F kk) i 19) ∧ ldP (u8F (kOf fun (_ _ : Nat) => SC.bit Bool.false)) 0 (u8F (kOf fun (_ _ : Nat) => SC.bit Bool.false)) ∧ ldP (u8F (kOf (u8F dk))) y (u8F (kOf (u8F kk))) ∧ ((!alkL 0 0 tk hm (fun (_ : Nat) => (0 : Int)) (0 : Int) dc sy 0 (kOf (u8F (kOf fun (_ _ : Nat) => SC.bit Bool.false))) (0 : Int) 0 (kOf (u8F (kOf fun (_ _ : Nat) => SC.bit Bool.false))) am fe tk hm to tc dc sy m (kOf (u8F (kOf (u8F dk)))) ix y (kOf (u8F (kOf (u8F kk))))) = Bool.true → r = 0 ∧ (3 : Int) = e) ∧ ((!alkL 0 0 tk hm (fun (_ : Nat) => (0 : Int)) (0 : Int) dc sy 0 (kOf (u8F (kOf fun (_ _ : Nat) => SC.bit Bool.false))) (0 : Int) 0 (kOf (u8F (kOf fun (_ _ : Nat) => SC.bit Bool.false))) am fe tk hm to tc dc sy m (kOf (u8F (kOf (u8F dk)))) ix y (kOf (u8F (kOf (u8F kk))))) = Bool.false → (1 ≤ 1 ∧ 1 ≤ Go.maxLen ∧ 1 = 1) ∧ (33 ≤ Go.maxLen ∧ 33 ≤ 140737488355328) ∧ ∀ (c : Nat), 33 + c ≤ Go.maxLen → 0 = 0 ∧ 33 = 33 ∧ (33 ≤ 33 + c ∧ 33 + c ≤ Go.maxLen ∧ (33 + c) * 1 = 33 + c * 1) ∧ hm = hm ∧ (2 : Int) = (2 : Int) ∧ rowB (fun (i c : Nat) => selC (Decidable.decide (i < 1)) (fixAt (flat ([] ++ toKs (ofV Bool.true (Go.Value.int Go.IntKind.u8 (2 : Int))) ++ [])) 1 1 0 i c) (SC.val (Go.Value.int Go.IntKind.u8 (tk (i - 1))))) 33 8 ∧ ((1 : Int) ≤ (2 : Int) ∧ (2 : Int) ≤ (8 : Int)) ∧ ∀ (c : Nat), x4 + c ≤ Go.maxLen → 0 = 0 ∧ x4 = x4 ∧ (x4 ≤ x4 + c ∧ x4 + c ≤ Go.maxLen ∧ (x4 + c) * 1 = x4 * 1 + c * 1) ∧ dc = dc ∧ (1 : Int) = (1 : Int) ∧ rowB (putG [[FD.i hm], [FD.i (2 : Int)]] 33 fun (i c : Nat) => selC (Decidable.decide (i < 1)) (fixAt (flat ([] ++ toKs (ofV Bool.true (Go.Value.int Go.IntKind.u8 (2 : Int))) ++ [])) 1 1 0 i c) (SC.val (Go.Value.int Go.IntKind.u8 (tk (i - 1))))) x4 8 ∧ ((1 : Int) ≤ (1 : Int) ∧ (1 : Int) ≤ (8 : Int)) ∧ ∀ (c : Nat), x5 + c ≤ Go.maxLen → 0 = 0 ∧ x5 = x5 ∧ (x5 ≤ x5 + c ∧ x5 + c ≤ Go.maxLen ∧ (x5 + c) * 1 = x5 * 1 + c * 1) ∧ (x6 ≤ Go.maxLen ∧ x6 * 1 ≤ 140737488355328) ∧ ∀ (c : Nat), x6 + c ≤ Go.maxLen → (0 + x6 ≤ x6 ∧ x6 = r ∧ x6 ≤ x6 + c ∧ ∀ (i : Nat), i < r → (bif Decidable.decide (0 + i < x5) then catB x4 (hOf (putG [[FD.i hm], [FD.i (2 : Int)]] 33 fun (i c : Nat) => selC (Decidable.decide (i < 1)) (fixAt (flat ([] ++ toKs (ofV Bool.true (Go.Value.int Go.IntKind.u8 (2 : Int))) ++ [])) 1 1 0 i c) (SC.val (Go.Value.int Go.IntKind.u8 (tk (i - 1)))))) (bigAt 1 dc) (0 + i) else if 0 + i - x5 < sy.size then (↑(sy.data.getD (0 + i - x5) (0 : UInt8)).toNat : Int) else (0 : Int)) = g i) ∧ (0 : Int) = e)) ∧ ((!!(x3 && !hasNul sy)) = Bool.false → r = 0 ∧ (3 : Int) = e)) := by kernel_rfl
end Go.Proofs.Ytajfifmlkgojnaa
end

section
namespace Go.Proofs.Ytajfifmlkgojnaa
open Go.Sx
set_option maxRecDepth 100000
def e2 (tk : Nat → Int) (hm dc : Int) (sy : ByteArray) (i : Nat) : Int :=
  if i < 1 then 2 else if i < 33 then tk (i - 1) else if i < 35 then bigAt 2 hm (i - 33) else if i < 36 then bigAt 1 dc (i - 35) else
    if i - 36 < sy.size then ((sy.data.getD (i - 36) 0).toNat : Int) else 0
theorem cat2 (tk : Nat → Int) (hm dc : Int) (sy : ByteArray) {H : Nat → Int} (hH : ∀ i, i < 33 → H i = if i < 1 then 2 else tk (i - 1)) (i : Nat) :
    (bif decide (i < 36) then catB 35 (catB 33 H (bigAt 2 hm)) (bigAt 1 dc) i else if i - 36 < sy.size then ((sy.data.getD (i - 36) 0).toNat : Int) else 0) = e2 tk hm dc sy i := by
  unfold catB e2
  simp only [bif_if]
  have := hH i
  grind
theorem ok_len2 (am fe : Nat) (tk : Nat → Int) (hm : Int) (to : Nat → Int) (tc dc : Int) (sy : ByteArray) (a : Option Addr) (m cap : Nat) (dk : Nat → Nat → Int) (ix : Int) (b : Option Addr) (y cy : Nat) (kk : Nat → Nat → Int)
    (hy : (y : Int) ≤ 9223372036854775807) :
    OwesQ Try.prog cxLck slLck tlP2 [] 30 Try.f16 [kLd (.c (.num .i64 2)) am fe tk hm to tc dc sy a m cap dk ix b y cy kk] false
      [.s (if ldE 2 am fe tk hm to tc dc sy m ix y = 0 then 68 else 0) .u8 (e2 tk hm dc sy), .v (sI .i64 (ldE 2 am fe tk hm to tc dc sy m ix y))] := by
  rw [vc_len2]
  have k1 : ∀ k : Nat → Nat → Int, kOf (u8F k) = k := fun _ => rfl
  have p0 : ldP (u8F (kOf fun _ _ => SC.bit false)) 0 (u8F (kOf fun _ _ => SC.bit false)) := ⟨rfl, rfl, by omega⟩
  have p1 : ldP (u8F dk) y (u8F kk) := ⟨rfl, rfl, hy⟩
  simp only [k1, putM_1, putM_2, id_eq, Nat.zero_add, Nat.sub_zero, Nat.mul_one, eq_self, implies_true, and_self, true_and, and_true, forall_const, imp_self, Nat.not_lt_zero, false_imp_iff, p0, p1, Bool.not_not]
  rw [good2 rfl (dk := dk) (kk := kk) (Z := kZ) (Z' := kZ)]
  have hML : maxLen = 9223372036854775807 := rfl
  generalize alkL 0 0 tk hm (fun _ => 0) 0 dc sy 0 kZ 0 0 kZ am fe tk hm to tc dc sy m dk ix y kk = A
  generalize (decide (0 ≤ hm) && decide (hm ≤ 65535) && (decide (0 ≤ dc) && decide (dc ≤ 77)) && decide ((sy.size : Int) ≤ 32) && !hasNul sy) = B
  cases A <;> cases B <;> simp [-Nat.lt_one_iff, -Array.getD_eq_getD_getElem?]
  exact ⟨by omega, by omega, fun c1 h1 => ⟨by omega, ⟨fun i hi => (by cases i <;> rfl), by omega⟩, fun c2 h2 => ⟨by omega, ⟨fun i hi => rfl, by omega⟩, fun c3 h3 => ⟨by omega, by omega, fun c4 h4 i hi => cat2 tk hm dc sy (fun i hi => (by cases i <;> rfl)) i⟩⟩⟩⟩
end Go.Proofs.Ytajfifmlkgojnaa
end

section
namespace Go.Proofs.Ytajfifmlkgojnaa
open Go.Sx
set_option maxRecDepth 100000
theorem trn_head (ix : Int) (y : Nat) (kk : Nat → Nat → Int) (i : Nat) (hi : i < 6) : catB 5 (catB 1 (fun _ => 4) (bigAt 4 ix)) (bigAt 1 (y : Int)) i = turnF ix y kk i := by
  unfold catB turnF
  have e1 := bigAt_one (y : Int) (i - 5)
  grind
theorem trn_next (ix : Int) (y : Nat) (kk : Nat → Nat → Int) (z i : Nat) (hi : i < 6 + 20 * z + 20) : (bif decide (i < 6 + 20 * z) then turnF ix y kk i else kk z (i - (6 + 20 * z))) = turnF ix y kk i := by
  rw [bif_if]
  by_cases h : i < 6 + 20 * z
  · rw [if_pos h]
  · rw [if_neg h]
    have e1 : (i - 6) / 20 = z := by omega
    have e2 : (i - 6) % 20 = i - (6 + 20 * z) := by omega
    unfold turnF
    rw [if_neg (by omega), if_neg (by omega), if_neg (by omega), e1, e2]
theorem ok_len4 (am fe : Nat) (tk : Nat → Int) (hm : Int) (to : Nat → Int) (tc dc : Int) (sy : ByteArray) (a : Option Addr) (m cap : Nat) (dk : Nat → Nat → Int) (ix : Int) (b : Option Addr) (y cy : Nat) (kk : Nat → Nat → Int)
    (hb : b = none → y = 0) (hy : (y : Int) ≤ 9223372036854775807) :
    OwesQ Try.prog cxLck slLck tlPs [((120 + 1) * 100000 + 4, .inv (invTp ix b y cy kk))] 30 Try.f16 [kLd (.c (.num .i64 4)) am fe tk hm to tc dc sy a m cap dk ix b y cy kk] false
      [.s (if ldE 4 am fe tk hm to tc dc sy m ix y = 0 then 6 + 20 * y else 0) .u8 (turnF ix y kk), .v (sI .i64 (ldE 4 am fe tk hm to tc dc sy m ix y))] := by
  rw [vc_len4]
  have k1 : ∀ k : Nat → Nat → Int, kOf (u8F k) = k := fun _ => rfl
  have p0 : ldP (u8F (kOf fun _ _ => SC.bit false)) 0 (u8F (kOf fun _ _ => SC.bit false)) := ⟨rfl, rfl, by omega⟩
  have p1 : ldP (u8F dk) y (u8F kk) := ⟨rfl, rfl, hy⟩
  have p3 : ldP (u8F (kOf fun _ _ => SC.bit false)) y (u8F kk) := ⟨rfl, rfl, hy⟩
  simp only [k1, putM_1, putM_4, id_eq, sel_u8, sel_v8, sel_f, sel_g, Nat.zero_add, Nat.sub_zero, Nat.mul_one, eq_self, implies_true, and_self, true_and, and_true, forall_const, imp_self, Nat.not_lt_zero, false_imp_iff, p0, p1, p3, Bool.not_not]
  rw [good4 rfl (dk := dk) (kk := kk) (Z := kZ)]
  have hML : maxLen = 9223372036854775807 := rfl
  have hB : (decide (0 ≤ ix) && decide (ix ≤ 4294967295) && decide ((y : Int) > 0) && decide ((y : Int) ≤ 19)) = true → 0 < y ∧ y ≤ 19 := fun h => by
    obtain ⟨h1, h2⟩ := Bool.and_eq_true_iff.1 h
    have h1 := of_decide_eq_true (Bool.and_eq_true_iff.1 h1).2
    have h2 := of_decide_eq_true h2
    omega
  generalize (decide (0 ≤ ix) && decide (ix ≤ 4294967295) && decide ((y : Int) > 0) && decide ((y : Int) ≤ 19)) = B at hB ⊢
  cases hN : b.isNone with
  | true =>
    have y0 := hb (Option.isNone_iff_eq_none.1 hN)
    cases B with
    | true => have := (hB rfl).1; omega
    | false => simp
  | false =>
    generalize alkL 0 0 (fun _ => 0) 0 (fun _ => 0) 0 0 _ 0 kZ ix y kk am fe tk hm to tc dc sy m dk ix y kk = A
    cases B with
    | false => cases A <;> simp
    | true =>
      have hy19 := hB rfl
      cases A <;> simp
      · exact ⟨by omega, by omega⟩
      · refine ⟨⟨by omega, by omega⟩, fun c0 h0 => ⟨by omega, ⟨rfl, by omega⟩, fun c1 h1 => ⟨by omega, ⟨rfl, by omega⟩, fun c2 h2 => ⟨fun _ _ => rfl, 0, c2, ⟨by omega, by omega⟩, ⟨by omega, by omega⟩, rfl, by omega, rfl, fun i hi => trn_head ix y kk i hi, fun z q hz hq => ⟨fun hlt => ⟨hlt, hq, ⟨by omega, by omega⟩, fun c hc => ⟨z + 1, c, ⟨by omega, by omega⟩, ⟨by omega, by omega⟩, ?_, by omega, rfl, fun i hi => trn_next ix y kk z i hi, by omega⟩⟩, fun hge => by omega⟩⟩⟩⟩⟩
        rw [IntKind.wrap_i64]; omega
theorem ok_len0 (kd : Int) (am fe : Nat) (tk : Nat → Int) (hm : Int) (to : Nat → Int) (tc dc : Int) (sy : ByteArray) (a : Option Addr) (m cap : Nat) (dk : Nat → Nat → Int) (ix : Int) (b : Option Addr) (y cy : Nat) (kk : Nat → Nat → Int) (g : Nat → Int)
    (h : ¬ (kd = 1 ∨ kd = 2 ∨ kd = 3 ∨ kd = 4)) :
    OwesQ Try.prog cxLk8 [] [] [] 30 Try.f16 [kLd (.c (.val (.int .i64 kd))) am fe tk hm to tc dc sy a m cap dk ix b y cy kk] false
      [.s 0 .u8 g, .v (sI .i64 2)] := by
  rw [vc_len0]
  have h1 : kd ≠ 1 := by omega
  have h2 : kd ≠ 2 := by omega
  have h3 : kd ≠ 3 := by omega
  have h4 : kd ≠ 4 := by omega
  simp [h1, h2, h3, h4]
end Go.Proofs.Ytajfifmlkgojnaa
end

section
namespace Go.Proofs.Ytajfifmlkgojnaa
open Go.Sx
set_option maxRecDepth 100000
def ldN (kd : Int) (m y : Nat) : Nat := if kd = 1 then 133 else if kd = 2 then 68 else if kd = 3 then 133 + m else 6 + 20 * y
def ldB (kd : Int) (am fe : Nat) (tk : Nat → Int) (hm : Int) (to : Nat → Int) (tc dc : Int) (sy : ByteArray) (dk : Nat → Nat → Int) (ix : Int) (y : Nat) (kk : Nat → Nat → Int) : Nat → Int :=
  if kd = 2 then e2 tk hm dc sy else if kd = 4 then turnF ix y kk else e13 kd am fe tk hm to tc dk
noncomputable def lenS : List (List FD) → List RS
  | [[.i kd, .u am, .u fe, .y tk, .i hm, .y to, .i tc, .i dc, .t sy, .x _ m _ f, .i ix, .x _ y _ h]] => [.s (if ldE kd am fe tk hm to tc dc sy m ix y = 0 then ldN kd m y else 0) .u8 (ldB kd am fe tk hm to tc dc sy (kOf f) ix y (kOf h)), .v (sI .i64 (ldE kd am fe tk hm to tc dc sy m ix y))]
  | _ => []
noncomputable def cLen : SSpec := specQ false shLd nfLd ldC lenS
theorem lit_bnd {z : Int} {ks : List SK} (E : Env) (h : ∀ x ∈ [SA.agg (.c (.val (.int .i64 z)) :: ks)], x.bnd E) : ∀ x ∈ [SA.agg (.c (.num .i64 z) :: ks)], x.bnd E := by
  intro x hx
  rw [List.mem_singleton.1 hx]
  intro k hk
  rcases List.mem_cons.1 hk with rfl | hk
  · trivial
  · exact h _ (List.mem_singleton.2 rfl) k (List.mem_cons.2 (.inr hk))
theorem card_len {gl : Globs} : FnOKs Try.prog gl 16 cLen := by
  refine FnOKs_cases fun ls hc => ⟨fun l => [l = ls], ⟨rfl, trivial⟩, ?_⟩
  unfold ldC at hc
  split at hc
  · rename_i kd am fe tk hm to tc dc sy a m cap f ix b y cy h
    obtain ⟨p, _⟩ := hc
    by_cases h1 : kd = 1
    · subst h1
      refine FnOKs.up0 (FnOKs_QM (cx := cxLck) (okx_cons card_lwin (okx_cons card_Cmp (okx_cons card_con (okx_mark (okx_mark (okx_mark (okx_mark (okx_mark okx_nil)))))))) (sl := slLck) (oks_cons card_alk oks_nil) (tl := tlPs) (tl_cons card_put (tl_cons card_pw tl_nil)) Try.func16 (by kernel_rfl) (by kernel_rfl) fun l hl => ?_) gl
      obtain ⟨rfl, _⟩ := hl
      have := ok_len1 am fe tk hm to tc dc sy a m cap (kOf f) ix b y cy (kOf h) p.qy
      unfold kLd at this
      rw [← p.qf, ← p.qh] at this
      refine ⟨_, _, _, ?_, ?_, fun r hr => ?_, this⟩
      · exact fun ρ => rfl
      · exact lit_bnd
      rcases List.mem_cons.1 hr with rfl | hr
      · trivial
      · rw [List.mem_singleton.1 hr]; exact trivial
    by_cases h2 : kd = 2
    · subst h2
      refine FnOKs.up0 (FnOKs_QM (cx := cxLck) (okx_cons card_lwin (okx_cons card_Cmp (okx_cons card_con (okx_mark (okx_mark (okx_mark (okx_mark (okx_mark okx_nil)))))))) (sl := slLck) (oks_cons card_alk oks_nil) (tl := tlP2) (tl_cons card_putB tl_nil) Try.func16 (by kernel_rfl) (by kernel_rfl) fun l hl => ?_) gl
      obtain ⟨rfl, _⟩ := hl
      have := ok_len2 am fe tk hm to tc dc sy a m cap (kOf f) ix b y cy (kOf h) p.qy
      unfold kLd at this
      rw [← p.qf, ← p.qh] at this
      refine ⟨_, _, _, ?_, ?_, fun r hr => ?_, this⟩
      · exact fun ρ => rfl
      · exact lit_bnd
      rcases List.mem_cons.1 hr with rfl | hr
      · trivial
      · rw [List.mem_singleton.1 hr]; exact trivial
    by_cases h3 : kd = 3
    · subst h3
      refine FnOKs.up0 (FnOKs_QM (cx := cxLck) (okx_cons card_lwin (okx_cons card_Cmp (okx_cons card_con (okx_mark (okx_mark (okx_mark (okx_mark (okx_mark okx_nil)))))))) (sl := slLck) (oks_cons card_alk oks_nil) (tl := tlPs) (tl_cons card_put (tl_cons card_pw tl_nil)) Try.func16 (by kernel_rfl) (by kernel_rfl) fun l hl => ?_) gl
      obtain ⟨rfl, _⟩ := hl
      have := ok_len3 am fe tk hm to tc dc sy a m cap (kOf f) ix b y cy (kOf h) p.qa p.qy
      unfold kLd at this
      rw [← p.qf, ← p.qh] at this
      refine ⟨_, _, _, ?_, ?_, fun r hr => ?_, this⟩
      · exact fun ρ => rfl
      · exact lit_bnd
      rcases List.mem_cons.1 hr with rfl | hr
      · trivial
      · rw [List.mem_singleton.1 hr]; exact trivial
    by_cases h4 : kd = 4
    · subst h4
      refine FnOKs.up0 (FnOKs_QM (cx := cxLck) (okx_cons card_lwin (okx_cons card_Cmp (okx_cons card_con (okx_mark (okx_mark (okx_mark (okx_mark (okx_mark okx_nil)))))))) (sl := slLck) (oks_cons card_alk oks_nil) (tl := tlPs) (tl_cons card_put (tl_cons card_pw tl_nil)) Try.func16 (by kernel_rfl) (by kernel_rfl) fun l hl => ?_) gl
      obtain ⟨rfl, _⟩ := hl
      have := ok_len4 am fe tk hm to tc dc sy a m cap (kOf f) ix b y cy (kOf h) p.qb p.qy
      unfold kLd at this
      rw [← p.qf, ← p.qh] at this
      refine ⟨_, _, _, ?_, ?_, fun r hr => ?_, this⟩
      · exact fun ρ => rfl
      · exact lit_bnd
      rcases List.mem_cons.1 hr with rfl | hr
      · trivial
      · rw [List.mem_singleton.1 hr]; exact trivial
    · have e : ¬ (kd = 1 ∨ kd = 2 ∨ kd = 3 ∨ kd = 4) := by omega
      refine FnOKs.up0 (FnOKs_QM (cx := cxLk8) (okx_mark okx_nil) (sl := []) oks_nil (tl := []) tl_nil Try.func16 (by kernel_rfl) (by kernel_rfl) fun l hl => ?_) gl
      obtain ⟨rfl, _⟩ := hl
      have := ok_len0 kd am fe tk hm to tc dc sy a m cap (kOf f) ix b y cy (kOf h) (ldB kd am fe tk hm to tc dc sy (kOf f) ix y (kOf h)) e
      unfold kLd at this
      rw [← p.qf, ← p.qh] at this
      refine ⟨[], 30, _, fun ρ => rfl, fun E hE => hE, fun r hr => ?_, ?_⟩
      rotate_left 1
      · show OwesQ _ _ _ _ _ _ _ _ _ [.s (if ldE _ _ _ _ _ _ _ _ _ _ _ _ = 0 then _ else 0) .u8 _, .v (sI .i64 (ldE _ _ _ _ _ _ _ _ _ _ _ _))]
        rw [ldE_kind e]
        exact this
      rcases List.mem_cons.1 hr with rfl | hr
      · trivial
      · rw [List.mem_singleton.1 hr]; exact trivial
  · exact hc.1.elim
end Go.Proofs.Ytajfifmlkgojnaa
end

section
namespace Go.Proofs.Ytajfifmlkgojnaa
open Go.Sx
set_option maxRecDepth 100000
def kdF (z : Int) (k : Nat → Nat → Int) (i c : Nat) : SC :=
  match Nat.ble 1 i with
  | true => .val (.int .u8 (k i c))
  | false => .num .u8 z
def trimN (s : ByteArray) : Nat → Nat
  | 0 => 0
  | n + 1 => if ((s.data.getD n 0).toNat : Int) = 0 then trimN s n else n + 1
def trimT (s : ByteArray) : ByteArray := s.extract 0 (trimN s s.size)
def invTrim (s : ByteArray) : Inv where
  X := Nat
  tm m := slotsAt 23 [(0, .one (sStr (s.extract 0 m))), (1, .one (.sc (.num .u8 0)))]
  ob _ := []
  holds m := m ≤ s.size ∧ trimN s m = trimN s s.size
  less m := m
def specTrim : FSpec := fun args =>
  match args with
  | [.sc (.val (.string s)), y] => match asI y with
    | some (.u8, 0) => some ([(s.size : Int) ≤ 9223372036854775807], .one (.sc (.val (.string (trimT s)))))
    | _ => none
  | _ => none
def bAt (n : Nat) (k : Nat → Nat → Int) (p : Nat) : Int := if p < n then k p 0 else 0
def keyG (n : Nat) (k : Nat → Nat → Int) (x i j : Nat) : Int := if i < x then bAt n k (6 + 20 * i + j) else 0
def zLoad : List SK := [.c (.num .i64 0)] ++ List.replicate 8 (.c (.num .u64 0)) ++ List.replicate 32 (.c (.num .u8 0)) ++ [.c (.num .i64 0)] ++ List.replicate 32 (.c (.num .u8 0)) ++ [.c (.num .i64 0), .c (.num .i64 0), .c (.val (.string ⟨#[]⟩)), .c (.val (.slice none 0 0)), .c (.num .i64 0), .c (.val (.slice none 0 0))]
def cxLd8 : Cx := ⟨[(1000000008, fun _ => none)], [], 0, []⟩
def cxLd : Cx := ⟨[(58, specB fromG), (81, specII (fun _ _ => []) inL), (34, specUU cmpG), (1000000010, fun _ => none), (1000000012, fun _ => none), (1000000013, fun _ => none), (1000000014, fun _ => none)], [], 0, []⟩
def specTrR : FSpec := fun args =>
  match args with
  | [.sc (.val (.string s)), .sc (.val (.string c))] => some ([(s.size : Int) ≤ 9223372036854775807, c = ⟨#[0]⟩], .one (.sc (.val (.string (trimT s)))))
  | _ => none
def cxTrR : Cx := ⟨[(91, specTrim), (92, fun _ => none), (94, fun _ => none), (93, fun _ => none)], [], 0, []⟩
def cxLd2 : Cx := ⟨[(58, specB fromG), (81, specII (fun _ _ => []) inL), (34, specUU cmpG), (88, specCon conG), (89, specTrR), (1000000010, fun _ => none), (1000000012, fun _ => none), (1000000013, fun _ => none), (1000000014, fun _ => none)], [], 0, []⟩
def cxLd3 : Cx := ⟨[(58, specB fromG), (81, specII (fun _ _ => []) inL), (34, specUU cmpG), (1000000007, fun _ => none), (1000000010, fun _ => none), (1000000012, fun _ => none), (1000000013, fun _ => none), (1000000014, fun _ => none)], [], 0, []⟩
theorem vc_trim (s t : ByteArray) :
    Owes Try.prog Cx.none [(1, .inv (invTrim s))] 12 Try.f91 [sStr s, .sc (.num .u8 0)] (.one (sStr t)) =
    ((∀ (y : Nat), closedB (slotsAt 23 [(0, SV.one (sStr (s.extract 0 y))), (1, SV.one (SA.sc (SC.num Go.IntKind.u8 (0 : Int))))]) [] = Bool.true) ∧ ∃ (y : Nat), (y ≤ s.size ∧ trimN s y = trimN s s.size) ∧ s = s.extract 0 y ∧ ∀ (y : Nat), y ≤ s.size ∧ trimN s y = trimN s s.size → (Decidable.decide ((↑(s.extract 0 y).size : Int) > (0 : Int)) = Bool.true → Decidable.decide ((↑(s.extract 0 y).size : Int) > (0 : Int)) = Bool.true) ∧ (Decidable.decide ((↑(s.extract 0 y).size : Int) > (0 : Int)) = Bool.true → Decidable.decide ((↑(s.extract 0 y).size : Int) > (0 : Int)) = Bool.true) ∧ (Decidable.decide ((↑(s.extract 0 y).size : Int) > (0 : Int)) = Bool.true → Decidable.decide ((↑(s.extract 0 y).size : Int) > (0 : Int)) = Bool.true) ∧ (Decidable.decide ((↑(s.extract 0 y).size : Int) > (0 : Int)) = Bool.true → Decidable.decide ((↑(s.extract 0 y).size : Int) > (0 : Int)) = Bool.true) ∧ (Decidable.decide ((↑(s.extract 0 y).size : Int) > (0 : Int)) = Bool.true → (0 : Int) ≤ Go.IntKind.i64.wrap ((↑(s.extract 0 y).size : Int) - (1 : Int)) ∧ (Go.IntKind.i64.wrap ((↑(s.extract 0 y).size : Int) - (1 : Int))).toNat < (s.extract 0 y).size) ∧ (Decidable.decide ((↑(s.extract 0 y).size : Int) > (0 : Int)) = Bool.true → Decidable.decide ((↑(s.extract 0 y).size : Int) > (0 : Int)) = Bool.true) ∧ (Decidable.decide ((↑(s.extract 0 y).size : Int) > (0 : Int)) = Bool.true → Decidable.decide ((↑(s.extract 0 y).size : Int) > (0 : Int)) = Bool.true) ∧ (Decidable.decide ((↑(s.extract 0 y).size : Int) > (0 : Int)) = Bool.true → Decidable.decide ((↑(s.extract 0 y).size : Int) > (0 : Int)) = Bool.true) ∧ ((Decidable.decide ((↑(s.extract 0 y).size : Int) > (0 : Int)) && (↑((s.extract 0 y).data.getD (Go.IntKind.i64.wrap ((↑(s.extract 0 y).size : Int) - (1 : Int))).toNat (0 : UInt8)).toNat : Int) == (0 : Int)) = Bool.true → ((0 : Int) ≤ (0 : Int) ∧ (0 : Int) ≤ Go.IntKind.i64.wrap ((↑(s.extract 0 y).size : Int) - (1 : Int)) ∧ Go.IntKind.i64.wrap ((↑(s.extract 0 y).size : Int) - (1 : Int)) ≤ (↑(s.extract 0 y).size : Int)) ∧ ∃ (y' : Nat), (y' ≤ s.size ∧ trimN s y' = trimN s s.size) ∧ (s.extract 0 y).extract 0 (Go.IntKind.i64.wrap ((↑(s.extract 0 y).size : Int) - (1 : Int))).toNat = s.extract 0 y' ∧ y'.succ.le y) ∧ ((Decidable.decide ((↑(s.extract 0 y).size : Int) > (0 : Int)) && (↑((s.extract 0 y).data.getD (Go.IntKind.i64.wrap ((↑(s.extract 0 y).size : Int) - (1 : Int))).toNat (0 : UInt8)).toNat : Int) == (0 : Int)) = Bool.false → s.extract 0 y = t)) := by kernel_rfl
theorem vc_trr (s t : ByteArray) :
    Owes Try.prog cxTrR [] 12 Try.f89 [sStr s, .sc (.val (.string ⟨#[0]⟩))] (.one (sStr t)) =
    (let x1 : Bool := s.toList == (ByteArray.mk #[]).toList; let x2 : Bool := (1 : Int) == (1 : Int); ((!x1) = Bool.true → (!x1) = Bool.true) ∧ (x1 = Bool.false → (!x1) = Bool.true) ∧ ((x1 || (ByteArray.mk #[(0 : UInt8)]).toList == (ByteArray.mk #[]).toList) = Bool.true → s = t) ∧ ((x1 || (ByteArray.mk #[(0 : UInt8)]).toList == (ByteArray.mk #[]).toList) = Bool.false → (x2 = Bool.true → x2 = Bool.true) ∧ (x2 = Bool.true → (0 : Int) ≤ (0 : Int) ∧ 0 < 1) ∧ (x2 = Bool.true → x2 = Bool.true) ∧ (x2 = Bool.true → x2 = Bool.true) ∧ ((x2 && Decidable.decide ((0 : Int) < (128 : Int))) = Bool.true → ((0 : Int) ≤ (0 : Int) ∧ 0 < 1) ∧ (↑s.size : Int) ≤ (9223372036854775807 : Int) ∧ trimT s = t) ∧ ((x2 && Decidable.decide ((0 : Int) < (128 : Int))) = Bool.false → Stuck { dst := Option.some 28, op := Go.Op.call { callee := Go.Callee.value (Go.Operand.func 92), args := #[Go.Operand.tmp 27], argTypes := #[9] }, type := 154, pos := "strings.go:1049", after := #[{ on := 0, ground := Go.Ground.data }], guard := Option.none }))) := by kernel_rfl
theorem vc_ldc1 (a : Option Addr) (n cap : Nat) (k : Nat → Nat → Int) (am fe : Nat) (tk : Nat → Int) (hm : Int) (to : Nat → Int) (tc dc : Int) (sy : ByteArray) (m : Nat) (dk : Nat → Nat → Int) (ix : Int) (y : Nat) (kk : Nat → Nat → Int) (z e : Int) :
    OwesQ Try.prog cxLd [] [] [] 30 Try.f17 [.sc (.xs a n cap 1 (kdF 1 k))] false [.st [.k (.c (.val (.int .i64 z))), .k (.u am), .k (.u fe), .k (.f .u8 32 tk), .k (.c (.val (.int .i64 hm))), .k (.f .u8 32 to), .k (.c (.val (.int .i64 tc))), .k (.c (.val (.int .i64 dc))), .k (.c (.val (.string sy))), .s m 1 (u8F dk), .k (.c (.val (.int .i64 ix))), .s y 20 (u8F kk)], .v (sI .i64 e)] =
    (let x1 : Nat := am % M256; let x2 : Nat := fe % M256; let x3 : Nat := n - 1; let x4 : Nat := x3.min 32; let x5 : Int := (↑x4 : Int); let x6 : Int := (↑x3 : Int); let x7 : Nat := x5.toNat; let x8 : Nat := x3 - x7; let x9 : Nat := x8.min 32; let x10 : Int := (↑x9 : Int); let x11 : Int := (↑x8 : Int); let x12 : Nat := x10.toNat; let x13 : Nat := x8 - x12; let x14 : Nat := x13.min 2; let x15 : Int := (↑x14 : Int); let x16 : Int := (↑x13 : Int); let x17 : Nat := x15.toNat; let x18 : Nat := x13 - x17; let x19 : Nat := x18.min 32; let x20 : Int := (↑x19 : Int); let x21 : Int := (↑x18 : Int); let x22 : Nat := x20.toNat; let x23 : Nat := x18 - x22; let x24 : Nat := x23.min 2; let x25 : Int := (↑x24 : Int); let x26 : Int := (↑x23 : Int); let x27 : Nat := x25.toNat; let x28 : Nat := x23 - x27; let x29 : Nat := x28.min 32; let x30 : Int := (↑x29 : Int); let x31 : Int := (↑x28 : Int); let x32 : Int := Go.IntKind.i64.wrap (Go.IntKind.u64.wrap (↑(BitVec.ofInt 64 (Go.IntKind.u64.wrap (Go.IntKind.u64.wrap (↑(BitVec.ofInt 64 (0 : Int) ||| BitVec.ofInt 64 (Go.IntKind.u64.wrap (if 0 < x14 then intsC (kdF (1 : Int) k (1 + (x7 + (x12 + 0))) 0) else (0 : Int)))).toNat : Int) * (256 : Int))) ||| BitVec.ofInt 64 (Go.IntKind.u64.wrap (if 1 < x14 then k (1 + (x7 + (x12 + 1))) 0 else (0 : Int)))).toNat : Int)); let x33 : Bool := Decidable.decide ((0 : Int) ≤ x32) && Decidable.decide (x32 ≤ (65535 : Int)); let x34 : Int := Go.IntKind.i64.wrap (Go.IntKind.u64.wrap (↑(BitVec.ofInt 64 (Go.IntKind.u64.wrap (Go.IntKind.u64.wrap (↑(BitVec.ofInt 64 (0 : Int) ||| BitVec.ofInt 64 (Go.IntKind.u64.wrap (if 0 < x24 then intsC (kdF (1 : Int) k (1 + (x7 + (x12 + (x17 + (x22 + 0))))) 0) else (0 : Int)))).toNat : Int) * (256 : Int))) ||| BitVec.ofInt 64 (Go.IntKind.u64.wrap (if 1 < x24 then k (1 + (x7 + (x12 + (x17 + (x22 + 1))))) 0 else (0 : Int)))).toNat : Int)); let x35 : Bool := x33 && (Decidable.decide ((0 : Int) ≤ x34) && Decidable.decide (x34 ≤ (65535 : Int))); let x36 : Nat := fromN (fun (j : Nat) => if j < x29 then intsC (kdF (1 : Int) k (1 + (x7 + (x12 + (x17 + (x22 + (x27 + j)))))) 0) else (0 : Int)) 32; let x37 : Nat := fromN (fun (j : Nat) => if j < x4 then intsC (kdF (1 : Int) k (1 + j) 0) else (0 : Int)) 32; let x38 : Int := cmpN x36 x37; (((↑n : Int) == (0 : Int)) = Bool.true → (((0 : Int) = z ∧ True) ∧ (0 = x1 ∧ True) ∧ (0 = x2 ∧ True) ∧ ((0 : Int) = tk 0 ∧ (0 : Int) = tk 1 ∧ (0 : Int) = tk 2 ∧ (0 : Int) = tk 3 ∧ (0 : Int) = tk 4 ∧ (0 : Int) = tk 5 ∧ (0 : Int) = tk 6 ∧ (0 : Int) = tk 7 ∧ (0 : Int) = tk 8 ∧ (0 : Int) = tk 9 ∧ (0 : Int) = tk 10 ∧ (0 : Int) = tk 11 ∧ (0 : Int) = tk 12 ∧ (0 : Int) = tk 13 ∧ (0 : Int) = tk 14 ∧ (0 : Int) = tk 15 ∧ (0 : Int) = tk 16 ∧ (0 : Int) = tk 17 ∧ (0 : Int) = tk 18 ∧ (0 : Int) = tk 19 ∧ (0 : Int) = tk 20 ∧ (0 : Int) = tk 21 ∧ (0 : Int) = tk 22 ∧ (0 : Int) = tk 23 ∧ (0 : Int) = tk 24 ∧ (0 : Int) = tk 25 ∧ (0 : Int) = tk 26 ∧ (0 : Int) = tk 27 ∧ (0 : Int) = tk 28 ∧ (0 : Int) = tk 29 ∧ (0 : Int) = tk 30 ∧ (0 : Int) = tk 31 ∧ True) ∧ ((0 : Int) = hm ∧ True) ∧ ((0 : Int) = to 0 ∧ (0 : Int) = to 1 ∧ (0 : Int) = to 2 ∧ (0 : Int) = to 3 ∧ (0 : Int) = to 4 ∧ (0 : Int) = to 5 ∧ (0 : Int) = to 6 ∧ (0 : Int) = to 7 ∧ (0 : Int) = to 8 ∧ (0 : Int) = to 9 ∧ (0 : Int) = to 10 ∧ (0 : Int) = to 11 ∧ (0 : Int) = to 12 ∧ (0 : Int) = to 13 ∧ (0 : Int) = to 14 ∧ (0 : Int) = to 15 ∧ (0 : Int) = to 16 ∧ (0 : Int) = to 17 ∧ (0 : Int) = to 18 ∧ (0 : Int) = to 19 ∧ (0 : Int) = to 20 ∧ (0 : Int) = to 21 ∧ (0 : Int) = to 22 ∧ (0 : Int) = to 23 ∧ (0 : Int) = to 24 ∧ (0 : Int) = to 25 ∧ (0 : Int) = to 26 ∧ (0 : Int) = to 27 ∧ (0 : Int) = to 28 ∧ (0 : Int) = to 29 ∧ (0 : Int) = to 30 ∧ (0 : Int) = to 31 ∧ True) ∧ ((0 : Int) = tc ∧ True) ∧ ((0 : Int) = dc ∧ True) ∧ ((ByteArray.mk #[]) = sy ∧ True) ∧ m = 0 ∧ ((0 : Int) = ix ∧ True) ∧ y = 0 ∧ True) ∧ (4 : Int) = e) ∧ (((↑n : Int) == (0 : Int)) = Bool.false → ((0 : Int) ≤ (0 : Int) ∧ (0 : Int) < (↑n : Int)) ∧ ((0 : Int) ≤ (1 : Int) ∧ (1 : Int) ≤ (↑n : Int) ∧ (↑n : Int) ≤ (↑n : Int)) ∧ (∀ (j : Nat), Option.rec False (fun (val : Go.IntKind × Int) => Prod.casesOn val fun (fst : Go.IntKind) (_ : Int) => if Go.IntKind.u8 = fst then True else False) (asI (SA.sc (kdF (1 : Int) k (1 + j) 0)))) ∧ ((0 : Int) ≤ x5 ∧ x5 ≤ x6 ∧ x6 ≤ x6) ∧ (∀ (j : Nat), j < 32 → ((0 : Int) ≤ if j < x4 then intsC (kdF (1 : Int) k (1 + j) 0) else (0 : Int)) ∧ (if j < x4 then intsC (kdF (1 : Int) k (1 + j) 0) else (0 : Int)) < (256 : Int)) ∧ (∀ (j : Nat), Option.rec False (fun (val : Go.IntKind × Int) => Prod.casesOn val fun (fst : Go.IntKind) (_ : Int) => if Go.IntKind.u8 = fst then True else False) (asI (SA.sc (kdF (1 : Int) k (1 + (x7 + j)) 0)))) ∧ ((0 : Int) ≤ x10 ∧ x10 ≤ x11 ∧ x11 ≤ x11) ∧ (∀ (j : Nat), Option.rec False (fun (val : Go.IntKind × Int) => Prod.casesOn val fun (fst : Go.IntKind) (_ : Int) => if Go.IntKind.u8 = fst then True else False) (asI (SA.sc (kdF (1 : Int) k (1 + (x7 + (x12 + j))) 0)))) ∧ ((0 : Int) ≤ x15 ∧ x15 ≤ x16 ∧ x16 ≤ x16) ∧ (∀ (j : Nat), Option.rec False (fun (val : Go.IntKind × Int) => Prod.casesOn val fun (fst : Go.IntKind) (_ : Int) => if Go.IntKind.u8 = fst then True else False) (asI (SA.sc (kdF (1 : Int) k (1 + (x7 + (x12 + (x17 + j)))) 0)))) ∧ ((0 : Int) ≤ x20 ∧ x20 ≤ x21 ∧ x21 ≤ x21) ∧ (∀ (j : Nat), Option.rec False (fun (val : Go.IntKind × Int) => Prod.casesOn val fun (fst : Go.IntKind) (_ : Int) => if Go.IntKind.u8 = fst then True else False) (asI (SA.sc (kdF (1 : Int) k (1 + (x7 + (x12 + (x17 + (x22 + j))))) 0)))) ∧ ((0 : Int) ≤ x25 ∧ x25 ≤ x26 ∧ x26 ≤ x26) ∧ (∀ (j : Nat), Option.rec False (fun (val : Go.IntKind × Int) => Prod.casesOn val fun (fst : Go.IntKind) (_ : Int) => if Go.IntKind.u8 = fst then True else False) (asI (SA.sc (kdF (1 : Int) k (1 + (x7 + (x12 + (x17 + (x22 + (x27 + j)))))) 0)))) ∧ ((0 : Int) ≤ x30 ∧ x30 ≤ x31 ∧ x31 ≤ x31) ∧ (∀ (j : Nat), j < 32 → ((0 : Int) ≤ if j < x29 then intsC (kdF (1 : Int) k (1 + (x7 + (x12 + (x17 + (x22 + (x27 + j)))))) 0) else (0 : Int)) ∧ (if j < x29 then intsC (kdF (1 : Int) k (1 + (x7 + (x12 + (x17 + (x22 + (x27 + j)))))) 0) else (0 : Int)) < (256 : Int)) ∧ (Decidable.decide (x6 < (132 : Int)) = Bool.true → (((0 : Int) = z ∧ True) ∧ (0 = x1 ∧ True) ∧ (0 = x2 ∧ True) ∧ ((0 : Int) = tk 0 ∧ (0 : Int) = tk 1 ∧ (0 : Int) = tk 2 ∧ (0 : Int) = tk 3 ∧ (0 : Int) = tk 4 ∧ (0 : Int) = tk 5 ∧ (0 : Int) = tk 6 ∧ (0 : Int) = tk 7 ∧ (0 : Int) = tk 8 ∧ (0 : Int) = tk 9 ∧ (0 : Int) = tk 10 ∧ (0 : Int) = tk 11 ∧ (0 : Int) = tk 12 ∧ (0 : Int) = tk 13 ∧ (0 : Int) = tk 14 ∧ (0 : Int) = tk 15 ∧ (0 : Int) = tk 16 ∧ (0 : Int) = tk 17 ∧ (0 : Int) = tk 18 ∧ (0 : Int) = tk 19 ∧ (0 : Int) = tk 20 ∧ (0 : Int) = tk 21 ∧ (0 : Int) = tk 22 ∧ (0 : Int) = tk 23 ∧ (0 : Int) = tk 24 ∧ (0 : Int) = tk 25 ∧ (0 : Int) = tk 26 ∧ (0 : Int) = tk 27 ∧ (0 : Int) = tk 28 ∧ (0 : Int) = tk 29 ∧ (0 : Int) = tk 30 ∧ (0 : Int) = tk 31 ∧ True) ∧ ((0 : Int) = hm ∧ True) ∧ ((0 : Int) = to 0 ∧ (0 : Int) = to 1 ∧ (0 : Int) = to 2 ∧ (0 : Int) = to 3 ∧ (0 : Int) = to 4 ∧ (0 : Int) = to 5 ∧ (0 : Int) = to 6 ∧ (0 : Int) = to 7 ∧ (0 : Int) = to 8 ∧ (0 : Int) = to 9 ∧ (0 : Int) = to 10 ∧ (0 : Int) = to 11 ∧ (0 : Int) = to 12 ∧ (0 : Int) = to 13 ∧ (0 : Int) = to 14 ∧ (0 : Int) = to 15 ∧ (0 : Int) = to 16 ∧ (0 : Int) = to 17 ∧ (0 : Int) = to 18 ∧ (0 : Int) = to 19 ∧ (0 : Int) = to 20 ∧ (0 : Int) = to 21 ∧ (0 : Int) = to 22 ∧ (0 : Int) = to 23 ∧ (0 : Int) = to 24 ∧ (0 : Int) = to 25 ∧ (0 : Int) = to 26 ∧ (0 : Int) = to 27 ∧ (0 : Int) = to 28 ∧ (0 : Int) = to 29 ∧ (0 : Int) = to 30 ∧ (0 : Int) = to 31 ∧ True) ∧ ((0 : Int) = tc ∧ True) ∧ ((0 : Int) = dc ∧ True) ∧ ((ByteArray.mk #[]) = sy ∧ True) ∧ m = 0 ∧ ((0 : Int) = ix ∧ True) ∧ y = 0 ∧ True) ∧ (4 : Int) = e) ∧ (Decidable.decide (x6 < (132 : Int)) = Bool.false → ((!Decidable.decide (x6 > (132 : Int))) = Bool.true → (!Decidable.decide (x6 > (132 : Int))) = Bool.true ∧ (x33 = Bool.true → x33 = Bool.true) ∧ (x33 = Bool.true → x33 = Bool.true) ∧ (x33 = Bool.true → x33 = Bool.true) ∧ (x33 = Bool.true → x33 = Bool.true) ∧ (x33 = Bool.true → x33 = Bool.true) ∧ (x35 = Bool.true → x35 = Bool.true) ∧ (x35 = Bool.true → x35 = Bool.true) ∧ (x35 = Bool.true → x35 = Bool.true) ∧ (x35 = Bool.true → x35 = Bool.true) ∧ (x35 = Bool.true → x35 = Bool.true) ∧ (x35 = Bool.true → x35 = Bool.true) ∧ (x35 = Bool.true → x35 = Bool.true) ∧ (x35 = Bool.true → x35 = Bool.true) ∧ (x35 = Bool.true → x35 = Bool.true) ∧ (x35 = Bool.true → x35 = Bool.true) ∧ ((!(x35 && Decidable.decide (x38 ≤ (0 : Int)))) = Bool.true → (((0 : Int) = z ∧ True) ∧ (0 = x1 ∧ True) ∧ (0 = x2 ∧ True) ∧ ((0 : Int) = tk 0 ∧ (0 : Int) = tk 1 ∧ (0 : Int) = tk 2 ∧ (0 : Int) = tk 3 ∧ (0 : Int) = tk 4 ∧ (0 : Int) = tk 5 ∧ (0 : Int) = tk 6 ∧ (0 : Int) = tk 7 ∧ (0 : Int) = tk 8 ∧ (0 : Int) = tk 9 ∧ (0 : Int) = tk 10 ∧ (0 : Int) = tk 11 ∧ (0 : Int) = tk 12 ∧ (0 : Int) = tk 13 ∧ (0 : Int) = tk 14 ∧ (0 : Int) = tk 15 ∧ (0 : Int) = tk 16 ∧ (0 : Int) = tk 17 ∧ (0 : Int) = tk 18 ∧ (0 : Int) = tk 19 ∧ (0 : Int) = tk 20 ∧ (0 : Int) = tk 21 ∧ (0 : Int) = tk 22 ∧ (0 : Int) = tk 23 ∧ (0 : Int) = tk 24 ∧ (0 : Int) = tk 25 ∧ (0 : Int) = tk 26 ∧ (0 : Int) = tk 27 ∧ (0 : Int) = tk 28 ∧ (0 : Int) = tk 29 ∧ (0 : Int) = tk 30 ∧ (0 : Int) = tk 31 ∧ True) ∧ ((0 : Int) = hm ∧ True) ∧ ((0 : Int) = to 0 ∧ (0 : Int) = to 1 ∧ (0 : Int) = to 2 ∧ (0 : Int) = to 3 ∧ (0 : Int) = to 4 ∧ (0 : Int) = to 5 ∧ (0 : Int) = to 6 ∧ (0 : Int) = to 7 ∧ (0 : Int) = to 8 ∧ (0 : Int) = to 9 ∧ (0 : Int) = to 10 ∧ (0 : Int) = to 11 ∧ (0 : Int) = to 12 ∧ (0 : Int) = to 13 ∧ (0 : Int) = to 14 ∧ (0 : Int) = to 15 ∧ (0 : Int) = to 16 ∧ (0 : Int) = to 17 ∧ (0 : Int) = to 18 ∧ (0 : Int) = to 19 ∧ (0 : Int) = to 20 ∧ (0 : Int) = to 21 ∧ (0 : Int) = to 22 ∧ (0 : Int) = to 23 ∧ (0 : Int) = to 24 ∧ (0 : Int) = to 25 ∧ (0 : Int) = to 26 ∧ (0 : Int) = to 27 ∧ (0 : Int) = to 28 ∧ (0 : Int) = to 29 ∧ (0 : Int) = to 30 ∧ (0 : Int) = to 31 ∧ True) ∧ ((0 : Int) = tc ∧ True) ∧ ((0 : Int) = dc ∧ True) ∧ ((ByteArray.mk #[]) = sy ∧ True) ∧ m = 0 ∧ ((0 : Int) = ix ∧ True) ∧ y = 0 ∧ True) ∧ (3 : Int) = e) ∧ ((!(x35 && Decidable.decide (x38 ≤ (0 : Int)))) = Bool.false → (((1 : Int) = z ∧ True) ∧ (x37 % M256 = x1 ∧ True) ∧ (x36 % M256 = x2 ∧ True) ∧ ((∀ (j : Nat), j < 32 → (if j < x9 then intsC (kdF (1 : Int) k (1 + (x7 + j)) 0) else (0 : Int)) = tk j) ∧ True) ∧ (x32 = hm ∧ True) ∧ ((∀ (j : Nat), j < 32 → (if j < x19 then intsC (kdF (1 : Int) k (1 + (x7 + (x12 + (x17 + j)))) 0) else (0 : Int)) = to j) ∧ True) ∧ (x34 = tc ∧ True) ∧ ((0 : Int) = dc ∧ True) ∧ ((ByteArray.mk #[]) = sy ∧ True) ∧ m = 0 ∧ ((0 : Int) = ix ∧ True) ∧ y = 0 ∧ True) ∧ (0 : Int) = e)) ∧ ((!Decidable.decide (x6 > (132 : Int))) = Bool.false → (((0 : Int) = z ∧ True) ∧ (0 = x1 ∧ True) ∧ (0 = x2 ∧ True) ∧ ((0 : Int) = tk 0 ∧ (0 : Int) = tk 1 ∧ (0 : Int) = tk 2 ∧ (0 : Int) = tk 3 ∧ (0 : Int) = tk 4 ∧ (0 : Int) = tk 5 ∧ (0 : Int) = tk 6 ∧ (0 : Int) = tk 7 ∧ (0 : Int) = tk 8 ∧ (0 : Int) = tk 9 ∧ (0 : Int) = tk 10 ∧ (0 : Int) = tk 11 ∧ (0 : Int) = tk 12 ∧ (0 : Int) = tk 13 ∧ (0 : Int) = tk 14 ∧ (0 : Int) = tk 15 ∧ (0 : Int) = tk 16 ∧ (0 : Int) = tk 17 ∧ (0 : Int) = tk 18 ∧ (0 : Int) = tk 19 ∧ (0 : Int) = tk 20 ∧ (0 : Int) = tk 21 ∧ (0 : Int) = tk 22 ∧ (0 : Int) = tk 23 ∧ (0 : Int) = tk 24 ∧ (0 : Int) = tk 25 ∧ (0 : Int) = tk 26 ∧ (0 : Int) = tk 27 ∧ (0 : Int) = tk 28 ∧ (0 : Int) = tk 29 ∧ (0 : Int) = tk 30 ∧ (0 : Int) = tk 31 ∧ True) ∧ ((0 : Int) = hm ∧ True) ∧ ((0 : Int) = to 0 ∧ (0 : Int) = to 1 ∧ (0 : Int) = to 2 ∧ (0 : Int) = to 3 ∧ (0 : Int) = to 4 ∧ (0 : Int) = to 5 ∧ (0 : Int) = to 6 ∧ (0 : Int) = to 7 ∧ (0 : Int) = to 8 ∧ (0 : Int) = to 9 ∧ (0 : Int) = to 10 ∧ (0 : Int) = to 11 ∧ (0 : Int) = to 12 ∧ (0 : Int) = to 13 ∧ (0 : Int) = to 14 ∧ (0 : Int) = to 15 ∧ (0 : Int) = to 16 ∧ (0 : Int) = to 17 ∧ (0 : Int) = to 18 ∧ (0 : Int) = to 19 ∧ (0 : Int) = to 20 ∧ (0 : Int) = to 21 ∧ (0 : Int) = to 22 ∧ (0 : Int) = to 23 ∧ (0 : Int) = to 24 ∧ (0 : Int) = to 25 ∧ (0 : Int) = to 26 ∧ (0 : Int) = to 27 ∧ (0 : Int) = to 28 ∧ (0 : Int) = to 29 ∧ (0 : Int) = to 30 ∧ (0 : Int) = to 31 ∧ True) ∧ ((0 : Int) = tc ∧ True) ∧ ((0 : Int) = dc ∧ True) ∧ ((ByteArray.mk #[]) = sy ∧ True) ∧ m = 0 ∧ ((0 : Int) = ix ∧ True) ∧ y = 0 ∧ True) ∧ (3 : Int) = e)))) := by kernel_rfl
theorem vc_ldc0 (a : Option Addr) (n cap : Nat) (k : Nat → Nat → Int) (am fe : Nat) (tk : Nat → Int) (hm : Int) (to : Nat → Int) (tc dc : Int) (sy : ByteArray) (m : Nat) (dk : Nat → Nat → Int) (ix : Int) (y : Nat) (kk : Nat → Nat → Int) (z e : Int) :
    OwesQ Try.prog cxLd8 [] [] [] 30 Try.f17 [.sc (.xs a n cap 1 (u8F k))] false [.st [.k (.c (.val (.int .i64 z))), .k (.u am), .k (.u fe), .k (.f .u8 32 tk), .k (.c (.val (.int .i64 hm))), .k (.f .u8 32 to), .k (.c (.val (.int .i64 tc))), .k (.c (.val (.int .i64 dc))), .k (.c (.val (.string sy))), .s m 1 (u8F dk), .k (.c (.val (.int .i64 ix))), .s y 20 (u8F kk)], .v (sI .i64 e)] =
    ((((↑n : Int) == (0 : Int)) = Bool.true → (((0 : Int) = z ∧ True) ∧ (0 = am % M256 ∧ True) ∧ (0 = fe % M256 ∧ True) ∧ ((0 : Int) = tk 0 ∧ (0 : Int) = tk 1 ∧ (0 : Int) = tk 2 ∧ (0 : Int) = tk 3 ∧ (0 : Int) = tk 4 ∧ (0 : Int) = tk 5 ∧ (0 : Int) = tk 6 ∧ (0 : Int) = tk 7 ∧ (0 : Int) = tk 8 ∧ (0 : Int) = tk 9 ∧ (0 : Int) = tk 10 ∧ (0 : Int) = tk 11 ∧ (0 : Int) = tk 12 ∧ (0 : Int) = tk 13 ∧ (0 : Int) = tk 14 ∧ (0 : Int) = tk 15 ∧ (0 : Int) = tk 16 ∧ (0 : Int) = tk 17 ∧ (0 : Int) = tk 18 ∧ (0 : Int) = tk 19 ∧ (0 : Int) = tk 20 ∧ (0 : Int) = tk 21 ∧ (0 : Int) = tk 22 ∧ (0 : Int) = tk 23 ∧ (0 : Int) = tk 24 ∧ (0 : Int) = tk 25 ∧ (0 : Int) = tk 26 ∧ (0 : Int) = tk 27 ∧ (0 : Int) = tk 28 ∧ (0 : Int) = tk 29 ∧ (0 : Int) = tk 30 ∧ (0 : Int) = tk 31 ∧ True) ∧ ((0 : Int) = hm ∧ True) ∧ ((0 : Int) = to 0 ∧ (0 : Int) = to 1 ∧ (0 : Int) = to 2 ∧ (0 : Int) = to 3 ∧ (0 : Int) = to 4 ∧ (0 : Int) = to 5 ∧ (0 : Int) = to 6 ∧ (0 : Int) = to 7 ∧ (0 : Int) = to 8 ∧ (0 : Int) = to 9 ∧ (0 : Int) = to 10 ∧ (0 : Int) = to 11 ∧ (0 : Int) = to 12 ∧ (0 : Int) = to 13 ∧ (0 : Int) = to 14 ∧ (0 : Int) = to 15 ∧ (0 : Int) = to 16 ∧ (0 : Int) = to 17 ∧ (0 : Int) = to 18 ∧ (0 : Int) = to 19 ∧ (0 : Int) = to 20 ∧ (0 : Int) = to 21 ∧ (0 : Int) = to 22 ∧ (0 : Int) = to 23 ∧ (0 : Int) = to 24 ∧ (0 : Int) = to 25 ∧ (0 : Int) = to 26 ∧ (0 : Int) = to 27 ∧ (0 : Int) = to 28 ∧ (0 : Int) = to 29 ∧ (0 : Int) = to 30 ∧ (0 : Int) = to 31 ∧ True) ∧ ((0 : Int) = tc ∧ True) ∧ ((0 : Int) = dc ∧ True) ∧ ((ByteArray.mk #[]) = sy ∧ True) ∧ m = 0 ∧ ((0 : Int) = ix ∧ True) ∧ y = 0 ∧ True) ∧ (4 : Int) = e) ∧ (((↑n : Int) == (0 : Int)) = Bool.false → ((0 : Int) ≤ (0 : Int) ∧ (0 : Int) < (↑n : Int)) ∧ ((0 : Int) ≤ (1 : Int) ∧ (1 : Int) ≤ (↑n : Int) ∧ (↑n : Int) ≤ (↑n : Int)) ∧ ((Go.IntKind.i64.wrap (k 0 0) == (1 : Int)) = Bool.true → ∀ (_ : Go.Addr), Stuck { dst := Option.some 9, op := Go.Op.makeInterface 112 (Go.Operand.tmp 8), type := 89, pos := "said.go:26", after := #[{ on := 1, ground := Go.Ground.data }], guard := Option.none }) ∧ ((Go.IntKind.i64.wrap (k 0 0) == (1 : Int)) = Bool.false → ((Go.IntKind.i64.wrap (k 0 0) == (2 : Int)) = Bool.true → ∀ (_ : Go.Addr), Stuck { dst := Option.some 14, op := Go.Op.makeInterface 115 (Go.Operand.tmp 13), type := 89, pos := "said.go:28", after := #[{ on := 1, ground := Go.Ground.data }], guard := Option.none }) ∧ ((Go.IntKind.i64.wrap (k 0 0) == (2 : Int)) = Bool.false → ((Go.IntKind.i64.wrap (k 0 0) == (3 : Int)) = Bool.true → ∀ (_ : Go.Addr), Stuck { dst := Option.some 19, op := Go.Op.makeInterface 118 (Go.Operand.tmp 18), type := 89, pos := "said.go:30", after := #[{ on := 1, ground := Go.Ground.data }], guard := Option.none }) ∧ ((Go.IntKind.i64.wrap (k 0 0) == (3 : Int)) = Bool.false → ((Go.IntKind.i64.wrap (k 0 0) == (4 : Int)) = Bool.true → ∀ (_ : Go.Addr), Stuck { dst := Option.some 24, op := Go.Op.makeInterface 121 (Go.Operand.tmp 23), type := 89, pos := "said.go:32", after := #[{ on := 1, ground := Go.Ground.data }], guard := Option.none }) ∧ ((Go.IntKind.i64.wrap (k 0 0) == (4 : Int)) = Bool.false → (((0 : Int) = z ∧ True) ∧ (0 = am % M256 ∧ True) ∧ (0 = fe % M256 ∧ True) ∧ ((0 : Int) = tk 0 ∧ (0 : Int) = tk 1 ∧ (0 : Int) = tk 2 ∧ (0 : Int) = tk 3 ∧ (0 : Int) = tk 4 ∧ (0 : Int) = tk 5 ∧ (0 : Int) = tk 6 ∧ (0 : Int) = tk 7 ∧ (0 : Int) = tk 8 ∧ (0 : Int) = tk 9 ∧ (0 : Int) = tk 10 ∧ (0 : Int) = tk 11 ∧ (0 : Int) = tk 12 ∧ (0 : Int) = tk 13 ∧ (0 : Int) = tk 14 ∧ (0 : Int) = tk 15 ∧ (0 : Int) = tk 16 ∧ (0 : Int) = tk 17 ∧ (0 : Int) = tk 18 ∧ (0 : Int) = tk 19 ∧ (0 : Int) = tk 20 ∧ (0 : Int) = tk 21 ∧ (0 : Int) = tk 22 ∧ (0 : Int) = tk 23 ∧ (0 : Int) = tk 24 ∧ (0 : Int) = tk 25 ∧ (0 : Int) = tk 26 ∧ (0 : Int) = tk 27 ∧ (0 : Int) = tk 28 ∧ (0 : Int) = tk 29 ∧ (0 : Int) = tk 30 ∧ (0 : Int) = tk 31 ∧ True) ∧ ((0 : Int) = hm ∧ True) ∧ ((0 : Int) = to 0 ∧ (0 : Int) = to 1 ∧ (0 : Int) = to 2 ∧ (0 : Int) = to 3 ∧ (0 : Int) = to 4 ∧ (0 : Int) = to 5 ∧ (0 : Int) = to 6 ∧ (0 : Int) = to 7 ∧ (0 : Int) = to 8 ∧ (0 : Int) = to 9 ∧ (0 : Int) = to 10 ∧ (0 : Int) = to 11 ∧ (0 : Int) = to 12 ∧ (0 : Int) = to 13 ∧ (0 : Int) = to 14 ∧ (0 : Int) = to 15 ∧ (0 : Int) = to 16 ∧ (0 : Int) = to 17 ∧ (0 : Int) = to 18 ∧ (0 : Int) = to 19 ∧ (0 : Int) = to 20 ∧ (0 : Int) = to 21 ∧ (0 : Int) = to 22 ∧ (0 : Int) = to 23 ∧ (0 : Int) = to 24 ∧ (0 : Int) = to 25 ∧ (0 : Int) = to 26 ∧ (0 : Int) = to 27 ∧ (0 : Int) = to 28 ∧ (0 : Int) = to 29 ∧ (0 : Int) = to 30 ∧ (0 : Int) = to 31 ∧ True) ∧ ((0 : Int) = tc ∧ True) ∧ ((0 : Int) = dc ∧ True) ∧ ((ByteArray.mk #[]) = sy ∧ True) ∧ m = 0 ∧ ((0 : Int) = ix ∧ True) ∧ y = 0 ∧ True) ∧ (2 : Int) = e)))))) := by kernel_rfl
end Go.Proofs.Ytajfifmlkgojnaa
end

section
namespace Go.Proofs.Ytajfifmlkgojnaa
open Go.Sx
set_option maxRecDepth 100000
theorem vc_ldc2 (a : Option Addr) (n cap : Nat) (k : Nat → Nat → Int) (am fe : Nat) (tk : Nat → Int) (hm : Int) (to : Nat → Int) (tc dc : Int) (sy : ByteArray) (m : Nat) (dk : Nat → Nat → Int) (ix : Int) (y : Nat) (kk : Nat → Nat → Int) (z e : Int) :
    OwesQ Try.prog cxLd2 [] [] [] 30 Try.f17 [.sc (.xs a n cap 1 (kdF 2 k))] false [.st [.k (.c (.val (.int .i64 z))), .k (.u am), .k (.u fe), .k (.f .u8 32 tk), .k (.c (.val (.int .i64 hm))), .k (.f .u8 32 to), .k (.c (.val (.int .i64 tc))), .k (.c (.val (.int .i64 dc))), .k (.c (.val (.string sy))), .s m 1 (u8F dk), .k (.c (.val (.int .i64 ix))), .s y 20 (u8F kk)], .v (sI .i64 e)] =
    (let x1 : Nat := n - 1; let x2 : Nat := x1.min 32; let x3 : Int := (↑x2 : Int); let x4 : Int := (↑x1 : Int); let x5 : Nat := x3.toNat; let x6 : Nat := x1 - x5; let x7 : Nat := x6.min 2; let x8 : Int := (↑x7 : Int); let x9 : Int := (↑x6 : Int); let x10 : Nat := x8.toNat; let x11 : Nat := x6 - x10; let x12 : Nat := x11.min 1; let x13 : Int := (↑x12 : Int); let x14 : Int := (↑x11 : Int); let x15 : Nat := x13.toNat; let x16 : Nat := x11 - x15; let x17 : Nat := x16.min 32; let x18 : Int := (↑x17 : Int); let x19 : Int := (↑x16 : Int); let x20 : Int := Go.IntKind.i64.wrap (Go.IntKind.u64.wrap (↑(BitVec.ofInt 64 (Go.IntKind.u64.wrap (Go.IntKind.u64.wrap (↑(BitVec.ofInt 64 (0 : Int) ||| BitVec.ofInt 64 (Go.IntKind.u64.wrap (if 0 < x7 then intsC (kdF (2 : Int) k (1 + (x5 + 0)) 0) else (0 : Int)))).toNat : Int) * (256 : Int))) ||| BitVec.ofInt 64 (Go.IntKind.u64.wrap (if 1 < x7 then k (1 + (x5 + 1)) 0 else (0 : Int)))).toNat : Int)); let x21 : Bool := Decidable.decide ((0 : Int) ≤ x20) && Decidable.decide (x20 ≤ (65535 : Int)); let x22 : Int := Go.IntKind.i64.wrap (Go.IntKind.u64.wrap (↑(BitVec.ofInt 64 (0 : Int) ||| BitVec.ofInt 64 (Go.IntKind.u64.wrap (if 0 < x12 then intsC (kdF (2 : Int) k (1 + (x5 + (x10 + 0))) 0) else (0 : Int)))).toNat : Int)); let x23 : Bool := x21 && (Decidable.decide ((0 : Int) ≤ x22) && Decidable.decide (x22 ≤ (77 : Int))); let x24 : Int := (↑(trimT (bytesI (intsL [SK.f Go.IntKind.u8 32 fun (j : Nat) => if j < x17 then intsC (kdF (2 : Int) k (1 + (x5 + (x10 + (x15 + j)))) 0) else (0 : Int)]))).size : Int); let x25 : Bool := x23 && Decidable.decide (x24 ≤ (32 : Int)); (((↑n : Int) == (0 : Int)) = Bool.true → (((0 : Int) = z ∧ True) ∧ (0 = am % M256 ∧ True) ∧ (0 = fe % M256 ∧ True) ∧ ((0 : Int) = tk 0 ∧ (0 : Int) = tk 1 ∧ (0 : Int) = tk 2 ∧ (0 : Int) = tk 3 ∧ (0 : Int) = tk 4 ∧ (0 : Int) = tk 5 ∧ (0 : Int) = tk 6 ∧ (0 : Int) = tk 7 ∧ (0 : Int) = tk 8 ∧ (0 : Int) = tk 9 ∧ (0 : Int) = tk 10 ∧ (0 : Int) = tk 11 ∧ (0 : Int) = tk 12 ∧ (0 : Int) = tk 13 ∧ (0 : Int) = tk 14 ∧ (0 : Int) = tk 15 ∧ (0 : Int) = tk 16 ∧ (0 : Int) = tk 17 ∧ (0 : Int) = tk 18 ∧ (0 : Int) = tk 19 ∧ (0 : Int) = tk 20 ∧ (0 : Int) = tk 21 ∧ (0 : Int) = tk 22 ∧ (0 : Int) = tk 23 ∧ (0 : Int) = tk 24 ∧ (0 : Int) = tk 25 ∧ (0 : Int) = tk 26 ∧ (0 : Int) = tk 27 ∧ (0 : Int) = tk 28 ∧ (0 : Int) = tk 29 ∧ (0 : Int) = tk 30 ∧ (0 : Int) = tk 31 ∧ True) ∧ ((0 : Int) = hm ∧ True) ∧ ((0 : Int) = to 0 ∧ (0 : Int) = to 1 ∧ (0 : Int) = to 2 ∧ (0 : Int) = to 3 ∧ (0 : Int) = to 4 ∧ (0 : Int) = to 5 ∧ (0 : Int) = to 6 ∧ (0 : Int) = to 7 ∧ (0 : Int) = to 8 ∧ (0 : Int) = to 9 ∧ (0 : Int) = to 10 ∧ (0 : Int) = to 11 ∧ (0 : Int) = to 12 ∧ (0 : Int) = to 13 ∧ (0 : Int) = to 14 ∧ (0 : Int) = to 15 ∧ (0 : Int) = to 16 ∧ (0 : Int) = to 17 ∧ (0 : Int) = to 18 ∧ (0 : Int) = to 19 ∧ (0 : Int) = to 20 ∧ (0 : Int) = to 21 ∧ (0 : Int) = to 22 ∧ (0 : Int) = to 23 ∧ (0 : Int) = to 24 ∧ (0 : Int) = to 25 ∧ (0 : Int) = to 26 ∧ (0 : Int) = to 27 ∧ (0 : Int) = to 28 ∧ (0 : Int) = to 29 ∧ (0 : Int) = to 30 ∧ (0 : Int) = to 31 ∧ True) ∧ ((0 : Int) = tc ∧ True) ∧ ((0 : Int) = dc ∧ True) ∧ ((ByteArray.mk #[]) = sy ∧ True) ∧ m = 0 ∧ ((0 : Int) = ix ∧ True) ∧ y = 0 ∧ True) ∧ (4 : Int) = e) ∧ (((↑n : Int) == (0 : Int)) = Bool.false → ((0 : Int) ≤ (0 : Int) ∧ (0 : Int) < (↑n : Int)) ∧ ((0 : Int) ≤ (1 : Int) ∧ (1 : Int) ≤ (↑n : Int) ∧ (↑n : Int) ≤ (↑n : Int)) ∧ (∀ (j : Nat), Option.rec False (fun (val : Go.IntKind × Int) => Prod.casesOn val fun (fst : Go.IntKind) (_ : Int) => if Go.IntKind.u8 = fst then True else False) (asI (SA.sc (kdF (2 : Int) k (1 + j) 0)))) ∧ ((0 : Int) ≤ x3 ∧ x3 ≤ x4 ∧ x4 ≤ x4) ∧ (∀ (j : Nat), Option.rec False (fun (val : Go.IntKind × Int) => Prod.casesOn val fun (fst : Go.IntKind) (_ : Int) => if Go.IntKind.u8 = fst then True else False) (asI (SA.sc (kdF (2 : Int) k (1 + (x5 + j)) 0)))) ∧ ((0 : Int) ≤ x8 ∧ x8 ≤ x9 ∧ x9 ≤ x9) ∧ (∀ (j : Nat), Option.rec False (fun (val : Go.IntKind × Int) => Prod.casesOn val fun (fst : Go.IntKind) (_ : Int) => if Go.IntKind.u8 = fst then True else False) (asI (SA.sc (kdF (2 : Int) k (1 + (x5 + (x10 + j))) 0)))) ∧ ((0 : Int) ≤ x13 ∧ x13 ≤ x14 ∧ x14 ≤ x14) ∧ (∀ (j : Nat), Option.rec False (fun (val : Go.IntKind × Int) => Prod.casesOn val fun (fst : Go.IntKind) (_ : Int) => if Go.IntKind.u8 = fst then True else False) (asI (SA.sc (kdF (2 : Int) k (1 + (x5 + (x10 + (x15 + j)))) 0)))) ∧ ((0 : Int) ≤ x18 ∧ x18 ≤ x19 ∧ x19 ≤ x19) ∧ (↑(bytesI (intsL [SK.f Go.IntKind.u8 32 fun (j : Nat) => if j < x17 then intsC (kdF (2 : Int) k (1 + (x5 + (x10 + (x15 + j)))) 0) else (0 : Int)])).size : Int) ≤ (9223372036854775807 : Int) ∧ (ByteArray.mk #[(0 : UInt8)]) = (ByteArray.mk #[(0 : UInt8)]) ∧ (Decidable.decide (x4 < (67 : Int)) = Bool.true → (((0 : Int) = z ∧ True) ∧ (0 = am % M256 ∧ True) ∧ (0 = fe % M256 ∧ True) ∧ ((0 : Int) = tk 0 ∧ (0 : Int) = tk 1 ∧ (0 : Int) = tk 2 ∧ (0 : Int) = tk 3 ∧ (0 : Int) = tk 4 ∧ (0 : Int) = tk 5 ∧ (0 : Int) = tk 6 ∧ (0 : Int) = tk 7 ∧ (0 : Int) = tk 8 ∧ (0 : Int) = tk 9 ∧ (0 : Int) = tk 10 ∧ (0 : Int) = tk 11 ∧ (0 : Int) = tk 12 ∧ (0 : Int) = tk 13 ∧ (0 : Int) = tk 14 ∧ (0 : Int) = tk 15 ∧ (0 : Int) = tk 16 ∧ (0 : Int) = tk 17 ∧ (0 : Int) = tk 18 ∧ (0 : Int) = tk 19 ∧ (0 : Int) = tk 20 ∧ (0 : Int) = tk 21 ∧ (0 : Int) = tk 22 ∧ (0 : Int) = tk 23 ∧ (0 : Int) = tk 24 ∧ (0 : Int) = tk 25 ∧ (0 : Int) = tk 26 ∧ (0 : Int) = tk 27 ∧ (0 : Int) = tk 28 ∧ (0 : Int) = tk 29 ∧ (0 : Int) = tk 30 ∧ (0 : Int) = tk 31 ∧ True) ∧ ((0 : Int) = hm ∧ True) ∧ ((0 : Int) = to 0 ∧ (0 : Int) = to 1 ∧ (0 : Int) = to 2 ∧ (0 : Int) = to 3 ∧ (0 : Int) = to 4 ∧ (0 : Int) = to 5 ∧ (0 : Int) = to 6 ∧ (0 : Int) = to 7 ∧ (0 : Int) = to 8 ∧ (0 : Int) = to 9 ∧ (0 : Int) = to 10 ∧ (0 : Int) = to 11 ∧ (0 : Int) = to 12 ∧ (0 : Int) = to 13 ∧ (0 : Int) = to 14 ∧ (0 : Int) = to 15 ∧ (0 : Int) = to 16 ∧ (0 : Int) = to 17 ∧ (0 : Int) = to 18 ∧ (0 : Int) = to 19 ∧ (0 : Int) = to 20 ∧ (0 : Int) = to 21 ∧ (0 : Int) = to 22 ∧ (0 : Int) = to 23 ∧ (0 : Int) = to 24 ∧ (0 : Int) = to 25 ∧ (0 : Int) = to 26 ∧ (0 : Int) = to 27 ∧ (0 : Int) = to 28 ∧ (0 : Int) = to 29 ∧ (0 : Int) = to 30 ∧ (0 : Int) = to 31 ∧ True) ∧ ((0 : Int) = tc ∧ True) ∧ ((0 : Int) = dc ∧ True) ∧ ((ByteArray.mk #[]) = sy ∧ True) ∧ m = 0 ∧ ((0 : Int) = ix ∧ True) ∧ y = 0 ∧ True) ∧ (4 : Int) = e) ∧ (Decidable.decide (x4 < (67 : Int)) = Bool.false → ((!Decidable.decide (x4 > (67 : Int))) = Bool.true → (!Decidable.decide (x4 > (67 : Int))) = Bool.true ∧ (x21 = Bool.true → x21 = Bool.true) ∧ (x21 = Bool.true → x21 = Bool.true) ∧ (x21 = Bool.true → x21 = Bool.true) ∧ (x21 = Bool.true → x21 = Bool.true) ∧ (x21 = Bool.true → x21 = Bool.true) ∧ (x23 = Bool.true → x23 = Bool.true) ∧ (x23 = Bool.true → x23 = Bool.true) ∧ (x23 = Bool.true → x23 = Bool.true) ∧ (x23 = Bool.true → x23 = Bool.true) ∧ (x23 = Bool.true → x23 = Bool.true) ∧ (x23 = Bool.true → x23 = Bool.true) ∧ (x25 = Bool.true → x25 = Bool.true) ∧ (x25 = Bool.true → x25 = Bool.true) ∧ (x25 = Bool.true → x25 = Bool.true) ∧ (x25 = Bool.true → x25 = Bool.true) ∧ (x25 = Bool.true → (ByteArray.mk #[(0 : UInt8)]) = (ByteArray.mk #[(0 : UInt8)])) ∧ (x25 = Bool.true → x25 = Bool.true) ∧ (x25 = Bool.true → x25 = Bool.true) ∧ ((!(x25 && !hasNul (trimT (bytesI (intsL [SK.f Go.IntKind.u8 32 fun (j : Nat) => if j < x17 then intsC (kdF (2 : Int) k (1 + (x5 + (x10 + (x15 + j)))) 0) else (0 : Int)]))))) = Bool.true → (((0 : Int) = z ∧ True) ∧ (0 = am % M256 ∧ True) ∧ (0 = fe % M256 ∧ True) ∧ ((0 : Int) = tk 0 ∧ (0 : Int) = tk 1 ∧ (0 : Int) = tk 2 ∧ (0 : Int) = tk 3 ∧ (0 : Int) = tk 4 ∧ (0 : Int) = tk 5 ∧ (0 : Int) = tk 6 ∧ (0 : Int) = tk 7 ∧ (0 : Int) = tk 8 ∧ (0 : Int) = tk 9 ∧ (0 : Int) = tk 10 ∧ (0 : Int) = tk 11 ∧ (0 : Int) = tk 12 ∧ (0 : Int) = tk 13 ∧ (0 : Int) = tk 14 ∧ (0 : Int) = tk 15 ∧ (0 : Int) = tk 16 ∧ (0 : Int) = tk 17 ∧ (0 : Int) = tk 18 ∧ (0 : Int) = tk 19 ∧ (0 : Int) = tk 20 ∧ (0 : Int) = tk 21 ∧ (0 : Int) = tk 22 ∧ (0 : Int) = tk 23 ∧ (0 : Int) = tk 24 ∧ (0 : Int) = tk 25 ∧ (0 : Int) = tk 26 ∧ (0 : Int) = tk 27 ∧ (0 : Int) = tk 28 ∧ (0 : Int) = tk 29 ∧ (0 : Int) = tk 30 ∧ (0 : Int) = tk 31 ∧ True) ∧ ((0 : Int) = hm ∧ True) ∧ ((0 : Int) = to 0 ∧ (0 : Int) = to 1 ∧ (0 : Int) = to 2 ∧ (0 : Int) = to 3 ∧ (0 : Int) = to 4 ∧ (0 : Int) = to 5 ∧ (0 : Int) = to 6 ∧ (0 : Int) = to 7 ∧ (0 : Int) = to 8 ∧ (0 : Int) = to 9 ∧ (0 : Int) = to 10 ∧ (0 : Int) = to 11 ∧ (0 : Int) = to 12 ∧ (0 : Int) = to 13 ∧ (0 : Int) = to 14 ∧ (0 : Int) = to 15 ∧ (0 : Int) = to 16 ∧ (0 : Int) = to 17 ∧ (0 : Int) = to 18 ∧ (0 : Int) = to 19 ∧ (0 : Int) = to 20 ∧ (0 : Int) = to 21 ∧ (0 : Int) = to 22 ∧ (0 : Int) = to 23 ∧ (0 : Int) = to 24 ∧ (0 : Int) = to 25 ∧ (0 : Int) = to 26 ∧ (0 : Int) = to 27 ∧ (0 : Int) = to 28 ∧ (0 : Int) = to 29 ∧ (0 : Int) = to 30 ∧ (0 : Int) = to 31 ∧ True) ∧ ((0 : Int) = tc ∧ True) ∧ ((0 : Int) = dc ∧ True) ∧ ((ByteArray.mk #[]) = sy ∧ True) ∧ m = 0 ∧ ((0 : Int) = ix ∧ True) ∧ y = 0 ∧ True) ∧ (3 : Int) = e) ∧ ((!(x25 && !hasNul (trimT (bytesI (intsL [SK.f Go.IntKind.u8 32 fun (j : Nat) => if j < x17 then intsC (kdF (2 : Int) k (1 + (x5 + (x10 + (x15 + j)))) 0) else (0 : Int)]))))) = Bool.false → (((2 : Int) = z ∧ True) ∧ (0 = am % M256 ∧ True) ∧ (0 = fe % M256 ∧ True) ∧ ((∀ (j : Nat), j < 32 → (if j < x2 then intsC (kdF (2 : Int) k (1 + j) 0) else (0 : Int)) = tk j) ∧ True) ∧ (x20 = hm ∧ True) ∧ ((0 : Int) = to 0 ∧ (0 : Int) = to 1 ∧ (0 : Int) = to 2 ∧ (0 : Int) = to 3 ∧ (0 : Int) = to 4 ∧ (0 : Int) = to 5 ∧ (0 : Int) = to 6 ∧ (0 : Int) = to 7 ∧ (0 : Int) = to 8 ∧ (0 : Int) = to 9 ∧ (0 : Int) = to 10 ∧ (0 : Int) = to 11 ∧ (0 : Int) = to 12 ∧ (0 : Int) = to 13 ∧ (0 : Int) = to 14 ∧ (0 : Int) = to 15 ∧ (0 : Int) = to 16 ∧ (0 : Int) = to 17 ∧ (0 : Int) = to 18 ∧ (0 : Int) = to 19 ∧ (0 : Int) = to 20 ∧ (0 : Int) = to 21 ∧ (0 : Int) = to 22 ∧ (0 : Int) = to 23 ∧ (0 : Int) = to 24 ∧ (0 : Int) = to 25 ∧ (0 : Int) = to 26 ∧ (0 : Int) = to 27 ∧ (0 : Int) = to 28 ∧ (0 : Int) = to 29 ∧ (0 : Int) = to 30 ∧ (0 : Int) = to 31 ∧ True) ∧ ((0 : Int) = tc ∧ True) ∧ (x22 = dc ∧ True) ∧ (trimT (bytesI (intsL [SK.f Go.IntKind.u8 32 fun (j : Nat) => if j < x17 then intsC (kdF (2 : Int) k (1 + (x5 + (x10 + (x15 + j)))) 0) else (0 : Int)])) = sy ∧ True) ∧ m = 0 ∧ ((0 : Int) = ix ∧ True) ∧ y = 0 ∧ True) ∧ (0 : Int) = e)) ∧ ((!Decidable.decide (x4 > (67 : Int))) = Bool.false → (((0 : Int) = z ∧ True) ∧ (0 = am % M256 ∧ True) ∧ (0 = fe % M256 ∧ True) ∧ ((0 : Int) = tk 0 ∧ (0 : Int) = tk 1 ∧ (0 : Int) = tk 2 ∧ (0 : Int) = tk 3 ∧ (0 : Int) = tk 4 ∧ (0 : Int) = tk 5 ∧ (0 : Int) = tk 6 ∧ (0 : Int) = tk 7 ∧ (0 : Int) = tk 8 ∧ (0 : Int) = tk 9 ∧ (0 : Int) = tk 10 ∧ (0 : Int) = tk 11 ∧ (0 : Int) = tk 12 ∧ (0 : Int) = tk 13 ∧ (0 : Int) = tk 14 ∧ (0 : Int) = tk 15 ∧ (0 : Int) = tk 16 ∧ (0 : Int) = tk 17 ∧ (0 : Int) = tk 18 ∧ (0 : Int) = tk 19 ∧ (0 : Int) = tk 20 ∧ (0 : Int) = tk 21 ∧ (0 : Int) = tk 22 ∧ (0 : Int) = tk 23 ∧ (0 : Int) = tk 24 ∧ (0 : Int) = tk 25 ∧ (0 : Int) = tk 26 ∧ (0 : Int) = tk 27 ∧ (0 : Int) = tk 28 ∧ (0 : Int) = tk 29 ∧ (0 : Int) = tk 30 ∧ (0 : Int) = tk 31 ∧ True) ∧ ((0 : Int) = hm ∧ True) ∧ ((0 : Int) = to 0 ∧ (0 : Int) = to 1 ∧ (0 : Int) = to 2 ∧ (0 : Int) = to 3 ∧ (0 : Int) = to 4 ∧ (0 : Int) = to 5 ∧ (0 : Int) = to 6 ∧ (0 : Int) = to 7 ∧ (0 : Int) = to 8 ∧ (0 : Int) = to 9 ∧ (0 : Int) = to 10 ∧ (0 : Int) = to 11 ∧ (0 : Int) = to 12 ∧ (0 : Int) = to 13 ∧ (0 : Int) = to 14 ∧ (0 : Int) = to 15 ∧ (0 : Int) = to 16 ∧ (0 : Int) = to 17 ∧ (0 : Int) = to 18 ∧ (0 : Int) = to 19 ∧ (0 : Int) = to 20 ∧ (0 : Int) = to 21 ∧ (0 : Int) = to 22 ∧ (0 : Int) = to 23 ∧ (0 : Int) = to 24 ∧ (0 : Int) = to 25 ∧ (0 : Int) = to 26 ∧ (0 : Int) = to 27 ∧ (0 : Int) = to 28 ∧ (0 : Int) = to 29 ∧ (0 : Int) = to 30 ∧ (0 : Int) = to 31 ∧ True) ∧ ((0 : Int) = tc ∧ True) ∧ ((0 : Int) = dc ∧ True) ∧ ((ByteArray.mk #[]) = sy ∧ True) ∧ m = 0 ∧ ((0 : Int) = ix ∧ True) ∧ y = 0 ∧ True) ∧ (3 : Int) = e)))) := by kernel_rfl
theorem vc_ldc3 (a : Option Addr) (n cap : Nat) (k : Nat → Nat → Int) (am fe : Nat) (tk : Nat → Int) (hm : Int) (to : Nat → Int) (tc dc : Int) (sy : ByteArray) (m : Nat) (dk : Nat → Nat → Int) (ix : Int) (y : Nat) (kk : Nat → Nat → Int) (z e : Int) :
    OwesQ Try.prog cxLd3 [] [] [] 30 Try.f17 [.sc (.xs a n cap 1 (kdF 3 k))] false [.st [.k (.c (.val (.int .i64 z))), .k (.u am), .k (.u fe), .k (.f .u8 32 tk), .k (.c (.val (.int .i64 hm))), .k (.f .u8 32 to), .k (.c (.val (.int .i64 tc))), .k (.c (.val (.int .i64 dc))), .k (.c (.val (.string sy))), .s m 1 (u8F dk), .k (.c (.val (.int .i64 ix))), .s y 20 (u8F kk)], .v (sI .i64 e)] =
    (let x1 : Nat := am % M256; let x2 : Nat := fe % M256; let x3 : Nat := n - 1; let x4 : Nat := x3.min 32; let x5 : Int := (↑x4 : Int); let x6 : Int := (↑x3 : Int); let x7 : Nat := x5.toNat; let x8 : Nat := x3 - x7; let x9 : Nat := x8.min 32; let x10 : Int := (↑x9 : Int); let x11 : Int := (↑x8 : Int); let x12 : Nat := x10.toNat; let x13 : Nat := x8 - x12; let x14 : Nat := x13.min 2; let x15 : Int := (↑x14 : Int); let x16 : Int := (↑x13 : Int); let x17 : Nat := x15.toNat; let x18 : Nat := x13 - x17; let x19 : Nat := x18.min 32; let x20 : Int := (↑x19 : Int); let x21 : Int := (↑x18 : Int); let x22 : Nat := x20.toNat; let x23 : Nat := x18 - x22; let x24 : Nat := x23.min 2; let x25 : Int := (↑x24 : Int); let x26 : Int := (↑x23 : Int); let x27 : Nat := x25.toNat; let x28 : Nat := x23 - x27; let x29 : Nat := x28.min 32; let x30 : Int := (↑x29 : Int); let x31 : Int := (↑x28 : Int); let x32 : Int := if x6 < (132 : Int) then x6 else (132 : Int); let x33 : Nat := x32.toNat; let x34 : Nat := x3 - x33; let x35 : Int := (↑x34 : Int); let x36 : Int := Go.IntKind.i64.wrap ((132 : Int) + x35); let x37 : Int := Go.IntKind.i64.wrap (Go.IntKind.u64.wrap (↑(BitVec.ofInt 64 (Go.IntKind.u64.wrap (Go.IntKind.u64.wrap (↑(BitVec.ofInt 64 (0 : Int) ||| BitVec.ofInt 64 (Go.IntKind.u64.wrap (if 0 < x14 then intsC (kdF (3 : Int) k (1 + (x7 + (x12 + 0))) 0) else (0 : Int)))).toNat : Int) * (256 : Int))) ||| BitVec.ofInt 64 (Go.IntKind.u64.wrap (if 1 < x14 then k (1 + (x7 + (x12 + 1))) 0 else (0 : Int)))).toNat : Int)); let x38 : Bool := Decidable.decide ((0 : Int) ≤ x37) && Decidable.decide (x37 ≤ (65535 : Int)); let x39 : Int := Go.IntKind.i64.wrap (Go.IntKind.u64.wrap (↑(BitVec.ofInt 64 (Go.IntKind.u64.wrap (Go.IntKind.u64.wrap (↑(BitVec.ofInt 64 (0 : Int) ||| BitVec.ofInt 64 (Go.IntKind.u64.wrap (if 0 < x24 then intsC (kdF (3 : Int) k (1 + (x7 + (x12 + (x17 + (x22 + 0))))) 0) else (0 : Int)))).toNat : Int) * (256 : Int))) ||| BitVec.ofInt 64 (Go.IntKind.u64.wrap (if 1 < x24 then k (1 + (x7 + (x12 + (x17 + (x22 + 1))))) 0 else (0 : Int)))).toNat : Int)); let x40 : Bool := x38 && (Decidable.decide ((0 : Int) ≤ x39) && Decidable.decide (x39 ≤ (65535 : Int))); let x41 : Nat := fromN (fun (j : Nat) => if j < x29 then intsC (kdF (3 : Int) k (1 + (x7 + (x12 + (x17 + (x22 + (x27 + j)))))) 0) else (0 : Int)) 32; let x42 : Nat := fromN (fun (j : Nat) => if j < x4 then intsC (kdF (3 : Int) k (1 + j) 0) else (0 : Int)) 32; let x43 : Int := cmpN x41 x42; let x44 : Bool := x40 && Decidable.decide (x43 ≤ (0 : Int)); let x45 : Nat := 0 + x34; (((↑n : Int) == (0 : Int)) = Bool.true → (((0 : Int) = z ∧ True) ∧ (0 = x1 ∧ True) ∧ (0 = x2 ∧ True) ∧ ((0 : Int) = tk 0 ∧ (0 : Int) = tk 1 ∧ (0 : Int) = tk 2 ∧ (0 : Int) = tk 3 ∧ (0 : Int) = tk 4 ∧ (0 : Int) = tk 5 ∧ (0 : Int) = tk 6 ∧ (0 : Int) = tk 7 ∧ (0 : Int) = tk 8 ∧ (0 : Int) = tk 9 ∧ (0 : Int) = tk 10 ∧ (0 : Int) = tk 11 ∧ (0 : Int) = tk 12 ∧ (0 : Int) = tk 13 ∧ (0 : Int) = tk 14 ∧ (0 : Int) = tk 15 ∧ (0 : Int) = tk 16 ∧ (0 : Int) = tk 17 ∧ (0 : Int) = tk 18 ∧ (0 : Int) = tk 19 ∧ (0 : Int) = tk 20 ∧ (0 : Int) = tk 21 ∧ (0 : Int) = tk 22 ∧ (0 : Int) = tk 23 ∧ (0 : Int) = tk 24 ∧ (0 : Int) = tk 25 ∧ (0 : Int) = tk 26 ∧ (0 : Int) = tk 27 ∧ (0 : Int) = tk 28 ∧ (0 : Int) = tk 29 ∧ (0 : Int) = tk 30 ∧ (0 : Int) = tk 31 ∧ True) ∧ ((0 : Int) = hm ∧ True) ∧ ((0 : Int) = to 0 ∧ (0 : Int) = to 1 ∧ (0 : Int) = to 2 ∧ (0 : Int) = to 3 ∧ (0 : Int) = to 4 ∧ (0 : Int) = to 5 ∧ (0 : Int) = to 6 ∧ (0 : Int) = to 7 ∧ (0 : Int) = to 8 ∧ (0 : Int) = to 9 ∧ (0 : Int) = to 10 ∧ (0 : Int) = to 11 ∧ (0 : Int) = to 12 ∧ (0 : Int) = to 13 ∧ (0 : Int) = to 14 ∧ (0 : Int) = to 15 ∧ (0 : Int) = to 16 ∧ (0 : Int) = to 17 ∧ (0 : Int) = to 18 ∧ (0 : Int) = to 19 ∧ (0 : Int) = to 20 ∧ (0 : Int) = to 21 ∧ (0 : Int) = to 22 ∧ (0 : Int) = to 23 ∧ (0 : Int) = to 24 ∧ (0 : Int) = to 25 ∧ (0 : Int) = to 26 ∧ (0 : Int) = to 27 ∧ (0 : Int) = to 28 ∧ (0 : Int) = to 29 ∧ (0 : Int) = to 30 ∧ (0 : Int) = to 31 ∧ True) ∧ ((0 : Int) = tc ∧ True) ∧ ((0 : Int) = dc ∧ True) ∧ ((ByteArray.mk #[]) = sy ∧ True) ∧ m = 0 ∧ ((0 : Int) = ix ∧ True) ∧ y = 0 ∧ True) ∧ (4 : Int) = e) ∧ (((↑n : Int) == (0 : Int)) = Bool.false → ((0 : Int) ≤ (0 : Int) ∧ (0 : Int) < (↑n : Int)) ∧ ((0 : Int) ≤ (1 : Int) ∧ (1 : Int) ≤ (↑n : Int) ∧ (↑n : Int) ≤ (↑n : Int)) ∧ (∀ (j : Nat), Option.rec False (fun (val : Go.IntKind × Int) => Prod.casesOn val fun (fst : Go.IntKind) (_ : Int) => if Go.IntKind.u8 = fst then True else False) (asI (SA.sc (kdF (3 : Int) k (1 + j) 0)))) ∧ ((0 : Int) ≤ x5 ∧ x5 ≤ x6 ∧ x6 ≤ x6) ∧ (∀ (j : Nat), j < 32 → ((0 : Int) ≤ if j < x4 then intsC (kdF (3 : Int) k (1 + j) 0) else (0 : Int)) ∧ (if j < x4 then intsC (kdF (3 : Int) k (1 + j) 0) else (0 : Int)) < (256 : Int)) ∧ (∀ (j : Nat), Option.rec False (fun (val : Go.IntKind × Int) => Prod.casesOn val fun (fst : Go.IntKind) (_ : Int) => if Go.IntKind.u8 = fst then True else False) (asI (SA.sc (kdF (3 : Int) k (1 + (x7 + j)) 0)))) ∧ ((0 : Int) ≤ x10 ∧ x10 ≤ x11 ∧ x11 ≤ x11) ∧ (∀ (j : Nat), Option.rec False (fun (val : Go.IntKind × Int) => Prod.casesOn val fun (fst : Go.IntKind) (_ : Int) => if Go.IntKind.u8 = fst then True else False) (asI (SA.sc (kdF (3 : Int) k (1 + (x7 + (x12 + j))) 0)))) ∧ ((0 : Int) ≤ x15 ∧ x15 ≤ x16 ∧ x16 ≤ x16) ∧ (∀ (j : Nat), Option.rec False (fun (val : Go.IntKind × Int) => Prod.casesOn val fun (fst : Go.IntKind) (_ : Int) => if Go.IntKind.u8 = fst then True else False) (asI (SA.sc (kdF (3 : Int) k (1 + (x7 + (x12 + (x17 + j)))) 0)))) ∧ ((0 : Int) ≤ x20 ∧ x20 ≤ x21 ∧ x21 ≤ x21) ∧ (∀ (j : Nat), Option.rec False (fun (val : Go.IntKind × Int) => Prod.casesOn val fun (fst : Go.IntKind) (_ : Int) => if Go.IntKind.u8 = fst then True else False) (asI (SA.sc (kdF (3 : Int) k (1 + (x7 + (x12 + (x17 + (x22 + j))))) 0)))) ∧ ((0 : Int) ≤ x25 ∧ x25 ≤ x26 ∧ x26 ≤ x26) ∧ (∀ (j : Nat), Option.rec False (fun (val : Go.IntKind × Int) => Prod.casesOn val fun (fst : Go.IntKind) (_ : Int) => if Go.IntKind.u8 = fst then True else False) (asI (SA.sc (kdF (3 : Int) k (1 + (x7 + (x12 + (x17 + (x22 + (x27 + j)))))) 0)))) ∧ ((0 : Int) ≤ x30 ∧ x30 ≤ x31 ∧ x31 ≤ x31) ∧ (∀ (j : Nat), j < 32 → ((0 : Int) ≤ if j < x29 then intsC (kdF (3 : Int) k (1 + (x7 + (x12 + (x17 + (x22 + (x27 + j)))))) 0) else (0 : Int)) ∧ (if j < x29 then intsC (kdF (3 : Int) k (1 + (x7 + (x12 + (x17 + (x22 + (x27 + j)))))) 0) else (0 : Int)) < (256 : Int)) ∧ ((0 : Int) ≤ x32 ∧ x32 ≤ x6 ∧ x6 ≤ x6) ∧ (Decidable.decide (x6 < x36) = Bool.true → (((0 : Int) = z ∧ True) ∧ (0 = x1 ∧ True) ∧ (0 = x2 ∧ True) ∧ ((0 : Int) = tk 0 ∧ (0 : Int) = tk 1 ∧ (0 : Int) = tk 2 ∧ (0 : Int) = tk 3 ∧ (0 : Int) = tk 4 ∧ (0 : Int) = tk 5 ∧ (0 : Int) = tk 6 ∧ (0 : Int) = tk 7 ∧ (0 : Int) = tk 8 ∧ (0 : Int) = tk 9 ∧ (0 : Int) = tk 10 ∧ (0 : Int) = tk 11 ∧ (0 : Int) = tk 12 ∧ (0 : Int) = tk 13 ∧ (0 : Int) = tk 14 ∧ (0 : Int) = tk 15 ∧ (0 : Int) = tk 16 ∧ (0 : Int) = tk 17 ∧ (0 : Int) = tk 18 ∧ (0 : Int) = tk 19 ∧ (0 : Int) = tk 20 ∧ (0 : Int) = tk 21 ∧ (0 : Int) = tk 22 ∧ (0 : Int) = tk 23 ∧ (0 : Int) = tk 24 ∧ (0 : Int) = tk 25 ∧ (0 : Int) = tk 26 ∧ (0 : Int) = tk 27 ∧ (0 : Int) = tk 28 ∧ (0 : Int) = tk 29 ∧ (0 : Int) = tk 30 ∧ (0 : Int) = tk 31 ∧ True) ∧ ((0 : Int) = hm ∧ True) ∧ ((0 : Int) = to 0 ∧ (0 : Int) = to 1 ∧ (0 : Int) = to 2 ∧ (0 : Int) = to 3 ∧ (0 : Int) = to 4 ∧ (0 : Int) = to 5 ∧ (0 : Int) = to 6 ∧ (0 : Int) = to 7 ∧ (0 : Int) = to 8 ∧ (0 : Int) = to 9 ∧ (0 : Int) = to 10 ∧ (0 : Int) = to 11 ∧ (0 : Int) = to 12 ∧ (0 : Int) = to 13 ∧ (0 : Int) = to 14 ∧ (0 : Int) = to 15 ∧ (0 : Int) = to 16 ∧ (0 : Int) = to 17 ∧ (0 : Int) = to 18 ∧ (0 : Int) = to 19 ∧ (0 : Int) = to 20 ∧ (0 : Int) = to 21 ∧ (0 : Int) = to 22 ∧ (0 : Int) = to 23 ∧ (0 : Int) = to 24 ∧ (0 : Int) = to 25 ∧ (0 : Int) = to 26 ∧ (0 : Int) = to 27 ∧ (0 : Int) = to 28 ∧ (0 : Int) = to 29 ∧ (0 : Int) = to 30 ∧ (0 : Int) = to 31 ∧ True) ∧ ((0 : Int) = tc ∧ True) ∧ ((0 : Int) = dc ∧ True) ∧ ((ByteArray.mk #[]) = sy ∧ True) ∧ m = 0 ∧ ((0 : Int) = ix ∧ True) ∧ y = 0 ∧ True) ∧ (4 : Int) = e) ∧ (Decidable.decide (x6 < x36) = Bool.false → ((!Decidable.decide (x6 > x36)) = Bool.true → (!Decidable.decide (x6 > x36)) = Bool.true ∧ (x38 = Bool.true → x38 = Bool.true) ∧ (x38 = Bool.true → x38 = Bool.true) ∧ (x38 = Bool.true → x38 = Bool.true) ∧ (x38 = Bool.true → x38 = Bool.true) ∧ (x38 = Bool.true → x38 = Bool.true) ∧ (x40 = Bool.true → x40 = Bool.true) ∧ (x40 = Bool.true → x40 = Bool.true) ∧ (x40 = Bool.true → x40 = Bool.true) ∧ (x40 = Bool.true → x40 = Bool.true) ∧ (x40 = Bool.true → x40 = Bool.true) ∧ (x40 = Bool.true → x40 = Bool.true) ∧ (x40 = Bool.true → x40 = Bool.true) ∧ (x40 = Bool.true → x40 = Bool.true) ∧ (x40 = Bool.true → x40 = Bool.true) ∧ (x40 = Bool.true → x40 = Bool.true) ∧ (x44 = Bool.true → x44 = Bool.true) ∧ (x44 = Bool.true → x44 = Bool.true) ∧ (x44 = Bool.true → x44 = Bool.true) ∧ (x44 = Bool.true → x44 = Bool.true) ∧ (x44 = Bool.true → x44 = Bool.true) ∧ (x44 = Bool.true → x44 = Bool.true) ∧ ((!(x44 && Decidable.decide (x35 ≤ (100 : Int)))) = Bool.true → (((0 : Int) = z ∧ True) ∧ (0 = x1 ∧ True) ∧ (0 = x2 ∧ True) ∧ ((0 : Int) = tk 0 ∧ (0 : Int) = tk 1 ∧ (0 : Int) = tk 2 ∧ (0 : Int) = tk 3 ∧ (0 : Int) = tk 4 ∧ (0 : Int) = tk 5 ∧ (0 : Int) = tk 6 ∧ (0 : Int) = tk 7 ∧ (0 : Int) = tk 8 ∧ (0 : Int) = tk 9 ∧ (0 : Int) = tk 10 ∧ (0 : Int) = tk 11 ∧ (0 : Int) = tk 12 ∧ (0 : Int) = tk 13 ∧ (0 : Int) = tk 14 ∧ (0 : Int) = tk 15 ∧ (0 : Int) = tk 16 ∧ (0 : Int) = tk 17 ∧ (0 : Int) = tk 18 ∧ (0 : Int) = tk 19 ∧ (0 : Int) = tk 20 ∧ (0 : Int) = tk 21 ∧ (0 : Int) = tk 22 ∧ (0 : Int) = tk 23 ∧ (0 : Int) = tk 24 ∧ (0 : Int) = tk 25 ∧ (0 : Int) = tk 26 ∧ (0 : Int) = tk 27 ∧ (0 : Int) = tk 28 ∧ (0 : Int) = tk 29 ∧ (0 : Int) = tk 30 ∧ (0 : Int) = tk 31 ∧ True) ∧ ((0 : Int) = hm ∧ True) ∧ ((0 : Int) = to 0 ∧ (0 : Int) = to 1 ∧ (0 : Int) = to 2 ∧ (0 : Int) = to 3 ∧ (0 : Int) = to 4 ∧ (0 : Int) = to 5 ∧ (0 : Int) = to 6 ∧ (0 : Int) = to 7 ∧ (0 : Int) = to 8 ∧ (0 : Int) = to 9 ∧ (0 : Int) = to 10 ∧ (0 : Int) = to 11 ∧ (0 : Int) = to 12 ∧ (0 : Int) = to 13 ∧ (0 : Int) = to 14 ∧ (0 : Int) = to 15 ∧ (0 : Int) = to 16 ∧ (0 : Int) = to 17 ∧ (0 : Int) = to 18 ∧ (0 : Int) = to 19 ∧ (0 : Int) = to 20 ∧ (0 : Int) = to 21 ∧ (0 : Int) = to 22 ∧ (0 : Int) = to 23 ∧ (0 : Int) = to 24 ∧ (0 : Int) = to 25 ∧ (0 : Int) = to 26 ∧ (0 : Int) = to 27 ∧ (0 : Int) = to 28 ∧ (0 : Int) = to 29 ∧ (0 : Int) = to 30 ∧ (0 : Int) = to 31 ∧ True) ∧ ((0 : Int) = tc ∧ True) ∧ ((0 : Int) = dc ∧ True) ∧ ((ByteArray.mk #[]) = sy ∧ True) ∧ m = 0 ∧ ((0 : Int) = ix ∧ True) ∧ y = 0 ∧ True) ∧ (3 : Int) = e) ∧ ((!(x44 && Decidable.decide (x35 ≤ (100 : Int)))) = Bool.false → ((adS (cap - 1) x33 1 (adS cap 1 1 a)).isNone = Bool.true → (((3 : Int) = z ∧ True) ∧ (x42 % M256 = x1 ∧ True) ∧ (x41 % M256 = x2 ∧ True) ∧ ((∀ (j : Nat), j < 32 → (if j < x9 then intsC (kdF (3 : Int) k (1 + (x7 + j)) 0) else (0 : Int)) = tk j) ∧ True) ∧ (x37 = hm ∧ True) ∧ ((∀ (j : Nat), j < 32 → (if j < x19 then intsC (kdF (3 : Int) k (1 + (x7 + (x12 + (x17 + j)))) 0) else (0 : Int)) = to j) ∧ True) ∧ (x39 = tc ∧ True) ∧ ((0 : Int) = dc ∧ True) ∧ ((ByteArray.mk #[]) = sy ∧ True) ∧ m = 0 ∧ ((0 : Int) = ix ∧ True) ∧ y = 0 ∧ True) ∧ (0 : Int) = e) ∧ ((adS (cap - 1) x33 1 (adS cap 1 1 a)).isNone = Bool.false → (0 ≤ 0 ∧ 0 ≤ Go.maxLen ∧ 0 = 0) ∧ (x45 ≤ Go.maxLen ∧ x45 * 1 ≤ 140737488355328) ∧ ∀ (c : Nat), x45 + c ≤ Go.maxLen → (((3 : Int) = z ∧ True) ∧ (x42 % M256 = x1 ∧ True) ∧ (x41 % M256 = x2 ∧ True) ∧ ((∀ (j : Nat), j < 32 → (if j < x9 then intsC (kdF (3 : Int) k (1 + (x7 + j)) 0) else (0 : Int)) = tk j) ∧ True) ∧ (x37 = hm ∧ True) ∧ ((∀ (j : Nat), j < 32 → (if j < x19 then intsC (kdF (3 : Int) k (1 + (x7 + (x12 + (x17 + j)))) 0) else (0 : Int)) = to j) ∧ True) ∧ (x39 = tc ∧ True) ∧ ((0 : Int) = dc ∧ True) ∧ ((ByteArray.mk #[]) = sy ∧ True) ∧ (0 + x45 ≤ x45 ∧ x45 = m ∧ x45 ≤ x45 + c ∧ ∀ (i : Nat), i < m → (SC.brecOn.go (motive := fun (_ : SC) => SC → Prop) (selC (Decidable.decide (0 + i < 0)) (fixAt (flat []) 1 0 0 (0 + i) 0) (kdF (3 : Int) k (1 + (x33 + (0 + i - 0))) 0)) simC._f).1 (u8F dk i 0)) ∧ ((0 : Int) = ix ∧ True) ∧ y = 0 ∧ True) ∧ (0 : Int) = e))) ∧ ((!Decidable.decide (x6 > x36)) = Bool.false → (((0 : Int) = z ∧ True) ∧ (0 = x1 ∧ True) ∧ (0 = x2 ∧ True) ∧ ((0 : Int) = tk 0 ∧ (0 : Int) = tk 1 ∧ (0 : Int) = tk 2 ∧ (0 : Int) = tk 3 ∧ (0 : Int) = tk 4 ∧ (0 : Int) = tk 5 ∧ (0 : Int) = tk 6 ∧ (0 : Int) = tk 7 ∧ (0 : Int) = tk 8 ∧ (0 : Int) = tk 9 ∧ (0 : Int) = tk 10 ∧ (0 : Int) = tk 11 ∧ (0 : Int) = tk 12 ∧ (0 : Int) = tk 13 ∧ (0 : Int) = tk 14 ∧ (0 : Int) = tk 15 ∧ (0 : Int) = tk 16 ∧ (0 : Int) = tk 17 ∧ (0 : Int) = tk 18 ∧ (0 : Int) = tk 19 ∧ (0 : Int) = tk 20 ∧ (0 : Int) = tk 21 ∧ (0 : Int) = tk 22 ∧ (0 : Int) = tk 23 ∧ (0 : Int) = tk 24 ∧ (0 : Int) = tk 25 ∧ (0 : Int) = tk 26 ∧ (0 : Int) = tk 27 ∧ (0 : Int) = tk 28 ∧ (0 : Int) = tk 29 ∧ (0 : Int) = tk 30 ∧ (0 : Int) = tk 31 ∧ True) ∧ ((0 : Int) = hm ∧ True) ∧ ((0 : Int) = to 0 ∧ (0 : Int) = to 1 ∧ (0 : Int) = to 2 ∧ (0 : Int) = to 3 ∧ (0 : Int) = to 4 ∧ (0 : Int) = to 5 ∧ (0 : Int) = to 6 ∧ (0 : Int) = to 7 ∧ (0 : Int) = to 8 ∧ (0 : Int) = to 9 ∧ (0 : Int) = to 10 ∧ (0 : Int) = to 11 ∧ (0 : Int) = to 12 ∧ (0 : Int) = to 13 ∧ (0 : Int) = to 14 ∧ (0 : Int) = to 15 ∧ (0 : Int) = to 16 ∧ (0 : Int) = to 17 ∧ (0 : Int) = to 18 ∧ (0 : Int) = to 19 ∧ (0 : Int) = to 20 ∧ (0 : Int) = to 21 ∧ (0 : Int) = to 22 ∧ (0 : Int) = to 23 ∧ (0 : Int) = to 24 ∧ (0 : Int) = to 25 ∧ (0 : Int) = to 26 ∧ (0 : Int) = to 27 ∧ (0 : Int) = to 28 ∧ (0 : Int) = to 29 ∧ (0 : Int) = to 30 ∧ (0 : Int) = to 31 ∧ True) ∧ ((0 : Int) = tc ∧ True) ∧ ((0 : Int) = dc ∧ True) ∧ ((ByteArray.mk #[]) = sy ∧ True) ∧ m = 0 ∧ ((0 : Int) = ix ∧ True) ∧ y = 0 ∧ True) ∧ (3 : Int) = e)))) := by kernel_rfl
end Go.Proofs.Ytajfifmlkgojnaa
end

section
namespace Go.Proofs.Ytajfifmlkgojnaa
open Go.Sx
theorem or_add (X b : Int) (hX : 0 ≤ X ∧ X < 72057594037927936) (hb : 0 ≤ b ∧ b < 256) : IntKind.u64.wrap ((BitVec.ofInt 64 (IntKind.u64.wrap (X * 256)) ||| BitVec.ofInt 64 (IntKind.u64.wrap b)).toNat : Int) = X * 256 + b := by
  rw [wrap_id (by omega : 0 ≤ X * 256 ∧ X * 256 < 18446744073709551616), wrap_id (by omega : 0 ≤ b ∧ b < 18446744073709551616)]
  obtain ⟨x, rfl⟩ := Int.eq_ofNat_of_zero_le hX.1
  obtain ⟨c, rfl⟩ := Int.eq_ofNat_of_zero_le hb.1
  have e : (BitVec.ofInt 64 ((x : Int) * 256) ||| BitVec.ofInt 64 (c : Int)).toNat = x * 256 + c := by
    rw [BitVec.toNat_or, show ((x : Int) * 256) = ((x * 256 : Nat) : Int) by rw [Int.natCast_mul]; rfl, BitVec.ofInt_natCast, BitVec.ofInt_natCast, BitVec.toNat_ofNat, BitVec.toNat_ofNat, Nat.mod_eq_of_lt (by omega), Nat.mod_eq_of_lt (by omega)]
    have := Nat.shiftLeft_add_eq_or_of_lt (b := c) (i := 8) (by omega) x
    rw [Nat.shiftLeft_eq] at this
    exact this.symm
  rw [e]
  exact wrap_id (by omega)
theorem or_nil (b : Int) (hb : 0 ≤ b ∧ b < 256) : IntKind.u64.wrap ((BitVec.ofInt 64 0 ||| BitVec.ofInt 64 (IntKind.u64.wrap b)).toNat : Int) = b := by
  have := or_add 0 b (by decide) hb
  rw [show IntKind.u64.wrap (0 * 256) = 0 by decide] at this
  omega
theorem i64_in {x : Int} (h : -9223372036854775808 ≤ x ∧ x ≤ 9223372036854775807) : IntKind.i64.wrap x = x := by rw [IntKind.wrap_i64]; omega
theorem num_1 {a : Int} (ha : 0 ≤ a ∧ a < 256) : IntKind.i64.wrap (IntKind.u64.wrap ((BitVec.ofInt 64 0 ||| BitVec.ofInt 64 (IntKind.u64.wrap a)).toNat : Int)) = a := by
  rw [or_nil a ha]; exact i64_in (by omega)
theorem num_2 {a b : Int} (ha : 0 ≤ a ∧ a < 256) (hb : 0 ≤ b ∧ b < 256) :
    IntKind.i64.wrap (IntKind.u64.wrap ((BitVec.ofInt 64 (IntKind.u64.wrap (IntKind.u64.wrap ((BitVec.ofInt 64 0 ||| BitVec.ofInt 64 (IntKind.u64.wrap a)).toNat : Int) * 256)) ||| BitVec.ofInt 64 (IntKind.u64.wrap b)).toNat : Int)) = a * 256 + b := by
  rw [or_nil a ha, or_add a b (by omega) hb]; exact i64_in (by omega)
theorem num_4 {a b c d : Int} (ha : 0 ≤ a ∧ a < 256) (hb : 0 ≤ b ∧ b < 256) (hc : 0 ≤ c ∧ c < 256) (hd : 0 ≤ d ∧ d < 256) :
    IntKind.i64.wrap (IntKind.u64.wrap ((BitVec.ofInt 64 (IntKind.u64.wrap (IntKind.u64.wrap ((BitVec.ofInt 64 (IntKind.u64.wrap (IntKind.u64.wrap ((BitVec.ofInt 64 (IntKind.u64.wrap (IntKind.u64.wrap ((BitVec.ofInt 64 0 ||| BitVec.ofInt 64 (IntKind.u64.wrap a)).toNat : Int) * 256)) ||| BitVec.ofInt 64 (IntKind.u64.wrap b)).toNat : Int) * 256)) ||| BitVec.ofInt 64 (IntKind.u64.wrap c)).toNat : Int) * 256)) ||| BitVec.ofInt 64 (IntKind.u64.wrap d)).toNat : Int)) = ((a * 256 + b) * 256 + c) * 256 + d := by
  rw [or_nil a ha, or_add a b (by omega) hb, or_add _ c (by omega) hc, or_add _ d (by omega) hd]; exact i64_in (by omega)
theorem from_lt {g : Nat → Int} (h : ∀ i, i < 32 → 0 ≤ g i ∧ g i < 256) : ∀ n, n ≤ 32 → fromN g n < 256 ^ n
  | 0, _ => by rw [fromN, Nat.pow_zero]; exact Nat.one_pos
  | n + 1, hn => by
    have ih := from_lt h n (by omega)
    have := h (31 - n) (by omega)
    rw [fromN, Nat.pow_succ]
    have : 256 ^ n * (g (31 - n)).toNat ≤ 256 ^ n * 255 := Nat.mul_le_mul_left _ (by omega)
    omega
theorem by8_fromN {g : Nat → Int} (h : ∀ i, i < 32 → 0 ≤ g i ∧ g i < 256) {j : Nat} (hj : j < 32) : by8 (fromN g 32) j = g (31 - j) := by
  have key : ∀ n, n ≤ 32 → j < n → fromN g n / 256 ^ j % 256 = (g (31 - j)).toNat := by
    intro n
    induction n with
    | zero => intro _ h; omega
    | succ n ih =>
      intro hn hjn
      rw [fromN]
      rcases Nat.lt_or_ge j n with l | l
      · have e : 256 ^ n = 256 ^ j * (256 * 256 ^ (n - 1 - j)) := by
          rw [← Nat.pow_succ', ← Nat.pow_add]
          congr 1
          omega
        rw [show fromN g n + 256 ^ n * (g (31 - n)).toNat = fromN g n + 256 ^ j * (256 * (256 ^ (n - 1 - j) * (g (31 - n)).toNat)) by rw [e]; simp only [Nat.mul_assoc], Nat.add_mul_div_left _ _ (Nat.pow_pos (by decide)), Nat.add_mul_mod_self_left]
        exact ih (by omega) l
      · have : j = n := by omega
        subst this
        have lt := from_lt h j (by omega)
        rw [Nat.add_mul_div_left _ _ (Nat.pow_pos (by decide)), Nat.div_eq_of_lt lt, Nat.zero_add]
        have := h (31 - j) (by omega)
        omega
  have := key 32 (Nat.le_refl _) hj
  unfold by8
  rw [show 2 ^ (8 * j) = 256 ^ j by rw [Nat.pow_mul], this]
  have := h (31 - j) (by omega)
  omega
end Go.Proofs.Ytajfifmlkgojnaa
end

section
namespace Go.Proofs.Ytajfifmlkgojnaa
open Go.Sx
set_option maxRecDepth 100000
theorem trimN_le (s : ByteArray) : ∀ n, trimN s n ≤ n
  | 0 => Nat.le_refl _
  | n + 1 => by
    unfold trimN
    split
    · have := trimN_le s n; omega
    · exact Nat.le_refl _
theorem ext_size (s : ByteArray) (m : Nat) (h : m ≤ s.size) : (s.extract 0 m).size = m := by
  rw [ByteArray.size_extract]; omega
theorem ext_get (s : ByteArray) (m i : Nat) (h : m ≤ s.size) (hi : i < m) : (s.extract 0 m).data.getD i 0 = s.data.getD i 0 := by
  rw [ByteArray.data_extract, Array.getD_eq_getD_getElem?, Array.getD_eq_getD_getElem?, Array.getElem?_extract]
  have : s.size = s.data.size := rfl
  rw [if_pos (by omega), Nat.zero_add]
theorem ext_ext (s : ByteArray) (m j : Nat) (hj : j ≤ m) : (s.extract 0 m).extract 0 j = s.extract 0 j := by
  apply ByteArray.ext
  simp only [ByteArray.data_extract, Array.extract_extract, Nat.zero_add]
  rw [Nat.min_eq_left hj]
theorem ext_all (s : ByteArray) : s.extract 0 s.size = s := by
  apply ByteArray.ext
  have : s.size = s.data.size := rfl
  rw [ByteArray.data_extract, this, Array.extract_size]
theorem ok_trim (s : ByteArray) (hs : (s.size : Int) ≤ 9223372036854775807) :
    Owes Try.prog Cx.none [(1, .inv (invTrim s))] 12 Try.f91 [sStr s, .sc (.num .u8 0)] (.one (sStr (trimT s))) := by
  rw [vc_trim]
  refine ⟨fun _ => rfl, s.size, ⟨Nat.le_refl _, rfl⟩, (ext_all s).symm, fun m hm => ?_⟩
  obtain ⟨hm, ht⟩ := hm
  rw [ext_size s m hm]
  have hw : 0 < m → IntKind.i64.wrap ((m : Int) - 1) = ((m - 1 : Nat) : Int) := fun h => by rw [IntKind.wrap_i64]; omega
  refine ⟨id, id, id, id, fun h => ?_, id, id, id, fun h => ?_, fun h => ?_⟩
  · have h := of_decide_eq_true h
    rw [hw (by omega)]
    exact ⟨by omega, by omega⟩
  · obtain ⟨h1, h2⟩ := Bool.and_eq_true_iff.1 h
    have h1 := of_decide_eq_true h1
    have h0 : 0 < m := by omega
    rw [hw h0] at h2 ⊢
    rw [Int.toNat_natCast] at h2 ⊢
    rw [ext_get s m (m - 1) hm (by omega)] at h2
    have h2 := eq_of_beq h2
    refine ⟨⟨by omega, by omega, by omega⟩, m - 1, ⟨by omega, ?_⟩, ext_ext s m (m - 1) (by omega), by show m - 1 + 1 ≤ m; omega⟩
    rw [← ht]
    obtain ⟨j, rfl⟩ : ∃ j, m = j + 1 := ⟨m - 1, by omega⟩
    show trimN s j = trimN s (j + 1)
    have e : trimN s (j + 1) = if ((s.data.getD j 0).toNat : Int) = 0 then trimN s j else j + 1 := rfl
    rw [Nat.add_sub_cancel] at h2
    rw [e, if_pos h2]
  · unfold trimT
    rw [← ht]
    by_cases h0 : m = 0
    · subst h0; rfl
    · obtain ⟨j, rfl⟩ : ∃ j, m = j + 1 := ⟨m - 1, by omega⟩
      rw [hw (by omega), Int.toNat_natCast] at h
      have e : trimN s (j + 1) = if ((s.data.getD j 0).toNat : Int) = 0 then trimN s j else j + 1 := rfl
      rcases Bool.and_eq_false_iff.1 h with h | h
      · exact absurd (of_decide_eq_false h) (by omega)
      · rw [show j + 1 - 1 = j by omega, ext_get s (j + 1) j hm (by omega)] at h
        have h : ((s.data.getD j 0).toNat : Int) ≠ 0 := fun x => by rw [x] at h; exact absurd h (by decide)
        rw [e, if_neg h]
theorem card_trim : FnOK Try.prog 91 specTrim := by
  refine FnOK_owesG (cx := Cx.none) pcx_none Try.func91 (by kernel_rfl) (by kernel_rfl) fun args ps sv hs hp => ?_
  unfold specTrim at hs
  split at hs
  · rename_i s y
    split at hs
    · rename_i hc
      simp only [Option.some.injEq, Prod.mk.injEq] at hs
      obtain ⟨rfl, rfl⟩ := hs
      refine ⟨_, _, [.sc (.val (.string s)), .sc (.num .u8 0)], fun ρ => ?_, ?_, trivial, ok_trim s hp.1⟩
      · show [SA.conc ρ _, SA.conc ρ y] = [_, _]
        rw [asI_sound hc ρ]; rfl
      · intro fz _ x hx
        rcases List.mem_cons.1 hx with rfl | hx
        · exact trivial
        · rw [List.mem_singleton.1 hx]; exact trivial
    · cases hs
  · cases hs
theorem kdF_1 (z : Int) (k : Nat → Nat → Int) (p c : Nat) : kdF z k (1 + p) c = .val (.int .u8 (k (1 + p) c)) := by
  unfold kdF
  rw [show Nat.ble 1 (1 + p) = true from Nat.ble_eq_true_of_le (by omega)]
theorem intsC_u8 (v : Int) : intsC (.val (.int .u8 v)) = v := rfl
end Go.Proofs.Ytajfifmlkgojnaa
end

section
namespace Go.Proofs.Ytajfifmlkgojnaa
open Go.Sx
set_option maxRecDepth 100000
def n2 (F : Nat → Int) (o : Nat) : Int := F o * 256 + F (o + 1)
def n4 (F : Nat → Int) (o : Nat) : Int := ((F o * 256 + F (o + 1)) * 256 + F (o + 2)) * 256 + F (o + 3)
def zI (e x : Int) : Int := if e = 0 then x else 0
def zN (e : Int) (x : Nat) : Nat := if e = 0 then x else 0
def zT (e : Int) (t : ByteArray) : ByteArray := if e = 0 then t else ⟨#[]⟩
theorem zI_4 (v : Int) : zI 4 v = 0 := if_neg (by decide)
theorem zN_4 (v : Nat) : zN 4 v = 0 := if_neg (by decide)
theorem zT_4 (v : ByteArray) : zT 4 v = ⟨#[]⟩ := if_neg (by decide)
theorem zI_3 (v : Int) : zI 3 v = 0 := if_neg (by decide)
theorem zN_3 (v : Nat) : zN 3 v = 0 := if_neg (by decide)
theorem zT_3 (v : ByteArray) : zT 3 v = ⟨#[]⟩ := if_neg (by decide)
theorem zI_0 (v : Int) : zI 0 v = v := if_pos rfl
theorem zN_0 (v : Nat) : zN 0 v = v := if_pos rfl
theorem zT_0 (v : ByteArray) : zT 0 v = v := if_pos rfl
def dAm (F : Nat → Int) : Nat := fromN (fun j => F (1 + j)) 32
def dFe (F : Nat → Int) : Nat := fromN (fun j => F (101 + j)) 32
def rdE1 (n : Nat) (F : Nat → Int) : Int := if n < 133 then 4 else if n = 133 ∧ cmpN (dFe F) (dAm F) ≤ 0 then 0 else 3
theorem fromN_congr {g g' : Nat → Int} (h : ∀ j, j < 32 → g j = g' j) : ∀ n, fromN g n = fromN g' n
  | 0 => rfl
  | n + 1 => by
    unfold fromN
    rw [fromN_congr h n, h (31 - n) (by omega)]
theorem kdF_u8 (z : Int) (k : Nat → Nat → Int) (p : Nat) : asI (SA.sc (kdF z k (1 + p) 0)) = some (.u8, k (1 + p) 0) := by
  rw [kdF_1]; rfl
theorem two_in {F : Nat → Int} {o : Nat} (h0 : 0 ≤ F o ∧ F o < 256) (h1 : 0 ≤ F (o + 1) ∧ F (o + 1) < 256) : (decide (0 ≤ n2 F o) && decide (n2 F o ≤ 65535)) = true := by
  unfold n2
  rw [Bool.and_eq_true_iff]
  exact ⟨decide_eq_true (by omega), decide_eq_true (by omega)⟩
theorem kd_if {z : Int} {k : Nat → Nat → Int} {F : Nat → Int} (hF : ∀ i, k i 0 = F i) {p j m q : Nat} (hj : j < m) (hq : 1 + p = q) : (if j < m then intsC (kdF z k (1 + p) 0) else 0) = F q := by
  rw [if_pos hj, kdF_1, hq]
  exact hF q
theorem kd_if' {k : Nat → Nat → Int} {F : Nat → Int} (hF : ∀ i, k i 0 = F i) {p j m q : Nat} (hj : j < m) (hq : p = q) : (if j < m then k p 0 else 0) = F q := by
  rw [if_pos hj, hq]
  exact hF q
theorem kd_byte {z : Int} {k : Nat → Nat → Int} {n : Nat} (hk : ∀ i, i < n → 0 ≤ k i 0 ∧ k i 0 < 256) {p j m : Nat} (hj : j < m → 1 + p < n) : 0 ≤ (if j < m then intsC (kdF z k (1 + p) 0) else 0) ∧ (if j < m then intsC (kdF z k (1 + p) 0) else 0) < 256 := by
  by_cases h : j < m
  · rw [if_pos h, kdF_1]
    exact hk _ (hj h)
  · rw [if_neg h]
    exact ⟨by omega, by omega⟩
set_option maxHeartbeats 400000 in
theorem ok_ldc1 (a : Option Addr) (n cap : Nat) (k : Nat → Nat → Int) (hk : ∀ i, i < n → 0 ≤ k i 0 ∧ k i 0 < 256) (F : Nat → Int) (hF : ∀ i, k i 0 = F i) (dk kk : Nat → Nat → Int) (h0 : 0 < n) :
    OwesQ Try.prog cxLd [] [] [] 30 Try.f17 [.sc (.xs a n cap 1 (kdF 1 k))] false
      [.st [.k (.c (.val (.int .i64 (zI (rdE1 n F) 1)))), .k (.u (zN (rdE1 n F) (dAm F))), .k (.u (zN (rdE1 n F) (dFe F))), .k (.f .u8 32 (fun j => zI (rdE1 n F) (F (33 + j)))), .k (.c (.val (.int .i64 (zI (rdE1 n F) (n2 F 65))))), .k (.f .u8 32 (fun j => zI (rdE1 n F) (F (67 + j)))), .k (.c (.val (.int .i64 (zI (rdE1 n F) (n2 F 99))))), .k (.c (.val (.int .i64 0))), .k (.c (.val (.string ⟨#[]⟩))), .s 0 1 (u8F dk), .k (.c (.val (.int .i64 0))), .s 0 20 (u8F kk)], .v (sI .i64 (rdE1 n F))] := by
  rw [vc_ldc1]
  intro x1 x2 x3 x4 x5 x6 x7 x8 x9 x10 x11 x12 x13 x14 x15 x16 x17 x18 x19 x20 x21 x22 x23 x24 x25 x26 x27 x28 x29 x30 x31 x32 x33 x34 x35 x36 x37 x38
  have hx1 : x1 = zN (rdE1 n F) (dAm F) % M256 := rfl
  have hx2 : x2 = zN (rdE1 n F) (dFe F) % M256 := rfl
  have e3 : x3 = n - 1 := rfl
  have l4 : x4 ≤ x3 := Nat.min_le_left _ _
  have f4 : 32 ≤ x3 → x4 = 32 := fun h => Nat.min_eq_right h
  have i4 : x5 = (x4 : Int) := rfl
  have j4 : x6 = (x3 : Int) := rfl
  have t4 : x7 = x4 := Int.toNat_natCast _
  have d4 : x7 + x8 = x3 := Nat.add_sub_cancel' (by rw [t4]; exact l4)
  have l9 : x9 ≤ x8 := Nat.min_le_left _ _
  have f9 : 32 ≤ x8 → x9 = 32 := fun h => Nat.min_eq_right h
  have i9 : x10 = (x9 : Int) := rfl
  have j9 : x11 = (x8 : Int) := rfl
  have t9 : x12 = x9 := Int.toNat_natCast _
  have d9 : x12 + x13 = x8 := Nat.add_sub_cancel' (by rw [t9]; exact l9)
  have l14 : x14 ≤ x13 := Nat.min_le_left _ _
  have f14 : 2 ≤ x13 → x14 = 2 := fun h => Nat.min_eq_right h
  have i14 : x15 = (x14 : Int) := rfl
  have j14 : x16 = (x13 : Int) := rfl
  have t14 : x17 = x14 := Int.toNat_natCast _
  have d14 : x17 + x18 = x13 := Nat.add_sub_cancel' (by rw [t14]; exact l14)
  have l19 : x19 ≤ x18 := Nat.min_le_left _ _
  have f19 : 32 ≤ x18 → x19 = 32 := fun h => Nat.min_eq_right h
  have i19 : x20 = (x19 : Int) := rfl
  have j19 : x21 = (x18 : Int) := rfl
  have t19 : x22 = x19 := Int.toNat_natCast _
  have d19 : x22 + x23 = x18 := Nat.add_sub_cancel' (by rw [t19]; exact l19)
  have l24 : x24 ≤ x23 := Nat.min_le_left _ _
  have f24 : 2 ≤ x23 → x24 = 2 := fun h => Nat.min_eq_right h
  have i24 : x25 = (x24 : Int) := rfl
  have j24 : x26 = (x23 : Int) := rfl
  have t24 : x27 = x24 := Int.toNat_natCast _
  have d24 : x27 + x28 = x23 := Nat.add_sub_cancel' (by rw [t24]; exact l24)
  have l29 : x29 ≤ x28 := Nat.min_le_left _ _
  have f29 : 32 ≤ x28 → x29 = 32 := fun h => Nat.min_eq_right h
  have i29 : x30 = (x29 : Int) := rfl
  have j29 : x31 = (x28 : Int) := rfl
  have G : ∀ _ : Unit, 133 ≤ n → x4 = 32 ∧ x7 = 32 ∧ x8 = n - 33 ∧ x9 = 32 ∧ x12 = 32 ∧ x13 = n - 65 ∧ x14 = 2 ∧ x17 = 2 ∧ x18 = n - 67 ∧ x19 = 32 ∧ x22 = 32 ∧ x23 = n - 99 ∧ x24 = 2 ∧ x27 = 2 ∧ x28 = n - 101 ∧ x29 = 32 := fun _ h => by
    have q3 : x3 = n - 1 := e3
    have q4 := f4 (by omega)
    have q8 : x8 = n - 33 := by omega
    have q9 := f9 (by omega)
    have q13 : x13 = n - 65 := by omega
    have q14 := f14 (by omega)
    have q18 : x18 = n - 67 := by omega
    have q19 := f19 (by omega)
    have q23 : x23 = n - 99 := by omega
    have q24 := f24 (by omega)
    have q28 : x28 = n - 101 := by omega
    have q29 := f29 (by omega)
    exact ⟨q4, t4.trans q4, q8, q9, t9.trans q9, q13, q14, t14.trans q14, q18, q19, t19.trans q19, q23, q24, t24.trans q24, q28, q29⟩
  clear f4 f9 f14 f19 f24 f29
  have B : ∀ i, i < n → 0 ≤ F i ∧ F i < 256 := fun i hi => by rw [← hF]; exact hk i hi
  have c32 : ∀ _ : Unit, 133 ≤ n → x32 = n2 F 65 := fun _ h => by
    obtain ⟨q4, q7, q8, q9, q12, q13, q14, q17, q18, q19, q22, q23, q24, q27, q28, q29⟩ := G () h
    show IntKind.i64.wrap (IntKind.u64.wrap _) = _
    rw [kd_if hF (q := 65) (by omega) (by omega), kd_if' hF (q := 66) (by omega) (by omega)]
    exact num_2 (B 65 (by omega)) (B 66 (by omega))
  have c34 : ∀ _ : Unit, 133 ≤ n → x34 = n2 F 99 := fun _ h => by
    obtain ⟨q4, q7, q8, q9, q12, q13, q14, q17, q18, q19, q22, q23, q24, q27, q28, q29⟩ := G () h
    show IntKind.i64.wrap (IntKind.u64.wrap _) = _
    rw [kd_if hF (q := 99) (by omega) (by omega), kd_if' hF (q := 100) (by omega) (by omega)]
    exact num_2 (B 99 (by omega)) (B 100 (by omega))
  have c36 : ∀ _ : Unit, 133 ≤ n → x36 = dFe F := fun _ h => by
    obtain ⟨q4, q7, q8, q9, q12, q13, q14, q17, q18, q19, q22, q23, q24, q27, q28, q29⟩ := G () h
    exact fromN_congr (fun j hj => kd_if hF (by omega) (by omega)) 32
  have c37 : ∀ _ : Unit, 133 ≤ n → x37 = dAm F := fun _ h => by
    obtain ⟨q4, q7, q8, q9, q12, q13, q14, q17, q18, q19, q22, q23, q24, q27, q28, q29⟩ := G () h
    exact fromN_congr (fun j hj => kd_if hF (by omega) (by omega)) 32
  have c35 : ∀ _ : Unit, 133 ≤ n → x35 = true := fun _ h => by
    show (decide (0 ≤ x32) && decide (x32 ≤ 65535) && (decide (0 ≤ x34) && decide (x34 ≤ 65535))) = true
    rw [c32 () h, c34 () h, two_in (B 65 (by omega)) (B 66 (by omega)), two_in (B 99 (by omega)) (B 100 (by omega))]; rfl
  have c38 : ∀ _ : Unit, 133 ≤ n → x38 = cmpN (dFe F) (dAm F) := fun _ h => by
    show cmpN x36 x37 = _
    rw [c36 () h, c37 () h]
  clear_value x1 x2 x3 x4 x5 x6 x7 x8 x9 x10 x11 x12 x13 x14 x15 x16 x17 x18 x19 x20 x21 x22 x23 x24 x25 x26 x27 x28 x29 x30 x31 x32 x33 x34 x35 x36 x37 x38
  refine ⟨fun h => ?_, fun h => ⟨⟨by omega, by omega⟩, ⟨by omega, by omega, by omega⟩, fun j => ?_, ⟨by omega, by omega, by omega⟩, fun j hj => kd_byte hk (by omega), fun j => ?_, ⟨by omega, by omega, by omega⟩, fun j => ?_, ⟨by omega, by omega, by omega⟩, fun j => ?_, ⟨by omega, by omega, by omega⟩, fun j => ?_, ⟨by omega, by omega, by omega⟩, fun j => ?_, ⟨by omega, by omega, by omega⟩, fun j hj => kd_byte hk (by omega), fun hs => ?_, fun hs => ⟨fun hg => ⟨hg, id, id, id, id, id, id, id, id, id, id, id, id, id, id, id, fun hb => ?_, fun hb => ?_⟩, fun hg => ?_⟩⟩⟩
  · have := eq_of_beq h; omega
  · rw [kdF_u8]; exact trivial
  · rw [kdF_u8]; exact trivial
  · rw [kdF_u8]; exact trivial
  · rw [kdF_u8]; exact trivial
  · rw [kdF_u8]; exact trivial
  · rw [kdF_u8]; exact trivial
  · have hs := of_decide_eq_true hs
    have he : rdE1 n F = 4 := if_pos (by omega)
    rw [hx1, hx2, he]
    simp only [zI_4, zN_4, Nat.zero_mod, and_self]
  · have hs := of_decide_eq_false hs
    have hg : ¬ (x6 > 132) := by simpa using hg
    rw [c35 () (by omega), c38 () (by omega)] at hb
    have he : rdE1 n F = 3 := by
      unfold rdE1
      rw [if_neg (by omega), if_neg (fun h => by rw [decide_eq_true h.2] at hb; exact absurd hb (by decide))]
    rw [hx1, hx2, he]
    simp only [zI_3, zN_3, Nat.zero_mod, and_self]
  · have hs := of_decide_eq_false hs
    have hg : ¬ (x6 > 132) := by simpa using hg
    rw [c35 () (by omega), c38 () (by omega)] at hb
    have he : rdE1 n F = 0 := by
      unfold rdE1
      rw [if_neg (by omega), if_pos ⟨by omega, by simpa using hb⟩]
    rw [hx1, hx2, he, c32 () (by omega), c34 () (by omega), c36 () (by omega), c37 () (by omega)]
    simp only [zI_0, zN_0, and_self, and_true, true_and]
    obtain ⟨q4, q7, q8, q9, q12, q13, q14, q17, q18, q19, q22, q23, q24, q27, q28, q29⟩ := G () (by omega)
    exact ⟨fun j hj => kd_if hF (by omega) (by omega), fun j hj => kd_if hF (by omega) (by omega)⟩
  · have hs := of_decide_eq_false hs
    have hg : x6 > 132 := by simpa using hg
    have he : rdE1 n F = 3 := by
      unfold rdE1
      rw [if_neg (by omega), if_neg (fun h => by omega)]
    rw [hx1, hx2, he]
    simp only [zI_3, zN_3, Nat.zero_mod, and_self]
theorem ok_ldc0 (a : Option Addr) (n cap : Nat) (k : Nat → Nat → Int) (F : Nat → Int) (hF : ∀ i, k i 0 = F i) (tk to : Nat → Int) (dk kk : Nat → Nat → Int) (hk : 0 < n → 0 ≤ F 0 ∧ F 0 < 256) (ht : ∀ i, i < 32 → tk i = 0) (ho : ∀ i, i < 32 → to i = 0)
    (h : n = 0 ∨ ¬ (F 0 = 1 ∨ F 0 = 2 ∨ F 0 = 3 ∨ F 0 = 4)) :
    OwesQ Try.prog cxLd8 [] [] [] 30 Try.f17 [.sc (.xs a n cap 1 (u8F k))] false
      [.st [.k (.c (.val (.int .i64 0))), .k (.u 0), .k (.u 0), .k (.f .u8 32 tk), .k (.c (.val (.int .i64 0))), .k (.f .u8 32 to), .k (.c (.val (.int .i64 0))), .k (.c (.val (.int .i64 0))), .k (.c (.val (.string ⟨#[]⟩))), .s 0 1 (u8F dk), .k (.c (.val (.int .i64 0))), .s 0 20 (u8F kk)], .v (sI .i64 (if n = 0 then 4 else 2))] := by
  rw [vc_ldc0]
  refine ⟨fun h1 => ?_, fun h1 => ?_⟩
  · have h1 : n = 0 := by have := eq_of_beq h1; omega
    rw [if_pos h1]
    simp [ht, ho]
  · have h1 : n ≠ 0 := fun e => by subst e; exact absurd h1 (by decide)
    have b := hk (by omega)
    have w : IntKind.i64.wrap (k 0 0) = F 0 := by rw [hF, IntKind.wrap_i64]; omega
    rw [w, if_neg h1]
    have h : ¬ (F 0 = 1 ∨ F 0 = 2 ∨ F 0 = 3 ∨ F 0 = 4) := h.resolve_left h1
    have m1 : F 0 ≠ 1 := by omega
    have m2 : F 0 ≠ 2 := by omega
    have m3 : F 0 ≠ 3 := by omega
    have m4 : F 0 ≠ 4 := by omega
    simp [m1, m2, m3, m4, ht, ho]
    omega
end Go.Proofs.Ytajfifmlkgojnaa
end
