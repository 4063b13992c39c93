/-
  Texts: Kl, V33, P63, LK1, V34, Kec, Kt, P64.
-/
import Derived.Test.YtnacohdnjmmonaaDoorM1
import Derived.Test.YtnacohdnjmmonaaDoorM2
import Derived.Test.YtnacohdnjmmonaaDoorM3
import Derived.Test.YtnacohdnjmmonaaDoorM4
import Derived.Test.YtnacohdnjmmonaaDoorM5
import Derived.Test.YtnacohdnjmmonaaDoorM6
import Derived.Test.YtnacohdnjmmonaaDoorM7
import Derived.Test.YtnacohdnjmmonaaDoorM8
import Derived.Test.YtnacohdnjmmonaaDoorTie
import Derived.Test.YtnacohdnjmmonaaDoorCards
import Init
section
/-
  The rounds of Keccak on lists: so that the kernel can reckon them.
-/
namespace Go.Sx
open Go.RowKit

theorem thetaB_congr {a b : Nat → BitVec 64} (h : ∀ j, j < 25 → a j = b j) {i : Nat} (hi : i < 25) : thetaB a i = thetaB b i := by
  have col : ∀ x, x < 5 → colB a x = colB b x := fun x hx => by
    simp only [colB, h x (by omega), h (x + 5) (by omega), h (x + 10) (by omega), h (x + 15) (by omega), h (x + 20) (by omega)]
  simp only [thetaB, h i hi, col _ (Nat.mod_lt _ (by decide : 0 < 5))]
theorem src_lt : ∀ i, i < 25 → srcN.getD i 0 < 25 := by decide
theorem scatB_congr {a b : Nat → BitVec 64} (h : ∀ j, j < 25 → a j = b j) {i : Nat} (hi : i < 25) : scatB a i = scatB b i := by
  simp only [scatB, h _ (src_lt i hi)]
theorem chiB_congr {a b : Nat → BitVec 64} (h : ∀ j, j < 25 → a j = b j) {i : Nat} (hi : i < 25) : chiB a i = chiB b i := by
  have h1 : (i % 5 + 1) % 5 < 5 := Nat.mod_lt _ (by decide)
  have h2 : (i % 5 + 2) % 5 < 5 := Nat.mod_lt _ (by decide)
  simp only [chiB, h i hi, h (i / 5 * 5 + (i % 5 + 1) % 5) (by omega), h (i / 5 * 5 + (i % 5 + 2) % 5) (by omega)]
theorem stepB_congr {a b : Nat → BitVec 64} (h : ∀ j, j < 25 → a j = b j) {i : Nat} (hi : i < 25) : chiB (scatB (thetaB a)) i = chiB (scatB (thetaB b)) i :=
  chiB_congr (fun _ hj => scatB_congr (fun _ hk => thetaB_congr h hk) hj) hi
theorem roundB_congr {a b : Nat → BitVec 64} (h : ∀ j, j < 25 → a j = b j) (r : Nat) {i : Nat} (hi : i < 25) : roundB a r i = roundB b r i := by
  simp only [roundB, stepB_congr h hi, stepB_congr h (show 0 < 25 by decide)]
def tabL (a : Nat → BitVec 64) : List (BitVec 64) := (List.range 25).map a
def getL (l : List (BitVec 64)) (i : Nat) : BitVec 64 := l.getD i 0
theorem getL_tabL (a : Nat → BitVec 64) {i : Nat} (hi : i < 25) : getL (tabL a) i = a i := by
  simp [getL, tabL, List.getD_eq_getElem?_getD, hi]
def roundsL : Nat → List (BitVec 64) → List (BitVec 64)
  | 0, l => l
  | r + 1, l => tabL (roundB (getL (roundsL r l)) r)
theorem roundsL_eq (a : Nat → BitVec 64) : ∀ r i, i < 25 → roundsB r a i = getL (roundsL r (tabL a)) i
  | 0, i, hi => (getL_tabL a hi).symm
  | r + 1, i, hi => by
    simp only [roundsB, roundsL]
    rw [getL_tabL _ hi]
    exact roundB_congr (fun j hj => roundsL_eq a r j hj) r hi
def soakL (a : Nat → BitVec 64) (H : Nat → Int) : List (BitVec 64) := roundsL 24 (tabL (absB a H 136))
theorem soakL_eq (a : Nat → BitVec 64) (H : Nat → Int) {i : Nat} (hi : i < 25) : soakB a H i = getL (soakL a H) i := roundsL_eq _ 24 i hi
def endL (s : Sp) (j : Nat) : Int := firstG (fun i => lw (getL (soakL s.a (padB s.H s.n)) i)) j
theorem endL_eq (s : Sp) {j : Nat} (hj : j < 32) : endB s j = endL s j := by
  simp only [endB, endL, firstG, soakL_eq s.a (padB s.H s.n) (show j / 8 < 25 by omega)]
def sp0 : Sp := ⟨fun _ => 0, fun _ => 0, 0⟩
def sumB (n : Nat) (f : Nat → Int) (j : Nat) : Int := endB (addB sp0 f n) j
def abcF : Nat → Int := fun i => [97, 98, 99].getD i 0
theorem sum_none : (List.range 8).all (fun j => endL (addB sp0 (fun _ => 0) 0) j == [197, 210, 70, 1, 134, 247, 35, 60].getD j 0) = true := by decide +kernel
theorem sum_abc : (List.range 8).all (fun j => endL (addB sp0 abcF 3) j == [78, 3, 101, 122, 234, 69, 169, 79].getD j 0) = true := by decide +kernel
end Go.Sx
end

section
/-
  Duties of package keccak's laws.
-/
namespace Go.Proofs.YtnacohdnjmmonaaDoor
open Go Go.Sx Go.RowKit
def cxSum : Cx := ⟨[(8, cAddM), (9, cEndM)], glK, 0⟩
def sumG (n : Nat) (f : Nat → Int) : SV := .one (sRow .u8 32 (sumB n f))
def pkG (a b : Int) : SV := .one (sI .i64 (a % b))
def cxLaw : Cx := ⟨[(6, specII (fun a b => [i64ok a, 0 < b ∧ b ≤ 1000000]) pkG), (8, cAddM), (9, cEndM), (10, specBs (fun _ _ => []) sumG), (11, spec0 (.one (sB true)))], glK, 0⟩
def cxTells : Cx := ⟨[(10, specBs (fun _ _ => []) sumG)], glK, 0⟩
-- VC vc_pk HASH 3626a32824473137
theorem vc_pk (a b : Int) :
    Owes Tryd.prog Cx.none [] 10 Tryd.f6 [sI .i64 a, sI .i64 b] (pkG a b) =
    (let x1 : Int := a % b; b ≠ (0 : Int) ∧ (Decidable.decide (a.tmod b < (0 : Int)) = Bool.true → Go.IntKind.i64.wrap (a.tmod b + b) = x1) ∧ (Decidable.decide (a.tmod b < (0 : Int)) = Bool.false → a.tmod b = x1)) := by kernel_rfl
-- END VC
-- VC vc_tells HASH 666901bac63e183d
theorem vc_tells  :
    Owes Tryd.prog cxTells [] 10 Tryd.f11 [] (.one (sB true)) =
    ((3 : Nat) ≤ (3 : Nat) ∧ ∀ (_ : Go.Addr), (∀ (_ : Nat), True) ∧ (Go.Sx.sumB (3 : Nat) (fun (j : Nat) => (Go.Sx.intsL [Go.Sx.SK.c (Go.Sx.SC.num Go.IntKind.u8 (97 : Int)), Go.Sx.SK.c (Go.Sx.SC.num Go.IntKind.u8 (98 : Int)), Go.Sx.SK.c (Go.Sx.SC.num Go.IntKind.u8 (99 : Int))]).getD j (0 : Int)) (0 : Nat) == (78 : Int)) = Bool.true) := by kernel_rfl
-- END VC
-- VC vc_Sum HASH d25e25ab2c875a93
theorem vc_Sum (a : Option Addr) (n cap : Nat) (f : Nat → Int) :
    Owes Tryd.prog cxSum [] 10 Tryd.f10 [sXs a n cap f] (sumG n f) =
    (let x1 : Int := (↑(Go.Sx.addB (Go.Proofs.YtnacohdnjmmonaaDoor.spOf (fun (_ : Nat) => (0 : Int)) (fun (_ : Nat) => (0 : Int)) (0 : Int)) (fun (j : Nat) => f j) n).n : Int); (∀ (_ : Nat), True) ∧ (∀ (i : Nat), i < (25 : Nat) → (0 : Int) ≤ (0 : Int) ∧ (0 : Int) < (18446744073709551616 : Int)) ∧ Go.Proofs.YtnacohdnjmmonaaDoor.mayG (fun (_ : Nat) => (0 : Int)) (0 : Int) = Bool.true ∧ (∀ (i : Nat), i < (25 : Nat) → (0 : Int) ≤ Go.Sx.lw ((Go.Sx.addB (Go.Proofs.YtnacohdnjmmonaaDoor.spOf (fun (_ : Nat) => (0 : Int)) (fun (_ : Nat) => (0 : Int)) (0 : Int)) (fun (j : Nat) => f j) n).a i) ∧ Go.Sx.lw ((Go.Sx.addB (Go.Proofs.YtnacohdnjmmonaaDoor.spOf (fun (_ : Nat) => (0 : Int)) (fun (_ : Nat) => (0 : Int)) (0 : Int)) (fun (j : Nat) => f j) n).a i) < (18446744073709551616 : Int)) ∧ Go.Proofs.YtnacohdnjmmonaaDoor.mayG (Go.Sx.addB (Go.Proofs.YtnacohdnjmmonaaDoor.spOf (fun (_ : Nat) => (0 : Int)) (fun (_ : Nat) => (0 : Int)) (0 : Int)) (fun (j : Nat) => f j) n).2 x1 = Bool.true ∧ (∀ (j : Nat), j < (32 : Nat) → Go.Sx.endB (Go.Proofs.YtnacohdnjmmonaaDoor.spOf (fun (i : Nat) => Go.Sx.lw ((Go.Sx.addB (Go.Proofs.YtnacohdnjmmonaaDoor.spOf (fun (_ : Nat) => (0 : Int)) (fun (_ : Nat) => (0 : Int)) (0 : Int)) (fun (j : Nat) => f j) n).a i)) (Go.Sx.addB (Go.Proofs.YtnacohdnjmmonaaDoor.spOf (fun (_ : Nat) => (0 : Int)) (fun (_ : Nat) => (0 : Int)) (0 : Int)) (fun (j : Nat) => f j) n).2 x1) j = Go.Sx.sumB n f j) ∧ True) := by kernel_rfl
-- END VC
-- VC vc_KeccakKnown HASH 4f7668b0e8c000f3
theorem vc_KeccakKnown (k : Int) :
    Owes Tryd.prog cxLaw [(1, .split 3 1)] 10 Tryd.f4 [sI .i64 k] (.one (sB true)) =
    (let x1 : Int := k % (2 : Int); ((-9223372036854775808 : Int) ≤ k ∧ k ≤ (9223372036854775807 : Int)) ∧ ((0 : Int) < (2 : Int) ∧ (2 : Int) ≤ (1000000 : Int)) ∧ ((0 : Int) ≤ x1 ∧ x1 ≤ (1 : Int)) ∧ (x1 = (0 : Int) → ∀ (_ : Go.Addr) (cap : Nat), (0 : Nat) ≤ cap → (∀ (_ : Nat), True) ∧ ((Go.Sx.bytesI (Go.Sx.intsL [Go.Sx.SK.f Go.IntKind.u8 (8 : Nat) (Go.Sx.sumB (0 : Nat) fun (j : Nat) => (↑((ByteArray.mk #[]).data.getD j (0 : UInt8)).toNat : Int))])).toList == (ByteArray.mk #[(197 : UInt8), (210 : UInt8), (70 : UInt8), (1 : UInt8), (134 : UInt8), (247 : UInt8), (35 : UInt8), (60 : UInt8)]).toList) = Bool.true) ∧ (x1 = (1 : Int) → ∀ (_ : Go.Addr) (cap : Nat), (3 : Nat) ≤ cap → (∀ (_ : Nat), True) ∧ ((Go.Sx.bytesI (Go.Sx.intsL [Go.Sx.SK.f Go.IntKind.u8 (8 : Nat) (Go.Sx.sumB (3 : Nat) fun (j : Nat) => (↑((ByteArray.mk #[(97 : UInt8), (98 : UInt8), (99 : UInt8)]).data.getD j (0 : UInt8)).toNat : Int))])).toList == (ByteArray.mk #[(78 : UInt8), (3 : UInt8), (101 : UInt8), (122 : UInt8), (234 : UInt8), (69 : UInt8), (169 : UInt8), (79 : UInt8)]).toList) = Bool.true)) := by kernel_rfl
-- END VC
-- VC vc_KeccakParts HASH 0ba7fca37471d8c4
theorem vc_KeccakParts (a : Option Addr) (n cap : Nat) (f : Nat → Int) (i j : Int) :
    Owes Tryd.prog cxLaw [] 10 Tryd.f3 [sXs a n cap f, sI .i64 i, sI .i64 j] (.one (sB true)) =
    (let x1 : Int := if (400 : Int) < (↑n : Int) then (400 : Int) else (↑n : Int); let x2 : Nat := x1.toNat; let x3 : Int := (↑x2 : Int); let x4 : Int := Go.IntKind.i64.wrap (x3 + (1 : Int)); let x5 : Int := i % x4; let x6 : Int := Go.IntKind.i64.wrap (Go.IntKind.i64.wrap (x3 - x5) + (1 : Int)); let x7 : Int := Go.IntKind.i64.wrap (x5 + j % x6); let x8 : Nat := x5.toNat; let x9 : Int := (↑(Go.Sx.addB (Go.Proofs.YtnacohdnjmmonaaDoor.spOf (fun (_ : Nat) => (0 : Int)) (fun (_ : Nat) => (0 : Int)) (0 : Int)) (fun (j : Nat) => f j) x8).n : Int); let x10 : Nat := x7.toNat; let x11 : Nat := x10 - x8; let x12 : Int := (↑(Go.Sx.addB (Go.Proofs.YtnacohdnjmmonaaDoor.spOf (fun (i : Nat) => Go.Sx.lw ((Go.Sx.addB (Go.Proofs.YtnacohdnjmmonaaDoor.spOf (fun (_ : Nat) => (0 : Int)) (fun (_ : Nat) => (0 : Int)) (0 : Int)) (fun (j : Nat) => f j) x8).a i)) (Go.Sx.addB (Go.Proofs.YtnacohdnjmmonaaDoor.spOf (fun (_ : Nat) => (0 : Int)) (fun (_ : Nat) => (0 : Int)) (0 : Int)) (fun (j : Nat) => f j) x8).2 x9) (fun (j : Nat) => f (x8 + j)) x11).n : Int); let x13 : Nat := x2 - x10; let x14 : Int := (↑(Go.Sx.addB (Go.Proofs.YtnacohdnjmmonaaDoor.spOf (fun (i : Nat) => Go.Sx.lw ((Go.Sx.addB (Go.Proofs.YtnacohdnjmmonaaDoor.spOf (fun (i : Nat) => Go.Sx.lw ((Go.Sx.addB (Go.Proofs.YtnacohdnjmmonaaDoor.spOf (fun (_ : Nat) => (0 : Int)) (fun (_ : Nat) => (0 : Int)) (0 : Int)) (fun (j : Nat) => f j) x8).a i)) (Go.Sx.addB (Go.Proofs.YtnacohdnjmmonaaDoor.spOf (fun (_ : Nat) => (0 : Int)) (fun (_ : Nat) => (0 : Int)) (0 : Int)) (fun (j : Nat) => f j) x8).2 x9) (fun (j : Nat) => f (x8 + j)) x11).a i)) (Go.Sx.addB (Go.Proofs.YtnacohdnjmmonaaDoor.spOf (fun (i : Nat) => Go.Sx.lw ((Go.Sx.addB (Go.Proofs.YtnacohdnjmmonaaDoor.spOf (fun (_ : Nat) => (0 : Int)) (fun (_ : Nat) => (0 : Int)) (0 : Int)) (fun (j : Nat) => f j) x8).a i)) (Go.Sx.addB (Go.Proofs.YtnacohdnjmmonaaDoor.spOf (fun (_ : Nat) => (0 : Int)) (fun (_ : Nat) => (0 : Int)) (0 : Int)) (fun (j : Nat) => f j) x8).2 x9) (fun (j : Nat) => f (x8 + j)) x11).2 x12) (fun (j : Nat) => f (x10 + j)) x13).n : Int); let x15 : Bool := Go.Sx.conj [(List.range (32 : Nat)).all fun (j : Nat) => Go.Sx.endB (Go.Proofs.YtnacohdnjmmonaaDoor.spOf (fun (i : Nat) => Go.Sx.lw ((Go.Sx.addB (Go.Proofs.YtnacohdnjmmonaaDoor.spOf (fun (i : Nat) => Go.Sx.lw ((Go.Sx.addB (Go.Proofs.YtnacohdnjmmonaaDoor.spOf (fun (i : Nat) => Go.Sx.lw ((Go.Sx.addB (Go.Proofs.YtnacohdnjmmonaaDoor.spOf (fun (_ : Nat) => (0 : Int)) (fun (_ : Nat) => (0 : Int)) (0 : Int)) (fun (j : Nat) => f j) x8).a i)) (Go.Sx.addB (Go.Proofs.YtnacohdnjmmonaaDoor.spOf (fun (_ : Nat) => (0 : Int)) (fun (_ : Nat) => (0 : Int)) (0 : Int)) (fun (j : Nat) => f j) x8).2 x9) (fun (j : Nat) => f (x8 + j)) x11).a i)) (Go.Sx.addB (Go.Proofs.YtnacohdnjmmonaaDoor.spOf (fun (i : Nat) => Go.Sx.lw ((Go.Sx.addB (Go.Proofs.YtnacohdnjmmonaaDoor.spOf (fun (_ : Nat) => (0 : Int)) (fun (_ : Nat) => (0 : Int)) (0 : Int)) (fun (j : Nat) => f j) x8).a i)) (Go.Sx.addB (Go.Proofs.YtnacohdnjmmonaaDoor.spOf (fun (_ : Nat) => (0 : Int)) (fun (_ : Nat) => (0 : Int)) (0 : Int)) (fun (j : Nat) => f j) x8).2 x9) (fun (j : Nat) => f (x8 + j)) x11).2 x12) (fun (j : Nat) => f (x10 + j)) x13).a i)) (Go.Sx.addB (Go.Proofs.YtnacohdnjmmonaaDoor.spOf (fun (i : Nat) => Go.Sx.lw ((Go.Sx.addB (Go.Proofs.YtnacohdnjmmonaaDoor.spOf (fun (i : Nat) => Go.Sx.lw ((Go.Sx.addB (Go.Proofs.YtnacohdnjmmonaaDoor.spOf (fun (_ : Nat) => (0 : Int)) (fun (_ : Nat) => (0 : Int)) (0 : Int)) (fun (j : Nat) => f j) x8).a i)) (Go.Sx.addB (Go.Proofs.YtnacohdnjmmonaaDoor.spOf (fun (_ : Nat) => (0 : Int)) (fun (_ : Nat) => (0 : Int)) (0 : Int)) (fun (j : Nat) => f j) x8).2 x9) (fun (j : Nat) => f (x8 + j)) x11).a i)) (Go.Sx.addB (Go.Proofs.YtnacohdnjmmonaaDoor.spOf (fun (i : Nat) => Go.Sx.lw ((Go.Sx.addB (Go.Proofs.YtnacohdnjmmonaaDoor.spOf (fun (_ : Nat) => (0 : Int)) (fun (_ : Nat) => (0 : Int)) (0 : Int)) (fun (j : Nat) => f j) x8).a i)) (Go.Sx.addB (Go.Proofs.YtnacohdnjmmonaaDoor.spOf (fun (_ : Nat) => (0 : Int)) (fun (_ : Nat) => (0 : Int)) (0 : Int)) (fun (j : Nat) => f j) x8).2 x9) (fun (j : Nat) => f (x8 + j)) x11).2 x12) (fun (j : Nat) => f (x10 + j)) x13).2 x14) j == Go.Sx.sumB x2 (fun (j : Nat) => f j) j]; ((0 : Int) ≤ x1 ∧ x1 ≤ (↑n : Int)) ∧ ((-9223372036854775808 : Int) ≤ i ∧ i ≤ (9223372036854775807 : Int)) ∧ ((0 : Int) < x4 ∧ x4 ≤ (1000000 : Int)) ∧ ((-9223372036854775808 : Int) ≤ j ∧ j ≤ (9223372036854775807 : Int)) ∧ ((0 : Int) < x6 ∧ x6 ≤ (1000000 : Int)) ∧ ((0 : Int) ≤ x5 ∧ x5 ≤ x3) ∧ ((0 : Int) ≤ x5 ∧ x5 ≤ x7 ∧ x7 ≤ x3) ∧ ((0 : Int) ≤ x7 ∧ x7 ≤ x3 ∧ x3 ≤ x3) ∧ (∀ (_ : Nat), True) ∧ (∀ (i : Nat), i < (25 : Nat) → (0 : Int) ≤ (0 : Int) ∧ (0 : Int) < (18446744073709551616 : Int)) ∧ Go.Proofs.YtnacohdnjmmonaaDoor.mayG (fun (_ : Nat) => (0 : Int)) (0 : Int) = Bool.true ∧ ((x9 != (Go.IntKind.i64.wrap ((0 : Int) + (↑x8 : Int))).tmod (136 : Int)) = Bool.true → Bool.false = Bool.true) ∧ ((x9 != (Go.IntKind.i64.wrap ((0 : Int) + (↑x8 : Int))).tmod (136 : Int)) = Bool.false → (∀ (_ : Nat), True) ∧ (∀ (i : Nat), i < (25 : Nat) → (0 : Int) ≤ Go.Sx.lw ((Go.Sx.addB (Go.Proofs.YtnacohdnjmmonaaDoor.spOf (fun (_ : Nat) => (0 : Int)) (fun (_ : Nat) => (0 : Int)) (0 : Int)) (fun (j : Nat) => f j) x8).a i) ∧ Go.Sx.lw ((Go.Sx.addB (Go.Proofs.YtnacohdnjmmonaaDoor.spOf (fun (_ : Nat) => (0 : Int)) (fun (_ : Nat) => (0 : Int)) (0 : Int)) (fun (j : Nat) => f j) x8).a i) < (18446744073709551616 : Int)) ∧ Go.Proofs.YtnacohdnjmmonaaDoor.mayG (Go.Sx.addB (Go.Proofs.YtnacohdnjmmonaaDoor.spOf (fun (_ : Nat) => (0 : Int)) (fun (_ : Nat) => (0 : Int)) (0 : Int)) (fun (j : Nat) => f j) x8).2 x9 = Bool.true ∧ ((x12 != (Go.IntKind.i64.wrap (x9 + (↑x11 : Int))).tmod (136 : Int)) = Bool.true → Bool.false = Bool.true) ∧ ((x12 != (Go.IntKind.i64.wrap (x9 + (↑x11 : Int))).tmod (136 : Int)) = Bool.false → (∀ (_ : Nat), True) ∧ (∀ (i : Nat), i < (25 : Nat) → (0 : Int) ≤ Go.Sx.lw ((Go.Sx.addB (Go.Proofs.YtnacohdnjmmonaaDoor.spOf (fun (i : Nat) => Go.Sx.lw ((Go.Sx.addB (Go.Proofs.YtnacohdnjmmonaaDoor.spOf (fun (_ : Nat) => (0 : Int)) (fun (_ : Nat) => (0 : Int)) (0 : Int)) (fun (j : Nat) => f j) x8).a i)) (Go.Sx.addB (Go.Proofs.YtnacohdnjmmonaaDoor.spOf (fun (_ : Nat) => (0 : Int)) (fun (_ : Nat) => (0 : Int)) (0 : Int)) (fun (j : Nat) => f j) x8).2 x9) (fun (j : Nat) => f (x8 + j)) x11).a i) ∧ Go.Sx.lw ((Go.Sx.addB (Go.Proofs.YtnacohdnjmmonaaDoor.spOf (fun (i : Nat) => Go.Sx.lw ((Go.Sx.addB (Go.Proofs.YtnacohdnjmmonaaDoor.spOf (fun (_ : Nat) => (0 : Int)) (fun (_ : Nat) => (0 : Int)) (0 : Int)) (fun (j : Nat) => f j) x8).a i)) (Go.Sx.addB (Go.Proofs.YtnacohdnjmmonaaDoor.spOf (fun (_ : Nat) => (0 : Int)) (fun (_ : Nat) => (0 : Int)) (0 : Int)) (fun (j : Nat) => f j) x8).2 x9) (fun (j : Nat) => f (x8 + j)) x11).a i) < (18446744073709551616 : Int)) ∧ Go.Proofs.YtnacohdnjmmonaaDoor.mayG (Go.Sx.addB (Go.Proofs.YtnacohdnjmmonaaDoor.spOf (fun (i : Nat) => Go.Sx.lw ((Go.Sx.addB (Go.Proofs.YtnacohdnjmmonaaDoor.spOf (fun (_ : Nat) => (0 : Int)) (fun (_ : Nat) => (0 : Int)) (0 : Int)) (fun (j : Nat) => f j) x8).a i)) (Go.Sx.addB (Go.Proofs.YtnacohdnjmmonaaDoor.spOf (fun (_ : Nat) => (0 : Int)) (fun (_ : Nat) => (0 : Int)) (0 : Int)) (fun (j : Nat) => f j) x8).2 x9) (fun (j : Nat) => f (x8 + j)) x11).2 x12 = Bool.true ∧ ((x14 != (Go.IntKind.i64.wrap (x12 + (↑x13 : Int))).tmod (136 : Int)) = Bool.true → Bool.false = Bool.true) ∧ ((x14 != (Go.IntKind.i64.wrap (x12 + (↑x13 : Int))).tmod (136 : Int)) = Bool.false → (∀ (i : Nat), i < (25 : Nat) → (0 : Int) ≤ Go.Sx.lw ((Go.Sx.addB (Go.Proofs.YtnacohdnjmmonaaDoor.spOf (fun (i : Nat) => Go.Sx.lw ((Go.Sx.addB (Go.Proofs.YtnacohdnjmmonaaDoor.spOf (fun (i : Nat) => Go.Sx.lw ((Go.Sx.addB (Go.Proofs.YtnacohdnjmmonaaDoor.spOf (fun (_ : Nat) => (0 : Int)) (fun (_ : Nat) => (0 : Int)) (0 : Int)) (fun (j : Nat) => f j) x8).a i)) (Go.Sx.addB (Go.Proofs.YtnacohdnjmmonaaDoor.spOf (fun (_ : Nat) => (0 : Int)) (fun (_ : Nat) => (0 : Int)) (0 : Int)) (fun (j : Nat) => f j) x8).2 x9) (fun (j : Nat) => f (x8 + j)) x11).a i)) (Go.Sx.addB (Go.Proofs.YtnacohdnjmmonaaDoor.spOf (fun (i : Nat) => Go.Sx.lw ((Go.Sx.addB (Go.Proofs.YtnacohdnjmmonaaDoor.spOf (fun (_ : Nat) => (0 : Int)) (fun (_ : Nat) => (0 : Int)) (0 : Int)) (fun (j : Nat) => f j) x8).a i)) (Go.Sx.addB (Go.Proofs.YtnacohdnjmmonaaDoor.spOf (fun (_ : Nat) => (0 : Int)) (fun (_ : Nat) => (0 : Int)) (0 : Int)) (fun (j : Nat) => f j) x8).2 x9) (fun (j : Nat) => f (x8 + j)) x11).2 x12) (fun (j : Nat) => f (x10 + j)) x13).a i) ∧ Go.Sx.lw ((Go.Sx.addB (Go.Proofs.YtnacohdnjmmonaaDoor.spOf (fun (i : Nat) => Go.Sx.lw ((Go.Sx.addB (Go.Proofs.YtnacohdnjmmonaaDoor.spOf (fun (i : Nat) => Go.Sx.lw ((Go.Sx.addB (Go.Proofs.YtnacohdnjmmonaaDoor.spOf (fun (_ : Nat) => (0 : Int)) (fun (_ : Nat) => (0 : Int)) (0 : Int)) (fun (j : Nat) => f j) x8).a i)) (Go.Sx.addB (Go.Proofs.YtnacohdnjmmonaaDoor.spOf (fun (_ : Nat) => (0 : Int)) (fun (_ : Nat) => (0 : Int)) (0 : Int)) (fun (j : Nat) => f j) x8).2 x9) (fun (j : Nat) => f (x8 + j)) x11).a i)) (Go.Sx.addB (Go.Proofs.YtnacohdnjmmonaaDoor.spOf (fun (i : Nat) => Go.Sx.lw ((Go.Sx.addB (Go.Proofs.YtnacohdnjmmonaaDoor.spOf (fun (_ : Nat) => (0 : Int)) (fun (_ : Nat) => (0 : Int)) (0 : Int)) (fun (j : Nat) => f j) x8).a i)) (Go.Sx.addB (Go.Proofs.YtnacohdnjmmonaaDoor.spOf (fun (_ : Nat) => (0 : Int)) (fun (_ : Nat) => (0 : Int)) (0 : Int)) (fun (j : Nat) => f j) x8).2 x9) (fun (j : Nat) => f (x8 + j)) x11).2 x12) (fun (j : Nat) => f (x10 + j)) x13).a i) < (18446744073709551616 : Int)) ∧ Go.Proofs.YtnacohdnjmmonaaDoor.mayG (Go.Sx.addB (Go.Proofs.YtnacohdnjmmonaaDoor.spOf (fun (i : Nat) => Go.Sx.lw ((Go.Sx.addB (Go.Proofs.YtnacohdnjmmonaaDoor.spOf (fun (i : Nat) => Go.Sx.lw ((Go.Sx.addB (Go.Proofs.YtnacohdnjmmonaaDoor.spOf (fun (_ : Nat) => (0 : Int)) (fun (_ : Nat) => (0 : Int)) (0 : Int)) (fun (j : Nat) => f j) x8).a i)) (Go.Sx.addB (Go.Proofs.YtnacohdnjmmonaaDoor.spOf (fun (_ : Nat) => (0 : Int)) (fun (_ : Nat) => (0 : Int)) (0 : Int)) (fun (j : Nat) => f j) x8).2 x9) (fun (j : Nat) => f (x8 + j)) x11).a i)) (Go.Sx.addB (Go.Proofs.YtnacohdnjmmonaaDoor.spOf (fun (i : Nat) => Go.Sx.lw ((Go.Sx.addB (Go.Proofs.YtnacohdnjmmonaaDoor.spOf (fun (_ : Nat) => (0 : Int)) (fun (_ : Nat) => (0 : Int)) (0 : Int)) (fun (j : Nat) => f j) x8).a i)) (Go.Sx.addB (Go.Proofs.YtnacohdnjmmonaaDoor.spOf (fun (_ : Nat) => (0 : Int)) (fun (_ : Nat) => (0 : Int)) (0 : Int)) (fun (j : Nat) => f j) x8).2 x9) (fun (j : Nat) => f (x8 + j)) x11).2 x12) (fun (j : Nat) => f (x10 + j)) x13).2 x14 = Bool.true ∧ (∀ (_ : Nat), True) ∧ (x15 = Bool.true → x15 = Bool.true) ∧ (x15 && Bool.true) = Bool.true)))) := by kernel_rfl
-- END VC
end Go.Proofs.YtnacohdnjmmonaaDoor
end

section
/-
  The laws of package keccak: what the whole world knows; bytes cut in any way.
-/
namespace Go.Proofs.YtnacohdnjmmonaaDoor
open Go Go.Sx Go.RowKit

theorem sp0_eq : spOf (fun _ => 0) (fun _ => 0) 0 = sp0 := by
  unfold spOf sp0
  congr 1
theorem sp0_clean : clean sp0 := ⟨(by decide : (0 : Nat) < 136), fun j _ _ => (rfl : sp0.H j = 0)⟩
theorem may_zero : mayG (fun _ => 0) 0 = true := by
  rw [mayG_iff]
  exact ⟨⟨by omega, by omega⟩, fun _ _ => rfl⟩
theorem ok_Sum (a : Option Addr) (n cap : Nat) (f : Nat → Int) : Owes Tryd.prog cxSum [] 10 Tryd.f10 [sXs a n cap f] (sumG n f) := by
  rw [vc_Sum]
  intro x1
  have e0 : spOf (fun _ => 0) (fun _ => 0) 0 = sp0 := sp0_eq
  simp only [x1, e0, spOf_lw]
  exact ⟨fun _ => trivial, fun _ _ => ⟨by omega, by omega⟩, may_zero, lanes_lw _ _, may_clean (addB_clean sp0_clean _ _), fun _ _ => rfl, trivial⟩
theorem card_Sum : FnOKg Tryd.prog glK 10 (specBs (fun _ _ => []) sumG) :=
  FnOK_Bs (cx := cxSum) (iv := fun _ _ _ _ => []) (N := 10) (by
    intro p hp
    simp only [cxSum, List.mem_cons, List.not_mem_nil, or_false] at hp
    rcases hp with rfl | rfl
    · exact card_AddM
    · exact card_EndM) Tryd.func10 (by kernel_rfl) (by kernel_rfl) (fun _ _ => bnd_row _ _ _ _) fun a n cap f _ => ok_Sum a n cap f
theorem sum_at {n : Nat} {f : Nat → Int} {l : List Int} (h : (List.range 8).all (fun j => endL (addB sp0 f n) j == l.getD j 0) = true) {j : Nat} (hj : j < 8) : sumB n f j = l.getD j 0 := by
  have := List.all_eq_true.1 h j (List.mem_range.2 hj)
  unfold sumB
  rw [endL_eq _ (by omega)]
  simpa using this
theorem ok_tells : Owes Tryd.prog cxTells [] 10 Tryd.f11 [] (.one (sB true)) := by
  rw [vc_tells]
  have h : (sumB 3 abcF 0 == 78) = true := by rw [sum_at sum_abc (by decide : 0 < 8)]; rfl
  exact ⟨Nat.le_refl _, fun _ => ⟨fun _ => trivial, h⟩⟩
theorem card_tells : FnOKg Tryd.prog glK 11 (spec0 (.one (sB true))) :=
  FnOK_0 (cx := cxTells) (iv := []) (N := 10) (by
    intro p hp
    simp only [cxTells, List.mem_singleton] at hp
    subst hp
    exact card_Sum) Tryd.func11 (by kernel_rfl) (by kernel_rfl) trivial ok_tells
theorem ok_pk (a b : Int) (ha : i64ok a) (hb : 0 < b ∧ b ≤ 1000000) : Owes Tryd.prog Cx.none [] 10 Tryd.f6 [sI .i64 a, sI .i64 b] (pkG a b) := by
  rw [vc_pk]
  obtain ⟨a1, a2⟩ := ha
  intro x1
  have e1 : x1 = a % b := rfl
  have p0 := Int.emod_nonneg a (by omega : b ≠ 0)
  have p1 := Int.emod_lt_of_pos a hb.1
  have q := Int.tmod_eq_emod (a := a) (b := b)
  have e2 : (b.natAbs : Int) = b := by omega
  refine ⟨by omega, fun h => ?_, fun h => ?_⟩
  · have h' : a.tmod b < 0 := of_decide_eq_true h
    by_cases c : 0 ≤ a ∨ b ∣ a
    · rw [if_pos c] at q; omega
    · rw [if_neg c, e2] at q
      have w : IntKind.wrap .i64 (a.tmod b + b) = a.tmod b + b := by rw [IntKind.wrap_i64]; omega
      rw [w]; omega
  · have h' : ¬ a.tmod b < 0 := of_decide_eq_false h
    by_cases c : 0 ≤ a ∨ b ∣ a
    · rw [if_pos c] at q; omega
    · rw [if_neg c, e2] at q; omega
theorem card_pk : FnOKg Tryd.prog [] 6 (specII (fun a b => [i64ok a, 0 < b ∧ b ≤ 1000000]) pkG) :=
  FnOK_II (cx := Cx.none) (iv := []) (N := 10) (by intro p hp; cases hp) Tryd.func6 (by kernel_rfl) (by kernel_rfl) (fun _ _ => trivial) fun a b h => ok_pk a b h.1 h.2.1

theorem pushB_n {s : Sp} (h : s.n < 136) (b : Int) : (pushB s b).n = (s.n + 1) % 136 := by
  unfold pushB
  split
  · show 0 = _; omega
  · show s.n + 1 = _; omega
theorem addB_n {s : Sp} (h : s.n < 136) (f : Nat → Int) : ∀ p, (addB s f p).n = (s.n + p) % 136
  | 0 => by show s.n = _; omega
  | p + 1 => by
    show (pushB _ _).n = _
    rw [pushB_n (addB_lt h f p), addB_n h f p]; omega
theorem left_0 (f : Nat → Int) {p : Nat} (hp : p ≤ 400) : (((addB sp0 f p).n : Int) != (IntKind.i64.wrap (0 + (p : Int))).tmod 136) = false := by
  have h := addB_n (s := sp0) (by decide) f p
  have h0 : sp0.n = 0 := rfl
  rw [IntKind.wrap_i64, bne_eq_false_iff_eq, Int.tmod_eq_emod_of_nonneg (by omega)]; omega
theorem left_m (f : Nat → Int) {p m : Nat} (_ : p ≤ 400) (hm : m ≤ 400) : (((addB sp0 f (p + m)).n : Int) != (IntKind.i64.wrap (((addB sp0 f p).n : Int) + (m : Int))).tmod 136) = false := by
  have h := addB_n (s := sp0) (by decide) f p
  have h' := addB_n (s := sp0) (by decide) f (p + m)
  have h0 : sp0.n = 0 := rfl
  rw [IntKind.wrap_i64, bne_eq_false_iff_eq, Int.tmod_eq_emod_of_nonneg (by omega)]; omega
theorem sum_row {n : Nat} {f : Nat → Int} {l : List Int} (h : (List.range 8).all (fun j => endL (addB sp0 f n) j == l.getD j 0) = true) : (List.range 8).map (sumB n f) = (List.range 8).map fun j => l.getD j 0 :=
  List.map_congr_left fun _ hj => sum_at h (List.mem_range.1 hj)
theorem sumB_congr {n : Nat} {f g : Nat → Int} (h : ∀ i, i < n → f i = g i) : sumB n f = sumB n g := by
  funext j
  unfold sumB
  rw [addB_congr h]
theorem ok_KeccakKnown (k : Int) (hk : i64ok k) : Owes Tryd.prog cxLaw [(1, .split 3 1)] 10 Tryd.f4 [sI .i64 k] (.one (sB true)) := by
  rw [vc_KeccakKnown]
  intro x1
  have e1 : x1 = k % 2 := rfl
  refine ⟨hk, by omega, by omega, fun _ a cap _ => ⟨fun _ => trivial, ?_⟩, fun _ a cap _ => ⟨fun _ => trivial, ?_⟩⟩
  · have e : sumB 0 (fun j => ((ByteArray.mk #[]).data.getD j (0 : UInt8)).toNat) = sumB 0 (fun _ => 0) := rfl
    show ((bytesI ((List.range 8).map (sumB 0 _) ++ [])).toList == _) = true
    rw [e, sum_row sum_none]
    decide +kernel
  · have e : sumB 3 (fun j => ((ByteArray.mk #[(97 : UInt8), (98 : UInt8), (99 : UInt8)]).data.getD j (0 : UInt8)).toNat) = sumB 3 abcF := sumB_congr fun i hi => by
      match i, hi with
      | 0, _ => rfl
      | 1, _ => rfl
      | 2, _ => rfl
    show ((bytesI ((List.range 8).map (sumB 3 _) ++ [])).toList == _) = true
    rw [e, sum_row sum_abc]
    decide +kernel
theorem ok_KeccakParts (a : Option Addr) (n cap : Nat) (f : Nat → Int) (i j : Int) (hi : i64ok i) (hj : i64ok j) : Owes Tryd.prog cxLaw [] 10 Tryd.f3 [sXs a n cap f, sI .i64 i, sI .i64 j] (.one (sB true)) := by
  rw [vc_KeccakParts]
  intro x1 x2 x3 x4 x5 x6 x7 x8 x9 x10 x11 x12 x13 x14 x15
  have e1 : x1 = if (400 : Int) < (n : Int) then 400 else (n : Int) := rfl
  have b1 : 0 ≤ x1 ∧ x1 ≤ n ∧ x1 ≤ 400 := by rw [e1]; split <;> omega
  clear_value x1
  have e2 : x2 = x1.toNat := rfl
  have e3 : x3 = x1 := by show (x1.toNat : Int) = x1; omega
  have e4 : x4 = x1 + 1 := by
    show IntKind.i64.wrap (x3 + 1) = _
    rw [e3, IntKind.wrap_i64]; omega
  have b5 : 0 ≤ x5 ∧ x5 ≤ x1 := by
    have := Int.emod_nonneg i (by omega : x4 ≠ 0)
    have := Int.emod_lt_of_pos i (by omega : 0 < x4)
    have : x5 = i % x4 := rfl
    omega
  have e6 : x6 = x1 - x5 + 1 := by
    show IntKind.i64.wrap (IntKind.i64.wrap (x3 - x5) + 1) = _
    rw [e3, IntKind.wrap_i64, IntKind.wrap_i64]; omega
  have b7 : x5 ≤ x7 ∧ x7 ≤ x1 := by
    have h1 := Int.emod_nonneg j (by omega : x6 ≠ 0)
    have h2 := Int.emod_lt_of_pos j (by omega : 0 < x6)
    have : x7 = x5 + j % x6 := by
      show IntKind.i64.wrap (x5 + j % x6) = _
      rw [IntKind.wrap_i64]; omega
    omega
  have e8 : (x8 : Int) = x5 := by show (x5.toNat : Int) = x5; omega
  have e10 : (x10 : Int) = x7 := by show (x7.toNat : Int) = x7; omega
  have e11 : x8 + x11 = x10 := by have : x11 = x10 - x8 := rfl; omega
  have e13 : x10 + x13 = x2 := by have : x13 = x2 - x10 := rfl; omega
  have h15 : x15 = true := by
    simp only [x15, x14, x12, x9, sp0_eq, spOf_lw, addB_add, e11, e13]
    simp only [conj, sumB, beq_self_eq_true, List.all_eq_true, implies_true]
  clear_value x15
  simp only [x14, x12, x9, sp0_eq, spOf_lw, addB_add, e11, e13]
  clear_value x13 x11 x10 x8 x7 x6 x5 x4 x3 x2
  subst e11 e13
  rw [left_0 f (by omega), left_m f (by omega) (by omega), left_m f (by omega) (by omega)]
  have cl := fun p => may_clean (addB_clean sp0_clean f p)
  refine ⟨by omega, hi, by omega, hj, by omega, by omega, by omega, by omega, fun _ => trivial, fun _ _ => by omega, may_zero, fun h => h, fun _ => ⟨fun _ => trivial, lanes_lw _ _, cl _, fun h => h, fun _ => ⟨fun _ => trivial, lanes_lw _ _, cl _, fun h => h, fun _ => ⟨lanes_lw _ _, cl _, fun _ => trivial, fun h => h, by rw [h15]; rfl⟩⟩⟩⟩
theorem cxok_Law : CxOK Tryd.prog cxLaw := by
  intro p hp
  simp only [cxLaw, List.mem_cons, List.not_mem_nil, or_false] at hp
  rcases hp with rfl | rfl | rfl | rfl | rfl
  · exact card_pk.up _
  · exact card_AddM
  · exact card_EndM
  · exact card_Sum
  · exact card_tells
end Go.Proofs.YtnacohdnjmmonaaDoor
end

section
/-
  KeccakParts and KeccakKnown: for every input, true, and the input reads as it did; the tables hold what the text of the program lays.
-/
namespace Go.Proofs.YtnacohdnjmmonaaDoor
open Go.ChangeShapes Go.WideShapes Go.ChangeAt Go.RowKit Go.Sx

theorem prog_three : Tryd.prog.mayEnter = true ∧ Tryd.prog.liftsFinal = Rows.keccakPartsRow.lifted ∧ Tryd.prog.make = some Rows.keccakPartsRow.make := ⟨by kernel_rfl, by kernel_rfl, by kernel_rfl⟩
theorem own_none : ownKnob Tryd.prog.godebug = none := by kernel_rfl
theorem laid_out : laidOutB Tryd.prog = true := by kernel_rfl
theorem tabs_ok : tabsB Tryd.prog tabsK = true := by kernel_rfl
/-- A world whose variables hold the tables. -/
abbrev laidK : List (String × DataW Unit) := tabsK.map fun T => (T.name, T.data)
def setRow (h : Array Obj) (T : Tab) : Array Obj :=
  h.modify T.g fun o => match o with
    | .cells _ t frozen => .cells T.vals.toArray t frozen
    | o => o
noncomputable def laidWorld (os : Os) : World :=
  { World.holding Tryd.prog os ⟨#[], #[], []⟩ with heap := tabsK.foldl setRow (World.holding Tryd.prog os ⟨#[], #[], []⟩).heap }
theorem open_i64 {H : Type} {enc : TypeId × Value → H} {W : World} {base b0 : Nat} {sp : Nat → Bool} {held : Bool} {v : Value} {d : DataW H} {ps : List MemPlace}
    (hval : Unit → Value.okWide Tryd.prog W .any b0 3 v) (h : Unit → DataW.Trod enc Tryd.prog W base sp held 3 v d ps) : ∃ a, v = (sI .i64 a).conc (Rho.whole W) ∧ i64ok a := by
  have hu : Tryd.prog.underlying 3 = some (.int .i64) := by kernel_rfl
  obtain ⟨n, e, _, _, w⟩ := open_int hu (by with_reducible exact hval ()) (by with_reducible exact h ())
  exact ⟨n, e, bounds_i64 w⟩
theorem open_bs {H : Type} {enc : TypeId × Value → H} {W : World} {base b0 : Nat} {sp : Nat → Bool} {held : Bool} {v : Value} {d : DataW H} {ps : List MemPlace}
    (hval : Unit → Value.okWide Tryd.prog W .any b0 22 v) (h : Unit → DataW.Trod enc Tryd.prog W base sp held 22 v d ps) :
    ∃ (a : Option Addr) (n cap : Nat) (f : Nat → Int), v = (sXs a n cap f).conc (Rho.whole W) ∧ n ≤ maxLen ∧ (∀ i, 0 ≤ f i ∧ f i < 256) ∧ SA.bnd ⟨fun _ => False, (Rho.whole W).fz⟩ (sXs a n cap f) := by
  have hu : Tryd.prog.underlying 22 = some (.slice 5) := by kernel_rfl
  have hu2 : Tryd.prog.underlying 5 = some (.int .u8) := by kernel_rfl
  exact open_bytes hu hu2 (by kernel_rfl) (by with_reducible exact hval ()) (by with_reducible exact h ())

set_option maxRecDepth 100000 in
theorem keccakParts_lifted (os : Os) (started : os.Started) (H : Type) (enc : TypeId × Value → H) :
    ReturnsInHanded {} Tryd.checked os 3 .any (fun w args => (Rows.keccakPartsSpec.pre enc Tryd.prog Tryd.f3 Rows.keccakPartsRow.domain false w args ∧ laidMet Tryd.prog laidK w) ∧ sizedMet enc Tryd.prog Tryd.f3 (OpenSpec.ofChange Rows.keccakPartsSpec) false w args)
      (Rows.keccakPartsSpec.post enc Tryd.prog Tryd.f3 false Rows.keccakPartsRow.fresh Rows.keccakPartsRow.handsOn Rows.keccakPartsRow.again) := by
  refine returnsInHanded_of_change_and (C := Tryd.checked) (X := fun w _ => laidMet Tryd.prog laidK w) (fun _ _ _ hh h => h.of_heap hh) own_none started (by kernel_rfl) Tryd.func3
    (ChangeSpec.witness_at (enc := enc) (C := Tryd.checked) (os := os) (X := fun w _ => laidMet Tryd.prog laidK w) false (laidWorld os) #[.slice none 0 0, .int .i64 0, .int .i64 0] 8 rfl (by kernel_rfl) (by kernel_rfl) (by kernel_rfl) (by kernel_rfl) (by kernel_rfl)
      (laidMet_mk tabs_ok fun T hT => by
        simp only [tabsK, List.mem_cons, List.not_mem_nil, or_false] at hT
        rcases hT with rfl | rfl | rfl
        · exact ⟨47, (by kernel_rfl)⟩
        · exact ⟨51, (by kernel_rfl)⟩
        · exact ⟨51, (by kernel_rfl)⟩)) ?_
  intro W base args ds gs before hval0 hW _ _ hL _
  have hval : ∀ (j : Nat) t v, Tryd.f3.params[j]? = some t → args[j]? = some v → Value.okWide Tryd.prog W .any base t v := hval0
  have hW' := hW
  obtain ⟨p, q, hA0, hV, rfl, _, _⟩ := hW
  have hA : DataW.TrodAll enc Tryd.prog W 0 (fun _ => true) true [22, 3, 3] args.toList ds p := hA0
  obtain ⟨v0, v1, v2, d0, d1, d2, p0, p1, p2, rfl, rfl, rfl, h0, h1, h2⟩ := trodAll_three hA
  obtain ⟨rfl, rfl⟩ := trodVars_none hV
  obtain ⟨a0, n0, c0, b0, rfl, g1, g2, g3⟩ := open_bs (fun _ => hval 0 _ _ rfl rfl) (fun _ => h0)
  obtain ⟨a1, rfl, g4⟩ := open_i64 (fun _ => hval 1 _ _ rfl rfl) (fun _ => h1)
  obtain ⟨a2, rfl, g5⟩ := open_i64 (fun _ => hval 2 _ _ rfl rfl) (fun _ => h2)
  refine (calls_of_owesG cxok_Law Tryd.func3 (by kernel_rfl) (ok_KeccakParts a0 n0 c0 b0 a1 a2 g4 g5) (Rho.whole W) W (whole_ok W) (globsOK_tabs tabs_ok hL) (by
    intro z hz
    simp only [List.mem_cons, List.not_mem_nil, or_false] at hz
    rcases hz with rfl | rfl | rfl
    · exact g3
    · trivial
    · trivial)).mono fun e W' he => ?_
  obtain ⟨v, rfl, ⟨ρ', hv⟩, hb⟩ := he
  have hv' : v = .bool true := hv
  subst hv'
  exact ⟨_, rfl, law_post (tb := 4) laid_out (by kernel_rfl) (by kernel_rfl) (by kernel_rfl) rfl rfl hW' hb⟩

theorem keccakParts_facts : joinedFacts Tryd.prog 3 Tryd.f3 Rows.keccakPartsSpec Rows.keccakPartsRow = true := by
  unfold joinedFacts
  rw [prog_three.1, prog_three.2.1, prog_three.2.2]
  kernel_rfl
theorem keccakParts_said : Rows.KeccakPartsSaid :=
  OpenClaim.holds_of_wide 3 Tryd.f3 rfl rfl rfl rfl rfl rfl rfl ⟨rfl, rfl, rfl, rfl, rfl⟩ rfl rfl rfl rfl rfl (by kernel_rfl) Tryd.func3 keccakParts_facts
    (of_decide_eq_true (by kernel_rfl)) (by unfold Func.isWrapper; first | (rw [if_pos (by decide +kernel)]; kernel_rfl) | (rw [if_neg (by decide +kernel)]; exact ⟨rfl, rfl⟩))
    (fun os started H enc _ => keccakParts_lifted os started H enc)
theorem keccakParts_holds : Rows.KeccakPartsCardSaid :=
  Claim7.holds_tied_plain_at .later [] [.data, .data, .data] true (true, "c84c04b79771f79868de0b36c3fd74dc58a641bff1af07cf1a07fa46c0c5b375") false
    keccakParts_said (fun _ h => by cases h) (by kernel_rfl) (fun _ h => by cases h) keccakParts_row_tie rfl ⟨rfl, rfl⟩ (by kernel_rfl) rfl
    (fun f fn hf hfn => by
      obtain rfl : f = 3 := Option.some.inj ((show Tryd.prog.funcNamed "bascule/basculekeep.KeccakParts" = some 3 by kernel_rfl).symm.trans hf) |>.symm
      obtain rfl : fn = Tryd.f3 := (Option.some.inj (Tryd.func3.symm.trans hfn)).symm
      exact ⟨by kernel_rfl, fun j t ht => by
        have hp : Tryd.f3.params = #[22, 3, 3] := by kernel_rfl
        rw [hp] at ht
        rcases j with _ | j
        · obtain rfl : 22 = t := by simpa using ht
          exact (by kernel_rfl : Tryd.prog.wantsStandIn 22 = false)
        rcases j with _ | j
        · obtain rfl : 3 = t := by simpa using ht
          exact (by kernel_rfl : Tryd.prog.wantsStandIn 3 = false)
        rcases j with _ | j
        · obtain rfl : 3 = t := by simpa using ht
          exact (by kernel_rfl : Tryd.prog.wantsStandIn 3 = false)
        simp at ht⟩)
    (by kernel_rfl)

set_option maxRecDepth 100000 in
theorem keccakKnown_lifted (os : Os) (started : os.Started) (H : Type) (enc : TypeId × Value → H) :
    ReturnsInHanded {} Tryd.checked os 4 .any (fun w args => (Rows.keccakKnownSpec.pre enc Tryd.prog Tryd.f4 Rows.keccakKnownRow.domain false w args ∧ laidMet Tryd.prog laidK w) ∧ sizedMet enc Tryd.prog Tryd.f4 (OpenSpec.ofChange Rows.keccakKnownSpec) false w args)
      (Rows.keccakKnownSpec.post enc Tryd.prog Tryd.f4 false Rows.keccakKnownRow.fresh Rows.keccakKnownRow.handsOn Rows.keccakKnownRow.again) := by
  refine returnsInHanded_of_change_and (C := Tryd.checked) (X := fun w _ => laidMet Tryd.prog laidK w) (fun _ _ _ hh h => h.of_heap hh) own_none started (by kernel_rfl) Tryd.func4
    (ChangeSpec.witness_at (enc := enc) (C := Tryd.checked) (os := os) (X := fun w _ => laidMet Tryd.prog laidK w) false (laidWorld os) #[.int .i64 0] 8 rfl (by kernel_rfl) (by kernel_rfl) (by kernel_rfl) (by kernel_rfl) (by kernel_rfl)
      (laidMet_mk tabs_ok fun T hT => by
        simp only [tabsK, List.mem_cons, List.not_mem_nil, or_false] at hT
        rcases hT with rfl | rfl | rfl
        · exact ⟨47, (by kernel_rfl)⟩
        · exact ⟨51, (by kernel_rfl)⟩
        · exact ⟨51, (by kernel_rfl)⟩)) ?_
  intro W base args ds gs before hval0 hW _ _ hL _
  have hval : ∀ (j : Nat) t v, Tryd.f4.params[j]? = some t → args[j]? = some v → Value.okWide Tryd.prog W .any base t v := hval0
  have hW' := hW
  obtain ⟨p, q, hA0, hV, rfl, _, _⟩ := hW
  have hA : DataW.TrodAll enc Tryd.prog W 0 (fun _ => true) true [3] args.toList ds p := hA0
  obtain ⟨v0, d0, rfl, rfl, h0⟩ := trodAll_one hA
  obtain ⟨rfl, rfl⟩ := trodVars_none hV
  obtain ⟨a0, rfl, g1⟩ := open_i64 (fun _ => hval 0 _ _ rfl rfl) (fun _ => h0)
  refine (calls_of_owesG cxok_Law Tryd.func4 (by kernel_rfl) (ok_KeccakKnown a0 g1) (Rho.whole W) W (whole_ok W) (globsOK_tabs tabs_ok hL) (by
    intro z hz
    simp only [List.mem_cons, List.not_mem_nil, or_false] at hz
    rcases hz with rfl
    · trivial)).mono fun e W' he => ?_
  obtain ⟨v, rfl, ⟨ρ', hv⟩, hb⟩ := he
  have hv' : v = .bool true := hv
  subst hv'
  exact ⟨_, rfl, law_post (tb := 4) laid_out (by kernel_rfl) (by kernel_rfl) (by kernel_rfl) rfl rfl hW' hb⟩

theorem keccakKnown_facts : joinedFacts Tryd.prog 4 Tryd.f4 Rows.keccakKnownSpec Rows.keccakKnownRow = true := by
  unfold joinedFacts
  rw [prog_three.1, prog_three.2.1, prog_three.2.2]
  kernel_rfl
theorem keccakKnown_said : Rows.KeccakKnownSaid :=
  OpenClaim.holds_of_wide 4 Tryd.f4 rfl rfl rfl rfl rfl rfl rfl ⟨rfl, rfl, rfl, rfl, rfl⟩ rfl rfl rfl rfl rfl (by kernel_rfl) Tryd.func4 keccakKnown_facts
    (of_decide_eq_true (by kernel_rfl)) (by unfold Func.isWrapper; first | (rw [if_pos (by decide +kernel)]; kernel_rfl) | (rw [if_neg (by decide +kernel)]; exact ⟨rfl, rfl⟩))
    (fun os started H enc _ => keccakKnown_lifted os started H enc)
theorem keccakKnown_holds : Rows.KeccakKnownCardSaid :=
  Claim7.holds_tied_plain_at .later [] [.data, .data, .data] true (true, "c84c04b79771f79868de0b36c3fd74dc58a641bff1af07cf1a07fa46c0c5b375") false
    keccakKnown_said (fun _ h => by cases h) (by kernel_rfl) (fun _ h => by cases h) keccakKnown_row_tie rfl ⟨rfl, rfl⟩ (by kernel_rfl) rfl
    (fun f fn hf hfn => by
      obtain rfl : f = 4 := Option.some.inj ((show Tryd.prog.funcNamed "bascule/basculekeep.KeccakKnown" = some 4 by kernel_rfl).symm.trans hf) |>.symm
      obtain rfl : fn = Tryd.f4 := (Option.some.inj (Tryd.func4.symm.trans hfn)).symm
      exact ⟨by kernel_rfl, fun j t ht => by
        have hp : Tryd.f4.params = #[3] := by kernel_rfl
        rw [hp] at ht
        rcases j with _ | j
        · obtain rfl : 3 = t := by simpa using ht
          exact (by kernel_rfl : Tryd.prog.wantsStandIn 3 = false)
        simp at ht⟩)
    (by kernel_rfl)
end Go.Proofs.YtnacohdnjmmonaaDoor
end

section
/-
  The duty of TurnApart, whatever turns.
-/
namespace Go.Proofs.YtnacohdnjmmonaaDoor
open Go Go.Sx Go.RowKit
def cxApart (T : (Nat → BitVec 64) → Nat → BitVec 64) : Cx := ⟨[(6, specII (fun a b => [i64ok a, 0 < b ∧ b ≤ 1000000]) pkG), (12, specLanes 25 25 T)], glK, 0⟩
-- VC vc_TurnApart HASH 289fc4a3c6116983
theorem vc_TurnApart (T : (Nat → BitVec 64) → Nat → BitVec 64) (L : Nat → Int) (i j : Int) :
    Owes Tryd.prog (cxApart T) [] 10 Tryd.f5 [sRow .u64 25 L, sI .i64 i, sI .i64 j] (.one (sB true)) =
    (let x1 : Int := i % (25 : Int); let x2 : Nat := x1.toNat; let x3 : Int := Go.IntKind.u64.wrap (↑(BitVec.ofInt (64 : Nat) (L x2) ^^^ BitVec.ofInt (64 : Nat) (Go.IntKind.u64.wrap j)).toNat : Int); let x4 : Bool := Go.Sx.conj [(List.range (25 : Nat)).all fun (j : Nat) => Go.Sx.lw (T (Go.Sx.ofRow L) j) == Go.Sx.lw (T (Go.Sx.ofRow fun (j : Nat) => if j = x2 then x3 else L j) j)] == Go.Sx.conj [(List.range (25 : Nat)).all fun (j : Nat) => L j == if j = x2 then x3 else L j]; ((-9223372036854775808 : Int) ≤ i ∧ i ≤ (9223372036854775807 : Int)) ∧ ((0 : Int) < (25 : Int) ∧ (25 : Int) ≤ (1000000 : Int)) ∧ ((0 : Int) ≤ x1 ∧ x1 < (25 : Int)) ∧ ((0 : Int) ≤ x1 ∧ x1 < (25 : Int)) ∧ ((0 : Int) ≤ x1 ∧ x1 < (25 : Int)) ∧ ((0 : Int) ≤ x1 ∧ x1 < (25 : Int)) ∧ (∀ (i : Nat), i < (25 : Nat) → (0 : Int) ≤ L i ∧ L i < (18446744073709551616 : Int)) ∧ (∀ (i : Nat), i < (25 : Nat) → ((0 : Int) ≤ if i = x2 then x3 else L i) ∧ (if i = x2 then x3 else L i) < (18446744073709551616 : Int)) ∧ (x4 = Bool.true → x4 = Bool.true) ∧ (x4 = Bool.true → ∀ (i : Nat), i < (25 : Nat) → (0 : Int) ≤ (0 : Int) ∧ (0 : Int) < (18446744073709551616 : Int)) ∧ (x4 = Bool.true → x4 = Bool.true) ∧ (x4 = Bool.true → x4 = Bool.true) ∧ (x4 = Bool.true → x4 = Bool.true) ∧ (x4 && !Go.Sx.conj [Go.Sx.lw (T (Go.Sx.ofRow fun (_ : Nat) => (0 : Int)) (0 : Nat)) == (0 : Int), Go.Sx.lw (T (Go.Sx.ofRow fun (_ : Nat) => (0 : Int)) (1 : Nat)) == (0 : Int), Go.Sx.lw (T (Go.Sx.ofRow fun (_ : Nat) => (0 : Int)) (2 : Nat)) == (0 : Int), Go.Sx.lw (T (Go.Sx.ofRow fun (_ : Nat) => (0 : Int)) (3 : Nat)) == (0 : Int), Go.Sx.lw (T (Go.Sx.ofRow fun (_ : Nat) => (0 : Int)) (4 : Nat)) == (0 : Int), Go.Sx.lw (T (Go.Sx.ofRow fun (_ : Nat) => (0 : Int)) (5 : Nat)) == (0 : Int), Go.Sx.lw (T (Go.Sx.ofRow fun (_ : Nat) => (0 : Int)) (6 : Nat)) == (0 : Int), Go.Sx.lw (T (Go.Sx.ofRow fun (_ : Nat) => (0 : Int)) (7 : Nat)) == (0 : Int), Go.Sx.lw (T (Go.Sx.ofRow fun (_ : Nat) => (0 : Int)) (8 : Nat)) == (0 : Int), Go.Sx.lw (T (Go.Sx.ofRow fun (_ : Nat) => (0 : Int)) (9 : Nat)) == (0 : Int), Go.Sx.lw (T (Go.Sx.ofRow fun (_ : Nat) => (0 : Int)) (10 : Nat)) == (0 : Int), Go.Sx.lw (T (Go.Sx.ofRow fun (_ : Nat) => (0 : Int)) (11 : Nat)) == (0 : Int), Go.Sx.lw (T (Go.Sx.ofRow fun (_ : Nat) => (0 : Int)) (12 : Nat)) == (0 : Int), Go.Sx.lw (T (Go.Sx.ofRow fun (_ : Nat) => (0 : Int)) (13 : Nat)) == (0 : Int), Go.Sx.lw (T (Go.Sx.ofRow fun (_ : Nat) => (0 : Int)) (14 : Nat)) == (0 : Int), Go.Sx.lw (T (Go.Sx.ofRow fun (_ : Nat) => (0 : Int)) (15 : Nat)) == (0 : Int), Go.Sx.lw (T (Go.Sx.ofRow fun (_ : Nat) => (0 : Int)) (16 : Nat)) == (0 : Int), Go.Sx.lw (T (Go.Sx.ofRow fun (_ : Nat) => (0 : Int)) (17 : Nat)) == (0 : Int), Go.Sx.lw (T (Go.Sx.ofRow fun (_ : Nat) => (0 : Int)) (18 : Nat)) == (0 : Int), Go.Sx.lw (T (Go.Sx.ofRow fun (_ : Nat) => (0 : Int)) (19 : Nat)) == (0 : Int), Go.Sx.lw (T (Go.Sx.ofRow fun (_ : Nat) => (0 : Int)) (20 : Nat)) == (0 : Int), Go.Sx.lw (T (Go.Sx.ofRow fun (_ : Nat) => (0 : Int)) (21 : Nat)) == (0 : Int), Go.Sx.lw (T (Go.Sx.ofRow fun (_ : Nat) => (0 : Int)) (22 : Nat)) == (0 : Int), Go.Sx.lw (T (Go.Sx.ofRow fun (_ : Nat) => (0 : Int)) (23 : Nat)) == (0 : Int), Go.Sx.lw (T (Go.Sx.ofRow fun (_ : Nat) => (0 : Int)) (24 : Nat)) == (0 : Int)]) = Bool.true) := by kernel_rfl
-- END VC
end Go.Proofs.YtnacohdnjmmonaaDoor
end

section
/-
  The sponge's permutation, bit by bit: the parities of its columns, and a row of five bits, are turned one to one. (Numbers and bits alone; for stage 4.)
-/
namespace Go.Sx

/-- What is its own neighbours' sum, s places off, is so twice as far off, too. -/
theorem par_double {E : Int → Int → Bool} {s : Int} (h : ∀ x z, E x z = xor (E (x - s) z) (E (x + s) (z - s))) : ∀ x z, E x z = xor (E (x - 2 * s) z) (E (x + 2 * s) (z - 2 * s)) := by
  intro x z
  have h1 := h (x - s) z
  have h2 := h (x + s) (z - s)
  rw [show x - s - s = x - 2 * s by omega, show x - s + s = x by omega] at h1
  rw [show x + s - s = x by omega, show x + s + s = x + 2 * s by omega, show z - s - s = z - 2 * s by omega] at h2
  rw [h x z, h1, h2]
  cases E (x - 2 * s) z <;> cases E x (z - s) <;> cases E (x + 2 * s) (z - 2 * s) <;> rfl
theorem par_zero {E : Int → Int → Bool} (p5 : ∀ x z, E (x + 5) z = E x z) (p64 : ∀ x z, E x (z + 64) = E x z) (h : ∀ x z, E x z = xor (E (x - 1) z) (E (x + 1) (z - 1))) : ∀ x z, E x z = false := by
  have h64 := par_double (par_double (par_double (par_double (par_double (par_double h)))))
  have q5 : ∀ x z, E (x - 5) z = E x z := fun x z => by rw [← p5 (x - 5) z, Int.sub_add_cancel]
  have q64 : ∀ x z, E x (z - 64) = E x z := fun x z => by rw [← p64 x (z - 64), Int.sub_add_cancel]
  have s13 : ∀ x z, E (x - 64) z = E (x + 1) z := by
    intro x z
    rw [← p5 (x - 64), ← p5 (x - 64 + 5), ← p5 (x - 64 + 5 + 5), ← p5 (x - 64 + 5 + 5 + 5), ← p5 (x - 64 + 5 + 5 + 5 + 5), ← p5 (x - 64 + 5 + 5 + 5 + 5 + 5), ← p5 (x - 64 + 5 + 5 + 5 + 5 + 5 + 5), ← p5 (x - 64 + 5 + 5 + 5 + 5 + 5 + 5 + 5), ← p5 (x - 64 + 5 + 5 + 5 + 5 + 5 + 5 + 5 + 5), ← p5 (x - 64 + 5 + 5 + 5 + 5 + 5 + 5 + 5 + 5 + 5), ← p5 (x - 64 + 5 + 5 + 5 + 5 + 5 + 5 + 5 + 5 + 5 + 5), ← p5 (x - 64 + 5 + 5 + 5 + 5 + 5 + 5 + 5 + 5 + 5 + 5 + 5), ← p5 (x - 64 + 5 + 5 + 5 + 5 + 5 + 5 + 5 + 5 + 5 + 5 + 5 + 5)]
    exact congrArg (fun v => E v z) (by omega)
  have s12 : ∀ x z, E (x + 64) z = E (x + 4) z := by
    intro x z
    have := s13 (x + 63) z
    rw [show x + 63 - 64 = x - 1 by omega, show x + 63 + 1 = x + 64 by omega] at this
    rw [← this, ← p5 (x - 1), show x - 1 + 5 = x + 4 by omega]
  have F : ∀ x z, xor (E x z) (xor (E (x + 1) z) (E (x + 4) z)) = false := by
    intro x z
    have := h64 x z
    rw [show (2 : Int) * (2 * (2 * (2 * (2 * (2 * 1))))) = 64 from rfl, s13, s12, q64] at this
    rw [this]
    cases E (x + 1) z <;> cases E (x + 4) z <;> rfl
  intro x z
  have f0 := F x z
  have f2 := F (x + 2) z
  have f3 := F (x + 3) z
  rw [show x + 2 + 1 = x + 3 by omega, show x + 2 + 4 = x + 1 + 5 by omega, p5] at f2
  rw [show x + 3 + 1 = x + 4 by omega, show x + 3 + 4 = x + 2 + 5 by omega, p5] at f3
  revert f0 f2 f3
  cases E x z <;> cases E (x + 1) z <;> cases E (x + 2) z <;> cases E (x + 3) z <;> cases E (x + 4) z <;> decide

/-- The parities of five columns, turned, are one to one. -/
theorem theta_par {C C' : Nat → BitVec 64} (h : ∀ x, x < 5 → C x ^^^ (C ((x + 4) % 5) ^^^ (C ((x + 1) % 5)).rotateLeft 1) = C' x ^^^ (C' ((x + 4) % 5) ^^^ (C' ((x + 1) % 5)).rotateLeft 1)) : ∀ x, x < 5 → C x = C' x := by
  have E := par_zero (E := fun x z => (C (x % 5).toNat).getLsbD (z % 64).toNat ^^ (C' (x % 5).toNat).getLsbD (z % 64).toNat) (fun x z => by rw [Int.add_emod_right]) (fun x z => by rw [Int.add_emod_right]) (by
    intro x z
    have hx : (x % 5).toNat < 5 := by omega
    have hz : (z % 64).toNat < 64 := by omega
    have g := congrArg (fun v : BitVec 64 => v.getLsbD (z % 64).toNat) (h _ hx)
    simp only [BitVec.getLsbD_xor, BitVec.getLsbD_rotateLeft] at g
    have e1 : ((x - 1) % 5).toNat = ((x % 5).toNat + 4) % 5 := by omega
    have e2 : ((x + 1) % 5).toNat = ((x % 5).toNat + 1) % 5 := by omega
    rw [e1, e2]
    generalize (x % 5).toNat = X at *
    have m1 : 1 % 64 = 1 := rfl
    rw [m1] at g
    by_cases z0 : (z % 64).toNat = 0
    · have e3 : ((z - 1) % 64).toNat = 64 - 1 + (z % 64).toNat := by omega
      rw [decide_eq_true (show (z % 64).toNat < 1 by omega), cond_true, cond_true, ← e3] at g
      revert g
      generalize (C X).getLsbD (z % 64).toNat = b1
      generalize (C' X).getLsbD (z % 64).toNat = b2
      generalize (C ((X + 4) % 5)).getLsbD (z % 64).toNat = b3
      generalize (C' ((X + 4) % 5)).getLsbD (z % 64).toNat = b4
      generalize (C ((X + 1) % 5)).getLsbD ((z - 1) % 64).toNat = b5
      generalize (C' ((X + 1) % 5)).getLsbD ((z - 1) % 64).toNat = b6
      revert b1 b2 b3 b4 b5 b6
      decide
    · have e3 : ((z - 1) % 64).toNat = (z % 64).toNat - 1 := by omega
      rw [decide_eq_false (show ¬ (z % 64).toNat < 1 by omega), cond_false, cond_false, ← e3, decide_eq_true hz, Bool.true_and, Bool.true_and] at g
      revert g
      generalize (C X).getLsbD (z % 64).toNat = b1
      generalize (C' X).getLsbD (z % 64).toNat = b2
      generalize (C ((X + 4) % 5)).getLsbD (z % 64).toNat = b3
      generalize (C' ((X + 4) % 5)).getLsbD (z % 64).toNat = b4
      generalize (C ((X + 1) % 5)).getLsbD ((z - 1) % 64).toNat = b5
      generalize (C' ((X + 1) % 5)).getLsbD ((z - 1) % 64).toNat = b6
      revert b1 b2 b3 b4 b5 b6
      decide)
  intro x hx
  apply BitVec.eq_of_getLsbD_eq
  intro i hi
  have e := E (x : Int) (i : Int)
  have e1 : ((x : Int) % 5).toNat = x := by omega
  have e2 : ((i : Int) % 64).toNat = i := by omega
  simp only [e1, e2] at e
  revert e
  cases (C x).getLsbD i <;> cases (C' x).getLsbD i <;> decide
/-- A row of five bits is turned one to one. -/
theorem chi_bits : ∀ a0 a1 a2 a3 a4 b0 b1 b2 b3 b4 : Bool, (a0 ^^ (!a1 && a2)) = (b0 ^^ (!b1 && b2)) → (a1 ^^ (!a2 && a3)) = (b1 ^^ (!b2 && b3)) → (a2 ^^ (!a3 && a4)) = (b2 ^^ (!b3 && b4)) → (a3 ^^ (!a4 && a0)) = (b3 ^^ (!b4 && b0)) → (a4 ^^ (!a0 && a1)) = (b4 ^^ (!b0 && b1)) → a0 = b0 ∧ a1 = b1 ∧ a2 = b2 ∧ a3 = b3 ∧ a4 = b4 := by decide
theorem chi_row {a0 a1 a2 a3 a4 b0 b1 b2 b3 b4 : BitVec 64} (h0 : a0 ^^^ (~~~a1 &&& a2) = b0 ^^^ (~~~b1 &&& b2)) (h1 : a1 ^^^ (~~~a2 &&& a3) = b1 ^^^ (~~~b2 &&& b3)) (h2 : a2 ^^^ (~~~a3 &&& a4) = b2 ^^^ (~~~b3 &&& b4)) (h3 : a3 ^^^ (~~~a4 &&& a0) = b3 ^^^ (~~~b4 &&& b0)) (h4 : a4 ^^^ (~~~a0 &&& a1) = b4 ^^^ (~~~b0 &&& b1)) :
    a0 = b0 ∧ a1 = b1 ∧ a2 = b2 ∧ a3 = b3 ∧ a4 = b4 := by
  have key : ∀ i, i < 64 → a0.getLsbD i = b0.getLsbD i ∧ a1.getLsbD i = b1.getLsbD i ∧ a2.getLsbD i = b2.getLsbD i ∧ a3.getLsbD i = b3.getLsbD i ∧ a4.getLsbD i = b4.getLsbD i := by
    intro i hi
    have g := fun {u v : BitVec 64} (h : u = v) => congrArg (fun w : BitVec 64 => w.getLsbD i) h
    have k0 := g h0
    have k1 := g h1
    have k2 := g h2
    have k3 := g h3
    have k4 := g h4
    simp only [BitVec.getLsbD_xor, BitVec.getLsbD_and, BitVec.getLsbD_not, decide_eq_true hi, Bool.true_and] at k0 k1 k2 k3 k4
    exact chi_bits _ _ _ _ _ _ _ _ _ _ k0 k1 k2 k3 k4
  refine ⟨?_, ?_, ?_, ?_, ?_⟩ <;> apply BitVec.eq_of_getLsbD_eq <;> intro i hi
  · exact (key i hi).1
  · exact (key i hi).2.1
  · exact (key i hi).2.2.1
  · exact (key i hi).2.2.2.1
  · exact (key i hi).2.2.2.2
end Go.Sx
end

section
/-
  The sponge's permutation turns sponges that differ into sponges that differ.
-/
namespace Go.Sx
open Go.RowKit

theorem xor_right {a b c d : BitVec 64} (h : a ^^^ c = b ^^^ d) (hc : c = d) : a = b := by
  subst hc
  have := congrArg (· ^^^ c) h
  simpa [BitVec.xor_assoc] using this
theorem col_theta (a : Nat → BitVec 64) {x : Nat} (hx : x < 5) : colB (thetaB a) x = colB a x ^^^ (colB a ((x + 4) % 5) ^^^ (colB a ((x + 1) % 5)).rotateLeft 1) := by
  have m : ∀ y, y ∈ [x, x + 5, x + 10, x + 15, x + 20] → y % 5 = x := by
    intro y hy
    simp only [List.mem_cons, List.not_mem_nil, or_false] at hy
    omega
  have e : ∀ y, y ∈ [x, x + 5, x + 10, x + 15, x + 20] → thetaB a y = a y ^^^ (colB a ((x + 4) % 5) ^^^ (colB a ((x + 1) % 5)).rotateLeft 1) := by
    intro y hy
    unfold thetaB
    rw [m y hy]
  have h0 : colB (thetaB a) x = thetaB a x ^^^ thetaB a (x + 5) ^^^ thetaB a (x + 10) ^^^ thetaB a (x + 15) ^^^ thetaB a (x + 20) := rfl
  have h1 : colB a x = a x ^^^ a (x + 5) ^^^ a (x + 10) ^^^ a (x + 15) ^^^ a (x + 20) := rfl
  rw [h0, e _ (by simp), e _ (by simp), e _ (by simp), e _ (by simp), e _ (by simp), h1]
  generalize colB a ((x + 4) % 5) ^^^ (colB a ((x + 1) % 5)).rotateLeft 1 = D
  apply BitVec.eq_of_getLsbD_eq
  intro i _
  simp only [BitVec.getLsbD_xor]
  cases (a x).getLsbD i <;> cases (a (x + 5)).getLsbD i <;> cases (a (x + 10)).getLsbD i <;> cases (a (x + 15)).getLsbD i <;> cases (a (x + 20)).getLsbD i <;> cases D.getLsbD i <;> rfl
theorem col_congr {a b : Nat → BitVec 64} (h : ∀ i, i < 25 → a i = b i) {x : Nat} (hx : x < 5) : colB a x = colB b x := by
  have h0 : ∀ c : Nat → BitVec 64, colB c x = c x ^^^ c (x + 5) ^^^ c (x + 10) ^^^ c (x + 15) ^^^ c (x + 20) := fun _ => rfl
  rw [h0, h0, h _ (by omega), h _ (by omega), h _ (by omega), h _ (by omega), h _ (by omega)]
theorem theta_inj {a b : Nat → BitVec 64} (h : ∀ i, i < 25 → thetaB a i = thetaB b i) : ∀ i, i < 25 → a i = b i := by
  have hC : ∀ x, x < 5 → colB a x = colB b x := by
    refine theta_par (C := colB a) (C' := colB b) fun x hx => ?_
    rw [← col_theta a hx, ← col_theta b hx]
    exact col_congr h hx
  intro i hi
  have := h i hi
  unfold thetaB at this
  exact xor_right this (by rw [hC _ (Nat.mod_lt _ (by decide)), hC _ (Nat.mod_lt _ (by decide))])
theorem rotl_inj {a b : BitVec 64} {k : Nat} (hk : k < 64) (h : a.rotateLeft k = b.rotateLeft k) : a = b := by
  apply BitVec.eq_of_getLsbD_eq
  intro i hi
  have hm : k % 64 = k := Nat.mod_eq_of_lt hk
  by_cases c : i + k < 64
  · have g := congrArg (fun v : BitVec 64 => v.getLsbD (i + k)) h
    simp only [BitVec.getLsbD_rotateLeft, hm] at g
    rw [decide_eq_false (show ¬ i + k < k by omega), cond_false, cond_false, decide_eq_true c, Bool.true_and, Bool.true_and, Nat.add_sub_cancel] at g
    exact g
  · have g := congrArg (fun v : BitVec 64 => v.getLsbD (i + k - 64)) h
    simp only [BitVec.getLsbD_rotateLeft, hm] at g
    rw [decide_eq_true (show i + k - 64 < k by omega), cond_true, cond_true, show 64 - k + (i + k - 64) = i by omega] at g
    exact g
theorem src_onto : ∀ j, j < 25 → ∃ i, i < 25 ∧ srcN.getD i 0 = j ∧ offN.getD j 0 < 64 := by decide
theorem scat_inj {a b : Nat → BitVec 64} (h : ∀ i, i < 25 → scatB a i = scatB b i) : ∀ i, i < 25 → a i = b i := by
  intro j hj
  obtain ⟨i, hi, e, hk⟩ := src_onto j hj
  have := h i hi
  unfold scatB at this
  rw [e] at this
  exact rotl_inj hk this
theorem chi_inj {a b : Nat → BitVec 64} (h : ∀ i, i < 25 → chiB a i = chiB b i) : ∀ i, i < 25 → a i = b i := by
  have row : ∀ y, y < 5 → a (y * 5) = b (y * 5) ∧ a (y * 5 + 1) = b (y * 5 + 1) ∧ a (y * 5 + 2) = b (y * 5 + 2) ∧ a (y * 5 + 3) = b (y * 5 + 3) ∧ a (y * 5 + 4) = b (y * 5 + 4) := by
    intro y hy
    have e : ∀ (c : Nat → BitVec 64) x, x < 5 → chiB c (y * 5 + x) = c (y * 5 + x) ^^^ (~~~ c (y * 5 + (x + 1) % 5) &&& c (y * 5 + (x + 2) % 5)) := by
      intro c x hx
      unfold chiB
      rw [show (y * 5 + x) / 5 * 5 = y * 5 by omega, show (y * 5 + x) % 5 = x by omega]
    have k : ∀ x, x < 5 → a (y * 5 + x) ^^^ (~~~ a (y * 5 + (x + 1) % 5) &&& a (y * 5 + (x + 2) % 5)) = b (y * 5 + x) ^^^ (~~~ b (y * 5 + (x + 1) % 5) &&& b (y * 5 + (x + 2) % 5)) := by
      intro x hx
      rw [← e a x hx, ← e b x hx]
      exact h _ (by omega)
    exact chi_row (k 0 (by decide)) (k 1 (by decide)) (k 2 (by decide)) (k 3 (by decide)) (k 4 (by decide))
  intro i hi
  have r := row (i / 5) (by omega)
  have hm : i % 5 = 0 ∨ i % 5 = 1 ∨ i % 5 = 2 ∨ i % 5 = 3 ∨ i % 5 = 4 := by omega
  rcases hm with hm | hm | hm | hm | hm
  · rw [show i = i / 5 * 5 by omega]; exact r.1
  · rw [show i = i / 5 * 5 + 1 by omega]; exact r.2.1
  · rw [show i = i / 5 * 5 + 2 by omega]; exact r.2.2.1
  · rw [show i = i / 5 * 5 + 3 by omega]; exact r.2.2.2.1
  · rw [show i = i / 5 * 5 + 4 by omega]; exact r.2.2.2.2
theorem round_inj {a b : Nat → BitVec 64} {r : Nat} (h : ∀ i, i < 25 → roundB a r i = roundB b r i) : ∀ i, i < 25 → a i = b i := by
  refine theta_inj (scat_inj (chi_inj fun i hi => ?_))
  have := h i hi
  unfold roundB at this
  by_cases c : i = 0
  · subst c
    rw [if_pos rfl, if_pos rfl] at this
    exact xor_right this rfl
  · rw [if_neg c, if_neg c] at this
    exact this
theorem rounds_inj {a b : Nat → BitVec 64} : ∀ {r : Nat}, (∀ i, i < 25 → roundsB r a i = roundsB r b i) → ∀ i, i < 25 → a i = b i
  | 0, h => h
  | _ + 1, h => rounds_inj (round_inj h)
theorem turn_inj {a b : Nat → BitVec 64} (h : ∀ i, i < 25 → turnB a i = turnB b i) : ∀ i, i < 25 → a i = b i := rounds_inj h
theorem turn_congr {a b : Nat → BitVec 64} (h : ∀ i, i < 25 → a i = b i) : ∀ i, i < 25 → turnB a i = turnB b i := by
  have e : tabL a = tabL b := List.map_congr_left fun i hi => h i (List.mem_range.1 hi)
  intro i hi
  unfold turnB
  rw [roundsL_eq a 24 i hi, roundsL_eq b 24 i hi, e]
theorem turn_zero : turnB (fun _ => 0) 0 ≠ 0 := by
  have h : getL (roundsL 24 (tabL fun _ => 0)) 0 ≠ 0 := by decide +kernel
  unfold turnB
  rw [roundsL_eq _ 24 0 (by decide)]
  exact h
end Go.Sx
end

section
/-
  TurnApart: two sponges that differ differ still when they are turned.
-/
namespace Go.Proofs.YtnacohdnjmmonaaDoor
open Go Go.Sx Go.RowKit

theorem all_iff {f g : Nat → Int} {n : Nat} : ((List.range n).all fun j => f j == g j) = true ↔ ∀ i, i < n → f i = g i := by
  simp only [List.all_eq_true, List.mem_range, beq_iff_eq]
theorem turn_apart {L M : Nat → Int} (hL : lanes 25 L) (hM : lanes 25 M) :
    (conj [(List.range 25).all fun j => lw (turnB (ofRow L) j) == lw (turnB (ofRow M) j)] == conj [(List.range 25).all fun j => L j == M j]) = true := by
  rw [beq_iff_eq]
  simp only [conj]
  rw [Bool.eq_iff_iff, all_iff, all_iff]
  constructor
  · intro h i hi
    have h1 : ∀ j, j < 25 → turnB (ofRow L) j = turnB (ofRow M) j := fun j hj => by
      have := h j hj
      rw [← ofInt_lw (turnB (ofRow L) j), this, ofInt_lw]
    have h2 := turn_inj h1 i hi
    rw [← lw_ofRow hL hi, ← lw_ofRow hM hi, h2]
  · intro h i hi
    exact congrArg lw (turn_congr (fun j hj => show BitVec.ofInt 64 (L j) = BitVec.ofInt 64 (M j) by rw [h j hj]) i hi)
theorem zero_apart : (lw (turnB (ofRow fun _ => 0) 0) == 0) = false := by
  rw [beq_eq_false_iff_ne]
  intro h
  have : turnB (ofRow fun _ => 0) 0 = 0 := by rw [← ofInt_lw (turnB (ofRow fun _ => 0) 0), h]; rfl
  exact turn_zero this
theorem ok_TurnApart (L : Nat → Int) (i j : Int) (hL : lanes 25 L) (hi : i64ok i) (_ : i64ok j) : Owes Tryd.prog (cxApart turnB) [] 10 Tryd.f5 [sRow .u64 25 L, sI .i64 i, sI .i64 j] (.one (sB true)) := by
  rw [vc_TurnApart]
  intro x1 x2 x3 x4
  have e1 : x1 = i % 25 := rfl
  have hx3 : 0 ≤ x3 ∧ x3 < 18446744073709551616 := by
    show 0 ≤ IntKind.u64.wrap _ ∧ IntKind.u64.wrap _ < _
    rw [wrap_nat]
    exact lane_lw _
  clear_value x3
  have hM : lanes 25 (fun j => if j = x2 then x3 else L j) := by
    intro k hk
    dsimp only
    split
    · exact hx3
    · exact hL k hk
  have h4 : x4 = true := turn_apart hL hM
  clear_value x4
  subst h4
  clear_value x2 x1
  refine ⟨hi, by omega, by omega, by omega, by omega, by omega, hL, hM, fun h => h, fun _ _ _ => by omega, fun h => h, fun h => h, fun h => h, ?_⟩
  rw [Bool.true_and, Bool.not_eq_true']
  show (_ && _) = false
  rw [zero_apart]
  rfl
theorem cxok_Apart : CxOK Tryd.prog (cxApart turnB) := by
  intro p hp
  simp only [cxApart, List.mem_cons, List.not_mem_nil, or_false] at hp
  rcases hp with rfl | rfl
  · exact card_pk.up _
  · exact card_Turn
end Go.Proofs.YtnacohdnjmmonaaDoor
end
