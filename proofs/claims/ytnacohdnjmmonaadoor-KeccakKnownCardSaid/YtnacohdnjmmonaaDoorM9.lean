/-
  Texts: Kl, V33, P63.
-/
import Derived.Test.YtnacohdnjmmonaaDoorM1
import Derived.Test.YtnacohdnjmmonaaDoorM2
import Derived.Test.YtnacohdnjmmonaaDoorM3
import Derived.Test.YtnacohdnjmmonaaDoorM4
import Derived.Test.YtnacohdnjmmonaaDoorM5
import Derived.Test.YtnacohdnjmmonaaDoorM6
import Derived.Test.YtnacohdnjmmonaaDoorM7
import Derived.Test.YtnacohdnjmmonaaDoorM8
section
/-
  The rounds of Keccak on lists: so that the kernel can reckon them.
-/
namespace Go.Sx
open Go.RowKit

theorem thetaB_congr {a b : Nat → BitVec 64} (h : ∀ j, j < 25 → a j = b j) {i : Nat} (hi : i < 25) : thetaB a i = thetaB b i := by
  have col : ∀ x, x < 5 → colB a x = colB b x := fun x hx => by
    simp only [colB, h x (by omega), h (x + 5) (by omega), h (x + 10) (by omega), h (x + 15) (by omega), h (x + 20) (by omega)]
  simp only [thetaB, h i hi, col _ (Nat.mod_lt _ (by decide : 0 < 5))]
theorem src_lt : ∀ i, i < 25 → srcN.getD i 0 < 25 := by decide
theorem scatB_congr {a b : Nat → BitVec 64} (h : ∀ j, j < 25 → a j = b j) {i : Nat} (hi : i < 25) : scatB a i = scatB b i := by
  simp only [scatB, h _ (src_lt i hi)]
theorem chiB_congr {a b : Nat → BitVec 64} (h : ∀ j, j < 25 → a j = b j) {i : Nat} (hi : i < 25) : chiB a i = chiB b i := by
  have h1 : (i % 5 + 1) % 5 < 5 := Nat.mod_lt _ (by decide)
  have h2 : (i % 5 + 2) % 5 < 5 := Nat.mod_lt _ (by decide)
  simp only [chiB, h i hi, h (i / 5 * 5 + (i % 5 + 1) % 5) (by omega), h (i / 5 * 5 + (i % 5 + 2) % 5) (by omega)]
theorem stepB_congr {a b : Nat → BitVec 64} (h : ∀ j, j < 25 → a j = b j) {i : Nat} (hi : i < 25) : chiB (scatB (thetaB a)) i = chiB (scatB (thetaB b)) i :=
  chiB_congr (fun _ hj => scatB_congr (fun _ hk => thetaB_congr h hk) hj) hi
theorem roundB_congr {a b : Nat → BitVec 64} (h : ∀ j, j < 25 → a j = b j) (r : Nat) {i : Nat} (hi : i < 25) : roundB a r i = roundB b r i := by
  simp only [roundB, stepB_congr h hi, stepB_congr h (show 0 < 25 by decide)]
def tabL (a : Nat → BitVec 64) : List (BitVec 64) := (List.range 25).map a
def getL (l : List (BitVec 64)) (i : Nat) : BitVec 64 := l.getD i 0
theorem getL_tabL (a : Nat → BitVec 64) {i : Nat} (hi : i < 25) : getL (tabL a) i = a i := by
  simp [getL, tabL, List.getD_eq_getElem?_getD, hi]
def roundsL : Nat → List (BitVec 64) → List (BitVec 64)
  | 0, l => l
  | r + 1, l => tabL (roundB (getL (roundsL r l)) r)
theorem roundsL_eq (a : Nat → BitVec 64) : ∀ r i, i < 25 → roundsB r a i = getL (roundsL r (tabL a)) i
  | 0, i, hi => (getL_tabL a hi).symm
  | r + 1, i, hi => by
    simp only [roundsB, roundsL]
    rw [getL_tabL _ hi]
    exact roundB_congr (fun j hj => roundsL_eq a r j hj) r hi
def soakL (a : Nat → BitVec 64) (H : Nat → Int) : List (BitVec 64) := roundsL 24 (tabL (absB a H 136))
theorem soakL_eq (a : Nat → BitVec 64) (H : Nat → Int) {i : Nat} (hi : i < 25) : soakB a H i = getL (soakL a H) i := roundsL_eq _ 24 i hi
def endL (s : Sp) (j : Nat) : Int := firstG (fun i => lw (getL (soakL s.a (padB s.H s.n)) i)) j
theorem endL_eq (s : Sp) {j : Nat} (hj : j < 32) : endB s j = endL s j := by
  simp only [endB, endL, firstG, soakL_eq s.a (padB s.H s.n) (show j / 8 < 25 by omega)]
def sp0 : Sp := ⟨fun _ => 0, fun _ => 0, 0⟩
def sumB (n : Nat) (f : Nat → Int) (j : Nat) : Int := endB (addB sp0 f n) j
def abcF : Nat → Int := fun i => [97, 98, 99].getD i 0
theorem sum_none : (List.range 8).all (fun j => endL (addB sp0 (fun _ => 0) 0) j == [197, 210, 70, 1, 134, 247, 35, 60].getD j 0) = true := by decide +kernel
theorem sum_abc : (List.range 8).all (fun j => endL (addB sp0 abcF 3) j == [78, 3, 101, 122, 234, 69, 169, 79].getD j 0) = true := by decide +kernel
end Go.Sx
end

section
/-
  Duties of package keccak's laws.
-/
namespace Go.Proofs.YtnacohdnjmmonaaDoor
open Go Go.Sx Go.RowKit
def cxSum : Cx := ⟨[(8, cAddM), (9, cEndM)], glK, 0⟩
def sumG (n : Nat) (f : Nat → Int) : SV := .one (sRow .u8 32 (sumB n f))
def pkG (a b : Int) : SV := .one (sI .i64 (a % b))
def cxLaw : Cx := ⟨[(6, specII (fun a b => [i64ok a, 0 < b ∧ b ≤ 1000000]) pkG), (8, cAddM), (9, cEndM), (10, specBs (fun _ _ => []) sumG), (11, spec0 (.one (sB true)))], glK, 0⟩
def cxTells : Cx := ⟨[(10, specBs (fun _ _ => []) sumG)], glK, 0⟩
-- VC vc_pk HASH 3626a32824473137
theorem vc_pk (a b : Int) :
    Owes Tryd.prog Cx.none [] 10 Tryd.f6 [sI .i64 a, sI .i64 b] (pkG a b) =
    (let x1 : Int := a % b; b ≠ (0 : Int) ∧ (Decidable.decide (a.tmod b < (0 : Int)) = Bool.true → Go.IntKind.i64.wrap (a.tmod b + b) = x1) ∧ (Decidable.decide (a.tmod b < (0 : Int)) = Bool.false → a.tmod b = x1)) := by kernel_rfl
-- END VC
-- VC vc_tells HASH 666901bac63e183d
theorem vc_tells  :
    Owes Tryd.prog cxTells [] 10 Tryd.f11 [] (.one (sB true)) =
    ((3 : Nat) ≤ (3 : Nat) ∧ ∀ (_ : Go.Addr), (∀ (_ : Nat), True) ∧ (Go.Sx.sumB (3 : Nat) (fun (j : Nat) => (Go.Sx.intsL [Go.Sx.SK.c (Go.Sx.SC.num Go.IntKind.u8 (97 : Int)), Go.Sx.SK.c (Go.Sx.SC.num Go.IntKind.u8 (98 : Int)), Go.Sx.SK.c (Go.Sx.SC.num Go.IntKind.u8 (99 : Int))]).getD j (0 : Int)) (0 : Nat) == (78 : Int)) = Bool.true) := by kernel_rfl
-- END VC
-- VC vc_Sum HASH d25e25ab2c875a93
theorem vc_Sum (a : Option Addr) (n cap : Nat) (f : Nat → Int) :
    Owes Tryd.prog cxSum [] 10 Tryd.f10 [sXs a n cap f] (sumG n f) =
    (let x1 : Int := (↑(Go.Sx.addB (Go.Proofs.YtnacohdnjmmonaaDoor.spOf (fun (_ : Nat) => (0 : Int)) (fun (_ : Nat) => (0 : Int)) (0 : Int)) (fun (j : Nat) => f j) n).n : Int); (∀ (_ : Nat), True) ∧ (∀ (i : Nat), i < (25 : Nat) → (0 : Int) ≤ (0 : Int) ∧ (0 : Int) < (18446744073709551616 : Int)) ∧ Go.Proofs.YtnacohdnjmmonaaDoor.mayG (fun (_ : Nat) => (0 : Int)) (0 : Int) = Bool.true ∧ (∀ (i : Nat), i < (25 : Nat) → (0 : Int) ≤ Go.Sx.lw ((Go.Sx.addB (Go.Proofs.YtnacohdnjmmonaaDoor.spOf (fun (_ : Nat) => (0 : Int)) (fun (_ : Nat) => (0 : Int)) (0 : Int)) (fun (j : Nat) => f j) n).a i) ∧ Go.Sx.lw ((Go.Sx.addB (Go.Proofs.YtnacohdnjmmonaaDoor.spOf (fun (_ : Nat) => (0 : Int)) (fun (_ : Nat) => (0 : Int)) (0 : Int)) (fun (j : Nat) => f j) n).a i) < (18446744073709551616 : Int)) ∧ Go.Proofs.YtnacohdnjmmonaaDoor.mayG (Go.Sx.addB (Go.Proofs.YtnacohdnjmmonaaDoor.spOf (fun (_ : Nat) => (0 : Int)) (fun (_ : Nat) => (0 : Int)) (0 : Int)) (fun (j : Nat) => f j) n).2 x1 = Bool.true ∧ (∀ (j : Nat), j < (32 : Nat) → Go.Sx.endB (Go.Proofs.YtnacohdnjmmonaaDoor.spOf (fun (i : Nat) => Go.Sx.lw ((Go.Sx.addB (Go.Proofs.YtnacohdnjmmonaaDoor.spOf (fun (_ : Nat) => (0 : Int)) (fun (_ : Nat) => (0 : Int)) (0 : Int)) (fun (j : Nat) => f j) n).a i)) (Go.Sx.addB (Go.Proofs.YtnacohdnjmmonaaDoor.spOf (fun (_ : Nat) => (0 : Int)) (fun (_ : Nat) => (0 : Int)) (0 : Int)) (fun (j : Nat) => f j) n).2 x1) j = Go.Sx.sumB n f j) ∧ True) := by kernel_rfl
-- END VC
-- VC vc_KeccakKnown HASH 4f7668b0e8c000f3
theorem vc_KeccakKnown (k : Int) :
    Owes Tryd.prog cxLaw [(1, .split 3 1)] 10 Tryd.f4 [sI .i64 k] (.one (sB true)) =
    (let x1 : Int := k % (2 : Int); ((-9223372036854775808 : Int) ≤ k ∧ k ≤ (9223372036854775807 : Int)) ∧ ((0 : Int) < (2 : Int) ∧ (2 : Int) ≤ (1000000 : Int)) ∧ ((0 : Int) ≤ x1 ∧ x1 ≤ (1 : Int)) ∧ (x1 = (0 : Int) → ∀ (_ : Go.Addr) (cap : Nat), (0 : Nat) ≤ cap → (∀ (_ : Nat), True) ∧ ((Go.Sx.bytesI (Go.Sx.intsL [Go.Sx.SK.f Go.IntKind.u8 (8 : Nat) (Go.Sx.sumB (0 : Nat) fun (j : Nat) => (↑((ByteArray.mk #[]).data.getD j (0 : UInt8)).toNat : Int))])).toList == (ByteArray.mk #[(197 : UInt8), (210 : UInt8), (70 : UInt8), (1 : UInt8), (134 : UInt8), (247 : UInt8), (35 : UInt8), (60 : UInt8)]).toList) = Bool.true) ∧ (x1 = (1 : Int) → ∀ (_ : Go.Addr) (cap : Nat), (3 : Nat) ≤ cap → (∀ (_ : Nat), True) ∧ ((Go.Sx.bytesI (Go.Sx.intsL [Go.Sx.SK.f Go.IntKind.u8 (8 : Nat) (Go.Sx.sumB (3 : Nat) fun (j : Nat) => (↑((ByteArray.mk #[(97 : UInt8), (98 : UInt8), (99 : UInt8)]).data.getD j (0 : UInt8)).toNat : Int))])).toList == (ByteArray.mk #[(78 : UInt8), (3 : UInt8), (101 : UInt8), (122 : UInt8), (234 : UInt8), (69 : UInt8), (169 : UInt8), (79 : UInt8)]).toList) = Bool.true)) := by kernel_rfl
-- END VC
-- VC vc_KeccakParts HASH 0ba7fca37471d8c4
theorem vc_KeccakParts (a : Option Addr) (n cap : Nat) (f : Nat → Int) (i j : Int) :
    Owes Tryd.prog cxLaw [] 10 Tryd.f3 [sXs a n cap f, sI .i64 i, sI .i64 j] (.one (sB true)) =
    (let x1 : Int := if (400 : Int) < (↑n : Int) then (400 : Int) else (↑n : Int); let x2 : Nat := x1.toNat; let x3 : Int := (↑x2 : Int); let x4 : Int := Go.IntKind.i64.wrap (x3 + (1 : Int)); let x5 : Int := i % x4; let x6 : Int := Go.IntKind.i64.wrap (Go.IntKind.i64.wrap (x3 - x5) + (1 : Int)); let x7 : Int := Go.IntKind.i64.wrap (x5 + j % x6); let x8 : Nat := x5.toNat; let x9 : Int := (↑(Go.Sx.addB (Go.Proofs.YtnacohdnjmmonaaDoor.spOf (fun (_ : Nat) => (0 : Int)) (fun (_ : Nat) => (0 : Int)) (0 : Int)) (fun (j : Nat) => f j) x8).n : Int); let x10 : Nat := x7.toNat; let x11 : Nat := x10 - x8; let x12 : Int := (↑(Go.Sx.addB (Go.Proofs.YtnacohdnjmmonaaDoor.spOf (fun (i : Nat) => Go.Sx.lw ((Go.Sx.addB (Go.Proofs.YtnacohdnjmmonaaDoor.spOf (fun (_ : Nat) => (0 : Int)) (fun (_ : Nat) => (0 : Int)) (0 : Int)) (fun (j : Nat) => f j) x8).a i)) (Go.Sx.addB (Go.Proofs.YtnacohdnjmmonaaDoor.spOf (fun (_ : Nat) => (0 : Int)) (fun (_ : Nat) => (0 : Int)) (0 : Int)) (fun (j : Nat) => f j) x8).2 x9) (fun (j : Nat) => f (x8 + j)) x11).n : Int); let x13 : Nat := x2 - x10; let x14 : Int := (↑(Go.Sx.addB (Go.Proofs.YtnacohdnjmmonaaDoor.spOf (fun (i : Nat) => Go.Sx.lw ((Go.Sx.addB (Go.Proofs.YtnacohdnjmmonaaDoor.spOf (fun (i : Nat) => Go.Sx.lw ((Go.Sx.addB (Go.Proofs.YtnacohdnjmmonaaDoor.spOf (fun (_ : Nat) => (0 : Int)) (fun (_ : Nat) => (0 : Int)) (0 : Int)) (fun (j : Nat) => f j) x8).a i)) (Go.Sx.addB (Go.Proofs.YtnacohdnjmmonaaDoor.spOf (fun (_ : Nat) => (0 : Int)) (fun (_ : Nat) => (0 : Int)) (0 : Int)) (fun (j : Nat) => f j) x8).2 x9) (fun (j : Nat) => f (x8 + j)) x11).a i)) (Go.Sx.addB (Go.Proofs.YtnacohdnjmmonaaDoor.spOf (fun (i : Nat) => Go.Sx.lw ((Go.Sx.addB (Go.Proofs.YtnacohdnjmmonaaDoor.spOf (fun (_ : Nat) => (0 : Int)) (fun (_ : Nat) => (0 : Int)) (0 : Int)) (fun (j : Nat) => f j) x8).a i)) (Go.Sx.addB (Go.Proofs.YtnacohdnjmmonaaDoor.spOf (fun (_ : Nat) => (0 : Int)) (fun (_ : Nat) => (0 : Int)) (0 : Int)) (fun (j : Nat) => f j) x8).2 x9) (fun (j : Nat) => f (x8 + j)) x11).2 x12) (fun (j : Nat) => f (x10 + j)) x13).n : Int); let x15 : Bool := Go.Sx.conj [(List.range (32 : Nat)).all fun (j : Nat) => Go.Sx.endB (Go.Proofs.YtnacohdnjmmonaaDoor.spOf (fun (i : Nat) => Go.Sx.lw ((Go.Sx.addB (Go.Proofs.YtnacohdnjmmonaaDoor.spOf (fun (i : Nat) => Go.Sx.lw ((Go.Sx.addB (Go.Proofs.YtnacohdnjmmonaaDoor.spOf (fun (i : Nat) => Go.Sx.lw ((Go.Sx.addB (Go.Proofs.YtnacohdnjmmonaaDoor.spOf (fun (_ : Nat) => (0 : Int)) (fun (_ : Nat) => (0 : Int)) (0 : Int)) (fun (j : Nat) => f j) x8).a i)) (Go.Sx.addB (Go.Proofs.YtnacohdnjmmonaaDoor.spOf (fun (_ : Nat) => (0 : Int)) (fun (_ : Nat) => (0 : Int)) (0 : Int)) (fun (j : Nat) => f j) x8).2 x9) (fun (j : Nat) => f (x8 + j)) x11).a i)) (Go.Sx.addB (Go.Proofs.YtnacohdnjmmonaaDoor.spOf (fun (i : Nat) => Go.Sx.lw ((Go.Sx.addB (Go.Proofs.YtnacohdnjmmonaaDoor.spOf (fun (_ : Nat) => (0 : Int)) (fun (_ : Nat) => (0 : Int)) (0 : Int)) (fun (j : Nat) => f j) x8).a i)) (Go.Sx.addB (Go.Proofs.YtnacohdnjmmonaaDoor.spOf (fun (_ : Nat) => (0 : Int)) (fun (_ : Nat) => (0 : Int)) (0 : Int)) (fun (j : Nat) => f j) x8).2 x9) (fun (j : Nat) => f (x8 + j)) x11).2 x12) (fun (j : Nat) => f (x10 + j)) x13).a i)) (Go.Sx.addB (Go.Proofs.YtnacohdnjmmonaaDoor.spOf (fun (i : Nat) => Go.Sx.lw ((Go.Sx.addB (Go.Proofs.YtnacohdnjmmonaaDoor.spOf (fun (i : Nat) => Go.Sx.lw ((Go.Sx.addB (Go.Proofs.YtnacohdnjmmonaaDoor.spOf (fun (_ : Nat) => (0 : Int)) (fun (_ : Nat) => (0 : Int)) (0 : Int)) (fun (j : Nat) => f j) x8).a i)) (Go.Sx.addB (Go.Proofs.YtnacohdnjmmonaaDoor.spOf (fun (_ : Nat) => (0 : Int)) (fun (_ : Nat) => (0 : Int)) (0 : Int)) (fun (j : Nat) => f j) x8).2 x9) (fun (j : Nat) => f (x8 + j)) x11).a i)) (Go.Sx.addB (Go.Proofs.YtnacohdnjmmonaaDoor.spOf (fun (i : Nat) => Go.Sx.lw ((Go.Sx.addB (Go.Proofs.YtnacohdnjmmonaaDoor.spOf (fun (_ : Nat) => (0 : Int)) (fun (_ : Nat) => (0 : Int)) (0 : Int)) (fun (j : Nat) => f j) x8).a i)) (Go.Sx.addB (Go.Proofs.YtnacohdnjmmonaaDoor.spOf (fun (_ : Nat) => (0 : Int)) (fun (_ : Nat) => (0 : Int)) (0 : Int)) (fun (j : Nat) => f j) x8).2 x9) (fun (j : Nat) => f (x8 + j)) x11).2 x12) (fun (j : Nat) => f (x10 + j)) x13).2 x14) j == Go.Sx.sumB x2 (fun (j : Nat) => f j) j]; ((0 : Int) ≤ x1 ∧ x1 ≤ (↑n : Int)) ∧ ((-9223372036854775808 : Int) ≤ i ∧ i ≤ (9223372036854775807 : Int)) ∧ ((0 : Int) < x4 ∧ x4 ≤ (1000000 : Int)) ∧ ((-9223372036854775808 : Int) ≤ j ∧ j ≤ (9223372036854775807 : Int)) ∧ ((0 : Int) < x6 ∧ x6 ≤ (1000000 : Int)) ∧ ((0 : Int) ≤ x5 ∧ x5 ≤ x3) ∧ ((0 : Int) ≤ x5 ∧ x5 ≤ x7 ∧ x7 ≤ x3) ∧ ((0 : Int) ≤ x7 ∧ x7 ≤ x3 ∧ x3 ≤ x3) ∧ (∀ (_ : Nat), True) ∧ (∀ (i : Nat), i < (25 : Nat) → (0 : Int) ≤ (0 : Int) ∧ (0 : Int) < (18446744073709551616 : Int)) ∧ Go.Proofs.YtnacohdnjmmonaaDoor.mayG (fun (_ : Nat) => (0 : Int)) (0 : Int) = Bool.true ∧ ((x9 != (Go.IntKind.i64.wrap ((0 : Int) + (↑x8 : Int))).tmod (136 : Int)) = Bool.true → Bool.false = Bool.true) ∧ ((x9 != (Go.IntKind.i64.wrap ((0 : Int) + (↑x8 : Int))).tmod (136 : Int)) = Bool.false → (∀ (_ : Nat), True) ∧ (∀ (i : Nat), i < (25 : Nat) → (0 : Int) ≤ Go.Sx.lw ((Go.Sx.addB (Go.Proofs.YtnacohdnjmmonaaDoor.spOf (fun (_ : Nat) => (0 : Int)) (fun (_ : Nat) => (0 : Int)) (0 : Int)) (fun (j : Nat) => f j) x8).a i) ∧ Go.Sx.lw ((Go.Sx.addB (Go.Proofs.YtnacohdnjmmonaaDoor.spOf (fun (_ : Nat) => (0 : Int)) (fun (_ : Nat) => (0 : Int)) (0 : Int)) (fun (j : Nat) => f j) x8).a i) < (18446744073709551616 : Int)) ∧ Go.Proofs.YtnacohdnjmmonaaDoor.mayG (Go.Sx.addB (Go.Proofs.YtnacohdnjmmonaaDoor.spOf (fun (_ : Nat) => (0 : Int)) (fun (_ : Nat) => (0 : Int)) (0 : Int)) (fun (j : Nat) => f j) x8).2 x9 = Bool.true ∧ ((x12 != (Go.IntKind.i64.wrap (x9 + (↑x11 : Int))).tmod (136 : Int)) = Bool.true → Bool.false = Bool.true) ∧ ((x12 != (Go.IntKind.i64.wrap (x9 + (↑x11 : Int))).tmod (136 : Int)) = Bool.false → (∀ (_ : Nat), True) ∧ (∀ (i : Nat), i < (25 : Nat) → (0 : Int) ≤ Go.Sx.lw ((Go.Sx.addB (Go.Proofs.YtnacohdnjmmonaaDoor.spOf (fun (i : Nat) => Go.Sx.lw ((Go.Sx.addB (Go.Proofs.YtnacohdnjmmonaaDoor.spOf (fun (_ : Nat) => (0 : Int)) (fun (_ : Nat) => (0 : Int)) (0 : Int)) (fun (j : Nat) => f j) x8).a i)) (Go.Sx.addB (Go.Proofs.YtnacohdnjmmonaaDoor.spOf (fun (_ : Nat) => (0 : Int)) (fun (_ : Nat) => (0 : Int)) (0 : Int)) (fun (j : Nat) => f j) x8).2 x9) (fun (j : Nat) => f (x8 + j)) x11).a i) ∧ Go.Sx.lw ((Go.Sx.addB (Go.Proofs.YtnacohdnjmmonaaDoor.spOf (fun (i : Nat) => Go.Sx.lw ((Go.Sx.addB (Go.Proofs.YtnacohdnjmmonaaDoor.spOf (fun (_ : Nat) => (0 : Int)) (fun (_ : Nat) => (0 : Int)) (0 : Int)) (fun (j : Nat) => f j) x8).a i)) (Go.Sx.addB (Go.Proofs.YtnacohdnjmmonaaDoor.spOf (fun (_ : Nat) => (0 : Int)) (fun (_ : Nat) => (0 : Int)) (0 : Int)) (fun (j : Nat) => f j) x8).2 x9) (fun (j : Nat) => f (x8 + j)) x11).a i) < (18446744073709551616 : Int)) ∧ Go.Proofs.YtnacohdnjmmonaaDoor.mayG (Go.Sx.addB (Go.Proofs.YtnacohdnjmmonaaDoor.spOf (fun (i : Nat) => Go.Sx.lw ((Go.Sx.addB (Go.Proofs.YtnacohdnjmmonaaDoor.spOf (fun (_ : Nat) => (0 : Int)) (fun (_ : Nat) => (0 : Int)) (0 : Int)) (fun (j : Nat) => f j) x8).a i)) (Go.Sx.addB (Go.Proofs.YtnacohdnjmmonaaDoor.spOf (fun (_ : Nat) => (0 : Int)) (fun (_ : Nat) => (0 : Int)) (0 : Int)) (fun (j : Nat) => f j) x8).2 x9) (fun (j : Nat) => f (x8 + j)) x11).2 x12 = Bool.true ∧ ((x14 != (Go.IntKind.i64.wrap (x12 + (↑x13 : Int))).tmod (136 : Int)) = Bool.true → Bool.false = Bool.true) ∧ ((x14 != (Go.IntKind.i64.wrap (x12 + (↑x13 : Int))).tmod (136 : Int)) = Bool.false → (∀ (i : Nat), i < (25 : Nat) → (0 : Int) ≤ Go.Sx.lw ((Go.Sx.addB (Go.Proofs.YtnacohdnjmmonaaDoor.spOf (fun (i : Nat) => Go.Sx.lw ((Go.Sx.addB (Go.Proofs.YtnacohdnjmmonaaDoor.spOf (fun (i : Nat) => Go.Sx.lw ((Go.Sx.addB (Go.Proofs.YtnacohdnjmmonaaDoor.spOf (fun (_ : Nat) => (0 : Int)) (fun (_ : Nat) => (0 : Int)) (0 : Int)) (fun (j : Nat) => f j) x8).a i)) (Go.Sx.addB (Go.Proofs.YtnacohdnjmmonaaDoor.spOf (fun (_ : Nat) => (0 : Int)) (fun (_ : Nat) => (0 : Int)) (0 : Int)) (fun (j : Nat) => f j) x8).2 x9) (fun (j : Nat) => f (x8 + j)) x11).a i)) (Go.Sx.addB (Go.Proofs.YtnacohdnjmmonaaDoor.spOf (fun (i : Nat) => Go.Sx.lw ((Go.Sx.addB (Go.Proofs.YtnacohdnjmmonaaDoor.spOf (fun (_ : Nat) => (0 : Int)) (fun (_ : Nat) => (0 : Int)) (0 : Int)) (fun (j : Nat) => f j) x8).a i)) (Go.Sx.addB (Go.Proofs.YtnacohdnjmmonaaDoor.spOf (fun (_ : Nat) => (0 : Int)) (fun (_ : Nat) => (0 : Int)) (0 : Int)) (fun (j : Nat) => f j) x8).2 x9) (fun (j : Nat) => f (x8 + j)) x11).2 x12) (fun (j : Nat) => f (x10 + j)) x13).a i) ∧ Go.Sx.lw ((Go.Sx.addB (Go.Proofs.YtnacohdnjmmonaaDoor.spOf (fun (i : Nat) => Go.Sx.lw ((Go.Sx.addB (Go.Proofs.YtnacohdnjmmonaaDoor.spOf (fun (i : Nat) => Go.Sx.lw ((Go.Sx.addB (Go.Proofs.YtnacohdnjmmonaaDoor.spOf (fun (_ : Nat) => (0 : Int)) (fun (_ : Nat) => (0 : Int)) (0 : Int)) (fun (j : Nat) => f j) x8).a i)) (Go.Sx.addB (Go.Proofs.YtnacohdnjmmonaaDoor.spOf (fun (_ : Nat) => (0 : Int)) (fun (_ : Nat) => (0 : Int)) (0 : Int)) (fun (j : Nat) => f j) x8).2 x9) (fun (j : Nat) => f (x8 + j)) x11).a i)) (Go.Sx.addB (Go.Proofs.YtnacohdnjmmonaaDoor.spOf (fun (i : Nat) => Go.Sx.lw ((Go.Sx.addB (Go.Proofs.YtnacohdnjmmonaaDoor.spOf (fun (_ : Nat) => (0 : Int)) (fun (_ : Nat) => (0 : Int)) (0 : Int)) (fun (j : Nat) => f j) x8).a i)) (Go.Sx.addB (Go.Proofs.YtnacohdnjmmonaaDoor.spOf (fun (_ : Nat) => (0 : Int)) (fun (_ : Nat) => (0 : Int)) (0 : Int)) (fun (j : Nat) => f j) x8).2 x9) (fun (j : Nat) => f (x8 + j)) x11).2 x12) (fun (j : Nat) => f (x10 + j)) x13).a i) < (18446744073709551616 : Int)) ∧ Go.Proofs.YtnacohdnjmmonaaDoor.mayG (Go.Sx.addB (Go.Proofs.YtnacohdnjmmonaaDoor.spOf (fun (i : Nat) => Go.Sx.lw ((Go.Sx.addB (Go.Proofs.YtnacohdnjmmonaaDoor.spOf (fun (i : Nat) => Go.Sx.lw ((Go.Sx.addB (Go.Proofs.YtnacohdnjmmonaaDoor.spOf (fun (_ : Nat) => (0 : Int)) (fun (_ : Nat) => (0 : Int)) (0 : Int)) (fun (j : Nat) => f j) x8).a i)) (Go.Sx.addB (Go.Proofs.YtnacohdnjmmonaaDoor.spOf (fun (_ : Nat) => (0 : Int)) (fun (_ : Nat) => (0 : Int)) (0 : Int)) (fun (j : Nat) => f j) x8).2 x9) (fun (j : Nat) => f (x8 + j)) x11).a i)) (Go.Sx.addB (Go.Proofs.YtnacohdnjmmonaaDoor.spOf (fun (i : Nat) => Go.Sx.lw ((Go.Sx.addB (Go.Proofs.YtnacohdnjmmonaaDoor.spOf (fun (_ : Nat) => (0 : Int)) (fun (_ : Nat) => (0 : Int)) (0 : Int)) (fun (j : Nat) => f j) x8).a i)) (Go.Sx.addB (Go.Proofs.YtnacohdnjmmonaaDoor.spOf (fun (_ : Nat) => (0 : Int)) (fun (_ : Nat) => (0 : Int)) (0 : Int)) (fun (j : Nat) => f j) x8).2 x9) (fun (j : Nat) => f (x8 + j)) x11).2 x12) (fun (j : Nat) => f (x10 + j)) x13).2 x14 = Bool.true ∧ (∀ (_ : Nat), True) ∧ (x15 = Bool.true → x15 = Bool.true) ∧ (x15 && Bool.true) = Bool.true)))) := by kernel_rfl
-- END VC
end Go.Proofs.YtnacohdnjmmonaaDoor
end

section
/-
  The laws of package keccak: what the whole world knows; bytes cut in any way.
-/
namespace Go.Proofs.YtnacohdnjmmonaaDoor
open Go Go.Sx Go.RowKit

theorem sp0_eq : spOf (fun _ => 0) (fun _ => 0) 0 = sp0 := by
  unfold spOf sp0
  congr 1
theorem sp0_clean : clean sp0 := ⟨(by decide : (0 : Nat) < 136), fun j _ _ => (rfl : sp0.H j = 0)⟩
theorem may_zero : mayG (fun _ => 0) 0 = true := by
  rw [mayG_iff]
  exact ⟨⟨by omega, by omega⟩, fun _ _ => rfl⟩
theorem ok_Sum (a : Option Addr) (n cap : Nat) (f : Nat → Int) : Owes Tryd.prog cxSum [] 10 Tryd.f10 [sXs a n cap f] (sumG n f) := by
  rw [vc_Sum]
  intro x1
  have e0 : spOf (fun _ => 0) (fun _ => 0) 0 = sp0 := sp0_eq
  simp only [x1, e0, spOf_lw]
  exact ⟨fun _ => trivial, fun _ _ => ⟨by omega, by omega⟩, may_zero, lanes_lw _ _, may_clean (addB_clean sp0_clean _ _), fun _ _ => rfl, trivial⟩
theorem card_Sum : FnOKg Tryd.prog glK 10 (specBs (fun _ _ => []) sumG) :=
  FnOK_Bs (cx := cxSum) (iv := fun _ _ _ _ => []) (N := 10) (by
    intro p hp
    simp only [cxSum, List.mem_cons, List.not_mem_nil, or_false] at hp
    rcases hp with rfl | rfl
    · exact card_AddM
    · exact card_EndM) Tryd.func10 (by kernel_rfl) (by kernel_rfl) (fun _ _ => bnd_row _ _ _ _) fun a n cap f _ => ok_Sum a n cap f
theorem sum_at {n : Nat} {f : Nat → Int} {l : List Int} (h : (List.range 8).all (fun j => endL (addB sp0 f n) j == l.getD j 0) = true) {j : Nat} (hj : j < 8) : sumB n f j = l.getD j 0 := by
  have := List.all_eq_true.1 h j (List.mem_range.2 hj)
  unfold sumB
  rw [endL_eq _ (by omega)]
  simpa using this
theorem ok_tells : Owes Tryd.prog cxTells [] 10 Tryd.f11 [] (.one (sB true)) := by
  rw [vc_tells]
  have h : (sumB 3 abcF 0 == 78) = true := by rw [sum_at sum_abc (by decide : 0 < 8)]; rfl
  exact ⟨Nat.le_refl _, fun _ => ⟨fun _ => trivial, h⟩⟩
theorem card_tells : FnOKg Tryd.prog glK 11 (spec0 (.one (sB true))) :=
  FnOK_0 (cx := cxTells) (iv := []) (N := 10) (by
    intro p hp
    simp only [cxTells, List.mem_singleton] at hp
    subst hp
    exact card_Sum) Tryd.func11 (by kernel_rfl) (by kernel_rfl) trivial ok_tells
theorem ok_pk (a b : Int) (ha : i64ok a) (hb : 0 < b ∧ b ≤ 1000000) : Owes Tryd.prog Cx.none [] 10 Tryd.f6 [sI .i64 a, sI .i64 b] (pkG a b) := by
  rw [vc_pk]
  obtain ⟨a1, a2⟩ := ha
  intro x1
  have e1 : x1 = a % b := rfl
  have p0 := Int.emod_nonneg a (by omega : b ≠ 0)
  have p1 := Int.emod_lt_of_pos a hb.1
  have q := Int.tmod_eq_emod (a := a) (b := b)
  have e2 : (b.natAbs : Int) = b := by omega
  refine ⟨by omega, fun h => ?_, fun h => ?_⟩
  · have h' : a.tmod b < 0 := of_decide_eq_true h
    by_cases c : 0 ≤ a ∨ b ∣ a
    · rw [if_pos c] at q; omega
    · rw [if_neg c, e2] at q
      have w : IntKind.wrap .i64 (a.tmod b + b) = a.tmod b + b := by rw [IntKind.wrap_i64]; omega
      rw [w]; omega
  · have h' : ¬ a.tmod b < 0 := of_decide_eq_false h
    by_cases c : 0 ≤ a ∨ b ∣ a
    · rw [if_pos c] at q; omega
    · rw [if_neg c, e2] at q; omega
theorem card_pk : FnOKg Tryd.prog [] 6 (specII (fun a b => [i64ok a, 0 < b ∧ b ≤ 1000000]) pkG) :=
  FnOK_II (cx := Cx.none) (iv := []) (N := 10) (by intro p hp; cases hp) Tryd.func6 (by kernel_rfl) (by kernel_rfl) (fun _ _ => trivial) fun a b h => ok_pk a b h.1 h.2.1

theorem pushB_n {s : Sp} (h : s.n < 136) (b : Int) : (pushB s b).n = (s.n + 1) % 136 := by
  unfold pushB
  split
  · show 0 = _; omega
  · show s.n + 1 = _; omega
theorem addB_n {s : Sp} (h : s.n < 136) (f : Nat → Int) : ∀ p, (addB s f p).n = (s.n + p) % 136
  | 0 => by show s.n = _; omega
  | p + 1 => by
    show (pushB _ _).n = _
    rw [pushB_n (addB_lt h f p), addB_n h f p]; omega
theorem left_0 (f : Nat → Int) {p : Nat} (hp : p ≤ 400) : (((addB sp0 f p).n : Int) != (IntKind.i64.wrap (0 + (p : Int))).tmod 136) = false := by
  have h := addB_n (s := sp0) (by decide) f p
  have h0 : sp0.n = 0 := rfl
  rw [IntKind.wrap_i64, bne_eq_false_iff_eq, Int.tmod_eq_emod_of_nonneg (by omega)]; omega
theorem left_m (f : Nat → Int) {p m : Nat} (_ : p ≤ 400) (hm : m ≤ 400) : (((addB sp0 f (p + m)).n : Int) != (IntKind.i64.wrap (((addB sp0 f p).n : Int) + (m : Int))).tmod 136) = false := by
  have h := addB_n (s := sp0) (by decide) f p
  have h' := addB_n (s := sp0) (by decide) f (p + m)
  have h0 : sp0.n = 0 := rfl
  rw [IntKind.wrap_i64, bne_eq_false_iff_eq, Int.tmod_eq_emod_of_nonneg (by omega)]; omega
theorem sum_row {n : Nat} {f : Nat → Int} {l : List Int} (h : (List.range 8).all (fun j => endL (addB sp0 f n) j == l.getD j 0) = true) : (List.range 8).map (sumB n f) = (List.range 8).map fun j => l.getD j 0 :=
  List.map_congr_left fun _ hj => sum_at h (List.mem_range.1 hj)
theorem sumB_congr {n : Nat} {f g : Nat → Int} (h : ∀ i, i < n → f i = g i) : sumB n f = sumB n g := by
  funext j
  unfold sumB
  rw [addB_congr h]
theorem ok_KeccakKnown (k : Int) (hk : i64ok k) : Owes Tryd.prog cxLaw [(1, .split 3 1)] 10 Tryd.f4 [sI .i64 k] (.one (sB true)) := by
  rw [vc_KeccakKnown]
  intro x1
  have e1 : x1 = k % 2 := rfl
  refine ⟨hk, by omega, by omega, fun _ a cap _ => ⟨fun _ => trivial, ?_⟩, fun _ a cap _ => ⟨fun _ => trivial, ?_⟩⟩
  · have e : sumB 0 (fun j => ((ByteArray.mk #[]).data.getD j (0 : UInt8)).toNat) = sumB 0 (fun _ => 0) := rfl
    show ((bytesI ((List.range 8).map (sumB 0 _) ++ [])).toList == _) = true
    rw [e, sum_row sum_none]
    decide +kernel
  · have e : sumB 3 (fun j => ((ByteArray.mk #[(97 : UInt8), (98 : UInt8), (99 : UInt8)]).data.getD j (0 : UInt8)).toNat) = sumB 3 abcF := sumB_congr fun i hi => by
      match i, hi with
      | 0, _ => rfl
      | 1, _ => rfl
      | 2, _ => rfl
    show ((bytesI ((List.range 8).map (sumB 3 _) ++ [])).toList == _) = true
    rw [e, sum_row sum_abc]
    decide +kernel
theorem ok_KeccakParts (a : Option Addr) (n cap : Nat) (f : Nat → Int) (i j : Int) (hi : i64ok i) (hj : i64ok j) : Owes Tryd.prog cxLaw [] 10 Tryd.f3 [sXs a n cap f, sI .i64 i, sI .i64 j] (.one (sB true)) := by
  rw [vc_KeccakParts]
  intro x1 x2 x3 x4 x5 x6 x7 x8 x9 x10 x11 x12 x13 x14 x15
  have e1 : x1 = if (400 : Int) < (n : Int) then 400 else (n : Int) := rfl
  have b1 : 0 ≤ x1 ∧ x1 ≤ n ∧ x1 ≤ 400 := by rw [e1]; split <;> omega
  clear_value x1
  have e2 : x2 = x1.toNat := rfl
  have e3 : x3 = x1 := by show (x1.toNat : Int) = x1; omega
  have e4 : x4 = x1 + 1 := by
    show IntKind.i64.wrap (x3 + 1) = _
    rw [e3, IntKind.wrap_i64]; omega
  have b5 : 0 ≤ x5 ∧ x5 ≤ x1 := by
    have := Int.emod_nonneg i (by omega : x4 ≠ 0)
    have := Int.emod_lt_of_pos i (by omega : 0 < x4)
    have : x5 = i % x4 := rfl
    omega
  have e6 : x6 = x1 - x5 + 1 := by
    show IntKind.i64.wrap (IntKind.i64.wrap (x3 - x5) + 1) = _
    rw [e3, IntKind.wrap_i64, IntKind.wrap_i64]; omega
  have b7 : x5 ≤ x7 ∧ x7 ≤ x1 := by
    have h1 := Int.emod_nonneg j (by omega : x6 ≠ 0)
    have h2 := Int.emod_lt_of_pos j (by omega : 0 < x6)
    have : x7 = x5 + j % x6 := by
      show IntKind.i64.wrap (x5 + j % x6) = _
      rw [IntKind.wrap_i64]; omega
    omega
  have e8 : (x8 : Int) = x5 := by show (x5.toNat : Int) = x5; omega
  have e10 : (x10 : Int) = x7 := by show (x7.toNat : Int) = x7; omega
  have e11 : x8 + x11 = x10 := by have : x11 = x10 - x8 := rfl; omega
  have e13 : x10 + x13 = x2 := by have : x13 = x2 - x10 := rfl; omega
  have h15 : x15 = true := by
    simp only [x15, x14, x12, x9, sp0_eq, spOf_lw, addB_add, e11, e13]
    simp only [conj, sumB, beq_self_eq_true, List.all_eq_true, implies_true]
  clear_value x15
  simp only [x14, x12, x9, sp0_eq, spOf_lw, addB_add, e11, e13]
  clear_value x13 x11 x10 x8 x7 x6 x5 x4 x3 x2
  subst e11 e13
  rw [left_0 f (by omega), left_m f (by omega) (by omega), left_m f (by omega) (by omega)]
  have cl := fun p => may_clean (addB_clean sp0_clean f p)
  refine ⟨by omega, hi, by omega, hj, by omega, by omega, by omega, by omega, fun _ => trivial, fun _ _ => by omega, may_zero, fun h => h, fun _ => ⟨fun _ => trivial, lanes_lw _ _, cl _, fun h => h, fun _ => ⟨fun _ => trivial, lanes_lw _ _, cl _, fun h => h, fun _ => ⟨lanes_lw _ _, cl _, fun _ => trivial, fun h => h, by rw [h15]; rfl⟩⟩⟩⟩
theorem cxok_Law : CxOK Tryd.prog cxLaw := by
  intro p hp
  simp only [cxLaw, List.mem_cons, List.not_mem_nil, or_false] at hp
  rcases hp with rfl | rfl | rfl | rfl | rfl
  · exact card_pk.up _
  · exact card_AddM
  · exact card_EndM
  · exact card_Sum
  · exact card_tells
end Go.Proofs.YtnacohdnjmmonaaDoor
end
