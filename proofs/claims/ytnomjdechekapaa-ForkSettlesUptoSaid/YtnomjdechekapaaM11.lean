/-
  Texts: V204, P324, V208, P328, V220.
-/
import Derived.Test.YtnomjdechekapaaM1
import Derived.Test.YtnomjdechekapaaM2
import Derived.Test.YtnomjdechekapaaM3
import Derived.Test.YtnomjdechekapaaM4
import Derived.Test.YtnomjdechekapaaM5
import Derived.Test.YtnomjdechekapaaM6
import Derived.Test.YtnomjdechekapaaM7
import Derived.Test.YtnomjdechekapaaM8
import Derived.Test.YtnomjdechekapaaM9
import Derived.Test.YtnomjdechekapaaM10
section
namespace Go.Proofs.Ytnomjdechekapaa
open Go.Sx
set_option maxRecDepth 100000
def putN {T : Type} (n : Nat) (g : Nat → T) (x : T) (i : Nat) : T := if i < n then g i else x
def gwE (P H : Nat → Int) (N : Nat → Nat) (n : Nat) (best fin p : Int) (m : Nat) : Int :=
  if trE P H N n best fin ≠ 0 then trE P H N n best fin else if p < 0 ∨ (n : Int) ≤ p then 5 else if stO P p fin = false then 15 else if 6 < m then 1 else if 40 ≤ n then 9 else 0
def gwP (P : Nat → Int) (n : Nat) (p : Int) : Nat → Int := putN n P p
def gwH (H : Nat → Int) (n : Nat) (p : Int) : Nat → Int := putN n H (IntKind.i64.wrap (H p.toNat + 1))
def gwB (P H : Nat → Int) (n : Nat) (fin p : Int) : Int := bsD (gwP P n p) (gwH H n p) fin (n + 1) (n + 1)
def gwF (P H : Nat → Int) (A : Nat → Option Addr) (N C : Nat → Nat) (X : Nat → Nat → Nat → SC) (n : Nat) (p : Int) (b : Option Addr) (m cb : Nat) (Y : Nat → Nat → SC) : Nat → Nat → SC :=
  blkF (gwP P n p) (gwH H n p) (putN n A b) (putN n N m) (putN n C cb) (putN n X Y)
def gwR (P H : Nat → Int) (N : Nat → Nat) (n : Nat) (g : Nat → Nat → SC) (best fin p : Int) (m : Nat) : List RS :=
  [.ex (fun _ => True) fun _ => .st [.s (if gwE P H N n best fin p m = 0 then n + 1 else 0) 3 g, kI (if gwE P H N n best fin p m = 0 then gwB P H n fin p else 0), kI (if gwE P H N n best fin p m = 0 then fin else 0)], .v (sI .i64 (gwE P H N n best fin p m))]
def slGw : List (Nat × SSpec) := [(8, cTf), (24, cSd), (21, cBo)]
def cxGw : Cx := ⟨[(1000000008, fun _ => none), (1000000010, fun _ => none), (1000000012, fun _ => none), (1000000013, fun _ => none), (1000000014, fun _ => none)], [], 0, []⟩
theorem vc_gw (a : Option Addr) (n cap : Nat) (P H : Nat → Int) (A : Nat → Option Addr) (N C : Nat → Nat) (X : Nat → Nat → Nat → SC) (best fin p : Int) (b : Option Addr) (m cb : Nat) (Y : Nat → Nat → SC) :
    OwesR Try.prog cxGw slGw [] 4 Try.f10 [sTr a n cap (blkF P H A N C X) best fin, sI .i64 p, .sc (.xs b m cb 109 Y)] true (gwR P H N n (gwF P H A N C X n p b m cb Y) best fin p m) =
    (let x1 : Int := trE (fun (i : Nat) => iAt (blkF P H A N C X) i 0) (fun (i : Nat) => iAt (blkF P H A N C X) i 1) (fun (i : Nat) => nAt (blkF P H A N C X i 2)) n best fin; let x2 : Int := gwE P H N n best fin p m; let x3 : Prop := x2 = (0 : Int); let x4 : Nat := if x3 then n + 1 else 0; let x5 : Int := if x3 then gwB P H n fin p else (0 : Int); let x6 : Int := if x3 then fin else (0 : Int); let x7 : Bool := Decidable.decide (p < (0 : Int)); let x8 : Prop := (!x7) = Bool.true; let x9 : Prop := 0 = 0; let x10 : Nat := 0 + n; let x11 : Nat := x10 + 1; let x12 : Prop := (0 ≤ 0 ∧ 0 ≤ Go.maxLen ∧ x9) ∧ (x10 ≤ Go.maxLen ∧ x10 * 40 ≤ 140737488355328) ∧ ∀ (c : Nat), x10 + c ≤ Go.maxLen → x9 ∧ x10 = x10 ∧ (x10 ≤ x10 + c ∧ x10 + c ≤ Go.maxLen ∧ (x10 + c) * 3 = x10 * 3 + c * 3) ∧ (x11 ≤ Go.maxLen ∧ x11 * 40 ≤ 140737488355328) ∧ ∀ (c_1 : Nat), x11 + c_1 ≤ Go.maxLen → 0 + x11 ≤ x11 ∧ x11 ≤ x11 + c_1 ∧ ∀ (a_3 : Go.Addr), (trP (Option.some a_3) x11 fun (i c_2 : Nat) => newH (SA.sc (SC.slw 1 3 0 x10 (x10 + c))) (SA.sc (SC.sl 15 0 1 1)) x10 (newH (SA.sc (SC.sl 1 0 0 0)) (SA.sc ((flat (toKs (sTr a n cap (blkF P H A N C X) best fin))).getD 0 (SC.bit Bool.false))) 0 (fixAt (flat []) 3 0 0) (blkF P H A N C X)) (fixAt (flat [SK.c (SC.val (Go.Value.int Go.IntKind.i64 p)), SK.c (SC.val (Go.Value.int Go.IntKind.i64 (Go.IntKind.i64.wrap (H p.toNat + (1 : Int))))), SK.c (SC.xs b m cb 109 Y)]) 3 1 0) (0 + i) c_2) ∧ (∃ (_ : List Nat → Option Go.Addr × Nat), True ∧ (0 + x11 ≤ x11 ∧ x11 = x4 ∧ x11 ≤ x11 + c_1 ∧ ∀ (i : Nat), i < x4 → allC 3 fun (c_2 : Nat) => simC (newH (SA.sc (SC.slw 1 3 0 x10 (x10 + c))) (SA.sc (SC.sl 15 0 1 1)) x10 (newH (SA.sc (SC.sl 1 0 0 0)) (SA.sc ((flat (toKs (sTr a n cap (blkF P H A N C X) best fin))).getD 0 (SC.bit Bool.false))) 0 (fixAt (flat []) 3 0 0) (blkF P H A N C X)) (fixAt (flat [SK.c (SC.val (Go.Value.int Go.IntKind.i64 p)), SK.c (SC.val (Go.Value.int Go.IntKind.i64 (Go.IntKind.i64.wrap (H p.toNat + (1 : Int))))), SK.c (SC.xs b m cb 109 Y)]) 3 1 0) (0 + i) c_2) (gwF P H A N C X n p b m cb Y i c_2)) ∧ (bsD (fun (i : Nat) => iAt (fun (i c_2 : Nat) => newH (SA.sc (SC.slw 1 3 0 x10 (x10 + c))) (SA.sc (SC.sl 15 0 1 1)) x10 (newH (SA.sc (SC.sl 1 0 0 0)) (SA.sc ((flat (toKs (sTr a n cap (blkF P H A N C X) best fin))).getD 0 (SC.bit Bool.false))) 0 (fixAt (flat []) 3 0 0) (blkF P H A N C X)) (fixAt (flat [SK.c (SC.val (Go.Value.int Go.IntKind.i64 p)), SK.c (SC.val (Go.Value.int Go.IntKind.i64 (Go.IntKind.i64.wrap (H p.toNat + (1 : Int))))), SK.c (SC.xs b m cb 109 Y)]) 3 1 0) (0 + i) c_2) i 0) (fun (i : Nat) => iAt (fun (i c_2 : Nat) => newH (SA.sc (SC.slw 1 3 0 x10 (x10 + c))) (SA.sc (SC.sl 15 0 1 1)) x10 (newH (SA.sc (SC.sl 1 0 0 0)) (SA.sc ((flat (toKs (sTr a n cap (blkF P H A N C X) best fin))).getD 0 (SC.bit Bool.false))) 0 (fixAt (flat []) 3 0 0) (blkF P H A N C X)) (fixAt (flat [SK.c (SC.val (Go.Value.int Go.IntKind.i64 p)), SK.c (SC.val (Go.Value.int Go.IntKind.i64 (Go.IntKind.i64.wrap (H p.toNat + (1 : Int))))), SK.c (SC.xs b m cb 109 Y)]) 3 1 0) (0 + i) c_2) i 1) fin x11 x11 = x5 ∧ True) ∧ (fin = x6 ∧ True) ∧ True) ∧ (0 : Int) = x2; let x13 : Prop := x12 ∧ x12; let x14 : Prop := ((0 ≤ 0 ∧ 0 ≤ Go.maxLen ∧ x9) ∧ (x10 ≤ Go.maxLen ∧ x10 * 40 ≤ 140737488355328) ∧ ∀ (c : Nat), let x101 : Prop := x9 ∧ x10 = x10 ∧ (x10 ≤ x10 + c ∧ x10 + c ≤ Go.maxLen ∧ (x10 + c) * 3 = x10 * 3 + c * 3) ∧ (x11 ≤ Go.maxLen ∧ x11 * 40 ≤ 140737488355328) ∧ ∀ (c_1 : Nat), x11 + c_1 ≤ Go.maxLen → 0 + x11 ≤ x11 ∧ x11 ≤ x11 + c_1 ∧ ∀ (a_2 : Go.Addr), (trP (Option.some a_2) x11 fun (i c_2 : Nat) => newH (SA.sc (SC.slw 1 3 0 x10 (x10 + c))) (SA.sc (SC.sl 15 0 1 1)) x10 (newH (SA.sc (SC.sl 1 0 0 0)) (SA.sc ((flat (toKs (sTr a n cap (blkF P H A N C X) best fin))).getD 0 (SC.bit Bool.false))) 0 (fixAt (flat []) 3 0 0) (blkF P H A N C X)) (fixAt (flat [SK.c (SC.val (Go.Value.int Go.IntKind.i64 p)), SK.c (SC.val (Go.Value.int Go.IntKind.i64 (Go.IntKind.i64.wrap (H p.toNat + (1 : Int))))), SK.c (SC.xs b m cb 109 Y)]) 3 1 0) (0 + i) c_2) ∧ (∃ (_ : List Nat → Option Go.Addr × Nat), True ∧ (0 + x11 ≤ x11 ∧ x11 = x4 ∧ x11 ≤ x11 + c_1 ∧ ∀ (i : Nat), i < x4 → allC 3 fun (c_2 : Nat) => simC (newH (SA.sc (SC.slw 1 3 0 x10 (x10 + c))) (SA.sc (SC.sl 15 0 1 1)) x10 (newH (SA.sc (SC.sl 1 0 0 0)) (SA.sc ((flat (toKs (sTr a n cap (blkF P H A N C X) best fin))).getD 0 (SC.bit Bool.false))) 0 (fixAt (flat []) 3 0 0) (blkF P H A N C X)) (fixAt (flat [SK.c (SC.val (Go.Value.int Go.IntKind.i64 p)), SK.c (SC.val (Go.Value.int Go.IntKind.i64 (Go.IntKind.i64.wrap (H p.toNat + (1 : Int))))), SK.c (SC.xs b m cb 109 Y)]) 3 1 0) (0 + i) c_2) (gwF P H A N C X n p b m cb Y i c_2)) ∧ (bsD (fun (i : Nat) => iAt (fun (i c_2 : Nat) => newH (SA.sc (SC.slw 1 3 0 x10 (x10 + c))) (SA.sc (SC.sl 15 0 1 1)) x10 (newH (SA.sc (SC.sl 1 0 0 0)) (SA.sc ((flat (toKs (sTr a n cap (blkF P H A N C X) best fin))).getD 0 (SC.bit Bool.false))) 0 (fixAt (flat []) 3 0 0) (blkF P H A N C X)) (fixAt (flat [SK.c (SC.val (Go.Value.int Go.IntKind.i64 p)), SK.c (SC.val (Go.Value.int Go.IntKind.i64 (Go.IntKind.i64.wrap (H p.toNat + (1 : Int))))), SK.c (SC.xs b m cb 109 Y)]) 3 1 0) (0 + i) c_2) i 0) (fun (i : Nat) => iAt (fun (i c_2 : Nat) => newH (SA.sc (SC.slw 1 3 0 x10 (x10 + c))) (SA.sc (SC.sl 15 0 1 1)) x10 (newH (SA.sc (SC.sl 1 0 0 0)) (SA.sc ((flat (toKs (sTr a n cap (blkF P H A N C X) best fin))).getD 0 (SC.bit Bool.false))) 0 (fixAt (flat []) 3 0 0) (blkF P H A N C X)) (fixAt (flat [SK.c (SC.val (Go.Value.int Go.IntKind.i64 p)), SK.c (SC.val (Go.Value.int Go.IntKind.i64 (Go.IntKind.i64.wrap (H p.toNat + (1 : Int))))), SK.c (SC.xs b m cb 109 Y)]) 3 1 0) (0 + i) c_2) i 1) fin x11 x11 = x5 ∧ True) ∧ (fin = x6 ∧ True) ∧ True) ∧ (0 : Int) = x2; x10 + c ≤ Go.maxLen → (x101 ∧ x101) ∧ x101) ∧ (((0 ≤ 0 ∧ 0 ≤ Go.maxLen ∧ x9) ∧ (x10 ≤ Go.maxLen ∧ x10 * 40 ≤ 140737488355328) ∧ ∀ (c : Nat), let x102 : Prop := x9 ∧ x10 = x10 ∧ (x10 ≤ x10 + c ∧ x10 + c ≤ Go.maxLen ∧ (x10 + c) * 3 = x10 * 3 + c * 3) ∧ (x11 ≤ Go.maxLen ∧ x11 * 40 ≤ 140737488355328) ∧ ∀ (c_1 : Nat), x11 + c_1 ≤ Go.maxLen → 0 + x11 ≤ x11 ∧ x11 ≤ x11 + c_1 ∧ ∀ (a_2 : Go.Addr), (trP (Option.some a_2) x11 fun (i c_2 : Nat) => newH (SA.sc (SC.slw 1 3 0 x10 (x10 + c))) (SA.sc (SC.sl 15 0 1 1)) x10 (newH (SA.sc (SC.sl 1 0 0 0)) (SA.sc ((flat (toKs (sTr a n cap (blkF P H A N C X) best fin))).getD 0 (SC.bit Bool.false))) 0 (fixAt (flat []) 3 0 0) (blkF P H A N C X)) (fixAt (flat [SK.c (SC.val (Go.Value.int Go.IntKind.i64 p)), SK.c (SC.val (Go.Value.int Go.IntKind.i64 (Go.IntKind.i64.wrap (H p.toNat + (1 : Int))))), SK.c (SC.xs b m cb 109 Y)]) 3 1 0) (0 + i) c_2) ∧ (∃ (_ : List Nat → Option Go.Addr × Nat), True ∧ (0 + x11 ≤ x11 ∧ x11 = x4 ∧ x11 ≤ x11 + c_1 ∧ ∀ (i : Nat), i < x4 → allC 3 fun (c_2 : Nat) => simC (newH (SA.sc (SC.slw 1 3 0 x10 (x10 + c))) (SA.sc (SC.sl 15 0 1 1)) x10 (newH (SA.sc (SC.sl 1 0 0 0)) (SA.sc ((flat (toKs (sTr a n cap (blkF P H A N C X) best fin))).getD 0 (SC.bit Bool.false))) 0 (fixAt (flat []) 3 0 0) (blkF P H A N C X)) (fixAt (flat [SK.c (SC.val (Go.Value.int Go.IntKind.i64 p)), SK.c (SC.val (Go.Value.int Go.IntKind.i64 (Go.IntKind.i64.wrap (H p.toNat + (1 : Int))))), SK.c (SC.xs b m cb 109 Y)]) 3 1 0) (0 + i) c_2) (gwF P H A N C X n p b m cb Y i c_2)) ∧ (bsD (fun (i : Nat) => iAt (fun (i c_2 : Nat) => newH (SA.sc (SC.slw 1 3 0 x10 (x10 + c))) (SA.sc (SC.sl 15 0 1 1)) x10 (newH (SA.sc (SC.sl 1 0 0 0)) (SA.sc ((flat (toKs (sTr a n cap (blkF P H A N C X) best fin))).getD 0 (SC.bit Bool.false))) 0 (fixAt (flat []) 3 0 0) (blkF P H A N C X)) (fixAt (flat [SK.c (SC.val (Go.Value.int Go.IntKind.i64 p)), SK.c (SC.val (Go.Value.int Go.IntKind.i64 (Go.IntKind.i64.wrap (H p.toNat + (1 : Int))))), SK.c (SC.xs b m cb 109 Y)]) 3 1 0) (0 + i) c_2) i 0) (fun (i : Nat) => iAt (fun (i c_2 : Nat) => newH (SA.sc (SC.slw 1 3 0 x10 (x10 + c))) (SA.sc (SC.sl 15 0 1 1)) x10 (newH (SA.sc (SC.sl 1 0 0 0)) (SA.sc ((flat (toKs (sTr a n cap (blkF P H A N C X) best fin))).getD 0 (SC.bit Bool.false))) 0 (fixAt (flat []) 3 0 0) (blkF P H A N C X)) (fixAt (flat [SK.c (SC.val (Go.Value.int Go.IntKind.i64 p)), SK.c (SC.val (Go.Value.int Go.IntKind.i64 (Go.IntKind.i64.wrap (H p.toNat + (1 : Int))))), SK.c (SC.xs b m cb 109 Y)]) 3 1 0) (0 + i) c_2) i 1) fin x11 x11 = x5 ∧ True) ∧ (fin = x6 ∧ True) ∧ True) ∧ (0 : Int) = x2; x10 + c ≤ Go.maxLen → x102 ∧ x102) ∧ x12) ∧ x13; let x15 : Prop := ((0 ≤ 0 ∧ 0 ≤ Go.maxLen ∧ x9) ∧ (x10 ≤ Go.maxLen ∧ x10 * 40 ≤ 140737488355328) ∧ ∀ (c : Nat), x10 + c ≤ Go.maxLen → ((0 : Int) ≤ p ∧ p < (↑n : Int)) ∧ x9 ∧ x10 = x10 ∧ (x10 ≤ x10 + c ∧ x10 + c ≤ Go.maxLen ∧ (x10 + c) * 3 = x10 * 3 + c * 3) ∧ (x11 ≤ Go.maxLen ∧ x11 * 40 ≤ 140737488355328) ∧ ∀ (c_1 : Nat), x11 + c_1 ≤ Go.maxLen → 0 + x11 ≤ x11 ∧ x11 ≤ x11 + c_1 ∧ ∀ (a_3 : Go.Addr), (trP (Option.some a_3) x11 fun (i c_2 : Nat) => newH (SA.sc (SC.slw 1 3 0 x10 (x10 + c))) (SA.sc (SC.sl 15 0 1 1)) x10 (newH (SA.sc (SC.sl 1 0 0 0)) (SA.sc ((flat (toKs (sTr a n cap (blkF P H A N C X) best fin))).getD 0 (SC.bit Bool.false))) 0 (fixAt (flat []) 3 0 0) (blkF P H A N C X)) (fixAt (flat [SK.c (SC.val (Go.Value.int Go.IntKind.i64 p)), SK.c (SC.val (Go.Value.int Go.IntKind.i64 (Go.IntKind.i64.wrap (H p.toNat + (1 : Int))))), SK.c (SC.xs b m cb 109 Y)]) 3 1 0) (0 + i) c_2) ∧ (∃ (_ : List Nat → Option Go.Addr × Nat), True ∧ (0 + x11 ≤ x11 ∧ x11 = x4 ∧ x11 ≤ x11 + c_1 ∧ ∀ (i : Nat), i < x4 → allC 3 fun (c_2 : Nat) => simC (newH (SA.sc (SC.slw 1 3 0 x10 (x10 + c))) (SA.sc (SC.sl 15 0 1 1)) x10 (newH (SA.sc (SC.sl 1 0 0 0)) (SA.sc ((flat (toKs (sTr a n cap (blkF P H A N C X) best fin))).getD 0 (SC.bit Bool.false))) 0 (fixAt (flat []) 3 0 0) (blkF P H A N C X)) (fixAt (flat [SK.c (SC.val (Go.Value.int Go.IntKind.i64 p)), SK.c (SC.val (Go.Value.int Go.IntKind.i64 (Go.IntKind.i64.wrap (H p.toNat + (1 : Int))))), SK.c (SC.xs b m cb 109 Y)]) 3 1 0) (0 + i) c_2) (gwF P H A N C X n p b m cb Y i c_2)) ∧ (bsD (fun (i : Nat) => iAt (fun (i c_2 : Nat) => newH (SA.sc (SC.slw 1 3 0 x10 (x10 + c))) (SA.sc (SC.sl 15 0 1 1)) x10 (newH (SA.sc (SC.sl 1 0 0 0)) (SA.sc ((flat (toKs (sTr a n cap (blkF P H A N C X) best fin))).getD 0 (SC.bit Bool.false))) 0 (fixAt (flat []) 3 0 0) (blkF P H A N C X)) (fixAt (flat [SK.c (SC.val (Go.Value.int Go.IntKind.i64 p)), SK.c (SC.val (Go.Value.int Go.IntKind.i64 (Go.IntKind.i64.wrap (H p.toNat + (1 : Int))))), SK.c (SC.xs b m cb 109 Y)]) 3 1 0) (0 + i) c_2) i 0) (fun (i : Nat) => iAt (fun (i c_2 : Nat) => newH (SA.sc (SC.slw 1 3 0 x10 (x10 + c))) (SA.sc (SC.sl 15 0 1 1)) x10 (newH (SA.sc (SC.sl 1 0 0 0)) (SA.sc ((flat (toKs (sTr a n cap (blkF P H A N C X) best fin))).getD 0 (SC.bit Bool.false))) 0 (fixAt (flat []) 3 0 0) (blkF P H A N C X)) (fixAt (flat [SK.c (SC.val (Go.Value.int Go.IntKind.i64 p)), SK.c (SC.val (Go.Value.int Go.IntKind.i64 (Go.IntKind.i64.wrap (H p.toNat + (1 : Int))))), SK.c (SC.xs b m cb 109 Y)]) 3 1 0) (0 + i) c_2) i 1) fin x11 x11 = x5 ∧ True) ∧ (fin = x6 ∧ True) ∧ True) ∧ (0 : Int) = x2) ∧ ((0 : Int) ≤ p ∧ p < (↑n : Int)) ∧ x13; let x16 : Prop := x13 ∧ x12; ∀ (_ : Go.Addr), tfP a n (blkF P H A N C X) ∧ ((x1 != (0 : Int)) = Bool.true → (∃ (_ : List Nat → Option Go.Addr × Nat), True ∧ x4 = 0 ∧ ((0 : Int) = x5 ∧ True) ∧ ((0 : Int) = x6 ∧ True) ∧ True) ∧ x1 = x2) ∧ ((x1 != (0 : Int)) = Bool.false → (x8 → x8) ∧ (x8 → x8) ∧ (x8 → x8) ∧ (x8 → x8) ∧ (x7 = Bool.false → x8) ∧ ((x7 || Decidable.decide (p ≥ (↑n : Int))) = Bool.true → (∃ (_ : List Nat → Option Go.Addr × Nat), True ∧ x4 = 0 ∧ ((0 : Int) = x5 ∧ True) ∧ ((0 : Int) = x6 ∧ True) ∧ True) ∧ (5 : Int) = x2) ∧ ((x7 || Decidable.decide (p ≥ (↑n : Int))) = Bool.false → trP a n (blkF P H A N C X) ∧ (0 : Int) ≤ p ∧ p < (↑n : Int) ∧ ((!stO (fun (i : Nat) => iAt (blkF P H A N C X) i 0) p fin) = Bool.true → (∃ (_ : List Nat → Option Go.Addr × Nat), True ∧ x4 = 0 ∧ ((0 : Int) = x5 ∧ True) ∧ ((0 : Int) = x6 ∧ True) ∧ True) ∧ (15 : Int) = x2) ∧ ((!stO (fun (i : Nat) => iAt (blkF P H A N C X) i 0) p fin) = Bool.false → (Decidable.decide ((↑m : Int) > (6 : Int)) = Bool.true → (∃ (_ : List Nat → Option Go.Addr × Nat), True ∧ x4 = 0 ∧ ((0 : Int) = x5 ∧ True) ∧ ((0 : Int) = x6 ∧ True) ∧ True) ∧ (1 : Int) = x2) ∧ (Decidable.decide ((↑m : Int) > (6 : Int)) = Bool.false → (Decidable.decide ((↑n : Int) ≥ (40 : Int)) = Bool.true → (∃ (_ : List Nat → Option Go.Addr × Nat), True ∧ x4 = 0 ∧ ((0 : Int) = x5 ∧ True) ∧ ((0 : Int) = x6 ∧ True) ∧ True) ∧ (9 : Int) = x2) ∧ (Decidable.decide ((↑n : Int) ≥ (40 : Int)) = Bool.false → (((0 ≤ 0 ∧ 0 ≤ Go.maxLen ∧ x9) ∧ (x10 ≤ Go.maxLen ∧ x10 * 40 ≤ 140737488355328) ∧ ∀ (c : Nat), let x103 : Prop := x9 ∧ x10 = x10 ∧ (x10 ≤ x10 + c ∧ x10 + c ≤ Go.maxLen ∧ (x10 + c) * 3 = x10 * 3 + c * 3) ∧ (x11 ≤ Go.maxLen ∧ x11 * 40 ≤ 140737488355328) ∧ ∀ (c_1 : Nat), x11 + c_1 ≤ Go.maxLen → 0 + x11 ≤ x11 ∧ x11 ≤ x11 + c_1 ∧ ∀ (a_8 : Go.Addr), (trP (Option.some a_8) x11 fun (i c_2 : Nat) => newH (SA.sc (SC.slw 1 3 0 x10 (x10 + c))) (SA.sc (SC.sl 15 0 1 1)) x10 (newH (SA.sc (SC.sl 1 0 0 0)) (SA.sc ((flat (toKs (sTr a n cap (blkF P H A N C X) best fin))).getD 0 (SC.bit Bool.false))) 0 (fixAt (flat []) 3 0 0) (blkF P H A N C X)) (fixAt (flat [SK.c (SC.val (Go.Value.int Go.IntKind.i64 p)), SK.c (SC.val (Go.Value.int Go.IntKind.i64 (Go.IntKind.i64.wrap (H p.toNat + (1 : Int))))), SK.c (SC.xs b m cb 109 Y)]) 3 1 0) (0 + i) c_2) ∧ (∃ (_ : List Nat → Option Go.Addr × Nat), True ∧ (0 + x11 ≤ x11 ∧ x11 = x4 ∧ x11 ≤ x11 + c_1 ∧ ∀ (i : Nat), i < x4 → allC 3 fun (c_2 : Nat) => simC (newH (SA.sc (SC.slw 1 3 0 x10 (x10 + c))) (SA.sc (SC.sl 15 0 1 1)) x10 (newH (SA.sc (SC.sl 1 0 0 0)) (SA.sc ((flat (toKs (sTr a n cap (blkF P H A N C X) best fin))).getD 0 (SC.bit Bool.false))) 0 (fixAt (flat []) 3 0 0) (blkF P H A N C X)) (fixAt (flat [SK.c (SC.val (Go.Value.int Go.IntKind.i64 p)), SK.c (SC.val (Go.Value.int Go.IntKind.i64 (Go.IntKind.i64.wrap (H p.toNat + (1 : Int))))), SK.c (SC.xs b m cb 109 Y)]) 3 1 0) (0 + i) c_2) (gwF P H A N C X n p b m cb Y i c_2)) ∧ (bsD (fun (i : Nat) => iAt (fun (i c_2 : Nat) => newH (SA.sc (SC.slw 1 3 0 x10 (x10 + c))) (SA.sc (SC.sl 15 0 1 1)) x10 (newH (SA.sc (SC.sl 1 0 0 0)) (SA.sc ((flat (toKs (sTr a n cap (blkF P H A N C X) best fin))).getD 0 (SC.bit Bool.false))) 0 (fixAt (flat []) 3 0 0) (blkF P H A N C X)) (fixAt (flat [SK.c (SC.val (Go.Value.int Go.IntKind.i64 p)), SK.c (SC.val (Go.Value.int Go.IntKind.i64 (Go.IntKind.i64.wrap (H p.toNat + (1 : Int))))), SK.c (SC.xs b m cb 109 Y)]) 3 1 0) (0 + i) c_2) i 0) (fun (i : Nat) => iAt (fun (i c_2 : Nat) => newH (SA.sc (SC.slw 1 3 0 x10 (x10 + c))) (SA.sc (SC.sl 15 0 1 1)) x10 (newH (SA.sc (SC.sl 1 0 0 0)) (SA.sc ((flat (toKs (sTr a n cap (blkF P H A N C X) best fin))).getD 0 (SC.bit Bool.false))) 0 (fixAt (flat []) 3 0 0) (blkF P H A N C X)) (fixAt (flat [SK.c (SC.val (Go.Value.int Go.IntKind.i64 p)), SK.c (SC.val (Go.Value.int Go.IntKind.i64 (Go.IntKind.i64.wrap (H p.toNat + (1 : Int))))), SK.c (SC.xs b m cb 109 Y)]) 3 1 0) (0 + i) c_2) i 1) fin x11 x11 = x5 ∧ True) ∧ (fin = x6 ∧ True) ∧ True) ∧ (0 : Int) = x2; x10 + c ≤ Go.maxLen → (((0 : Int) ≤ p ∧ p < (↑n : Int)) ∧ (x103 ∧ x103) ∧ x103) ∧ ((0 : Int) ≤ p ∧ p < (↑n : Int)) ∧ x103) ∧ (((0 : Int) ≤ p ∧ p < (↑n : Int)) ∧ x14) ∧ x15) ∧ (((0 : Int) ≤ p ∧ p < (↑n : Int)) ∧ x14 ∧ ((((0 ≤ 0 ∧ 0 ≤ Go.maxLen ∧ x9) ∧ (x10 ≤ Go.maxLen ∧ x10 * 40 ≤ 140737488355328) ∧ ∀ (c : Nat), let x104 : Prop := x9 ∧ x10 = x10 ∧ (x10 ≤ x10 + c ∧ x10 + c ≤ Go.maxLen ∧ (x10 + c) * 3 = x10 * 3 + c * 3) ∧ (x11 ≤ Go.maxLen ∧ x11 * 40 ≤ 140737488355328) ∧ ∀ (c_1 : Nat), x11 + c_1 ≤ Go.maxLen → 0 + x11 ≤ x11 ∧ x11 ≤ x11 + c_1 ∧ ∀ (a_8 : Go.Addr), (trP (Option.some a_8) x11 fun (i c_2 : Nat) => newH (SA.sc (SC.slw 1 3 0 x10 (x10 + c))) (SA.sc (SC.sl 15 0 1 1)) x10 (newH (SA.sc (SC.sl 1 0 0 0)) (SA.sc ((flat (toKs (sTr a n cap (blkF P H A N C X) best fin))).getD 0 (SC.bit Bool.false))) 0 (fixAt (flat []) 3 0 0) (blkF P H A N C X)) (fixAt (flat [SK.c (SC.val (Go.Value.int Go.IntKind.i64 p)), SK.c (SC.val (Go.Value.int Go.IntKind.i64 (Go.IntKind.i64.wrap (H p.toNat + (1 : Int))))), SK.c (SC.xs b m cb 109 Y)]) 3 1 0) (0 + i) c_2) ∧ (∃ (_ : List Nat → Option Go.Addr × Nat), True ∧ (0 + x11 ≤ x11 ∧ x11 = x4 ∧ x11 ≤ x11 + c_1 ∧ ∀ (i : Nat), i < x4 → allC 3 fun (c_2 : Nat) => simC (newH (SA.sc (SC.slw 1 3 0 x10 (x10 + c))) (SA.sc (SC.sl 15 0 1 1)) x10 (newH (SA.sc (SC.sl 1 0 0 0)) (SA.sc ((flat (toKs (sTr a n cap (blkF P H A N C X) best fin))).getD 0 (SC.bit Bool.false))) 0 (fixAt (flat []) 3 0 0) (blkF P H A N C X)) (fixAt (flat [SK.c (SC.val (Go.Value.int Go.IntKind.i64 p)), SK.c (SC.val (Go.Value.int Go.IntKind.i64 (Go.IntKind.i64.wrap (H p.toNat + (1 : Int))))), SK.c (SC.xs b m cb 109 Y)]) 3 1 0) (0 + i) c_2) (gwF P H A N C X n p b m cb Y i c_2)) ∧ (bsD (fun (i : Nat) => iAt (fun (i c_2 : Nat) => newH (SA.sc (SC.slw 1 3 0 x10 (x10 + c))) (SA.sc (SC.sl 15 0 1 1)) x10 (newH (SA.sc (SC.sl 1 0 0 0)) (SA.sc ((flat (toKs (sTr a n cap (blkF P H A N C X) best fin))).getD 0 (SC.bit Bool.false))) 0 (fixAt (flat []) 3 0 0) (blkF P H A N C X)) (fixAt (flat [SK.c (SC.val (Go.Value.int Go.IntKind.i64 p)), SK.c (SC.val (Go.Value.int Go.IntKind.i64 (Go.IntKind.i64.wrap (H p.toNat + (1 : Int))))), SK.c (SC.xs b m cb 109 Y)]) 3 1 0) (0 + i) c_2) i 0) (fun (i : Nat) => iAt (fun (i c_2 : Nat) => newH (SA.sc (SC.slw 1 3 0 x10 (x10 + c))) (SA.sc (SC.sl 15 0 1 1)) x10 (newH (SA.sc (SC.sl 1 0 0 0)) (SA.sc ((flat (toKs (sTr a n cap (blkF P H A N C X) best fin))).getD 0 (SC.bit Bool.false))) 0 (fixAt (flat []) 3 0 0) (blkF P H A N C X)) (fixAt (flat [SK.c (SC.val (Go.Value.int Go.IntKind.i64 p)), SK.c (SC.val (Go.Value.int Go.IntKind.i64 (Go.IntKind.i64.wrap (H p.toNat + (1 : Int))))), SK.c (SC.xs b m cb 109 Y)]) 3 1 0) (0 + i) c_2) i 1) fin x11 x11 = x5 ∧ True) ∧ (fin = x6 ∧ True) ∧ True) ∧ (0 : Int) = x2; x10 + c ≤ Go.maxLen → x104 ∧ x104) ∧ x12) ∧ x12) ∧ x16) ∧ x15 ∧ ((0 : Int) ≤ p ∧ p < (↑n : Int)) ∧ x16)))))) := by kernel_rfl
end Go.Proofs.Ytnomjdechekapaa
end

section
namespace Go.Proofs.Ytnomjdechekapaa
open Go.Sx
set_option maxRecDepth 100000
section
variable {P H : Nat → Int} {A : Nat → Option Addr} {N C : Nat → Nat} {X : Nat → Nat → Nat → SC} {a b : Option Addr} {n m cb : Nat} {p best fin : Int} {Y : Nat → Nat → SC}
def gwX (n : Nat) (X : Nat → Nat → Nat → SC) (Y : Nat → Nat → SC) (i j c : Nat) : SC := selC (decide (i < n)) (X i j c) (Y j c)
theorem gwX_cl (hX : ∀ i, clP (X i)) (hY : clP Y) (i : Nat) : clP (gwX n X Y i) := clP_of fun j c hc => by
  unfold gwX
  rw [(hX i).gf j c hc, hY.gf j c hc, sel_cl]
theorem gwX_put (hX : ∀ i, clP (X i)) (hY : clP Y) (i j c : Nat) (hc : c < 109) : simC (gwX n X Y i j c) (putN n X Y i j c) := by
  unfold gwX putN
  rw [(hX i).gf j c hc, hY.gf j c hc, sel_cl]
  by_cases h : i < n
  · rw [if_pos h, (hX i).gf j c hc, decide_eq_true h]; exact cl_refl
  · rw [if_neg h, hY.gf j c hc, decide_eq_false h]; exact cl_refl
theorem cond_put {T : Type} (g : Nat → T) (x : T) (i : Nat) : cond (decide (i < n)) (g i) x = putN n g x i := by
  unfold putN
  by_cases h : i < n
  · rw [if_pos h, decide_eq_true h]; rfl
  · rw [if_neg h, decide_eq_false h]; rfl
theorem gw_key (ht : tfP a n (blkF P H A N C X)) (hk : OkT P H N n best fin) (h0 : 0 ≤ p) (h1 : p < (n : Int)) (hY : clP Y) {G : Nat → Nat → SC} (hG : ∀ i c, c < 3 → G i c = selC (decide (i < n)) (blkF P H A N C X i c) (blkF (fun _ => p) (fun _ => IntKind.i64.wrap (H p.toNat + 1)) (fun _ => b) (fun _ => m) (fun _ => cb) (fun _ => Y) i c)) (a3 : Addr) :
    trP (some a3) (n + 1) G ∧ (∀ i, i < n + 1 → allC 3 fun c => simC (G i c) (gwF P H A N C X n p b m cb Y i c)) ∧ bsD (fun i => iAt G i 0) (fun i => iAt G i 1) fin (n + 1) (n + 1) = gwB P H n fin p := by
  have hX : ∀ i, clP (X i) := ht.tc
  have g0 : ∀ i, G i 0 = .val (.int .i64 (gwP P n p i)) := fun i => by
    rw [hG i 0 (by omega)]
    show SC.val (.int .i64 (cond (decide (i < n)) (P i) p)) = _
    rw [cond_put]; rfl
  have g1 : ∀ i, G i 1 = .val (.int .i64 (gwH H n p i)) := fun i => by
    rw [hG i 1 (by omega)]
    show SC.val (.int .i64 (cond (decide (i < n)) (H i) (IntKind.i64.wrap (H p.toNat + 1)))) = _
    rw [cond_put]; rfl
  have g2 : ∀ i, G i 2 = .xs (putN n A b i) (putN n N m i) (putN n C cb i) 109 (gwX n X Y i) := fun i => by
    rw [hG i 2 (by omega)]
    show SC.xs (cond (decide (i < n)) (A i) b) (cond (decide (i < n)) (N i) m) (cond (decide (i < n)) (C i) cb) 109 (fun j c => selC (decide (i < n)) (X i j c) (Y j c)) = _
    rw [cond_put, cond_put, cond_put]; rfl
  have e0 : (fun i => iAt G i 0) = gwP P n p := funext fun i => by unfold iAt; rw [g0]
  have e1 : (fun i => iAt G i 1) = gwH H n p := funext fun i => by unfold iAt; rw [g1]
  have few := hk.few
  refine ⟨⟨by omega, fun e => (by cases e), fun i c hc => ?_, fun i => ?_, fun i hi => ?_⟩, fun i hi => ⟨(show simC (G i 0) (gwF P H A N C X n p b m cb Y i 0) from by rw [g0]; rfl), (show simC (G i 1) (gwF P H A N C X n p b m cb Y i 1) from by rw [g1]; rfl), (show simC (G i 2) (gwF P H A N C X n p b m cb Y i 2) from by rw [g2]; exact ⟨rfl, rfl, rfl, fun j _ => allC_of fun c hc => gwX_put hX hY i j c hc⟩)⟩, by rw [e0, e1]; rfl⟩
  · have q0 := congrFun e0 i
    have q1 := congrFun e1 i
    rcases c with _ | _ | _ | c
    · show _ = SC.val (.int .i64 (iAt G i 0))
      rw [q0, g0]
    · show _ = SC.val (.int .i64 (iAt G i 1))
      rw [q1, g1]
    · show _ = SC.xs (aAt (G i 2)) (nAt (G i 2)) (cAt (G i 2)) 109 (xAt (G i 2))
      rw [g2]; rfl
    · omega
  · rw [g2]; exact gwX_cl hX hY i
  · rw [show iAt G i 0 = gwP P n p i from congrFun e0 i]
    unfold gwP putN
    by_cases c : i < n
    · rw [if_pos c]; exact tr_par hk.row i c
    · rw [if_neg c]; omega
end
theorem ok_gw (a : Option Addr) (n cap : Nat) (P H : Nat → Int) (A : Nat → Option Addr) (N C : Nat → Nat) (X : Nat → Nat → Nat → SC) (best fin p : Int) (b : Option Addr) (m cb : Nat) (Y : Nat → Nat → SC) (ht : tfP a n (blkF P H A N C X)) (hY : clP Y) :
    OwesR Try.prog cxGw slGw [] 4 Try.f10 [sTr a n cap (blkF P H A N C X) best fin, sI .i64 p, .sc (.xs b m cb 109 Y)] true (gwR P H N n (gwF P H A N C X n p b m cb Y) best fin p m) := by
  rw [vc_gw]
  have hML : maxLen = 9223372036854775807 := rfl
  intro x1 x2 x3 x4 x5 x6 x7 x8 x9 x10 x11 x12 x13 x14 x15 x16 _
  have e1 : x1 = trE P H N n best fin := rfl
  have e2 : x2 = gwE P H N n best fin p m := rfl
  have bad : x2 ≠ 0 → (∃ _ac : List Nat → Option Go.Addr × Nat, True ∧ x4 = 0 ∧ ((0 : Int) = x5 ∧ True) ∧ ((0 : Int) = x6 ∧ True) ∧ True) := fun hc => ⟨fun _ => (none, 0), trivial, if_neg hc, ⟨(if_neg hc).symm, trivial⟩, ⟨(if_neg hc).symm, trivial⟩, trivial⟩
  refine ⟨ht, fun h1 => ?_, fun h1 => ?_⟩
  · have h1 : trE P H N n best fin ≠ 0 := by rw [← e1]; simpa using h1
    have es : x2 = x1 := if_pos h1
    exact ⟨bad (by rw [es, e1]; exact h1), es.symm⟩
  have h0 : trE P H N n best fin = 0 := by rw [← e1]; simpa using h1
  have hk := okT_of h0
  have pt := OkT.tr (f := blkF P H A N C X) hk ht
  have few := hk.few
  have es : x2 = if p < 0 ∨ (n : Int) ≤ p then 5 else if stO P p fin = false then 15 else if 6 < m then 1 else if 40 ≤ n then 9 else 0 := if_neg (fun c => c h0)
  refine ⟨id, id, id, id, fun h => by show (!x7) = true; rw [h]; rfl, fun hp => ?_, fun hp => ?_⟩
  · have hp : (decide (p < 0) || decide (p ≥ (n : Int))) = true := hp
    simp only [Bool.or_eq_true, decide_eq_true_eq] at hp
    have e : x2 = 5 := by rw [es, if_pos (by omega)]
    exact ⟨bad (by rw [e]; decide), e.symm⟩
  have hp : (decide (p < 0) || decide (p ≥ (n : Int))) = false := hp
  simp only [Bool.or_eq_false_iff, decide_eq_false_iff_not] at hp
  have p0 : 0 ≤ p := by omega
  have p1 : p < (n : Int) := by omega
  rw [if_neg (by omega)] at es
  refine ⟨pt, p0, p1, fun hs => ?_, fun hs => ?_⟩
  · have hs : stO P p fin = false := by rw [Bool.not_eq_true'] at hs; exact hs
    have e : x2 = 15 := by rw [es, if_pos hs]
    exact ⟨bad (by rw [e]; decide), e.symm⟩
  have hs : ¬ stO P p fin = false := fun c => by
    have hs : (!stO P p fin) = false := hs
    rw [c] at hs; cases hs
  rw [if_neg hs] at es
  refine ⟨fun h6 => ?_, fun h6 => ?_⟩
  · have h6 := of_decide_eq_true h6
    have e : x2 = 1 := by rw [es, if_pos (by omega)]
    exact ⟨bad (by rw [e]; decide), e.symm⟩
  have h6 := of_decide_eq_false h6
  rw [if_neg (by omega)] at es
  refine ⟨fun h9 => ?_, fun h9 => ?_⟩
  · have h9 := of_decide_eq_true h9
    have e : x2 = 9 := by rw [es, if_pos (by omega)]
    exact ⟨bad (by rw [e]; decide), e.symm⟩
  have h9 := of_decide_eq_false h9
  rw [if_neg (by omega)] at es
  have hp01 : 0 ≤ p ∧ p < (n : Int) := ⟨p0, p1⟩
  have e10 : x10 = n := Nat.zero_add n
  have e11 : x11 = n + 1 := by show x10 + 1 = _; rw [e10]
  have e4 : x4 = n + 1 := if_pos es
  have e5 : x5 = gwB P H n fin p := if_pos es
  have e6 : x6 = fin := if_pos es
  have key : ∀ (c : Nat) (G : Nat → Nat → SC), (∀ i c, c < 3 → G i c = selC (decide (i < n)) (blkF P H A N C X i c) (blkF (fun _ => p) (fun _ => IntKind.i64.wrap (H p.toNat + 1)) (fun _ => b) (fun _ => m) (fun _ => cb) (fun _ => Y) i c)) → ∀ a3 : Addr, trP (some a3) x11 G ∧ (∃ _ac : List Nat → Option Go.Addr × Nat, True ∧ (0 + x11 ≤ x11 ∧ x11 = x4 ∧ x11 ≤ x11 + c ∧ ∀ i, i < x4 → allC 3 fun c => simC (G i c) (gwF P H A N C X n p b m cb Y i c)) ∧ (bsD (fun i => iAt G i 0) (fun i => iAt G i 1) fin x11 x11 = x5 ∧ True) ∧ (fin = x6 ∧ True) ∧ True) ∧ 0 = x2 := fun c G hG a3 => by
    obtain ⟨k1, k2, k3⟩ := gw_key ht hk p0 p1 hY hG a3
    rw [e4, e5, e6, e11]
    exact ⟨k1, ⟨fun _ => (none, 0), trivial, ⟨by omega, rfl, by omega, k2⟩, ⟨k3, trivial⟩, ⟨rfl, trivial⟩, trivial⟩, es.symm⟩
  have hG : ∀ (i c : Nat), c < 3 → newG (SA.sc (SC.sl 15 0 1 1)) x10 (blkF P H A N C X) (fixAt (flat [SK.c (SC.val (Go.Value.int Go.IntKind.i64 p)), SK.c (SC.val (Go.Value.int Go.IntKind.i64 (Go.IntKind.i64.wrap (H p.toNat + 1)))), SK.c (SC.xs b m cb 109 Y)]) 3 1 0) (0 + i) c = selC (decide (i < n)) (blkF P H A N C X i c) (blkF (fun _ => p) (fun _ => IntKind.i64.wrap (H p.toNat + 1)) (fun _ => b) (fun _ => m) (fun _ => cb) (fun _ => Y) i c) := fun i c hc => by
    rw [Nat.zero_add, e10]
    rcases c with _ | _ | _ | c
    · rfl
    · rfl
    · rfl
    · omega
  have hx12 : x12 := by
    refine ⟨⟨by omega, by omega, rfl⟩, ⟨by omega, by omega⟩, fun c hc => ⟨rfl, rfl, ⟨by omega, hc, by omega⟩, ⟨by omega, by omega⟩, fun c hc => ⟨by omega, by omega, key c _ hG⟩⟩⟩
  have hc12 : ∀ c, x10 + c ≤ maxLen → x9 ∧ x10 = x10 ∧ (x10 ≤ x10 + c ∧ x10 + c ≤ maxLen ∧ (x10 + c) * 3 = x10 * 3 + c * 3) ∧ (x11 ≤ maxLen ∧ x11 * 40 ≤ 140737488355328) := fun c hc => ⟨rfl, rfl, ⟨by omega, hc, by omega⟩, ⟨by omega, by omega⟩⟩
  have hhead : ((0 : Nat) ≤ 0 ∧ 0 ≤ maxLen ∧ x9) ∧ (x10 ≤ maxLen ∧ x10 * 40 ≤ 140737488355328) := ⟨⟨by omega, by omega, rfl⟩, ⟨by omega, by omega⟩⟩
  have hx13 : x13 := ⟨hx12, hx12⟩
  have hx16 : x16 := ⟨hx13, hx12⟩
  have hx15 : x15 := ⟨⟨hhead.1, hhead.2, fun c hc => ⟨hp01, hx12.2.2 c hc⟩⟩, hp01, hx13⟩
  have hx14 : x14 := ⟨⟨hhead.1, hhead.2, fun c hc => ⟨⟨hx12.2.2 c hc, hx12.2.2 c hc⟩, hx12.2.2 c hc⟩⟩, ⟨⟨hhead.1, hhead.2, fun c hc => ⟨hx12.2.2 c hc, hx12.2.2 c hc⟩⟩, hx12⟩, hx13⟩
  repeat' (first | exact hx16 | exact hx15 | exact hx14 | exact hx13 | exact hx12 | exact hp01 | exact hhead.1 | exact hhead.2 | exact fun c hc => hx12.2.2 c hc | exact fun c hc => ⟨hx12.2.2 c hc, hx12.2.2 c hc⟩ | exact fun c hc => ⟨hp01, hx12.2.2 c hc⟩ | exact fun c hc => ⟨⟨hp01, ⟨hx12.2.2 c hc, hx12.2.2 c hc⟩, hx12.2.2 c hc⟩, hp01, hx12.2.2 c hc⟩ | refine ⟨?_, ?_⟩)
def gwC : List (List FD) → List Prop
  | [[.x a n _ f, .i _, .i _], [.i _], [.x _ _ _ Y]] => [tfP a n f, clP Y]
  | _ => [False]
def gwG : List (List FD) → List RS
  | [[.x _ n _ f, .i best, .i fin], [.i p], [.x b m cb Y]] => gwR (fun i => iAt f i 0) (fun i => iAt f i 1) (fun i => nAt (f i 2)) n (gwF (fun i => iAt f i 0) (fun i => iAt f i 1) (fun i => aAt (f i 2)) (fun i => nAt (f i 2)) (fun i => cAt (f i 2)) (fun i => xAt (f i 2)) n p b m cb Y) best fin p m
  | _ => []
def cGw : SSpec := specQ0 true [pqTr, .one (.i .i64), .one (.x 109)] gwC gwG
theorem okx_Gw : CxOK Try.prog cxGw := okx_mark (okx_mark (okx_mark (okx_mark (okx_mark okx_nil))))
theorem card_gw {gl : Globs} : FnOKs Try.prog gl 10 cGw := by
  refine FnOKs.up0 (FnOKs_R0 (cx := cxGw) okx_Gw (sl := slGw) (oks_cons card_tf (oks_cons card_sd (oks_cons card_bo oks_nil))) Try.func10 (by kernel_rfl) (by kernel_rfl) fun ls hc => ?_) gl
  unfold gwC at hc
  split at hc
  · rename_i a n cap f best fin p b m cb Y
    obtain ⟨q, hY, _⟩ := hc
    refine ⟨_, _, _, fun ρ => ?_, fun E hE y hy => ?_, fun r hr => ?_, ok_gw a n cap (fun i => iAt f i 0) (fun i => iAt f i 1) (fun i => aAt (f i 2)) (fun i => nAt (f i 2)) (fun i => cAt (f i 2)) (fun i => xAt (f i 2)) best fin p b m cb Y q.told hY⟩
    · rfl
    · rcases List.mem_cons.1 hy with rfl | hy
      · exact tr_told (fun i _ c hc => q.tf i c hc) (hE (sTr a n cap f best fin) (List.mem_cons_self ..))
      · exact hE y (List.mem_cons_of_mem _ hy)
    · rcases List.mem_cons.1 hr with rfl | hr
      · intro _ k hk
        rcases List.mem_cons.1 hk with rfl | hk
        · exact trivial
        · rcases List.mem_cons.1 hk with rfl | hk
          · exact trivial
          · rw [List.mem_singleton.1 hk]; exact trivial
      · rw [List.mem_singleton.1 hr]; exact trivial
  · exact hc.1.elim
end Go.Proofs.Ytnomjdechekapaa
end

section
namespace Go.Proofs.Ytnomjdechekapaa
open Go.Sx
set_option maxRecDepth 100000
abbrev xTr (a : Option Addr) (n cap : Nat) (f : Nat → Nat → SC) : SA := .sc (.xs a n cap 3 f)
def hsC : List (List FD) → List Prop
  | [[.x _ n _ _, .i _, .i _], [.i _]] => [n ≤ maxLen]
  | _ => [False]
def hsB (n : Nat) (p : Int) : Bool := decide (0 ≤ p) && decide (p < (n : Int))
def hsG : List (List FD) → List RS
  | [[.x _ n _ _, .i _, .i _], [.i p]] => [.v (sB (hsB n p))]
  | _ => []
def cHs : SSpec := specQ0 false [pqTr, .one (.i .i64)] hsC hsG
def fiC : List (List FD) → List Prop
  | [[.x a n _ f], [.i b]] => [tfP a n f, 0 ≤ b, b < (n : Int)]
  | _ => [False]
def fiG : List (List FD) → List RS
  | [[.x _ _ _ f], [.i b]] => [.v (sB (blO (fun i => iAt f i 0) (fun i => iAt f i 1) (fun i => nAt (f i 2)) b.toNat))]
  | _ => []
def cFi : SSpec := specQ0 false [.one (.x 3), .one (.i .i64)] fiC fiG
def stC : List (List FD) → List Prop
  | [[.x a n _ f], [.i b], [.i r]] => [trP a n f, 0 ≤ b, b < (n : Int), 0 ≤ r]
  | _ => [False]
def stG : List (List FD) → List RS
  | [[.x _ _ _ f], [.i b], [.i r]] => [.v (sB (stO (fun i => iAt f i 0) b r))]
  | _ => []
def cSt : SSpec := specQ0 false [.one (.x 3), .one (.i .i64), .one (.i .i64)] stC stG
def invSt (a : Option Addr) (n cap : Nat) (P H : Nat → Int) (A : Nat → Option Addr) (N C : Nat → Nat) (X : Nat → Nat → Nat → SC) (b r : Int) : Inv where
  X := Int
  tm y := slotsAt 18 [(0, .one (xTr a n cap (blkF P H A N C X))), (1, .one (sI .i64 y)), (2, .one (sI .i64 r))]
  ob _ := []
  holds y := -1 ≤ y ∧ y < (n : Int) ∧ stO P y r = stO P b r
  less y := (y + 1).toNat
def beD (P H : Nat → Int) (fin : Int) : Nat → Int
  | 0 => fin
  | d + 1 => if decide (H (beD P H fin d).toNat < H d) && stO P (d : Int) fin then (d : Int) else beD P H fin d
def beC : List (List FD) → List Prop
  | [[.x a n _ f, .i _, .i fin]] => [trP a n f, 0 ≤ fin, fin < (n : Int)]
  | _ => [False]
def beG : List (List FD) → List RS
  | [[.x _ n _ f, .i _, .i fin]] => [.v (sI .i64 (beD (fun i => iAt f i 0) (fun i => iAt f i 1) fin n))]
  | _ => []
def cBe : SSpec := specQ0 false [pqTr] beC beG
def pxT (a : Option Addr) (n cap : Nat) (f : Nat → Nat → SC) (best fin : Int) (p : Addr) : SV := .one (.sc (.px p 3 (fun c => ([.xs a n cap 3 f, .val (.int .i64 best), .val (.int .i64 fin)] : List SC).getD c (.bit false))))
def invBe (a : Option Addr) (n cap : Nat) (P H : Nat → Int) (A : Nat → Option Addr) (N C : Nat → Nat) (X : Nat → Nat → Nat → SC) (best fin : Int) : Inv where
  X := Nat × Addr
  tm d := slotsAt 36 [(1, pxT a n cap (blkF P H A N C X) best fin d.2), (3, .one (sI .i64 (beD P H fin d.1))), (9, .one (xTr a n cap (blkF P H A N C X))), (10, .one (sI .i64 (n : Int))), (11, .one (sI .i64 (d.1 : Int)))]
  ob _ := []
  holds d := d.1 ≤ n
  less d := n - d.1
def slBe : List (Nat × SSpec) := [(22, cSt)]
def cCk : SSpec := specQ0 false [pqTr] tfC tfG
def invCk (a : Option Addr) (n cap : Nat) (P H : Nat → Int) (A : Nat → Option Addr) (N C : Nat → Nat) (X : Nat → Nat → Nat → SC) (best fin : Int) : Inv where
  X := Nat × Addr
  tm d := slotsAt 45 [(1, pxT a n cap (blkF P H A N C X) best fin d.2), (16, .one (xTr a n cap (blkF P H A N C X))), (17, .one (sI .i64 (n : Int))), (18, .one (sI .i64 (d.1 : Int)))]
  ob _ := []
  holds d := d.1 ≤ n ∧ trR P H N d.1 = 0
  less d := n - d.1
def slCk : List (Nat × SSpec) := [(18, cFi), (19, cHs), (20, cBe)]
def liC : List (List FD) → List Prop
  | [[.x a n _ f], [.i b]] => [trP a n f, trR (fun i => iAt f i 0) (fun i => iAt f i 1) (fun i => nAt (f i 2)) n = 0, 0 ≤ b, b < (n : Int)]
  | _ => [False]
def liR (P : Nat → Int) (b : Int) : List RS := [.s (lnN P b) .i64 (fun i => (lineT P b).getD i 0)]
def liG : List (List FD) → List RS
  | [[.x _ _ _ f], [.i b]] => liR (fun i => iAt f i 0) b
  | _ => []
def cLi : SSpec := specQ0 false [.one (.x 3), .one (.i .i64)] liC liG
def liW (P : Nat → Int) (b y : Int) (i _ : Nat) : SC := .val (.int .i64 (if i < lnN P y then 0 else (lineT P b).getD i 0))
def invLi (a : Option Addr) (n cap : Nat) (P H : Nat → Int) (A : Nat → Option Addr) (N C : Nat → Nat) (X : Nat → Nat → Nat → SC) (b : Int) : Inv where
  X := Int
  tm y := slotsAt 31 [(0, .one (xTr a n cap (blkF P H A N C X))), (5, .one (.sc (.slw 0 1 0 (lnN P b) (lnN P b)))), (6, .one (sI .i64 y))]
  ob y := [.row 3 1 (lnN P b) (liW P b y) 0]
  holds y := -1 ≤ y ∧ y < (n : Int) ∧ lnN P y ≤ lnN P b ∧ lineT P y = (lineT P b).take (lnN P y)
  less y := (y + 1).toNat
theorem vc_hs (a : Option Addr) (n cap : Nat) (f : Nat → Nat → SC) (best fin p : Int) :
    OwesR Try.prog cxBo [] [] 4 Try.f19 [sTr a n cap f best fin, sI .i64 p] false [.v (sB (hsB n p))] =
    (let x1 : Bool := Decidable.decide (p ≥ (0 : Int)); let x2 : Prop := x1 = Bool.true; ∀ (_ : Go.Addr), (x2 → x2) ∧ (x2 → x2) ∧ (x2 → x2) ∧ (x2 → x2) ∧ (x2 → x2) ∧ (x1 && Decidable.decide (p < (↑n : Int))) = hsB n p) := by kernel_rfl
theorem vc_fi (a : Option Addr) (n cap : Nat) (P H : Nat → Int) (A : Nat → Option Addr) (N C : Nat → Nat) (X : Nat → Nat → Nat → SC) (b : Int) :
    OwesR Try.prog cxBo [] [] 4 Try.f18 [xTr a n cap (blkF P H A N C X), sI .i64 b] false [.v (sB (blO P H N b.toNat))] =
    (let x1 : Bool := P b.toNat == (-1 : Int); let x2 : Prop := x1 = Bool.true; let x3 : Bool := x1 && H b.toNat == (0 : Int); let x4 : Prop := x3 = Bool.true; let x5 : Bool := Decidable.decide (P b.toNat ≥ (0 : Int)); let x6 : Prop := x5 = Bool.true; let x7 : Bool := x5 && Decidable.decide (P b.toNat < b); let x8 : Prop := x7 = Bool.true; ((0 : Int) ≤ b ∧ b < (↑n : Int)) ∧ ((b == (0 : Int)) = Bool.true → (x2 → x2) ∧ (x2 → x2) ∧ (x2 → x2) ∧ (x4 → x4) ∧ (x4 → x4) ∧ (x4 → x4) ∧ (x4 → x4) ∧ (x3 && (↑(N b.toNat) : Int) == (0 : Int)) = blO P H N b.toNat) ∧ ((b == (0 : Int)) = Bool.false → (x6 → x6) ∧ (x6 → x6) ∧ (x6 → x6) ∧ (x6 → x6) ∧ (x8 → x8) ∧ (x8 → x8) ∧ (x8 → x8) ∧ (x8 → x8) ∧ (x8 → (0 : Int) ≤ P b.toNat ∧ P b.toNat < (↑n : Int)) ∧ (x8 → x8) ∧ (x8 → x8) ∧ (x8 → x8) ∧ (x8 → x8) ∧ (x8 → x8) ∧ (x8 → x8) ∧ (x7 && H b.toNat == Go.IntKind.i64.wrap (H (P b.toNat).toNat + (1 : Int))) = blO P H N b.toNat)) := by kernel_rfl
theorem vc_st (a : Option Addr) (n cap : Nat) (P H : Nat → Int) (A : Nat → Option Addr) (N C : Nat → Nat) (X : Nat → Nat → Nat → SC) (b r : Int) :
    OwesR Try.prog .none [] [(1, .inv (invSt a n cap P H A N C X b r))] 4 Try.f22 [xTr a n cap (blkF P H A N C X), sI .i64 b, sI .i64 r] false [.v (sB (stO P b r))] =
    ((∀ (y : Int), closedB (slotsAt 18 [(0, SV.one (xTr a n cap (blkF P H A N C X))), (1, SV.one (sI Go.IntKind.i64 y)), (2, SV.one (sI Go.IntKind.i64 r))]) [] = Bool.true) ∧ ∃ (y : Int), ((-1 : Int) ≤ y ∧ y < (↑n : Int) ∧ stO P y r = stO P b r) ∧ simC (SC.xs a n cap 3 (blkF P H A N C X)) (SC.xs a n cap 3 (blkF P H A N C X)) ∧ b = y ∧ r = r ∧ ∀ (y : Int), (-1 : Int) ≤ y ∧ y < (↑n : Int) ∧ stO P y r = stO P b r → (Decidable.decide (y > r) = Bool.true → ((0 : Int) ≤ y ∧ y < (↑n : Int)) ∧ ∃ (y' : Int), ((-1 : Int) ≤ y' ∧ y' < (↑n : Int) ∧ stO P y' r = stO P b r) ∧ simC (SC.xs a n cap 3 (blkF P H A N C X)) (SC.xs a n cap 3 (blkF P H A N C X)) ∧ P y.toNat = y' ∧ r = r ∧ (y' + (1 : Int)).toNat.succ.le (y + (1 : Int)).toNat) ∧ (Decidable.decide (y > r) = Bool.false → (y == r) = stO P b r)) := by kernel_rfl
theorem vc_be (a : Option Addr) (n cap : Nat) (P H : Nat → Int) (A : Nat → Option Addr) (N C : Nat → Nat) (X : Nat → Nat → Nat → SC) (best fin : Int) :
    OwesR Try.prog cxBo slBe [(3, .inv (invBe a n cap P H A N C X best fin))] 4 Try.f20 [sTr a n cap (blkF P H A N C X) best fin] false [.v (sI .i64 (beD P H fin n))] =
    (let x1 : Prop := simC ([SC.xs a n cap 3 (blkF P H A N C X), SC.val (Go.Value.int Go.IntKind.i64 best), SC.val (Go.Value.int Go.IntKind.i64 fin)].getD 0 (SC.bit Bool.false)) ([SC.xs a n cap 3 (blkF P H A N C X), SC.val (Go.Value.int Go.IntKind.i64 best), SC.val (Go.Value.int Go.IntKind.i64 fin)].getD 0 (SC.bit Bool.false)) ∧ simC ([SC.xs a n cap 3 (blkF P H A N C X), SC.val (Go.Value.int Go.IntKind.i64 best), SC.val (Go.Value.int Go.IntKind.i64 fin)].getD 1 (SC.bit Bool.false)) ([SC.xs a n cap 3 (blkF P H A N C X), SC.val (Go.Value.int Go.IntKind.i64 best), SC.val (Go.Value.int Go.IntKind.i64 fin)].getD 1 (SC.bit Bool.false)) ∧ fin = fin; ∀ (a_1 : Go.Addr), (∀ (y : Nat × Go.Addr), closedB (slotsAt 36 [(1, pxT a n cap (blkF P H A N C X) best fin y.snd), (3, SV.one (sI Go.IntKind.i64 (beD P H fin y.fst))), (9, SV.one (xTr a n cap (blkF P H A N C X))), (10, SV.one (sI Go.IntKind.i64 (↑n : Int))), (11, SV.one (sI Go.IntKind.i64 (↑y.fst : Int)))]) [] = Bool.true) ∧ ∃ (y : Nat × Go.Addr), y.fst ≤ n ∧ (a_1 = y.snd ∧ simC ((flat (toKs (sTr a n cap (blkF P H A N C X) best fin))).getD 0 (SC.bit Bool.false)) ([SC.xs a n cap 3 (blkF P H A N C X), SC.val (Go.Value.int Go.IntKind.i64 best), SC.val (Go.Value.int Go.IntKind.i64 fin)].getD 0 (SC.bit Bool.false)) ∧ simC ((flat (toKs (sTr a n cap (blkF P H A N C X) best fin))).getD 1 (SC.bit Bool.false)) ([SC.xs a n cap 3 (blkF P H A N C X), SC.val (Go.Value.int Go.IntKind.i64 best), SC.val (Go.Value.int Go.IntKind.i64 fin)].getD 1 (SC.bit Bool.false)) ∧ fin = fin) ∧ fin = beD P H fin y.fst ∧ simC (SC.xs a n cap 3 (blkF P H A N C X)) (SC.xs a n cap 3 (blkF P H A N C X)) ∧ (↑n : Int) = (↑n : Int) ∧ (0 : Int) = (↑y.fst : Int) ∧ ∀ (y : Nat × Go.Addr), let x101 : Prop := Decidable.decide (H (↑y.fst : Int).toNat > H (beD P H fin y.fst).toNat) = Bool.true; let x102 : Prop := ∃ (y' : Nat × Go.Addr), y'.fst ≤ n ∧ (y.snd = y'.snd ∧ x1) ∧ beD P H fin y.fst = beD P H fin y'.fst ∧ simC (SC.xs a n cap 3 (blkF P H A N C X)) (SC.xs a n cap 3 (blkF P H A N C X)) ∧ (↑n : Int) = (↑n : Int) ∧ Go.IntKind.i64.wrap ((↑y.fst : Int) + (1 : Int)) = (↑y'.fst : Int) ∧ (n - y'.fst).succ.le (n - y.fst); y.fst ≤ n → (Decidable.decide ((↑y.fst : Int) < (↑n : Int)) = Bool.true → ((0 : Int) ≤ (↑y.fst : Int) ∧ (↑y.fst : Int) < (↑n : Int)) ∧ ((0 : Int) ≤ beD P H fin y.fst ∧ beD P H fin y.fst < (↑n : Int)) ∧ (x101 → x101) ∧ (x101 → x101) ∧ (x101 → x101 ∧ x101 ∧ x101 ∧ trP a n (blkF P H A N C X) ∧ (0 : Int) ≤ (↑y.fst : Int) ∧ (↑y.fst : Int) < (↑n : Int) ∧ (0 : Int) ≤ fin ∧ (stO (fun (i : Nat) => iAt (blkF P H A N C X) i 0) (↑y.fst : Int) fin = Bool.true → ∃ (y' : Nat × Go.Addr), y'.fst ≤ n ∧ (y.snd = y'.snd ∧ x1) ∧ (↑y.fst : Int) = beD P H fin y'.fst ∧ simC (SC.xs a n cap 3 (blkF P H A N C X)) (SC.xs a n cap 3 (blkF P H A N C X)) ∧ (↑n : Int) = (↑n : Int) ∧ Go.IntKind.i64.wrap ((↑y.fst : Int) + (1 : Int)) = (↑y'.fst : Int) ∧ (n - y'.fst).succ.le (n - y.fst)) ∧ (stO (fun (i : Nat) => iAt (blkF P H A N C X) i 0) (↑y.fst : Int) fin = Bool.false → x102)) ∧ (Decidable.decide (H (↑y.fst : Int).toNat > H (beD P H fin y.fst).toNat) = Bool.false → x102)) ∧ (Decidable.decide ((↑y.fst : Int) < (↑n : Int)) = Bool.false → beD P H fin y.fst = beD P H fin n)) := by kernel_rfl
theorem vc_ck (a : Option Addr) (n cap : Nat) (P H : Nat → Int) (A : Nat → Option Addr) (N C : Nat → Nat) (X : Nat → Nat → Nat → SC) (best fin r : Int) :
    OwesR Try.prog cxBo slCk [(4, .inv (invCk a n cap P H A N C X best fin))] 4 Try.f7 [sTr a n cap (blkF P H A N C X) best fin] false [.v (sI .i64 r)] =
    (let x1 : Bool := Decidable.decide ((↑n : Int) < (1 : Int)); let x2 : Prop := (!x1) = Bool.true; let x3 : Prop := ((!!hsB n fin) = Bool.true → (!!hsB n fin) = Bool.true ∧ trP a n (blkF P H A N C X) ∧ (0 : Int) ≤ fin ∧ fin < (↑n : Int) ∧ (!!hsB n fin) = Bool.true ∧ ((best != beD (fun (i : Nat) => iAt (blkF P H A N C X) i 0) (fun (i : Nat) => iAt (blkF P H A N C X) i 1) fin n) = Bool.true → (12 : Int) = r) ∧ ((best != beD (fun (i : Nat) => iAt (blkF P H A N C X) i 0) (fun (i : Nat) => iAt (blkF P H A N C X) i 1) fin n) = Bool.false → (0 : Int) = r)) ∧ ((!!hsB n fin) = Bool.false → (12 : Int) = r); ∀ (a_1 : Go.Addr), (x2 → x2) ∧ (x2 → x2) ∧ (x2 → x2) ∧ (x1 = Bool.false → x2) ∧ ((x1 || Decidable.decide ((↑n : Int) > (40 : Int))) = Bool.true → (1 : Int) = r) ∧ ((x1 || Decidable.decide ((↑n : Int) > (40 : Int))) = Bool.false → (∀ (y : Nat × Go.Addr), closedB (slotsAt 45 [(1, pxT a n cap (blkF P H A N C X) best fin y.snd), (16, SV.one (xTr a n cap (blkF P H A N C X))), (17, SV.one (sI Go.IntKind.i64 (↑n : Int))), (18, SV.one (sI Go.IntKind.i64 (↑y.fst : Int)))]) [] = Bool.true) ∧ ∃ (y : Nat × Go.Addr), (y.fst ≤ n ∧ trR P H N y.fst = (0 : Int)) ∧ (a_1 = y.snd ∧ simC ((flat (toKs (sTr a n cap (blkF P H A N C X) best fin))).getD 0 (SC.bit Bool.false)) ([SC.xs a n cap 3 (blkF P H A N C X), SC.val (Go.Value.int Go.IntKind.i64 best), SC.val (Go.Value.int Go.IntKind.i64 fin)].getD 0 (SC.bit Bool.false)) ∧ simC ((flat (toKs (sTr a n cap (blkF P H A N C X) best fin))).getD 1 (SC.bit Bool.false)) ([SC.xs a n cap 3 (blkF P H A N C X), SC.val (Go.Value.int Go.IntKind.i64 best), SC.val (Go.Value.int Go.IntKind.i64 fin)].getD 1 (SC.bit Bool.false)) ∧ fin = fin) ∧ simC (SC.xs a n cap 3 (blkF P H A N C X)) (SC.xs a n cap 3 (blkF P H A N C X)) ∧ (↑n : Int) = (↑n : Int) ∧ (0 : Int) = (↑y.fst : Int) ∧ ∀ (y : Nat × Go.Addr), y.fst ≤ n ∧ trR P H N y.fst = (0 : Int) → (Decidable.decide ((↑y.fst : Int) < (↑n : Int)) = Bool.true → ((0 : Int) ≤ (↑y.fst : Int) ∧ (↑y.fst : Int) < (↑n : Int)) ∧ (Decidable.decide ((↑(N (↑y.fst : Int).toNat) : Int) > (6 : Int)) = Bool.true → (1 : Int) = r) ∧ (Decidable.decide ((↑(N (↑y.fst : Int).toNat) : Int) > (6 : Int)) = Bool.false → tfP a n (blkF P H A N C X) ∧ (0 : Int) ≤ (↑y.fst : Int) ∧ (↑y.fst : Int) < (↑n : Int) ∧ ((!blO (fun (i : Nat) => iAt (blkF P H A N C X) i 0) (fun (i : Nat) => iAt (blkF P H A N C X) i 1) (fun (i : Nat) => nAt (blkF P H A N C X i 2)) (↑y.fst : Int).toNat) = Bool.true → (12 : Int) = r) ∧ ((!blO (fun (i : Nat) => iAt (blkF P H A N C X) i 0) (fun (i : Nat) => iAt (blkF P H A N C X) i 1) (fun (i : Nat) => nAt (blkF P H A N C X i 2)) (↑y.fst : Int).toNat) = Bool.false → ∃ (y' : Nat × Go.Addr), (y'.fst ≤ n ∧ trR P H N y'.fst = (0 : Int)) ∧ (y.snd = y'.snd ∧ simC ([SC.xs a n cap 3 (blkF P H A N C X), SC.val (Go.Value.int Go.IntKind.i64 best), SC.val (Go.Value.int Go.IntKind.i64 fin)].getD 0 (SC.bit Bool.false)) ([SC.xs a n cap 3 (blkF P H A N C X), SC.val (Go.Value.int Go.IntKind.i64 best), SC.val (Go.Value.int Go.IntKind.i64 fin)].getD 0 (SC.bit Bool.false)) ∧ simC ([SC.xs a n cap 3 (blkF P H A N C X), SC.val (Go.Value.int Go.IntKind.i64 best), SC.val (Go.Value.int Go.IntKind.i64 fin)].getD 1 (SC.bit Bool.false)) ([SC.xs a n cap 3 (blkF P H A N C X), SC.val (Go.Value.int Go.IntKind.i64 best), SC.val (Go.Value.int Go.IntKind.i64 fin)].getD 1 (SC.bit Bool.false)) ∧ fin = fin) ∧ simC (SC.xs a n cap 3 (blkF P H A N C X)) (SC.xs a n cap 3 (blkF P H A N C X)) ∧ (↑n : Int) = (↑n : Int) ∧ Go.IntKind.i64.wrap ((↑y.fst : Int) + (1 : Int)) = (↑y'.fst : Int) ∧ (n - y'.fst).succ.le (n - y.fst)))) ∧ (Decidable.decide ((↑y.fst : Int) < (↑n : Int)) = Bool.false → n ≤ Go.maxLen ∧ (((!!hsB n fin) = Bool.true → (!!hsB n fin) = Bool.true) ∧ x3) ∧ x3))) := by kernel_rfl
theorem vc_li (a : Option Addr) (n cap : Nat) (P H : Nat → Int) (A : Nat → Option Addr) (N C : Nat → Nat) (X : Nat → Nat → Nat → SC) (b : Int) :
    OwesR Try.prog .none [] [(3, .inv (invLi a n cap P H A N C X b))] 4 Try.f26 [xTr a n cap (blkF P H A N C X), sI .i64 b] false (liR P b) =
    (let x1 : Int := Go.IntKind.i64.wrap (H b.toNat + (1 : Int)); let x2 : Nat := x1.toNat; let x3 : Prop := x2 = lnN P b; ((0 : Int) ≤ b ∧ b < (↑n : Int)) ∧ ((0 : Int) ≤ x1 ∧ x1 ≤ x1 ∧ (8 : Int) * x1 ≤ (281474976710656 : Int) ∧ x1 ≤ (9223372036854775807 : Int)) ∧ (∀ (y : Int), closedB (slotsAt 31 [(0, SV.one (xTr a n cap (blkF P H A N C X))), (5, SV.one (SA.sc (SC.slw 0 1 0 (lnN P b) (lnN P b)))), (6, SV.one (sI Go.IntKind.i64 y))]) [SO.row (3 : Go.TypeId) 1 (lnN P b) (liW P b y) 0] = Bool.true) ∧ ∃ (y : Int), ((-1 : Int) ≤ y ∧ y < (↑n : Int) ∧ lnN P y ≤ lnN P b ∧ lineT P y = List.take (lnN P y) (lineT P b)) ∧ simC (SC.xs a n cap 3 (blkF P H A N C X)) (SC.xs a n cap 3 (blkF P H A N C X)) ∧ (0 = 0 ∧ 1 = 1 ∧ 0 = 0 ∧ x3 ∧ x3) ∧ b = y ∧ x3 ∧ (x2 - x2) * 1 = 0 ∧ (∀ (i : Nat), i < x2 → allC 1 fun (c : Nat) => simC ((flat (List.map litC (Go.Value.int Go.IntKind.i64 (0 : Int)).cells.toList)).getD c (SC.bit Bool.false)) (liW P b y i c)) ∧ ∀ (y : Int), (-1 : Int) ≤ y ∧ y < (↑n : Int) ∧ lnN P y ≤ lnN P b ∧ lineT P y = List.take (lnN P y) (lineT P b) → (Decidable.decide (y ≥ (0 : Int)) = Bool.true → ((0 : Int) ≤ y ∧ y < (↑n : Int)) ∧ ((0 : Int) ≤ H y.toNat ∧ H y.toNat < (↑(lnN P b) : Int)) ∧ 0 + (H y.toNat).toNat < lnN P b ∧ ((0 : Int) ≤ y ∧ y < (↑n : Int)) ∧ ∃ (y' : Int), ((-1 : Int) ≤ y' ∧ y' < (↑n : Int) ∧ lnN P y' ≤ lnN P b ∧ lineT P y' = List.take (lnN P y') (lineT P b)) ∧ simC (SC.xs a n cap 3 (blkF P H A N C X)) (SC.xs a n cap 3 (blkF P H A N C X)) ∧ (0 = 0 ∧ 1 = 1 ∧ 0 = 0 ∧ lnN P b = lnN P b ∧ lnN P b = lnN P b) ∧ P y.toNat = y' ∧ lnN P b = lnN P b ∧ 0 = 0 ∧ (∀ (i : Nat), i < lnN P b → allC 1 fun (c : Nat) => simC (setG (liW P b y) (0 + (H y.toNat).toNat) 0 (flat (toKs (sI Go.IntKind.i64 y))) i c) (liW P b y' i c)) ∧ (y' + (1 : Int)).toNat.succ.le (y + (1 : Int)).toNat) ∧ (Decidable.decide (y ≥ (0 : Int)) = Bool.false → 0 + lnN P b ≤ lnN P b ∧ lnN P b = lnN P b ∧ lnN P b ≤ lnN P b ∧ ∀ (i : Nat), i < lnN P b → (if 0 + i < lnN P y then (0 : Int) else (lineT P b).getD (0 + i) (0 : Int)) = (lineT P b).getD i (0 : Int))) := by kernel_rfl
end Go.Proofs.Ytnomjdechekapaa
end

section
namespace Go.Proofs.Ytnomjdechekapaa
open Go.Sx
set_option maxRecDepth 100000
section
variable {P H : Nat → Int} {n : Nat}
theorem stO_step (hP : ∀ i, i < n → -1 ≤ P i ∧ P i < (i : Int)) {b r : Int} (h0 : 0 ≤ b) (hb : b < (n : Int)) : stO P b r = (stO P (P b.toNat) r || b == r) := by
  unfold stO
  rw [line_step hP h0 hb, List.any_append]
  simp
theorem stO_neg {b r : Int} (h : b < 0) : stO P b r = false := by unfold stO; rw [line_neg h]; rfl
theorem stO_low (hP : ∀ i, i < n → -1 ≤ P i ∧ P i < (i : Int)) {r : Int} : ∀ (k : Nat) (b : Int), b < (n : Int) → b < (k : Int) → b < r → stO P b r = false
  | 0, b, _, h, _ => stO_neg (by omega)
  | k + 1, b, hb, h, hr => by
    by_cases c : b < 0
    · exact stO_neg c
    · have q := hP b.toNat (by omega)
      rw [stO_step hP (by omega) hb, stO_low hP k (P b.toNat) (by omega) (by omega) (by omega), Bool.false_or]
      exact beq_eq_false_iff_ne.2 (by omega)
theorem stO_lt (hP : ∀ i, i < n → -1 ≤ P i ∧ P i < (i : Int)) {b r : Int} (hb : b < (n : Int)) (h : b < r) : stO P b r = false := stO_low hP (b + 1).toNat b hb (by omega) h
theorem stO_le (hP : ∀ i, i < n → -1 ≤ P i ∧ P i < (i : Int)) {b r : Int} (hr : 0 ≤ r) (hb : b < (n : Int)) (h : b ≤ r) : stO P b r = (b == r) := by
  by_cases c : b < 0
  · rw [stO_neg c]; exact (beq_eq_false_iff_ne.2 (by omega)).symm
  · have q := hP b.toNat (by omega)
    rw [stO_step hP (by omega) hb, stO_lt hP (by omega) (by omega), Bool.false_or]
structure Top (P H : Nat → Int) (fin : Int) (n lo hi : Nat) (r : Int) : Prop where
  t0 : 0 ≤ r
  t1 : r < (n : Int)
  on : stO P r fin = true
  most : ∀ j : Nat, lo ≤ j → j < hi → stO P (j : Int) fin = true → H j ≤ H r.toNat ∧ ((j : Int) < r → H j < H r.toNat)
theorem be_top (hP : ∀ i, i < n → -1 ≤ P i ∧ P i < (i : Int)) {fin : Int} (h0 : 0 ≤ fin) (hb : fin < (n : Int)) : ∀ d : Nat, d ≤ n → Top P H fin n 0 d (beD P H fin d) ∧ (beD P H fin d = fin ∨ beD P H fin d < (d : Int))
  | 0, _ => ⟨⟨h0, hb, stO_self hP h0 hb, fun j _ hj => absurd hj (Nat.not_lt_zero j)⟩, .inl rfl⟩
  | d + 1, hd => by
    obtain ⟨ih, ihf⟩ := be_top hP h0 hb d (by omega)
    by_cases c : (decide (H (beD P H fin d).toNat < H d) && stO P (d : Int) fin) = true
    · have e : beD P H fin (d + 1) = (d : Int) := if_pos c
      simp only [Bool.and_eq_true, decide_eq_true_eq] at c
      rw [e]
      refine ⟨⟨by omega, by omega, c.2, fun j _ hj hs => ?_⟩, .inr (by omega)⟩
      rw [Int.toNat_natCast]
      by_cases k : j = d
      · subst k; exact ⟨Int.le_refl _, fun h => by omega⟩
      · have := (ih.most j (Nat.zero_le _) (by omega) hs).1
        exact ⟨by omega, fun _ => by omega⟩
    · have e : beD P H fin (d + 1) = beD P H fin d := if_neg c
      rw [e]
      refine ⟨⟨ih.t0, ih.t1, ih.on, fun j hj0 hj hs => ?_⟩, ihf.imp id fun h => by omega⟩
      by_cases k : j = d
      · subst k
        rw [hs, Bool.and_true, decide_eq_true_eq] at c
        refine ⟨by omega, fun h => ?_⟩
        rcases ihf with f | f
        · rw [f] at h
          rw [stO_lt hP (by omega) h] at hs
          cases hs
        · omega
      · exact ih.most j hj0 (by omega) hs
theorem bs_top (hP : ∀ i, i < n → -1 ≤ P i ∧ P i < (i : Int)) {fin : Int} : ∀ d : Nat, d ≤ n → (bsD P H fin n d = -1 ∧ ∀ j : Nat, n - d ≤ j → j < n → stO P (j : Int) fin = false) ∨ Top P H fin n (n - d) n (bsD P H fin n d)
  | 0, _ => .inl ⟨rfl, fun j h1 h2 => by omega⟩
  | d + 1, hd => by
    have ih := bs_top hP (fin := fin) d (by omega)
    have ei : (n : Int) - 1 - (d : Int) = ((n - 1 - d : Nat) : Int) := by omega
    by_cases c : (stO P ((n : Int) - 1 - (d : Int)) fin && (decide (bsD P H fin n d < 0) || decide (H (bsD P H fin n d).toNat ≤ H (n - 1 - d)))) = true
    · have e : bsD P H fin n (d + 1) = (n : Int) - 1 - (d : Int) := if_pos c
      simp only [Bool.and_eq_true, Bool.or_eq_true, decide_eq_true_eq] at c
      right
      rw [e]
      refine ⟨by omega, by omega, c.1, fun j h1 h2 hs => ?_⟩
      rw [ei, Int.toNat_natCast]
      by_cases k : j = n - 1 - d
      · subst k; exact ⟨Int.le_refl _, fun h => by omega⟩
      · rcases ih with ⟨_, i2⟩ | ih
        · rw [i2 j (by omega) h2] at hs; cases hs
        · have := (ih.most j (by omega) h2 hs).1
          have := ih.t0
          exact ⟨by omega, fun h => by omega⟩
    · have e : bsD P H fin n (d + 1) = bsD P H fin n d := if_neg c
      rw [e]
      rcases ih with ⟨i1, i2⟩ | ih
      · left
        refine ⟨i1, fun j h1 h2 => ?_⟩
        by_cases k : j = n - 1 - d
        · subst k
          rw [i1] at c
          rw [← ei]
          cases hs : stO P ((n : Int) - 1 - (d : Int)) fin
          · rfl
          · rw [hs] at c; simp at c
        · exact i2 j (by omega) h2
      · right
        refine ⟨ih.t0, ih.t1, ih.on, fun j h1 h2 hs => ?_⟩
        by_cases k : j = n - 1 - d
        · subst k
          rw [← ei] at hs
          rw [hs, Bool.true_and, Bool.or_eq_true, decide_eq_true_eq, decide_eq_true_eq] at c
          exact ⟨by omega, fun _ => by omega⟩
        · exact ih.most j (by omega) h2 hs
theorem top_one {fin r r' : Int} (h : Top P H fin n 0 n r) (h' : Top P H fin n 0 n r') : r = r' := by
  have a0 := h.t0
  have a1 := h.t1
  have b0 := h'.t0
  have b1 := h'.t1
  have ea : ((r.toNat : Nat) : Int) = r := by omega
  have eb : ((r'.toNat : Nat) : Int) = r' := by omega
  have p := h.most r'.toNat (Nat.zero_le _) (by omega) (by rw [eb]; exact h'.on)
  have q := h'.most r.toNat (Nat.zero_le _) (by omega) (by rw [ea]; exact h.on)
  rw [eb] at p
  rw [ea] at q
  rcases Int.lt_trichotomy r r' with k | k | k
  · have := q.2 k; have := p.1; omega
  · exact k
  · have := p.2 k; have := q.1; omega
theorem bs_top0 (hP : ∀ i, i < n → -1 ≤ P i ∧ P i < (i : Int)) {fin : Int} (h0 : 0 ≤ fin) (hb : fin < (n : Int)) : Top P H fin n 0 n (bsD P H fin n n) := by
  rcases bs_top (H := H) hP (fin := fin) n (Nat.le_refl _) with ⟨_, i2⟩ | h
  · have := i2 fin.toNat (by omega) (by omega)
    rw [show ((fin.toNat : Nat) : Int) = fin by omega, stO_self hP h0 hb] at this
    cases this
  · rwa [Nat.sub_self] at h
theorem be_bs (hP : ∀ i, i < n → -1 ≤ P i ∧ P i < (i : Int)) {fin : Int} (h0 : 0 ≤ fin) (hb : fin < (n : Int)) : beD P H fin n = bsD P H fin n n :=
  top_one (be_top hP h0 hb n (Nat.le_refl _)).1 (bs_top0 hP h0 hb)
end
theorem x_told {a : Option Addr} {n cap : Nat} {f g : Nat → Nat → SC} (h : ∀ i, i < n → ∀ c, c < 3 → f i c = g i c) {E : Env} (hb : (xTr a n cap f).bnd E) : (xTr a n cap g).bnd E := xs_told h hb
theorem trP.sim {a : Option Addr} {n : Nat} {P H : Nat → Int} {A : Nat → Option Addr} {N C : Nat → Nat} {X : Nat → Nat → Nat → SC} (ht : trP a n (blkF P H A N C X)) {cap : Nat} : simC (.xs a n cap 3 (blkF P H A N C X)) (.xs a n cap 3 (blkF P H A N C X)) := ⟨rfl, rfl, rfl, fun i hi => ⟨rfl, rfl, ht.ts i hi⟩⟩
theorem blk_tf {f : Nat → Nat → SC} {n : Nat} (h : ∀ i c, c < 3 → f i c = fTr f i c) : ∀ i, i < n → ∀ c, c < 3 → f i c = fTr f i c := fun i _ c hc => h i c hc
theorem ok_hs (a : Option Addr) (n cap : Nat) (f : Nat → Nat → SC) (best fin p : Int) : OwesR Try.prog cxBo [] [] 4 Try.f19 [sTr a n cap f best fin, sI .i64 p] false [.v (sB (hsB n p))] := by
  rw [vc_hs]
  exact fun _ => ⟨id, id, id, id, id, rfl⟩
theorem card_hs {gl : Globs} : FnOKs Try.prog gl 19 cHs := by
  refine FnOKs.up0 (FnOKs_R0 (cx := cxBo) okx_Bo (sl := []) oks_nil Try.func19 (by kernel_rfl) (by kernel_rfl) fun ls hc => ?_) gl
  unfold hsC at hc
  split at hc
  · rename_i a n cap f best fin p
    exact ⟨_, _, _, fun ρ => rfl, fun E hE => hE, fun r hr => by rw [List.mem_singleton.1 hr]; exact trivial, ok_hs a n cap f best fin p⟩
  · exact hc.1.elim
theorem ok_fi (a : Option Addr) (n cap : Nat) (P H : Nat → Int) (A : Nat → Option Addr) (N C : Nat → Nat) (X : Nat → Nat → Nat → SC) (b : Int) (h0 : 0 ≤ b) (hb : b < (n : Int)) :
    OwesR Try.prog cxBo [] [] 4 Try.f18 [xTr a n cap (blkF P H A N C X), sI .i64 b] false [.v (sB (blO P H N b.toNat))] := by
  rw [vc_fi]
  intro x1 x2 x3 x4 x5 x6 x7 x8
  refine ⟨⟨h0, hb⟩, fun h => ?_, fun h => ?_⟩
  · refine ⟨id, id, id, id, id, id, id, ?_⟩
    have e : b.toNat = 0 := by have := eq_of_beq h; omega
    have e0 : ((N b.toNat : Int) == 0) = (N b.toNat == 0) := by rw [Bool.eq_iff_iff, beq_iff_eq, beq_iff_eq]; omega
    show (_ && (N b.toNat : Int) == 0) = _
    rw [e0]
    show ((P b.toNat == (-1 : Int) && H b.toNat == (0 : Int)) && N b.toNat == 0) = _
    rw [e]; rfl
  · have hne : b ≠ 0 := ne_of_beq_false h
    have hin : x8 → (0 : Int) ≤ P b.toNat ∧ P b.toNat < (n : Int) := fun h => by
      have h : (decide (P b.toNat ≥ 0) && decide (P b.toNat < b)) = true := h
      simp only [Bool.and_eq_true, decide_eq_true_eq] at h
      omega
    refine ⟨id, id, id, id, id, id, id, id, hin, id, id, id, id, id, id, ?_⟩
    rw [bl_pos (by omega), show ((b.toNat : Nat) : Int) = b by omega]
theorem card_fi {gl : Globs} : FnOKs Try.prog gl 18 cFi := by
  refine FnOKs.up0 (FnOKs_R0 (cx := cxBo) okx_Bo (sl := []) oks_nil Try.func18 (by kernel_rfl) (by kernel_rfl) fun ls hc => ?_) gl
  unfold fiC at hc
  split at hc
  · rename_i a n cap f b
    obtain ⟨p, h0, hb, _⟩ := hc
    refine ⟨_, _, _, fun ρ => ?_, fun E hE x hx => ?_, fun r hr => ?_, ok_fi a n cap (fun i => iAt f i 0) (fun i => iAt f i 1) (fun i => aAt (f i 2)) (fun i => nAt (f i 2)) (fun i => cAt (f i 2)) (fun i => xAt (f i 2)) b h0 hb⟩
    · rfl
    · rcases List.mem_cons.1 hx with rfl | hx
      · exact x_told (blk_tf p.tf) (hE (xTr a n cap f) (List.mem_cons_self ..))
      · exact hE x (List.mem_cons_of_mem _ hx)
    · rw [List.mem_singleton.1 hr]; exact trivial
  · exact hc.1.elim
theorem ok_st (a : Option Addr) (n cap : Nat) (P H : Nat → Int) (A : Nat → Option Addr) (N C : Nat → Nat) (X : Nat → Nat → Nat → SC) (b r : Int) (ht : trP a n (blkF P H A N C X)) (h0 : 0 ≤ b) (hb : b < (n : Int)) (hr : 0 ≤ r) :
    OwesR Try.prog .none [] [(1, .inv (invSt a n cap P H A N C X b r))] 4 Try.f22 [xTr a n cap (blkF P H A N C X), sI .i64 b, sI .i64 r] false [.v (sB (stO P b r))] := by
  rw [vc_st]
  have hP : ∀ i, i < n → -1 ≤ P i ∧ P i < (i : Int) := ht.tp
  have hxs := trP.sim ht (cap := cap)
  refine ⟨fun _ => rfl, b, ⟨by omega, hb, rfl⟩, hxs, rfl, rfl, fun y hy => ⟨fun h => ?_, fun h => ?_⟩⟩
  · have h := of_decide_eq_true h
    have q := hP y.toNat (by omega)
    refine ⟨⟨by omega, hy.2.1⟩, P y.toNat, ⟨q.1, by omega, ?_⟩, hxs, rfl, rfl, by show (P y.toNat + 1).toNat + 1 ≤ (y + 1).toNat; omega⟩
    rw [← hy.2.2, stO_step hP (b := y) (by omega) hy.2.1, beq_eq_false_iff_ne.2 (by omega), Bool.or_false]
  · have h := of_decide_eq_false h
    rw [← hy.2.2, stO_le hP hr hy.2.1 (by omega)]
theorem card_std {gl : Globs} : FnOKs Try.prog gl 22 cSt := by
  refine FnOKs.up0 (FnOKs_R0 (cx := .none) okx_nil (sl := []) oks_nil Try.func22 (by kernel_rfl) (by kernel_rfl) fun ls hc => ?_) gl
  unfold stC at hc
  split at hc
  · rename_i a n cap f b r
    obtain ⟨p, h0, hb, hr, _⟩ := hc
    refine ⟨_, _, _, fun ρ => ?_, fun E hE x hx => ?_, fun r hr => ?_, ok_st a n cap (fun i => iAt f i 0) (fun i => iAt f i 1) (fun i => aAt (f i 2)) (fun i => nAt (f i 2)) (fun i => cAt (f i 2)) (fun i => xAt (f i 2)) b r p.told h0 hb hr⟩
    · rfl
    · rcases List.mem_cons.1 hx with rfl | hx
      · exact x_told (blk_tf p.tf) (hE (xTr a n cap f) (List.mem_cons_self ..))
      · exact hE x (List.mem_cons_of_mem _ hx)
    · rw [List.mem_singleton.1 hr]; exact trivial
  · exact hc.1.elim
theorem ok_be (a : Option Addr) (n cap : Nat) (P H : Nat → Int) (A : Nat → Option Addr) (N C : Nat → Nat) (X : Nat → Nat → Nat → SC) (best fin : Int) (ht : trP a n (blkF P H A N C X)) (h0 : 0 ≤ fin) (hb : fin < (n : Int)) :
    OwesR Try.prog cxBo slBe [(3, .inv (invBe a n cap P H A N C X best fin))] 4 Try.f20 [sTr a n cap (blkF P H A N C X) best fin] false [.v (sI .i64 (beD P H fin n))] := by
  rw [vc_be]
  have hP : ∀ i, i < n → -1 ≤ P i ∧ P i < (i : Int) := ht.tp
  have hn := ht.tn
  have hxs := trP.sim ht (cap := cap)
  intro x1 a1
  have hx1 : x1 := ⟨hxs, rfl, rfl⟩
  clear_value x1
  refine ⟨fun _ => rfl, (0, a1), Nat.zero_le _, ⟨rfl, hxs, rfl, rfl⟩, rfl, hxs, rfl, rfl, fun y => ?_⟩
  intro x101 x102 hy
  refine ⟨fun hl => ?_, fun hl => ?_⟩
  · have hl : y.1 < n := by have := of_decide_eq_true hl; omega
    have et : (y.1 : Int).toNat = y.1 := Int.toNat_natCast _
    have ew : IntKind.i64.wrap ((y.1 : Int) + 1) = ((y.1 + 1 : Nat) : Int) := by rw [IntKind.wrap_i64]; omega
    have el : (n - (y.1 + 1)).succ.le (n - y.1) := by show (n - (y.1 + 1)) + 1 ≤ _; omega
    obtain ⟨tp, _⟩ := be_top (H := H) hP h0 hb y.1 (by omega)
    have t0 := tp.t0
    have t1 := tp.t1
    have no : (decide (H (beD P H fin y.1).toNat < H y.1) && stO P (y.1 : Int) fin) = false → x102 := fun h => ⟨(y.1 + 1, y.2), hl, ⟨rfl, hx1⟩, (if_neg (by rw [h]; exact Bool.noConfusion) : beD P H fin (y.1 + 1) = beD P H fin y.1).symm, hxs, rfl, ew, el⟩
    refine ⟨⟨by omega, by omega⟩, ⟨t0, t1⟩, id, id, fun h => ⟨h, h, h, ht, by omega, by omega, h0, fun hs => ?_, fun hs => no ?_⟩, fun h => no ?_⟩
    · refine ⟨(y.1 + 1, y.2), hl, ⟨rfl, hx1⟩, (if_pos ?_ : beD P H fin (y.1 + 1) = (y.1 : Int)).symm, hxs, rfl, ew, el⟩
      have h := of_decide_eq_true h
      rw [et] at h
      rw [show stO P (y.1 : Int) fin = true from hs, Bool.and_true]
      exact decide_eq_true h
    · rw [show stO P (y.1 : Int) fin = false from hs, Bool.and_false]
    · have h := of_decide_eq_false h
      rw [et] at h
      rw [decide_eq_false (by omega), Bool.false_and]
  · have hl := of_decide_eq_false hl
    have hy : y.1 ≤ n := hy
    rw [show y.1 = n by omega]
theorem card_be {gl : Globs} : FnOKs Try.prog gl 20 cBe := by
  refine FnOKs.up0 (FnOKs_R0 (cx := cxBo) okx_Bo (sl := slBe) (oks_cons card_std oks_nil) Try.func20 (by kernel_rfl) (by kernel_rfl) fun ls hc => ?_) gl
  unfold beC at hc
  split at hc
  · rename_i a n cap f best fin
    obtain ⟨p, h0, hb, _⟩ := hc
    refine ⟨_, _, _, fun ρ => ?_, fun E hE x hx => ?_, fun r hr => ?_, ok_be a n cap (fun i => iAt f i 0) (fun i => iAt f i 1) (fun i => aAt (f i 2)) (fun i => nAt (f i 2)) (fun i => cAt (f i 2)) (fun i => xAt (f i 2)) best fin p.told h0 hb⟩
    · rfl
    · rcases List.mem_cons.1 hx with rfl | hx
      · exact tr_told (blk_tf p.tf) (hE (sTr a n cap f best fin) (List.mem_cons_self ..))
      · exact hE x (List.mem_cons_of_mem _ hx)
    · rw [List.mem_singleton.1 hr]; exact trivial
  · exact hc.1.elim
theorem ok_ck (a : Option Addr) (n cap : Nat) (P H : Nat → Int) (A : Nat → Option Addr) (N C : Nat → Nat) (X : Nat → Nat → Nat → SC) (best fin : Int) (ht : tfP a n (blkF P H A N C X)) :
    OwesR Try.prog cxBo slCk [(4, .inv (invCk a n cap P H A N C X best fin))] 4 Try.f7 [sTr a n cap (blkF P H A N C X) best fin] false [.v (sI .i64 (trE P H N n best fin))] := by
  rw [vc_ck]
  have hn := ht.tn
  have hML : maxLen = 9223372036854775807 := rfl
  have hxs : simC (.xs a n cap 3 (blkF P H A N C X)) (.xs a n cap 3 (blkF P H A N C X)) := ⟨rfl, rfl, rfl, fun i hi => ⟨rfl, rfl, ht.ts i hi⟩⟩
  intro x1 x2 x3 a1
  have q1 : x1 = true ↔ n = 0 := by show decide ((n : Int) < 1) = true ↔ _; rw [decide_eq_true_eq]; omega
  refine ⟨id, id, id, fun h => by show (!x1) = true; rw [h]; rfl, fun h => ?_, fun h => ?_⟩
  · simp only [Bool.or_eq_true, decide_eq_true_eq, q1] at h
    unfold trE
    rw [if_pos (by omega)]
  simp only [Bool.or_eq_false_iff, decide_eq_false_iff_not] at h
  have h40 : n ≤ 40 := by omega
  have h1 : n ≠ 0 := fun c => by rw [q1.2 c] at h; exact Bool.noConfusion h.1
  have ee : trE P H N n best fin = if trR P H N n ≠ 0 then trR P H N n else if fin < 0 ∨ (n : Int) ≤ fin ∨ best ≠ bsD P H fin n n then 12 else 0 := if_neg (by omega)
  refine ⟨fun _ => rfl, (0, a1), ⟨Nat.zero_le _, rfl⟩, ⟨rfl, hxs, rfl, rfl⟩, hxs, rfl, rfl, fun y hy => ?_⟩
  obtain ⟨hy1, hy2⟩ := hy
  refine ⟨fun hl => ?_, fun hl => ?_⟩
  · have hl : y.1 < n := by have := of_decide_eq_true hl; omega
    have et : (y.1 : Int).toNat = y.1 := Int.toNat_natCast _
    refine ⟨⟨by omega, by omega⟩, fun h6 => ?_, fun h6 => ⟨ht, by omega, by omega, fun ho => ?_, fun ho => ?_⟩⟩
    · have h6 := of_decide_eq_true h6
      rw [et] at h6
      have := tr_end (n := n) hl (r := 1) (by decide) (by rw [tr_step hy2, if_pos (by omega)])
      rw [ee, this, if_pos (by decide)]
    · have h6 := of_decide_eq_false h6
      rw [et] at h6 ho
      have ho : blO P H N y.1 = false := by have h := ho; rw [Bool.not_eq_true'] at h; exact h
      have := tr_end (n := n) hl (r := 12) (by decide) (by rw [tr_step hy2, if_neg (by omega), ho]; rfl)
      rw [ee, this, if_pos (by decide)]
    · have h6 := of_decide_eq_false h6
      rw [et] at h6 ho
      have ho : blO P H N y.1 = true := by have h := ho; rw [Bool.not_eq_false'] at h; exact h
      exact ⟨(y.1 + 1, y.2), ⟨hl, by show trR P H N (y.1 + 1) = 0; rw [tr_step hy2, if_neg (by omega), if_pos ho]⟩, ⟨rfl, hxs, rfl, rfl⟩, hxs, rfl, by show _ = ((y.1 + 1 : Nat) : Int); rw [IntKind.wrap_i64]; omega, by show (n - (y.1 + 1)) + 1 ≤ _; omega⟩
  · have hl := of_decide_eq_false hl
    have en : y.1 = n := by omega
    rw [en] at hy2
    have e2 : trE P H N n best fin = if fin < 0 ∨ (n : Int) ≤ fin ∨ best ≠ bsD P H fin n n then 12 else 0 := by rw [ee, if_neg (fun c => c hy2)]
    have hx3 : x3 := by
      refine ⟨fun h5 => ?_, fun h5 => ?_⟩
      · have h6 : hsB n fin = true := by rwa [Bool.not_not] at h5
        unfold hsB at h6
        simp only [Bool.and_eq_true, decide_eq_true_eq] at h6
        have p := tf_tr (f := blkF P H A N C X) ht h40 hy2
        have eb := be_bs (P := P) (H := H) p.tp h6.1 h6.2
        refine ⟨h5, p, h6.1, h6.2, h5, fun hb => ?_, fun hb => ?_⟩
        · have hb : best ≠ beD P H fin n := by have h : (best != beD P H fin n) = true := hb; simpa using h
          rw [eb] at hb
          rw [e2, if_pos (.inr (.inr hb))]
        · have hb : best = beD P H fin n := by have h : (best != beD P H fin n) = false := hb; simpa using h
          rw [eb] at hb
          rw [e2, if_neg (by omega)]
      · have h6 : hsB n fin = false := by rwa [Bool.not_not] at h5
        unfold hsB at h6
        simp only [Bool.and_eq_false_iff, decide_eq_false_iff_not] at h6
        rw [e2, if_pos (by omega)]
    exact ⟨hn, ⟨id, hx3⟩, hx3⟩
theorem card_ck {gl : Globs} : FnOKs Try.prog gl 7 cCk := by
  refine FnOKs.up0 (FnOKs_R0 (cx := cxBo) okx_Bo (sl := slCk) (oks_cons card_fi (oks_cons card_hs (oks_cons card_be oks_nil))) Try.func7 (by kernel_rfl) (by kernel_rfl) fun ls hc => ?_) gl
  unfold tfC at hc
  split at hc
  · rename_i a n cap f best fin
    obtain ⟨p, _⟩ := hc
    refine ⟨_, _, _, fun ρ => ?_, fun E hE x hx => ?_, fun r hr => ?_, ok_ck a n cap (fun i => iAt f i 0) (fun i => iAt f i 1) (fun i => aAt (f i 2)) (fun i => nAt (f i 2)) (fun i => cAt (f i 2)) (fun i => xAt (f i 2)) best fin p.told⟩
    · rfl
    · rcases List.mem_cons.1 hx with rfl | hx
      · exact tr_told (blk_tf p.tf) (hE (sTr a n cap f best fin) (List.mem_cons_self ..))
      · exact hE x (List.mem_cons_of_mem _ hx)
    · rw [List.mem_singleton.1 hr]; exact trivial
  · exact hc.1.elim
theorem ok_li (a : Option Addr) (n cap : Nat) (P H : Nat → Int) (A : Nat → Option Addr) (N C : Nat → Nat) (X : Nat → Nat → Nat → SC) (b : Int) (ht : trP a n (blkF P H A N C X)) (hr : trR P H N n = 0) (h0 : 0 ≤ b) (hb : b < (n : Int)) :
    OwesR Try.prog .none [] [(3, .inv (invLi a n cap P H A N C X b))] 4 Try.f26 [xTr a n cap (blkF P H A N C X), sI .i64 b] false (liR P b) := by
  rw [vc_li]
  have hP : ∀ i, i < n → -1 ≤ P i ∧ P i < (i : Int) := ht.tp
  have hn := ht.tn
  have hxs := trP.sim ht (cap := cap)
  have hl := tr_line hn hr h0 hb
  have hs := ln_small hn hP hb
  have hML : maxLen = 9223372036854775807 := rfl
  intro x1 x2 x3
  have e1 : x1 = (lnN P b : Int) := by show IntKind.i64.wrap (H b.toNat + 1) = _; rw [IntKind.wrap_i64]; omega
  have e2 : x2 = lnN P b := by show x1.toNat = _; rw [e1]; exact Int.toNat_natCast _
  have hx3 : x3 := e2
  clear_value x3
  clear_value x2
  clear_value x1
  refine ⟨⟨h0, hb⟩, ⟨by omega, by omega, by omega, by omega⟩, fun _ => rfl, b, ⟨by omega, hb, Nat.le_refl _, (List.take_length).symm⟩, hxs, ⟨rfl, rfl, rfl, hx3, hx3⟩, rfl, hx3, by rw [Nat.sub_self], fun i hi => ?_, fun y hy => ?_⟩
  · show simC _ (.val (.int .i64 (if i < lnN P b then 0 else _)))
    rw [if_pos (by omega)]; rfl
  obtain ⟨y1, y2, y3, y4⟩ := hy
  refine ⟨fun hy => ?_, fun hy => ?_⟩
  · have hy := of_decide_eq_true hy
    have q := hP y.toNat (by omega)
    have ey := tr_line hn hr hy y2
    have es := ln_step hP hy y2
    have el := line_step hP hy y2
    have ek : (H y.toNat).toNat = lnN P (P y.toNat) := by omega
    have hln : (lineT P (P y.toNat)).length = lnN P (P y.toNat) := rfl
    refine ⟨⟨hy, y2⟩, ⟨by omega, by omega⟩, by omega, ⟨hy, y2⟩, P y.toNat, ⟨q.1, by omega, by omega, ?_⟩, hxs, ⟨rfl, rfl, rfl, rfl, rfl⟩, rfl, rfl, rfl, fun i hi => ?_, by show (P y.toNat + 1).toNat + 1 ≤ (y + 1).toNat; omega⟩
    · have : (lineT P y).take (lnN P (P y.toNat)) = lineT P (P y.toNat) := by rw [el, ← hln, List.take_append_of_le_length (Nat.le_refl _)]; exact List.take_length
      rw [← this, y4, List.take_take, Nat.min_eq_left (by omega)]
    · rw [Nat.zero_add, ek]
      show simC (selC (decide (i = lnN P (P y.toNat))) (.val (.int .i64 y)) (.val (.int .i64 (if i < lnN P y then 0 else (lineT P b).getD i 0)))) (.val (.int .i64 (if i < lnN P (P y.toNat) then 0 else (lineT P b).getD i 0)))
      have hv : (if i < lnN P (P y.toNat) then (0 : Int) else (lineT P b).getD i 0) = cond (decide (i = lnN P (P y.toNat))) y (if i < lnN P y then 0 else (lineT P b).getD i 0) := by
        by_cases c : i = lnN P (P y.toNat)
        · rw [decide_eq_true c, if_neg (by omega)]
          show _ = y
          have h1 : (lineT P y)[i]? = some y := by rw [el, List.getElem?_append_right (by omega), hln, c, Nat.sub_self]; rfl
          rw [y4, List.getElem?_take, if_pos (by omega)] at h1
          rw [List.getD_eq_getElem?_getD, h1]; rfl
        · rw [decide_eq_false c]
          show _ = if i < lnN P y then (0 : Int) else _
          by_cases k : i < lnN P (P y.toNat)
          · rw [if_pos k, if_pos (by omega)]
          · rw [if_neg k, if_neg (by omega)]
      rw [hv]
      rfl
  · have hy := of_decide_eq_false hy
    refine ⟨by omega, rfl, Nat.le_refl _, fun i hi => ?_⟩
    rw [ln_neg (by omega), if_neg (by omega), Nat.zero_add]
theorem card_li {gl : Globs} : FnOKs Try.prog gl 26 cLi := by
  refine FnOKs.up0 (FnOKs_R0 (cx := .none) okx_nil (sl := []) oks_nil Try.func26 (by kernel_rfl) (by kernel_rfl) fun ls hc => ?_) gl
  unfold liC at hc
  split at hc
  · rename_i a n cap f b
    obtain ⟨p, hr, h0, hb, _⟩ := hc
    refine ⟨_, _, _, fun ρ => ?_, fun E hE x hx => ?_, fun r hr => ?_, ok_li a n cap (fun i => iAt f i 0) (fun i => iAt f i 1) (fun i => aAt (f i 2)) (fun i => nAt (f i 2)) (fun i => cAt (f i 2)) (fun i => xAt (f i 2)) b p.told hr h0 hb⟩
    · rfl
    · rcases List.mem_cons.1 hx with rfl | hx
      · exact x_told (blk_tf p.tf) (hE (xTr a n cap f) (List.mem_cons_self ..))
      · exact hE x (List.mem_cons_of_mem _ hx)
    · rw [List.mem_singleton.1 hr]; exact trivial
  · exact hc.1.elim
end Go.Proofs.Ytnomjdechekapaa
end

section
namespace Go.Proofs.Ytnomjdechekapaa
open Go.Sx
set_option maxRecDepth 100000
def sm (f : Nat → Nat) : Nat → Nat
  | 0 => 0
  | k + 1 => sm f k + f k
def wh (f : Nat → Nat) : Nat → Nat → Nat
  | 0, _ => 0
  | k + 1, x => if x < sm f k then wh f k x else k
def zz (f : Nat → Nat) (S : Nat) : Nat → Nat
  | 0 => 0
  | k + 1 => offS (S - sm f k) (f k) (zz f S k)
def lookO : List (Nat × SO) → Nat → SO
  | [], _ => .dead
  | (k, v) :: r, t => match Nat.beq k t with
    | true => v
    | false => lookO r t
def obsAt (n : Nat) (l : List (Nat × SO)) : List SO := (List.range n).map (lookO l)
def cI (N : Nat → Nat) (n x : Nat) : Nat := wh N n x
def cJ (N : Nat → Nat) (n x : Nat) : Nat := x - sm N (wh N n x)
def cM (N : Nat → Nat) (M : Nat → Nat → Nat) (n x : Nat) : Nat := M (cI N n x) (cJ N n x)
def cB (N : Nat → Nat) (M : Nat → Nat → Nat) (B : Nat → Nat → Nat → Int) (n q : Nat) : Int :=
  B (cI N n (wh (cM N M n) (sm N n) q)) (cJ N n (wh (cM N M n) (sm N n) q)) (q - sm (cM N M n) (wh (cM N M n) (sm N n) q))
def cF (N : Nat → Nat) (V : Nat → Nat → Nat → Int) (M : Nat → Nat → Nat) (n o x c : Nat) : SC :=
  match Nat.blt c 108 with
  | true => .val (.int (clK c) (V (cI N n x) (cJ N n x) c))
  | false => .slw o 1 (zz (cM N M n) (sm (cM N M n) (sm N n)) x) (cM N M n x) (cM N M n x)
def cZ (c : Nat) : SC :=
  match Nat.blt c 108 with
  | true => .val (.int (clK c) 0)
  | false => .val (.slice none 0 0)
def owK (N : Nat → Nat) (V : Nat → Nat → Nat → Int) (M : Nat → Nat → Nat) (n o k x c : Nat) : SC := if x < sm N k then cF N V M n o x c else cZ c
def owJ (N : Nat → Nat) (V : Nat → Nat → Nat → Int) (AX : Nat → Nat → Option Addr) (M CX : Nat → Nat → Nat) (B : Nat → Nat → Nat → Int) (n o k j x c : Nat) : SC := if x < sm N k + j then cF N V M n o x c else if x < sm N k + N k then clF (V k) (AX k) (M k) (CX k) (B k) (x - sm N k) c else cZ c
def owP (N : Nat → Nat) (M : Nat → Nat → Nat) (B : Nat → Nat → Nat → Int) (n x q _ : Nat) : SC := .val (.int .u8 (if q < sm (cM N M n) x then cB N M B n q else 0))
def owB (P H : Nat → Int) (N : Nat → Nat) (n o k i c : Nat) : SC :=
  if i < k then (match c with
    | 0 => .val (.int .i64 (P i))
    | 1 => .val (.int .i64 (H i))
    | _ => .slw o 109 (zz N (sm N n) i) (N i) (N i)) else (match c with
    | 0 => .val (.int .i64 0)
    | 1 => .val (.int .i64 0)
    | _ => .val (.slice none 0 0))
def gwT (a : Option Addr) (n cap : Nat) (f : Nat → Nat → SC) (best fin : Int) : SO := .cells 24 [.c (.xs a n cap 3 f), .c (.val (.int .i64 best)), .c (.val (.int .i64 fin))] 0
def gwZ : SO := .cells 24 [.c (.val (.slice none 0 0)), .c (.val (.int .i64 0)), .c (.val (.int .i64 0))] 0
def roI (a : Option Addr) (n cap : Nat) (P H : Nat → Int) (A : Nat → Option Addr) (N C : Nat → Nat) (V : Nat → Nat → Nat → Int) (AX : Nat → Nat → Option Addr) (M CX : Nat → Nat → Nat) (B : Nat → Nat → Nat → Int) (best fin : Int) : Inv where
  X := Nat
  tm y := slotsAt 39 [(4, .one (sI .i64 (sm N y : Int))), (5, .one (sI .i64 (sm (cM N M n) (sm N y) : Int))), (10, .one (xTr a n cap (blkF P H A N C (fun i => clF (V i) (AX i) (M i) (CX i) (B i))))), (11, .one (sI .i64 (n : Int))), (12, .one (sI .i64 (y : Int)))]
  ob _ := [gwT a n cap (blkF P H A N C (fun i => clF (V i) (AX i) (M i) (CX i) (B i))) best fin, gwZ]
  holds y := y ≤ n
  less y := n - y
def roJ (a : Option Addr) (n cap : Nat) (P H : Nat → Int) (A : Nat → Option Addr) (N C : Nat → Nat) (V : Nat → Nat → Nat → Int) (AX : Nat → Nat → Option Addr) (M CX : Nat → Nat → Nat) (B : Nat → Nat → Nat → Int) (best fin : Int) : Inv where
  X := Nat × Nat
  tm y := slotsAt 39 [(4, .one (sI .i64 (sm N (y.1 + 1) : Int))), (5, .one (sI .i64 (sm (cM N M n) (sm N y.1 + y.2) : Int))), (10, .one (xTr a n cap (blkF P H A N C (fun i => clF (V i) (AX i) (M i) (CX i) (B i))))), (11, .one (sI .i64 (n : Int))), (12, .one (sI .i64 (y.1 : Int))), (22, .one (.sc (.xs (A y.1) (N y.1) (C y.1) 109 (clF (V y.1) (AX y.1) (M y.1) (CX y.1) (B y.1))))), (23, .one (sI .i64 (N y.1 : Int))), (24, .one (sI .i64 (y.2 : Int)))]
  ob _ := [gwT a n cap (blkF P H A N C (fun i => clF (V i) (AX i) (M i) (CX i) (B i))) best fin, gwZ]
  holds y := y.1 < n ∧ y.2 ≤ N y.1
  less y := N y.1 - y.2
def owT (a : Option Addr) (n cap : Nat) (P H : Nat → Int) (A : Nat → Option Addr) (N C : Nat → Nat) (V : Nat → Nat → Nat → Int) (AX : Nat → Nat → Option Addr) (M CX : Nat → Nat → Nat) (B : Nat → Nat → Nat → Int) (k x z : Nat) : List (Nat × SV) :=
  [(1, .one (.sc (.ptr 0 0))), (2, .one (.sc (.ptr 1 0))), (3, .one (.sc (.slw 3 109 (zz N (sm N n) z) (sm N n - sm N z) (sm N n - sm N z)))), (4, .one (.sc (.slw 5 1 (zz (cM N M n) (sm (cM N M n) (sm N n)) x) (sm (cM N M n) (sm N n) - sm (cM N M n) x) (sm (cM N M n) (sm N n) - sm (cM N M n) x)))), (5, .one (.sc (.slw 8 3 0 n n))), (21, .one (xTr a n cap (blkF P H A N C (fun i => clF (V i) (AX i) (M i) (CX i) (B i))))), (22, .one (sI .i64 (n : Int))), (23, .one (sI .i64 (k : Int)))]
def owO (a : Option Addr) (n cap : Nat) (P H : Nat → Int) (A : Nat → Option Addr) (N C : Nat → Nat) (V : Nat → Nat → Nat → Int) (AX : Nat → Nat → Option Addr) (M CX : Nat → Nat → Nat) (B : Nat → Nat → Nat → Int) (best fin : Int) (k x : Nat) (g : Nat → Nat → SC) : List (Nat × SO) :=
  [(0, gwT a n cap (blkF P H A N C (fun i => clF (V i) (AX i) (M i) (CX i) (B i))) best fin), (1, gwZ), (3, .rown 55 109 (sm N n) g 0 5), (5, .row 5 1 (sm (cM N M n) (sm N n)) (owP N M B n x) 0), (8, .rown 42 3 n (owB P H N n 3 k) 0 3)]
def owI (a : Option Addr) (n cap : Nat) (P H : Nat → Int) (A : Nat → Option Addr) (N C : Nat → Nat) (V : Nat → Nat → Nat → Int) (AX : Nat → Nat → Option Addr) (M CX : Nat → Nat → Nat) (B : Nat → Nat → Nat → Int) (best fin : Int) : Inv where
  X := Nat
  tm y := slotsAt 67 (owT a n cap P H A N C V AX M CX B y (sm N y) y)
  ob y := obsAt 9 (owO a n cap P H A N C V AX M CX B best fin y (sm N y) (owK N V M n 5 y))
  holds y := y ≤ n
  less y := n - y
def owL (a : Option Addr) (n cap : Nat) (P H : Nat → Int) (A : Nat → Option Addr) (N C : Nat → Nat) (V : Nat → Nat → Nat → Int) (AX : Nat → Nat → Option Addr) (M CX : Nat → Nat → Nat) (B : Nat → Nat → Nat → Int) (best fin : Int) : Inv where
  X := Nat × Nat
  tm y := slotsAt 67 ((6, .one (sI .i64 (y.1 : Int))) :: (7, .one (.sc (.ptr 9 0))) :: (38, .one (sI .i64 (N y.1 : Int))) :: (39, .one (sI .i64 (y.2 : Int))) :: owT a n cap P H A N C V AX M CX B y.1 (sm N y.1 + y.2) (y.1 + 1))
  ob y := obsAt 10 ((9, .cells 42 [.c (.val (.int .i64 (P y.1))), .c (.val (.int .i64 (H y.1))), .c (.slw 3 109 (zz N (sm N n) y.1) (N y.1) (N y.1))] 0) :: owO a n cap P H A N C V AX M CX B best fin y.1 (sm N y.1 + y.2) (owJ N V AX M CX B n 5 y.1 y.2))
  holds y := y.1 < n ∧ y.2 ≤ N y.1
  less y := N y.1 - y.2
def cpF (P H : Nat → Int) (N : Nat → Nat) (V : Nat → Nat → Nat → Int) (M : Nat → Nat → Nat) (B : Nat → Nat → Nat → Int) (ac : List Nat → Option Addr × Nat) : Nat → Nat → SC := blkF P H (fun i => (ac [i]).1) N (fun i => (ac [i]).2) (fun i => clF (V i) (fun j => (ac [i, j]).1) (M i) (fun j => (ac [i, j]).2) (B i))
def onR (P H : Nat → Int) (N : Nat → Nat) (V : Nat → Nat → Nat → Int) (M : Nat → Nat → Nat) (B : Nat → Nat → Nat → Int) (n : Nat) (best fin : Int) : List RS := [.ex (fun _ => True) fun ac => .st [.s n 3 (cpF P H N V M B ac), kI best, kI fin]]
structure onP (a : Option Addr) (n : Nat) (f : Nat → Nat → SC) : Prop where
  op : tfP a n f
  on : n ≤ 41
  oc : ∀ i, i < n → nAt (f i 2) ≤ 6
  os : sm (cM (fun i => nAt (f i 2)) (fun i j => nAt (xAt (f i 2) j 108)) n) (sm (fun i => nAt (f i 2)) n) ≤ 281474976710656
def onC : List (List FD) → List Prop
  | [[.x a n _ f, .i _, .i _]] => [onP a n f]
  | _ => [False]
def onG : List (List FD) → List RS
  | [[.x _ n _ f, .i best, .i fin]] => onR (fun i => iAt f i 0) (fun i => iAt f i 1) (fun i => nAt (f i 2)) (fun i => iAt (xAt (f i 2))) (fun i j => nAt (xAt (f i 2) j 108)) (fun i j r => iAt (xAt (xAt (f i 2) j 108)) r 0) n best fin
  | _ => []
def cOn : SSpec := specQ0 true [pqTr] onC onG
set_option maxHeartbeats 4000000 in
theorem vc_on (a : Option Addr) (n cap : Nat) (P H : Nat → Int) (A : Nat → Option Addr) (N C : Nat → Nat) (V : Nat → Nat → Nat → Int) (AX : Nat → Nat → Option Addr) (M CX : Nat → Nat → Nat) (B : Nat → Nat → Nat → Int) (best fin : Int) :
    OwesR Try.prog .none [] [(4, .inv (owI a n cap P H A N C V AX M CX B best fin)), (8, .invR (owL a n cap P H A N C V AX M CX B best fin) (fun y0 y => y.1 = y0.1)), (15, .split 4 3), ((28 + 1) * 100000 + 3, .inv (roI a n cap P H A N C V AX M CX B best fin)), ((28 + 1) * 100000 + 7, .invR (roJ a n cap P H A N C V AX M CX B best fin) (fun y0 y => y.1 = y0.1))] 2 Try.f23 [sTr a n cap (blkF P H A N C (fun i => clF (V i) (AX i) (M i) (CX i) (B i))) best fin] true (onR P H N V M B n best fin) =
    ((∀ (y : Nat), closedB (slotsAt 39 [(4, SV.one (sI Go.IntKind.i64 (↑(sm N y) : Int))), (5, SV.one (sI Go.IntKind.i64 (↑(sm (cM N M n) (sm N y)) : Int))), (10, SV.one (xTr a n cap (blkF P H A N C fun (i : Nat) => clF (V i) (AX i) (M i) (CX i) (B i)))), (11, SV.one (sI Go.IntKind.i64 (↑n : Int))), (12, SV.one (sI Go.IntKind.i64 (↑y : Int)))]) [gwT a n cap (blkF P H A N C fun (i : Nat) => clF (V i) (AX i) (M i) (CX i) (B i)) best fin, gwZ] = Bool.true) ∧ ∃ (y : Nat), y ≤ n ∧ (0 : Int) = (↑(sm N y) : Int) ∧ (0 : Int) = (↑(sm (cM N M n) (sm N y)) : Int) ∧ simC (SC.xs a n cap 3 (blkF P H A N C fun (i : Nat) => clF (V i) (AX i) (M i) (CX i) (B i))) (SC.xs a n cap 3 (blkF P H A N C fun (i : Nat) => clF (V i) (AX i) (M i) (CX i) (B i))) ∧ (↑n : Int) = (↑n : Int) ∧ (0 : Int) = (↑y : Int) ∧ simC (SC.xs a n cap 3 (blkF P H A N C fun (i : Nat) => clF (V i) (AX i) (M i) (CX i) (B i))) (SC.xs a n cap 3 (blkF P H A N C fun (i : Nat) => clF (V i) (AX i) (M i) (CX i) (B i))) ∧ best = best ∧ fin = fin ∧ 0 = 0 ∧ Go.Value.slice Option.none 0 0 = Go.Value.slice Option.none 0 0 ∧ (0 : Int) = (0 : Int) ∧ (0 : Int) = (0 : Int) ∧ 0 = 0 ∧ ∀ (y : Nat), y ≤ n → (Decidable.decide ((↑y : Int) < (↑n : Int)) = Bool.true → ((0 : Int) ≤ (↑y : Int) ∧ (↑y : Int) < (↑n : Int)) ∧ (∀ (y : Nat × Nat), closedB (slotsAt 39 [(4, SV.one (sI Go.IntKind.i64 (↑(sm N (y.fst + 1)) : Int))), (5, SV.one (sI Go.IntKind.i64 (↑(sm (cM N M n) (sm N y.fst + y.snd)) : Int))), (10, SV.one (xTr a n cap (blkF P H A N C fun (i : Nat) => clF (V i) (AX i) (M i) (CX i) (B i)))), (11, SV.one (sI Go.IntKind.i64 (↑n : Int))), (12, SV.one (sI Go.IntKind.i64 (↑y.fst : Int))), (22, SV.one (SA.sc (SC.xs (A y.fst) (N y.fst) (C y.fst) 109 (clF (V y.fst) (AX y.fst) (M y.fst) (CX y.fst) (B y.fst))))), (23, SV.one (sI Go.IntKind.i64 (↑(N y.fst) : Int))), (24, SV.one (sI Go.IntKind.i64 (↑y.snd : Int)))]) [gwT a n cap (blkF P H A N C fun (i : Nat) => clF (V i) (AX i) (M i) (CX i) (B i)) best fin, gwZ] = Bool.true) ∧ ∃ (y0 : Nat × Nat), ((y0.fst < n ∧ y0.snd ≤ N y0.fst) ∧ y0.fst = y0.fst) ∧ Go.IntKind.i64.wrap ((↑(sm N y) : Int) + (↑(N (↑y : Int).toNat) : Int)) = (↑(sm N (y0.fst + 1)) : Int) ∧ (↑(sm (cM N M n) (sm N y)) : Int) = (↑(sm (cM N M n) (sm N y0.fst + y0.snd)) : Int) ∧ simC (SC.xs a n cap 3 (blkF P H A N C fun (i : Nat) => clF (V i) (AX i) (M i) (CX i) (B i))) (SC.xs a n cap 3 (blkF P H A N C fun (i : Nat) => clF (V i) (AX i) (M i) (CX i) (B i))) ∧ (↑n : Int) = (↑n : Int) ∧ (↑y : Int) = (↑y0.fst : Int) ∧ (A (↑y : Int).toNat = A y0.fst ∧ N (↑y : Int).toNat = N y0.fst ∧ C (↑y : Int).toNat = C y0.fst ∧ ∀ (i : Nat), i < N (↑y : Int).toNat → allC 109 fun (c : Nat) => simC (clF (V (↑y : Int).toNat) (AX (↑y : Int).toNat) (M (↑y : Int).toNat) (CX (↑y : Int).toNat) (B (↑y : Int).toNat) i c) (clF (V y0.fst) (AX y0.fst) (M y0.fst) (CX y0.fst) (B y0.fst) i c)) ∧ (↑(N (↑y : Int).toNat) : Int) = (↑(N y0.fst) : Int) ∧ (0 : Int) = (↑y0.snd : Int) ∧ simC (SC.xs a n cap 3 (blkF P H A N C fun (i : Nat) => clF (V i) (AX i) (M i) (CX i) (B i))) (SC.xs a n cap 3 (blkF P H A N C fun (i : Nat) => clF (V i) (AX i) (M i) (CX i) (B i))) ∧ best = best ∧ fin = fin ∧ 0 = 0 ∧ Go.Value.slice Option.none 0 0 = Go.Value.slice Option.none 0 0 ∧ (0 : Int) = (0 : Int) ∧ (0 : Int) = (0 : Int) ∧ 0 = 0 ∧ ∀ (y_1 : Nat × Nat), y_1.fst < n ∧ y_1.snd ≤ N y_1.fst → y_1.fst = y0.fst → (Decidable.decide ((↑y_1.snd : Int) < (↑(N y_1.fst) : Int)) = Bool.true → ((0 : Int) ≤ (↑y_1.snd : Int) ∧ (↑y_1.snd : Int) < (↑(N y_1.fst) : Int)) ∧ ∃ (y' : Nat × Nat), ((y'.fst < n ∧ y'.snd ≤ N y'.fst) ∧ y'.fst = y0.fst) ∧ (↑(sm N (y_1.fst + 1)) : Int) = (↑(sm N (y'.fst + 1)) : Int) ∧ Go.IntKind.i64.wrap ((↑(sm (cM N M n) (sm N y_1.fst + y_1.snd)) : Int) + (↑(M y_1.fst (↑y_1.snd : Int).toNat) : Int)) = (↑(sm (cM N M n) (sm N y'.fst + y'.snd)) : Int) ∧ simC (SC.xs a n cap 3 (blkF P H A N C fun (i : Nat) => clF (V i) (AX i) (M i) (CX i) (B i))) (SC.xs a n cap 3 (blkF P H A N C fun (i : Nat) => clF (V i) (AX i) (M i) (CX i) (B i))) ∧ (↑n : Int) = (↑n : Int) ∧ (↑y_1.fst : Int) = (↑y'.fst : Int) ∧ (A y_1.fst = A y'.fst ∧ N y_1.fst = N y'.fst ∧ C y_1.fst = C y'.fst ∧ ∀ (i : Nat), i < N y_1.fst → allC 109 fun (c : Nat) => simC (clF (V y_1.fst) (AX y_1.fst) (M y_1.fst) (CX y_1.fst) (B y_1.fst) i c) (clF (V y'.fst) (AX y'.fst) (M y'.fst) (CX y'.fst) (B y'.fst) i c)) ∧ (↑(N y_1.fst) : Int) = (↑(N y'.fst) : Int) ∧ Go.IntKind.i64.wrap ((↑y_1.snd : Int) + (1 : Int)) = (↑y'.snd : Int) ∧ simC (SC.xs a n cap 3 (blkF P H A N C fun (i : Nat) => clF (V i) (AX i) (M i) (CX i) (B i))) (SC.xs a n cap 3 (blkF P H A N C fun (i : Nat) => clF (V i) (AX i) (M i) (CX i) (B i))) ∧ best = best ∧ fin = fin ∧ 0 = 0 ∧ Go.Value.slice Option.none 0 0 = Go.Value.slice Option.none 0 0 ∧ (0 : Int) = (0 : Int) ∧ (0 : Int) = (0 : Int) ∧ 0 = 0 ∧ (N y'.fst - y'.snd).succ.le (N y_1.fst - y_1.snd)) ∧ (Decidable.decide ((↑y_1.snd : Int) < (↑(N y_1.fst) : Int)) = Bool.false → ∃ (y' : Nat), y' ≤ n ∧ (↑(sm N (y_1.fst + 1)) : Int) = (↑(sm N y') : Int) ∧ (↑(sm (cM N M n) (sm N y_1.fst + y_1.snd)) : Int) = (↑(sm (cM N M n) (sm N y')) : Int) ∧ simC (SC.xs a n cap 3 (blkF P H A N C fun (i : Nat) => clF (V i) (AX i) (M i) (CX i) (B i))) (SC.xs a n cap 3 (blkF P H A N C fun (i : Nat) => clF (V i) (AX i) (M i) (CX i) (B i))) ∧ (↑n : Int) = (↑n : Int) ∧ Go.IntKind.i64.wrap ((↑y_1.fst : Int) + (1 : Int)) = (↑y' : Int) ∧ simC (SC.xs a n cap 3 (blkF P H A N C fun (i : Nat) => clF (V i) (AX i) (M i) (CX i) (B i))) (SC.xs a n cap 3 (blkF P H A N C fun (i : Nat) => clF (V i) (AX i) (M i) (CX i) (B i))) ∧ best = best ∧ fin = fin ∧ 0 = 0 ∧ Go.Value.slice Option.none 0 0 = Go.Value.slice Option.none 0 0 ∧ (0 : Int) = (0 : Int) ∧ (0 : Int) = (0 : Int) ∧ 0 = 0 ∧ (n - y').succ.le (n - y))) ∧ (Decidable.decide ((↑y : Int) < (↑n : Int)) = Bool.false → ((0 : Int) ≤ (↑(sm N y) : Int) ∧ (↑(sm N y) : Int) ≤ (↑(sm N y) : Int) ∧ (216 : Int) * (↑(sm N y) : Int) ≤ (281474976710656 : Int) ∧ (↑(sm N y) : Int) ≤ (9223372036854775807 : Int)) ∧ ((0 : Int) ≤ (↑(sm (cM N M n) (sm N y)) : Int) ∧ (↑(sm (cM N M n) (sm N y)) : Int) ≤ (↑(sm (cM N M n) (sm N y)) : Int) ∧ (1 : Int) * (↑(sm (cM N M n) (sm N y)) : Int) ≤ (281474976710656 : Int) ∧ (↑(sm (cM N M n) (sm N y)) : Int) ≤ (9223372036854775807 : Int)) ∧ ((0 : Int) ≤ (↑n : Int) ∧ (↑n : Int) ≤ (↑n : Int) ∧ (40 : Int) * (↑n : Int) ≤ (281474976710656 : Int) ∧ (↑n : Int) ≤ (9223372036854775807 : Int)) ∧ (∀ (y : Nat), closedB (slotsAt 67 (owT a n cap P H A N C V AX M CX B y (sm N y) y)) (obsAt 9 (owO a n cap P H A N C V AX M CX B best fin y (sm N y) (owK N V M n 5 y))) = Bool.true) ∧ ∃ (y_1 : Nat), let x101 : Prop := (↑(sm (cM N M n) (sm N y)) : Int).toNat = sm (cM N M n) (sm N n) - sm (cM N M n) (sm N y_1); y_1 ≤ n ∧ (3 = 3 ∧ 109 = 109 ∧ 0 = zz N (sm N n) y_1 ∧ (↑(sm N y) : Int).toNat = sm N n - sm N y_1 ∧ (↑(sm N y) : Int).toNat = sm N n - sm N y_1) ∧ (5 = 5 ∧ 1 = 1 ∧ 0 = zz (cM N M n) (sm (cM N M n) (sm N n)) (sm N y_1) ∧ x101 ∧ x101) ∧ (8 = 8 ∧ 3 = 3 ∧ 0 = 0 ∧ (↑n : Int).toNat = n ∧ (↑n : Int).toNat = n) ∧ simC (SC.xs a n cap 3 (blkF P H A N C fun (i : Nat) => clF (V i) (AX i) (M i) (CX i) (B i))) (SC.xs a n cap 3 (blkF P H A N C fun (i : Nat) => clF (V i) (AX i) (M i) (CX i) (B i))) ∧ (↑n : Int) = (↑n : Int) ∧ (0 : Int) = (↑y_1 : Int) ∧ simC (SC.xs a n cap 3 (blkF P H A N C fun (i : Nat) => clF (V i) (AX i) (M i) (CX i) (B i))) (SC.xs a n cap 3 (blkF P H A N C fun (i : Nat) => clF (V i) (AX i) (M i) (CX i) (B i))) ∧ best = best ∧ fin = fin ∧ 0 = 0 ∧ Go.Value.slice Option.none 0 0 = Go.Value.slice Option.none 0 0 ∧ (0 : Int) = (0 : Int) ∧ (0 : Int) = (0 : Int) ∧ 0 = 0 ∧ (↑(sm N y) : Int).toNat = sm N n ∧ ((↑(sm N y) : Int).toNat - (↑(sm N y) : Int).toNat) * 109 = 0 ∧ (∀ (i : Nat), i < (↑(sm N y) : Int).toNat → allC 109 fun (c : Nat) => simC ((flat (List.map litC (Go.Value.agg ([Go.Value.int Go.IntKind.i64 (0 : Int), Go.Value.int Go.IntKind.u8 (0 : Int), Go.Value.int Go.IntKind.u8 (0 : Int), Go.Value.int Go.IntKind.u8 (0 : Int), Go.Value.int Go.IntKind.u8 (0 : Int), Go.Value.int Go.IntKind.u8 (0 : Int), Go.Value.int Go.IntKind.u8 (0 : Int), Go.Value.int Go.IntKind.u8 (0 : Int), Go.Value.int Go.IntKind.u8 (0 : Int), Go.Value.int Go.IntKind.u8 (0 : Int), Go.Value.int Go.IntKind.u8 (0 : Int), Go.Value.int Go.IntKind.u8 (0 : Int), Go.Value.int Go.IntKind.u8 (0 : Int), Go.Value.int Go.IntKind.u8 (0 : Int), Go.Value.int Go.IntKind.u8 (0 : Int), Go.Value.int Go.IntKind.u8 (0 : Int), Go.Value.int Go.IntKind.u8 (0 : Int), Go.Value.int Go.IntKind.u8 (0 : Int), Go.Value.int Go.IntKind.u8 (0 : Int), Go.Value.int Go.IntKind.u8 (0 : Int), Go.Value.int Go.IntKind.u8 (0 : Int), Go.Value.int Go.IntKind.u8 (0 : Int), Go.Value.int Go.IntKind.u8 (0 : Int), Go.Value.int Go.IntKind.u8 (0 : Int), Go.Value.int Go.IntKind.u8 (0 : Int), Go.Value.int Go.IntKind.u8 (0 : Int), Go.Value.int Go.IntKind.u8 (0 : Int), Go.Value.int Go.IntKind.u8 (0 : Int), Go.Value.int Go.IntKind.u8 (0 : Int), Go.Value.int Go.IntKind.u8 (0 : Int), Go.Value.int Go.IntKind.u8 (0 : Int), Go.Value.int Go.IntKind.u8 (0 : Int), Go.Value.int Go.IntKind.u8 (0 : Int), Go.Value.int Go.IntKind.u8 (0 : Int), Go.Value.int Go.IntKind.u8 (0 : Int), Go.Value.int Go.IntKind.u8 (0 : Int), Go.Value.int Go.IntKind.u8 (0 : Int), Go.Value.int Go.IntKind.u8 (0 : Int), Go.Value.int Go.IntKind.u8 (0 : Int), Go.Value.int Go.IntKind.u8 (0 : Int), Go.Value.int Go.IntKind.u8 (0 : Int), Go.Value.int Go.IntKind.u8 (0 : Int), Go.Value.int Go.IntKind.u8 (0 : Int), Go.Value.int Go.IntKind.u8 (0 : Int), Go.Value.int Go.IntKind.u8 (0 : Int), Go.Value.int Go.IntKind.u8 (0 : Int), Go.Value.int Go.IntKind.u8 (0 : Int), Go.Value.int Go.IntKind.u8 (0 : Int), Go.Value.int Go.IntKind.u8 (0 : Int), Go.Value.int Go.IntKind.u8 (0 : Int), Go.Value.int Go.IntKind.u8 (0 : Int), Go.Value.int Go.IntKind.u8 (0 : Int), Go.Value.int Go.IntKind.u8 (0 : Int), Go.Value.int Go.IntKind.u8 (0 : Int)].append [Go.Value.int Go.IntKind.u8 (0 : Int), Go.Value.int Go.IntKind.u8 (0 : Int), Go.Value.int Go.IntKind.u8 (0 : Int), Go.Value.int Go.IntKind.u8 (0 : Int), Go.Value.int Go.IntKind.u8 (0 : Int), Go.Value.int Go.IntKind.u8 (0 : Int), Go.Value.int Go.IntKind.u8 (0 : Int), Go.Value.int Go.IntKind.u8 (0 : Int), Go.Value.int Go.IntKind.u8 (0 : Int), Go.Value.int Go.IntKind.u8 (0 : Int), Go.Value.int Go.IntKind.u8 (0 : Int), Go.Value.int Go.IntKind.i64 (0 : Int), Go.Value.int Go.IntKind.u64 (0 : Int), Go.Value.int Go.IntKind.u64 (0 : Int), Go.Value.int Go.IntKind.u64 (0 : Int), Go.Value.int Go.IntKind.u64 (0 : Int), Go.Value.int Go.IntKind.u64 (0 : Int), Go.Value.int Go.IntKind.u64 (0 : Int), Go.Value.int Go.IntKind.u64 (0 : Int), Go.Value.int Go.IntKind.u64 (0 : Int), Go.Value.int Go.IntKind.u8 (0 : Int), Go.Value.int Go.IntKind.u8 (0 : Int), Go.Value.int Go.IntKind.u8 (0 : Int), Go.Value.int Go.IntKind.u8 (0 : Int), Go.Value.int Go.IntKind.u8 (0 : Int), Go.Value.int Go.IntKind.u8 (0 : Int), Go.Value.int Go.IntKind.u8 (0 : Int), Go.Value.int Go.IntKind.u8 (0 : Int), Go.Value.int Go.IntKind.u8 (0 : Int), Go.Value.int Go.IntKind.u8 (0 : Int), Go.Value.int Go.IntKind.u8 (0 : Int), Go.Value.int Go.IntKind.u8 (0 : Int), Go.Value.int Go.IntKind.u8 (0 : Int), Go.Value.int Go.IntKind.u8 (0 : Int), Go.Value.int Go.IntKind.u8 (0 : Int), Go.Value.int Go.IntKind.u8 (0 : Int), Go.Value.int Go.IntKind.u8 (0 : Int), Go.Value.int Go.IntKind.u8 (0 : Int), Go.Value.int Go.IntKind.u8 (0 : Int), Go.Value.int Go.IntKind.u8 (0 : Int), Go.Value.int Go.IntKind.u8 (0 : Int), Go.Value.int Go.IntKind.u8 (0 : Int), Go.Value.int Go.IntKind.u8 (0 : Int), Go.Value.int Go.IntKind.u8 (0 : Int), Go.Value.int Go.IntKind.u8 (0 : Int), Go.Value.int Go.IntKind.u8 (0 : Int), Go.Value.int Go.IntKind.u8 (0 : Int), Go.Value.int Go.IntKind.u8 (0 : Int), Go.Value.int Go.IntKind.u8 (0 : Int), Go.Value.int Go.IntKind.u8 (0 : Int), Go.Value.int Go.IntKind.u8 (0 : Int), Go.Value.int Go.IntKind.u8 (0 : Int), Go.Value.int Go.IntKind.i64 (0 : Int), Go.Value.int Go.IntKind.i64 (0 : Int), Go.Value.slice Option.none 0 0]).toArray).cells.toList)).getD c (SC.bit Bool.false)) (owK N V M n 5 y_1 i c)) ∧ (↑(sm (cM N M n) (sm N y)) : Int).toNat = sm (cM N M n) (sm N n) ∧ ((↑(sm (cM N M n) (sm N y)) : Int).toNat - (↑(sm (cM N M n) (sm N y)) : Int).toNat) * 1 = 0 ∧ (∀ (i : Nat), i < (↑(sm (cM N M n) (sm N y)) : Int).toNat → allC 1 fun (c : Nat) => simC ((flat (List.map litC (Go.Value.int Go.IntKind.u8 (0 : Int)).cells.toList)).getD c (SC.bit Bool.false)) (owP N M B n (sm N y_1) i c)) ∧ (↑n : Int).toNat = n ∧ ((↑n : Int).toNat - (↑n : Int).toNat) * 3 = 0 ∧ (∀ (i : Nat), i < (↑n : Int).toNat → allC 3 fun (c : Nat) => simC ((flat (List.map litC (Go.Value.agg #[Go.Value.int Go.IntKind.i64 (0 : Int), Go.Value.int Go.IntKind.i64 (0 : Int), Go.Value.slice Option.none 0 0]).cells.toList)).getD c (SC.bit Bool.false)) (owB P H N n 3 y_1 i c)) ∧ ∀ (y : Nat), let x102 : Prop := (↑((N (↑y : Int).toNat).min (sm N n - sm N y)) : Int) ≤ (↑(sm N n - sm N y) : Int); y ≤ n → (Decidable.decide ((↑y : Int) < (↑n : Int)) = Bool.true → ((0 : Int) ≤ (↑y : Int) ∧ (↑y : Int) < (↑n : Int)) ∧ zz N (sm N n) y + (sm N n - sm N y) ≤ sm N n ∧ ((0 : Int) ≤ (↑((N (↑y : Int).toNat).min (sm N n - sm N y)) : Int) ∧ (↑((N (↑y : Int).toNat).min (sm N n - sm N y)) : Int) ≤ (↑((N (↑y : Int).toNat).min (sm N n - sm N y)) : Int) ∧ x102) ∧ ((0 : Int) ≤ (↑((N (↑y : Int).toNat).min (sm N n - sm N y)) : Int) ∧ x102 ∧ (↑(sm N n - sm N y) : Int) ≤ (↑(sm N n - sm N y) : Int)) ∧ (∀ (y : Nat × Nat), closedB (slotsAt 67 ((6, SV.one (sI Go.IntKind.i64 (↑y.fst : Int))) :: (7, SV.one (SA.sc (SC.ptr 9 0))) :: (38, SV.one (sI Go.IntKind.i64 (↑(N y.fst) : Int))) :: (39, SV.one (sI Go.IntKind.i64 (↑y.snd : Int))) :: owT a n cap P H A N C V AX M CX B y.fst (sm N y.fst + y.snd) (y.fst + 1))) (obsAt 10 ((9, SO.cells (42 : Go.TypeId) [SK.c (SC.val (Go.Value.int Go.IntKind.i64 (P y.fst))), SK.c (SC.val (Go.Value.int Go.IntKind.i64 (H y.fst))), SK.c (SC.slw 3 109 (zz N (sm N n) y.fst) (N y.fst) (N y.fst))] 0) :: owO a n cap P H A N C V AX M CX B best fin y.fst (sm N y.fst + y.snd) (owJ N V AX M CX B n 5 y.fst y.snd))) = Bool.true) ∧ ∃ (y0 : Nat × Nat), let x103 : Prop := sm N n - sm N y - (↑((N (↑y : Int).toNat).min (sm N n - sm N y)) : Int).toNat = sm N n - sm N (y0.fst + 1); let x104 : Prop := sm (cM N M n) (sm N n) - sm (cM N M n) (sm N y) = sm (cM N M n) (sm N n) - sm (cM N M n) (sm N y0.fst + y0.snd); let x105 : Prop := (↑((N (↑y : Int).toNat).min (sm N n - sm N y)) : Int).toNat = N y0.fst; ((y0.fst < n ∧ y0.snd ≤ N y0.fst) ∧ y0.fst = y0.fst) ∧ (3 = 3 ∧ 109 = 109 ∧ offS (sm N n - sm N y) (↑((N (↑y : Int).toNat).min (sm N n - sm N y)) : Int).toNat (zz N (sm N n) y) = zz N (sm N n) (y0.fst + 1) ∧ x103 ∧ x103) ∧ (5 = 5 ∧ 1 = 1 ∧ zz (cM N M n) (sm (cM N M n) (sm N n)) (sm N y) = zz (cM N M n) (sm (cM N M n) (sm N n)) (sm N y0.fst + y0.snd) ∧ x104 ∧ x104) ∧ (8 = 8 ∧ 3 = 3 ∧ 0 = 0 ∧ n = n ∧ n = n) ∧ (↑y : Int) = (↑y0.fst : Int) ∧ simC (SC.xs a n cap 3 (blkF P H A N C fun (i : Nat) => clF (V i) (AX i) (M i) (CX i) (B i))) (SC.xs a n cap 3 (blkF P H A N C fun (i : Nat) => clF (V i) (AX i) (M i) (CX i) (B i))) ∧ (↑n : Int) = (↑n : Int) ∧ (↑y : Int) = (↑y0.fst : Int) ∧ (↑(↑((N (↑y : Int).toNat).min (sm N n - sm N y)) : Int).toNat : Int) = (↑(N y0.fst) : Int) ∧ (0 : Int) = (↑y0.snd : Int) ∧ simC (SC.xs a n cap 3 (blkF P H A N C fun (i : Nat) => clF (V i) (AX i) (M i) (CX i) (B i))) (SC.xs a n cap 3 (blkF P H A N C fun (i : Nat) => clF (V i) (AX i) (M i) (CX i) (B i))) ∧ best = best ∧ fin = fin ∧ 0 = 0 ∧ Go.Value.slice Option.none 0 0 = Go.Value.slice Option.none 0 0 ∧ (0 : Int) = (0 : Int) ∧ (0 : Int) = (0 : Int) ∧ 0 = 0 ∧ sm N n = sm N n ∧ 0 = 0 ∧ (∀ (i : Nat), i < sm N n → allC 109 fun (c : Nat) => simC (bif Decidable.decide (zz N (sm N n) y ≤ i) && Decidable.decide (i < zz N (sm N n) y + (N (↑y : Int).toNat).min (sm N n - sm N y)) then clF (V (↑y : Int).toNat) (AX (↑y : Int).toNat) (M (↑y : Int).toNat) (CX (↑y : Int).toNat) (B (↑y : Int).toNat) (i - zz N (sm N n) y) c else owK N V M n 5 y i c) (owJ N V AX M CX B n 5 y0.fst y0.snd i c)) ∧ sm (cM N M n) (sm N n) = sm (cM N M n) (sm N n) ∧ 0 = 0 ∧ (∀ (i : Nat), i < sm (cM N M n) (sm N n) → allC 1 fun (c : Nat) => simC (owP N M B n (sm N y) i c) (owP N M B n (sm N y0.fst + y0.snd) i c)) ∧ n = n ∧ 0 = 0 ∧ (∀ (i : Nat), i < n → allC 3 fun (c : Nat) => simC (owB P H N n 3 y i c) (owB P H N n 3 y0.fst i c)) ∧ P (↑y : Int).toNat = P y0.fst ∧ H (↑y : Int).toNat = H y0.fst ∧ (3 = 3 ∧ 109 = 109 ∧ zz N (sm N n) y = zz N (sm N n) y0.fst ∧ x105 ∧ x105) ∧ 0 = 0 ∧ ∀ (y_2 : Nat × Nat), let x106 : Prop := (↑((xsN (owJ N V AX M CX B n 5 y_2.fst y_2.snd (zz N (sm N n) y_2.fst + (↑y_2.snd : Int).toNat) 108)).min (sm (cM N M n) (sm N n) - sm (cM N M n) (sm N y_2.fst + y_2.snd))) : Int) ≤ (↑(sm (cM N M n) (sm N n) - sm (cM N M n) (sm N y_2.fst + y_2.snd)) : Int); y_2.fst < n ∧ y_2.snd ≤ N y_2.fst → y_2.fst = y0.fst → (Decidable.decide ((↑y_2.snd : Int) < (↑(N y_2.fst) : Int)) = Bool.true → ((0 : Int) ≤ (↑y_2.snd : Int) ∧ (↑y_2.snd : Int) < (↑(N y_2.fst) : Int)) ∧ zz N (sm N n) y_2.fst + (↑y_2.snd : Int).toNat < sm N n ∧ isX 1 (owJ N V AX M CX B n 5 y_2.fst y_2.snd (zz N (sm N n) y_2.fst + (↑y_2.snd : Int).toNat) 108) ∧ zz (cM N M n) (sm (cM N M n) (sm N n)) (sm N y_2.fst + y_2.snd) + (sm (cM N M n) (sm N n) - sm (cM N M n) (sm N y_2.fst + y_2.snd)) ≤ sm (cM N M n) (sm N n) ∧ ((0 : Int) ≤ (↑((xsN (owJ N V AX M CX B n 5 y_2.fst y_2.snd (zz N (sm N n) y_2.fst + (↑y_2.snd : Int).toNat) 108)).min (sm (cM N M n) (sm N n) - sm (cM N M n) (sm N y_2.fst + y_2.snd))) : Int) ∧ (↑((xsN (owJ N V AX M CX B n 5 y_2.fst y_2.snd (zz N (sm N n) y_2.fst + (↑y_2.snd : Int).toNat) 108)).min (sm (cM N M n) (sm N n) - sm (cM N M n) (sm N y_2.fst + y_2.snd))) : Int) ≤ (↑((xsN (owJ N V AX M CX B n 5 y_2.fst y_2.snd (zz N (sm N n) y_2.fst + (↑y_2.snd : Int).toNat) 108)).min (sm (cM N M n) (sm N n) - sm (cM N M n) (sm N y_2.fst + y_2.snd))) : Int) ∧ x106) ∧ ((0 : Int) ≤ (↑((xsN (owJ N V AX M CX B n 5 y_2.fst y_2.snd (zz N (sm N n) y_2.fst + (↑y_2.snd : Int).toNat) 108)).min (sm (cM N M n) (sm N n) - sm (cM N M n) (sm N y_2.fst + y_2.snd))) : Int) ∧ x106 ∧ (↑(sm (cM N M n) (sm N n) - sm (cM N M n) (sm N y_2.fst + y_2.snd)) : Int) ≤ (↑(sm (cM N M n) (sm N n) - sm (cM N M n) (sm N y_2.fst + y_2.snd)) : Int)) ∧ zz N (sm N n) y_2.fst + (↑y_2.snd : Int).toNat < sm N n ∧ ∃ (y' : Nat × Nat), let x107 : Prop := sm N n - sm N (y_2.fst + 1) = sm N n - sm N (y'.fst + 1); let x108 : Prop := sm (cM N M n) (sm N n) - sm (cM N M n) (sm N y_2.fst + y_2.snd) - (↑((xsN (owJ N V AX M CX B n 5 y_2.fst y_2.snd (zz N (sm N n) y_2.fst + (↑y_2.snd : Int).toNat) 108)).min (sm (cM N M n) (sm N n) - sm (cM N M n) (sm N y_2.fst + y_2.snd))) : Int).toNat = sm (cM N M n) (sm N n) - sm (cM N M n) (sm N y'.fst + y'.snd); ((y'.fst < n ∧ y'.snd ≤ N y'.fst) ∧ y'.fst = y0.fst) ∧ (3 = 3 ∧ 109 = 109 ∧ zz N (sm N n) (y_2.fst + 1) = zz N (sm N n) (y'.fst + 1) ∧ x107 ∧ x107) ∧ (5 = 5 ∧ 1 = 1 ∧ offS (sm (cM N M n) (sm N n) - sm (cM N M n) (sm N y_2.fst + y_2.snd)) (↑((xsN (owJ N V AX M CX B n 5 y_2.fst y_2.snd (zz N (sm N n) y_2.fst + (↑y_2.snd : Int).toNat) 108)).min (sm (cM N M n) (sm N n) - sm (cM N M n) (sm N y_2.fst + y_2.snd))) : Int).toNat (zz (cM N M n) (sm (cM N M n) (sm N n)) (sm N y_2.fst + y_2.snd)) = zz (cM N M n) (sm (cM N M n) (sm N n)) (sm N y'.fst + y'.snd) ∧ x108 ∧ x108) ∧ (8 = 8 ∧ 3 = 3 ∧ 0 = 0 ∧ n = n ∧ n = n) ∧ (↑y_2.fst : Int) = (↑y'.fst : Int) ∧ simC (SC.xs a n cap 3 (blkF P H A N C fun (i : Nat) => clF (V i) (AX i) (M i) (CX i) (B i))) (SC.xs a n cap 3 (blkF P H A N C fun (i : Nat) => clF (V i) (AX i) (M i) (CX i) (B i))) ∧ (↑n : Int) = (↑n : Int) ∧ (↑y_2.fst : Int) = (↑y'.fst : Int) ∧ (↑(N y_2.fst) : Int) = (↑(N y'.fst) : Int) ∧ Go.IntKind.i64.wrap ((↑y_2.snd : Int) + (1 : Int)) = (↑y'.snd : Int) ∧ simC (SC.xs a n cap 3 (blkF P H A N C fun (i : Nat) => clF (V i) (AX i) (M i) (CX i) (B i))) (SC.xs a n cap 3 (blkF P H A N C fun (i : Nat) => clF (V i) (AX i) (M i) (CX i) (B i))) ∧ best = best ∧ fin = fin ∧ 0 = 0 ∧ Go.Value.slice Option.none 0 0 = Go.Value.slice Option.none 0 0 ∧ (0 : Int) = (0 : Int) ∧ (0 : Int) = (0 : Int) ∧ 0 = 0 ∧ sm N n = sm N n ∧ 0 = 0 ∧ (∀ (i : Nat), i < sm N n → allC 109 fun (c : Nat) => simC (setN (owJ N V AX M CX B n 5 y_2.fst y_2.snd) (zz N (sm N n) y_2.fst + (↑y_2.snd : Int).toNat) 108 (flat (toKs (SA.sc (SC.slw 5 1 (zz (cM N M n) (sm (cM N M n) (sm N n)) (sm N y_2.fst + y_2.snd)) (↑((xsN (owJ N V AX M CX B n 5 y_2.fst y_2.snd (zz N (sm N n) y_2.fst + (↑y_2.snd : Int).toNat) 108)).min (sm (cM N M n) (sm N n) - sm (cM N M n) (sm N y_2.fst + y_2.snd))) : Int).toNat (↑((xsN (owJ N V AX M CX B n 5 y_2.fst y_2.snd (zz N (sm N n) y_2.fst + (↑y_2.snd : Int).toNat) 108)).min (sm (cM N M n) (sm N n) - sm (cM N M n) (sm N y_2.fst + y_2.snd))) : Int).toNat)))) i c) (owJ N V AX M CX B n 5 y'.fst y'.snd i c)) ∧ sm (cM N M n) (sm N n) = sm (cM N M n) (sm N n) ∧ 0 = 0 ∧ (∀ (i : Nat), i < sm (cM N M n) (sm N n) → allC 1 fun (c : Nat) => simC (selC (Decidable.decide (zz (cM N M n) (sm (cM N M n) (sm N n)) (sm N y_2.fst + y_2.snd) ≤ i) && Decidable.decide (i < zz (cM N M n) (sm (cM N M n) (sm N n)) (sm N y_2.fst + y_2.snd) + (xsN (owJ N V AX M CX B n 5 y_2.fst y_2.snd (zz N (sm N n) y_2.fst + (↑y_2.snd : Int).toNat) 108)).min (sm (cM N M n) (sm N n) - sm (cM N M n) (sm N y_2.fst + y_2.snd)))) (xsG (owJ N V AX M CX B n 5 y_2.fst y_2.snd (zz N (sm N n) y_2.fst + (↑y_2.snd : Int).toNat) 108) (i - zz (cM N M n) (sm (cM N M n) (sm N n)) (sm N y_2.fst + y_2.snd)) c) (owP N M B n (sm N y_2.fst + y_2.snd) i c)) (owP N M B n (sm N y'.fst + y'.snd) i c)) ∧ n = n ∧ 0 = 0 ∧ (∀ (i : Nat), i < n → allC 3 fun (c : Nat) => simC (owB P H N n 3 y_2.fst i c) (owB P H N n 3 y'.fst i c)) ∧ P y_2.fst = P y'.fst ∧ H y_2.fst = H y'.fst ∧ (3 = 3 ∧ 109 = 109 ∧ zz N (sm N n) y_2.fst = zz N (sm N n) y'.fst ∧ N y_2.fst = N y'.fst ∧ N y_2.fst = N y'.fst) ∧ 0 = 0 ∧ (N y'.fst - y'.snd).succ.le (N y_2.fst - y_2.snd)) ∧ (Decidable.decide ((↑y_2.snd : Int) < (↑(N y_2.fst) : Int)) = Bool.false → ((0 : Int) ≤ (↑y_2.fst : Int) ∧ (↑y_2.fst : Int) < (↑n : Int)) ∧ 0 + (↑y_2.fst : Int).toNat < n ∧ ∃ (y' : Nat), let x109 : Prop := sm N n - sm N (y_2.fst + 1) = sm N n - sm N y'; let x110 : Prop := sm (cM N M n) (sm N n) - sm (cM N M n) (sm N y_2.fst + y_2.snd) = sm (cM N M n) (sm N n) - sm (cM N M n) (sm N y'); y' ≤ n ∧ (3 = 3 ∧ 109 = 109 ∧ zz N (sm N n) (y_2.fst + 1) = zz N (sm N n) y' ∧ x109 ∧ x109) ∧ (5 = 5 ∧ 1 = 1 ∧ zz (cM N M n) (sm (cM N M n) (sm N n)) (sm N y_2.fst + y_2.snd) = zz (cM N M n) (sm (cM N M n) (sm N n)) (sm N y') ∧ x110 ∧ x110) ∧ (8 = 8 ∧ 3 = 3 ∧ 0 = 0 ∧ n = n ∧ n = n) ∧ simC (SC.xs a n cap 3 (blkF P H A N C fun (i : Nat) => clF (V i) (AX i) (M i) (CX i) (B i))) (SC.xs a n cap 3 (blkF P H A N C fun (i : Nat) => clF (V i) (AX i) (M i) (CX i) (B i))) ∧ (↑n : Int) = (↑n : Int) ∧ Go.IntKind.i64.wrap ((↑y_2.fst : Int) + (1 : Int)) = (↑y' : Int) ∧ simC (SC.xs a n cap 3 (blkF P H A N C fun (i : Nat) => clF (V i) (AX i) (M i) (CX i) (B i))) (SC.xs a n cap 3 (blkF P H A N C fun (i : Nat) => clF (V i) (AX i) (M i) (CX i) (B i))) ∧ best = best ∧ fin = fin ∧ 0 = 0 ∧ Go.Value.slice Option.none 0 0 = Go.Value.slice Option.none 0 0 ∧ (0 : Int) = (0 : Int) ∧ (0 : Int) = (0 : Int) ∧ 0 = 0 ∧ sm N n = sm N n ∧ 0 = 0 ∧ (∀ (i : Nat), i < sm N n → allC 109 fun (c : Nat) => simC (owJ N V AX M CX B n 5 y_2.fst y_2.snd i c) (owK N V M n 5 y' i c)) ∧ sm (cM N M n) (sm N n) = sm (cM N M n) (sm N n) ∧ 0 = 0 ∧ (∀ (i : Nat), i < sm (cM N M n) (sm N n) → allC 1 fun (c : Nat) => simC (owP N M B n (sm N y_2.fst + y_2.snd) i c) (owP N M B n (sm N y') i c)) ∧ n = n ∧ 0 = 0 ∧ (∀ (i : Nat), i < n → allC 3 fun (c : Nat) => simC (setN (owB P H N n 3 y_2.fst) (0 + (↑y_2.fst : Int).toNat) 0 (flat (toKs (SA.agg [SK.c (SC.val (Go.Value.int Go.IntKind.i64 (P y_2.fst))), SK.c (SC.val (Go.Value.int Go.IntKind.i64 (H y_2.fst))), SK.c (SC.slw 3 109 (zz N (sm N n) y_2.fst) (N y_2.fst) (N y_2.fst))]))) i c) (owB P H N n 3 y' i c)) ∧ (n - y').succ.le (n - y))) ∧ (Decidable.decide ((↑y : Int) < (↑n : Int)) = Bool.false → ∀ (b : Nat), (∀ (i : Nat), i < sm N n → allC 109 fun (c : Nat) => thOK 5 1 (sm (cM N M n) (sm N n)) (owK N V M n 5 y i c)) ∧ ∀ (b_1 : Nat), (∀ (i : Nat), i < n → allC 3 fun (c : Nat) => thOK 3 109 (sm N n) (owB P H N n 3 y i c)) ∧ ∃ (ac : List Nat → Option Go.Addr × Nat), True ∧ (0 + n ≤ n ∧ n = n ∧ n ≤ n ∧ ∀ (i : Nat), i < n → allC 3 fun (c : Nat) => simC (thC b_1 109 (fun (i c : Nat) => thC b 1 (owP N M B n (sm N y)) (owK N V M n 5 y i c)) (owB P H N n 3 y (0 + i) c)) (cpF P H N V M B ac i c)) ∧ (best = best ∧ True) ∧ (fin = fin ∧ True) ∧ True))) := by kernel_rfl
end Go.Proofs.Ytnomjdechekapaa
end
