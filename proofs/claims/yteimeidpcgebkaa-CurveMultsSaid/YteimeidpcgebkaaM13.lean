/-
  Texts: V62, P103, Wsp6, P104, P120, V74, Lhc.
-/
import Derived.Test.YteimeidpcgebkaaM1
import Derived.Test.YteimeidpcgebkaaM2
import Derived.Test.YteimeidpcgebkaaM3
import Derived.Test.YteimeidpcgebkaaM4
import Derived.Test.YteimeidpcgebkaaM5
import Derived.Test.YteimeidpcgebkaaM6
import Derived.Test.YteimeidpcgebkaaM7
import Derived.Test.YteimeidpcgebkaaM8
import Derived.Test.YteimeidpcgebkaaM9
import Derived.Test.YteimeidpcgebkaaM10
import Derived.Test.YteimeidpcgebkaaM11
import Derived.Test.YteimeidpcgebkaaM12
import Derived.Test.YteimeidpcgebkaaChecked
section
namespace Go.Proofs.Yteimeidpcgebkaa
open Go Go.Sx Go.RowKit
set_option maxRecDepth 100000
def dg2C (n : Nat) (f : Nat → Int) (m : Nat) (h : Nat → Int) : List Prop := [dgs n f, n ≤ 1000, dgs m h, m ≤ 1000]
def timesR (n : Nat) (f : Nat → Int) (m : Nat) (h : Nat → Int) : List RS := [.s (n + m) .u64 (dg (vn n f * vn m h))]
def plusR (n : Nat) (f : Nat → Int) (m : Nat) (h : Nat → Int) : List RS := [.s (max n m + 1) .u64 (dg (vn n f + vn m h))]
def cmpR (n : Nat) (f : Nat → Int) (m : Nat) (h : Nat → Int) : List RS := [.v (sI .i64 (cmpI (vn n f) (vn m h)))]
def lessC (n : Nat) (f : Nat → Int) (m : Nat) (h : Nat → Int) : List Prop := [dgs n f, n ≤ 1000, dgs m h, m ≤ 1000, vn m h ≤ vn n f]
def lessR (n : Nat) (f : Nat → Int) (m : Nat) (h : Nat → Int) : List RS := [.s n .u64 (dg (vn n f - vn m h))]
def smallR (n : Nat) (f : Nat → Int) : List RS := [.v (sI .u64 (dg (vn n f) 0)), .v (sB (decide (vn n f < 4294967296)))]
def ofR (a : Nat) : List RS := [.s 8 .u64 (dg (a % M256))]
def slDg : List (Nat × SSpec) := [(31, specUR ofR), (30, specDD false dg2C plusR), (60, specDD false dg2C timesR), (50, specDD false dg2C cmpR), (54, specDD false lessC lessR), (68, specD true dgsC shornR), (67, specD false dgsC smallR), (29, specD false dgsC wideR), (52, specD false dgsC cutR)]
def invD1 (a : Option Addr) (n c : Nat) (f : Nat → Int) (b : Option Addr) (m d : Nat) (h : Nat → Int) (P : Nat → (Nat → Int) → Int → Prop) : Inv where
 X := Nat × (Nat → Int) × Int
 tm y := slotsAt 96 [(0, .one (xsI a n c .u64 f)), (4, .one (.sc (.slw 0 1 0 n n))), (6, .one (sI .u64 (dg (vn m h) 0))), (8, .one (sI .u64 y.2.2)), (9, .one (sI .i64 ((y.1 : Int) - 1)))]
 ob y := [.row 22 1 n (r64 y.2.1) 0]
 holds y := P y.1 y.2.1 y.2.2 ∧ y.1 ≤ n
 less y := y.1
def invD2 (a : Option Addr) (n c : Nat) (f : Nat → Int) (b : Option Addr) (m d : Nat) (h : Nat → Int) (P : Nat → (Nat → Int) → Nat → (Nat → Int) → Prop) : Inv where
 X := Nat × (Nat → Int) × Option Addr × Nat × Nat × (Nat → Int)
 tm y := slotsAt 96 [(0, .one (xsI a n c .u64 f)), (1, .one (xsI b m d .u64 h)), (4, .one (.sc (.slw 0 1 0 n n))), (5, .one (xsI y.2.2.1 y.2.2.2.1 y.2.2.2.2.1 .u64 y.2.2.2.2.2)), (10, .one (sI .i64 ((y.1 : Int) - 1)))]
 ob y := [.row 22 1 n (r64 y.2.1) 0]
 holds y := P y.1 y.2.1 y.2.2.2.1 y.2.2.2.2.2 ∧ y.1 ≤ n
 less y := y.1
def cutD (a : Option Addr) (n c : Nat) (f : Nat → Int) (b : Option Addr) (m d : Nat) (h : Nat → Int) (P : Nat → (Nat → Int) → Nat → (Nat → Int) → Prop) : Inv where
 X := Nat × (Nat → Int) × Nat × Nat × (Nat → Int)
 tm y := slotsAt 96 [(0, .one (xsI a n c .u64 f)), (1, .one (xsI b m d .u64 h)), (4, .one (.sc (.slw 0 1 0 n n))), (5, .one (.sc (.slw 1 1 0 y.2.2.1 (y.2.2.1 + y.2.2.2.1)))), (10, .one (sI .i64 ((y.1 : Int) - 1)))]
 ob y := [.row 22 1 n (r64 y.2.1) 0, .row 22 1 y.2.2.1 (r64 y.2.2.2.2) y.2.2.2.1]
 holds y := P y.1 y.2.1 y.2.2.1 y.2.2.2.2 ∧ y.1 ≤ n
 less y := y.1
def invD3 (a : Option Addr) (n c : Nat) (f : Nat → Int) (b : Option Addr) (m d : Nat) (h : Nat → Int) (P : Nat → (Nat → Int) → Nat → (Nat → Int) → Nat → Nat → Prop) : Inv where
 X := Nat × (Nat → Int) × Nat × Nat × (Nat → Int) × Nat × Nat
 tm y := slotsAt 96 [(0, .one (xsI a n c .u64 f)), (1, .one (xsI b m d .u64 h)), (4, .one (.sc (.slw 0 1 0 n n))), (5, .one (.sc (.slw 1 1 0 y.2.2.1 (y.2.2.1 + y.2.2.2.1)))), (10, .one (sI .i64 ((y.1 : Int) - 1))), (11, .one (sI .u64 (y.2.2.2.2.2.1 : Int))), (12, .one (sI .u64 (y.2.2.2.2.2.2 : Int)))]
 ob y := [.row 22 1 n (r64 y.2.1) 0, .row 22 1 y.2.2.1 (r64 y.2.2.2.2.1) y.2.2.2.1]
 holds y := P y.1 y.2.1 y.2.2.1 y.2.2.2.2.1 y.2.2.2.2.2.1 y.2.2.2.2.2.2 ∧ y.1 ≤ n
 less y := y.2.2.2.2.2.2 - y.2.2.2.2.2.1
set_option maxHeartbeats 4000000 in
theorem vc_divided (a : Option Addr) (n c : Nat) (f : Nat → Int) (b : Option Addr) (m d : Nat) (h : Nat → Int) (P1 : Nat → (Nat → Int) → Int → Prop) (P2 Pc : Nat → (Nat → Int) → Nat → (Nat → Int) → Prop) (P3 : Nat → (Nat → Int) → Nat → (Nat → Int) → Nat → Nat → Prop) (k : Nat) (q r : Nat → Int) :
  OwesR Try.prog cxR slDg [(6, .inv (invD1 a n c f b m d h P1)), (13, .inv (invD2 a n c f b m d h P2)), (15, .cut (cutD a n c f b m d h Pc) (fun y z => z.1 = y.1)), (17, .invR (invD3 a n c f b m d h P3) (fun y z => z.1 = y.1))] 4 Try.f51 [xsI a n c .u64 f, xsI b m d .u64 h] true [.s n .u64 q, .s k .u64 r] =
  (let x1 : Int := dg (vn m h) 0; let x2 : Nat := ((↑n : Int).toNat - (↑n : Int).toNat) * 1; let x3 : Nat := m + 1; (∀ (_ : Nat), True) ∧ (dgs m fun (i : Nat) => intsC (SC.val (Go.Value.int Go.IntKind.u64 (h i)))) ∧ m ≤ 1000 ∧ (Decidable.decide ((vn m fun (i : Nat) => h i) < 4294967296) = Bool.true → ((0 : Int) ≤ (↑n : Int) ∧ (↑n : Int) ≤ (↑n : Int) ∧ (8 : Int) * (↑n : Int) ≤ (281474976710656 : Int) ∧ (↑n : Int) ≤ (9223372036854775807 : Int)) ∧ (∀ (y : Nat × (Nat → Int) × Int), closedB (slotsAt 96 [(0, SV.one (xsI a n c Go.IntKind.u64 f)), (4, SV.one (SA.sc (SC.slw 0 1 0 n n))), (6, SV.one (sI Go.IntKind.u64 x1)), (8, SV.one (sI Go.IntKind.u64 y.snd.snd)), (9, SV.one (sI Go.IntKind.i64 ((↑y.fst : Int) - (1 : Int))))]) [SO.row (22 : Go.TypeId) 1 n (r64 y.snd.fst) 0] = Bool.true) ∧ ∃ (y : Nat × (Nat → Int) × Int), (P1 y.fst y.snd.fst y.snd.snd ∧ y.fst ≤ n) ∧ (a = a ∧ n = n ∧ c = c ∧ ∀ (i : Nat), i < n → f i = f i) ∧ (0 = 0 ∧ ([(0 : Int) ≤ (↑n : Int) ∧ (↑n : Int) ≤ (↑n : Int) ∧ (8 : Int) * (↑n : Int) ≤ (281474976710656 : Int) ∧ (↑n : Int) ≤ (9223372036854775807 : Int)], 1, [] ++ [SO.row 22 1 (↑n : Int).toNat (fun (x c : Nat) => (flat (List.map litC (Go.Value.int Go.IntKind.u64 (0 : Int)).cells.toList)).getD c (SC.bit Bool.false)) x2]).snd.fst = 1 ∧ 0 = 0 ∧ (↑n : Int).toNat = n ∧ (↑n : Int).toNat = n) ∧ dg (vn m fun (i : Nat) => h i) 0 = x1 ∧ (0 : Int) = y.snd.snd ∧ Go.IntKind.i64.wrap ((↑n : Int) - (1 : Int)) = (↑y.fst : Int) - (1 : Int) ∧ (↑n : Int).toNat = n ∧ x2 = 0 ∧ (∀ (i : Nat), i < (↑n : Int).toNat → (0 : Int) = y.snd.fst i) ∧ ∀ (y : Nat × (Nat → Int) × Int), P1 y.fst y.snd.fst y.snd.snd ∧ y.fst ≤ n → (Decidable.decide ((↑y.fst : Int) - (1 : Int) ≥ (0 : Int)) = Bool.true → ((0 : Int) ≤ (↑y.fst : Int) - (1 : Int) ∧ (↑y.fst : Int) - (1 : Int) < (↑n : Int)) ∧ x1 ≠ (0 : Int) ∧ x1 ≠ (0 : Int) ∧ ((0 : Int) ≤ (↑y.fst : Int) - (1 : Int) ∧ (↑y.fst : Int) - (1 : Int) < (↑n : Int)) ∧ 0 + ((↑y.fst : Int) - (1 : Int)).toNat < n ∧ ∃ (y' : Nat × (Nat → Int) × Int), (P1 y'.fst y'.snd.fst y'.snd.snd ∧ y'.fst ≤ n) ∧ (a = a ∧ n = n ∧ c = c ∧ ∀ (i : Nat), i < n → f i = f i) ∧ (0 = 0 ∧ 1 = 1 ∧ 0 = 0 ∧ n = n ∧ n = n) ∧ x1 = x1 ∧ (Go.IntKind.u64.wrap (Go.IntKind.u64.wrap (y.snd.snd * (4294967296 : Int)) + f ((↑y.fst : Int) - (1 : Int)).toNat)).tmod x1 = y'.snd.snd ∧ Go.IntKind.i64.wrap ((↑y.fst : Int) - (1 : Int) - (1 : Int)) = (↑y'.fst : Int) - (1 : Int) ∧ n = n ∧ 0 = 0 ∧ (∀ (i : Nat), i < n → (bif Decidable.decide (i = 0 + ((↑y.fst : Int) - (1 : Int)).toNat) then Go.IntKind.u64.wrap ((Go.IntKind.u64.wrap (Go.IntKind.u64.wrap (y.snd.snd * (4294967296 : Int)) + f ((↑y.fst : Int) - (1 : Int)).toNat)).tdiv x1) else y.snd.fst i) = y'.snd.fst i) ∧ y'.fst < y.fst) ∧ (Decidable.decide ((↑y.fst : Int) - (1 : Int) ≥ (0 : Int)) = Bool.false → (0 + n ≤ n ∧ n = n ∧ n ≤ n ∧ ∀ (i : Nat), i < n → y.snd.fst (0 + i) = q i) ∧ 1 = k ∧ 1 ≤ 1 ∧ ∀ (i : Nat), i < k → (intsL [SK.c (SC.val (Go.Value.int Go.IntKind.u64 y.snd.snd))]).getD i (0 : Int) = r i)) ∧ (Decidable.decide ((vn m fun (i : Nat) => h i) < 4294967296) = Bool.false → ((0 : Int) ≤ (↑n : Int) ∧ (↑n : Int) ≤ (↑n : Int) ∧ (8 : Int) * (↑n : Int) ≤ (281474976710656 : Int) ∧ (↑n : Int) ≤ (9223372036854775807 : Int)) ∧ (∀ (y : Nat × (Nat → Int) × Option Go.Addr × Nat × Nat × (Nat → Int)), closedB (slotsAt 96 [(0, SV.one (xsI a n c Go.IntKind.u64 f)), (1, SV.one (xsI b m d Go.IntKind.u64 h)), (4, SV.one (SA.sc (SC.slw 0 1 0 n n))), (5, SV.one (xsI y.snd.snd.fst y.snd.snd.snd.fst y.snd.snd.snd.snd.fst Go.IntKind.u64 y.snd.snd.snd.snd.snd)), (10, SV.one (sI Go.IntKind.i64 ((↑y.fst : Int) - (1 : Int))))]) [SO.row (22 : Go.TypeId) 1 n (r64 y.snd.fst) 0] = Bool.true) ∧ ∃ (y : Nat × (Nat → Int) × Option Go.Addr × Nat × Nat × (Nat → Int)), (P2 y.fst y.snd.fst y.snd.snd.snd.fst y.snd.snd.snd.snd.snd ∧ y.fst ≤ n) ∧ (a = a ∧ n = n ∧ c = c ∧ ∀ (i : Nat), i < n → f i = f i) ∧ (b = b ∧ m = m ∧ d = d ∧ ∀ (i : Nat), i < m → h i = h i) ∧ (0 = 0 ∧ ([(0 : Int) ≤ (↑n : Int) ∧ (↑n : Int) ≤ (↑n : Int) ∧ (8 : Int) * (↑n : Int) ≤ (281474976710656 : Int) ∧ (↑n : Int) ≤ (9223372036854775807 : Int)], 1, [] ++ [SO.row 22 1 (↑n : Int).toNat (fun (x c : Nat) => (flat (List.map litC (Go.Value.int Go.IntKind.u64 (0 : Int)).cells.toList)).getD c (SC.bit Bool.false)) x2]).snd.fst = 1 ∧ 0 = 0 ∧ (↑n : Int).toNat = n ∧ (↑n : Int).toNat = n) ∧ y.snd.snd.fst = Option.none ∧ y.snd.snd.snd.fst = 0 ∧ y.snd.snd.snd.snd.fst = 0 ∧ Go.IntKind.i64.wrap ((↑n : Int) - (1 : Int)) = (↑y.fst : Int) - (1 : Int) ∧ (↑n : Int).toNat = n ∧ x2 = 0 ∧ (∀ (i : Nat), i < (↑n : Int).toNat → (0 : Int) = y.snd.fst i) ∧ ∀ (y : Nat × (Nat → Int) × Option Go.Addr × Nat × Nat × (Nat → Int)), P2 y.fst y.snd.fst y.snd.snd.snd.fst y.snd.snd.snd.snd.snd ∧ y.fst ≤ n → (Decidable.decide ((↑y.fst : Int) - (1 : Int) ≥ (0 : Int)) = Bool.true → (∀ (y : Nat × (Nat → Int) × Nat × Nat × (Nat → Int)), closedB (slotsAt 96 [(0, SV.one (xsI a n c Go.IntKind.u64 f)), (1, SV.one (xsI b m d Go.IntKind.u64 h)), (4, SV.one (SA.sc (SC.slw 0 1 0 n n))), (5, SV.one (SA.sc (SC.slw 1 1 0 y.snd.snd.fst (y.snd.snd.fst + y.snd.snd.snd.fst)))), (10, SV.one (sI Go.IntKind.i64 ((↑y.fst : Int) - (1 : Int))))]) [SO.row (22 : Go.TypeId) 1 n (r64 y.snd.fst) 0, SO.row (22 : Go.TypeId) 1 y.snd.snd.fst (r64 y.snd.snd.snd.snd) y.snd.snd.snd.fst] = Bool.true) ∧ ∃ (y0 : Nat × (Nat → Int) × Nat × Nat × (Nat → Int)), (∀ (y_1 : Nat × (Nat → Int) × Nat × Nat × (Nat → Int)), Pc y_1.fst y_1.snd.fst y_1.snd.snd.fst y_1.snd.snd.snd.snd ∧ y_1.fst ≤ n → y_1.fst = y0.fst → (∀ (y : Nat × (Nat → Int) × Nat × Nat × (Nat → Int) × Nat × Nat), closedB (slotsAt 96 [(0, SV.one (xsI a n c Go.IntKind.u64 f)), (1, SV.one (xsI b m d Go.IntKind.u64 h)), (4, SV.one (SA.sc (SC.slw 0 1 0 n n))), (5, SV.one (SA.sc (SC.slw 1 1 0 y.snd.snd.fst (y.snd.snd.fst + y.snd.snd.snd.fst)))), (10, SV.one (sI Go.IntKind.i64 ((↑y.fst : Int) - (1 : Int)))), (11, SV.one (sI Go.IntKind.u64 (↑y.snd.snd.snd.snd.snd.fst : Int))), (12, SV.one (sI Go.IntKind.u64 (↑y.snd.snd.snd.snd.snd.snd : Int)))]) [SO.row (22 : Go.TypeId) 1 n (r64 y.snd.fst) 0, SO.row (22 : Go.TypeId) 1 y.snd.snd.fst (r64 y.snd.snd.snd.snd.fst) y.snd.snd.snd.fst] = Bool.true) ∧ ∃ (y0 : Nat × (Nat → Int) × Nat × Nat × (Nat → Int) × Nat × Nat), ((P3 y0.fst y0.snd.fst y0.snd.snd.fst y0.snd.snd.snd.snd.fst y0.snd.snd.snd.snd.snd.fst y0.snd.snd.snd.snd.snd.snd ∧ y0.fst ≤ n) ∧ y0.fst = y0.fst) ∧ (a = a ∧ n = n ∧ c = c ∧ ∀ (i : Nat), i < n → f i = f i) ∧ (b = b ∧ m = m ∧ d = d ∧ ∀ (i : Nat), i < m → h i = h i) ∧ (0 = 0 ∧ 1 = 1 ∧ 0 = 0 ∧ n = n ∧ n = n) ∧ (1 = 1 ∧ 1 = 1 ∧ 0 = 0 ∧ y_1.snd.snd.fst = y0.snd.snd.fst ∧ y_1.snd.snd.fst + y_1.snd.snd.snd.fst = y0.snd.snd.fst + y0.snd.snd.snd.fst) ∧ (↑y_1.fst : Int) - (1 : Int) = (↑y0.fst : Int) - (1 : Int) ∧ (0 : Int) = (↑y0.snd.snd.snd.snd.snd.fst : Int) ∧ (4294967296 : Int) = (↑y0.snd.snd.snd.snd.snd.snd : Int) ∧ n = n ∧ 0 = 0 ∧ (∀ (i : Nat), i < n → y_1.snd.fst i = y0.snd.fst i) ∧ y_1.snd.snd.fst = y0.snd.snd.fst ∧ y_1.snd.snd.snd.fst = y0.snd.snd.snd.fst ∧ (∀ (i : Nat), i < y_1.snd.snd.fst → y_1.snd.snd.snd.snd i = y0.snd.snd.snd.snd.fst i) ∧ ∀ (y_2 : Nat × (Nat → Int) × Nat × Nat × (Nat → Int) × Nat × Nat), P3 y_2.fst y_2.snd.fst y_2.snd.snd.fst y_2.snd.snd.snd.snd.fst y_2.snd.snd.snd.snd.snd.fst y_2.snd.snd.snd.snd.snd.snd ∧ y_2.fst ≤ n → y_2.fst = y0.fst → (Decidable.decide (Go.IntKind.u64.wrap ((↑y_2.snd.snd.snd.snd.snd.snd : Int) - (↑y_2.snd.snd.snd.snd.snd.fst : Int)) > (1 : Int)) = Bool.true → 1 ≤ 1 ∧ ∀ (_ : Go.Addr), (∀ (_ : Nat), True) ∧ (∀ (_ : Nat), True) ∧ (dgs m fun (i : Nat) => intsC (SC.val (Go.Value.int Go.IntKind.u64 (h i)))) ∧ m ≤ 1000 ∧ (dgs 1 fun (i : Nat) => intsC (SC.val (Go.Value.int (Go.IntKind.u64, Go.IntKind.u64.wrap ((Go.IntKind.u64.wrap ((↑y_2.snd.snd.snd.snd.snd.fst : Int) + (↑y_2.snd.snd.snd.snd.snd.snd : Int))).tdiv (2 : Int))).fst (selG [SK.c (SC.val (Go.Value.int Go.IntKind.u64 (Go.IntKind.u64.wrap ((Go.IntKind.u64.wrap ((↑y_2.snd.snd.snd.snd.snd.fst : Int) + (↑y_2.snd.snd.snd.snd.snd.snd : Int))).tdiv (2 : Int)))))] i)))) ∧ 1 ≤ 1000 ∧ ∀ (a_10 : Option Go.Addr) (cap : Nat), (a_10 = Option.none → x3 = 0 ∧ cap = 0) → x3 ≤ cap → 0 + y_2.snd.snd.fst ≤ y_2.snd.snd.fst ∧ y_2.snd.snd.fst ≤ y_2.snd.snd.fst + y_2.snd.snd.snd.fst ∧ ∀ (_ : Go.Addr), (∀ (_ : Nat), True) ∧ (∀ (_ : Nat), True) ∧ (dgs x3 fun (i : Nat) => intsC (SC.val (Go.Value.int Go.IntKind.u64 (dg ((vn m fun (i : Nat) => intsC (SC.val (Go.Value.int Go.IntKind.u64 (h i)))) * vn 1 fun (i : Nat) => intsC (SC.val (Go.Value.int (Go.IntKind.u64, Go.IntKind.u64.wrap ((Go.IntKind.u64.wrap ((↑y_2.snd.snd.snd.snd.snd.fst : Int) + (↑y_2.snd.snd.snd.snd.snd.snd : Int))).tdiv (2 : Int))).fst (selG [SK.c (SC.val (Go.Value.int Go.IntKind.u64 (Go.IntKind.u64.wrap ((Go.IntKind.u64.wrap ((↑y_2.snd.snd.snd.snd.snd.fst : Int) + (↑y_2.snd.snd.snd.snd.snd.snd : Int))).tdiv (2 : Int)))))] i)))) i)))) ∧ x3 ≤ 1000 ∧ (dgs y_2.snd.snd.fst fun (i : Nat) => intsC (r64 y_2.snd.snd.snd.snd.fst (0 + i) 0)) ∧ y_2.snd.snd.fst ≤ 1000 ∧ (Decidable.decide (cmpI (vn x3 fun (i : Nat) => dg ((vn m fun (i : Nat) => h i) * vn 1 fun (i : Nat) => (intsL [SK.c (SC.val (Go.Value.int Go.IntKind.u64 (Go.IntKind.u64.wrap ((Go.IntKind.u64.wrap ((↑y_2.snd.snd.snd.snd.snd.fst : Int) + (↑y_2.snd.snd.snd.snd.snd.snd : Int))).tdiv (2 : Int)))))]).getD i (0 : Int)) i) (vn y_2.snd.snd.fst fun (i : Nat) => y_2.snd.snd.snd.snd.fst (0 + i)) ≤ (0 : Int)) = Bool.true → ∃ (y' : Nat × (Nat → Int) × Nat × Nat × (Nat → Int) × Nat × Nat), ((P3 y'.fst y'.snd.fst y'.snd.snd.fst y'.snd.snd.snd.snd.fst y'.snd.snd.snd.snd.snd.fst y'.snd.snd.snd.snd.snd.snd ∧ y'.fst ≤ n) ∧ y'.fst = y0.fst) ∧ (a = a ∧ n = n ∧ c = c ∧ ∀ (i : Nat), i < n → f i = f i) ∧ (b = b ∧ m = m ∧ d = d ∧ ∀ (i : Nat), i < m → h i = h i) ∧ (0 = 0 ∧ 1 = 1 ∧ 0 = 0 ∧ n = n ∧ n = n) ∧ (1 = 1 ∧ 1 = 1 ∧ 0 = 0 ∧ y_2.snd.snd.fst = y'.snd.snd.fst ∧ y_2.snd.snd.fst + y_2.snd.snd.snd.fst = y'.snd.snd.fst + y'.snd.snd.snd.fst) ∧ (↑y_2.fst : Int) - (1 : Int) = (↑y'.fst : Int) - (1 : Int) ∧ Go.IntKind.u64.wrap ((Go.IntKind.u64.wrap ((↑y_2.snd.snd.snd.snd.snd.fst : Int) + (↑y_2.snd.snd.snd.snd.snd.snd : Int))).tdiv (2 : Int)) = (↑y'.snd.snd.snd.snd.snd.fst : Int) ∧ (↑y_2.snd.snd.snd.snd.snd.snd : Int) = (↑y'.snd.snd.snd.snd.snd.snd : Int) ∧ n = n ∧ 0 = 0 ∧ (∀ (i : Nat), i < n → y_2.snd.fst i = y'.snd.fst i) ∧ y_2.snd.snd.fst = y'.snd.snd.fst ∧ y_2.snd.snd.snd.fst = y'.snd.snd.snd.fst ∧ (∀ (i : Nat), i < y_2.snd.snd.fst → y_2.snd.snd.snd.snd.fst i = y'.snd.snd.snd.snd.fst i) ∧ y'.snd.snd.snd.snd.snd.snd - y'.snd.snd.snd.snd.snd.fst < y_2.snd.snd.snd.snd.snd.snd - y_2.snd.snd.snd.snd.snd.fst) ∧ (Decidable.decide (cmpI (vn x3 fun (i : Nat) => dg ((vn m fun (i : Nat) => h i) * vn 1 fun (i : Nat) => (intsL [SK.c (SC.val (Go.Value.int Go.IntKind.u64 (Go.IntKind.u64.wrap ((Go.IntKind.u64.wrap ((↑y_2.snd.snd.snd.snd.snd.fst : Int) + (↑y_2.snd.snd.snd.snd.snd.snd : Int))).tdiv (2 : Int)))))]).getD i (0 : Int)) i) (vn y_2.snd.snd.fst fun (i : Nat) => y_2.snd.snd.snd.snd.fst (0 + i)) ≤ (0 : Int)) = Bool.false → ∃ (y' : Nat × (Nat → Int) × Nat × Nat × (Nat → Int) × Nat × Nat), ((P3 y'.fst y'.snd.fst y'.snd.snd.fst y'.snd.snd.snd.snd.fst y'.snd.snd.snd.snd.snd.fst y'.snd.snd.snd.snd.snd.snd ∧ y'.fst ≤ n) ∧ y'.fst = y0.fst) ∧ (a = a ∧ n = n ∧ c = c ∧ ∀ (i : Nat), i < n → f i = f i) ∧ (b = b ∧ m = m ∧ d = d ∧ ∀ (i : Nat), i < m → h i = h i) ∧ (0 = 0 ∧ 1 = 1 ∧ 0 = 0 ∧ n = n ∧ n = n) ∧ (1 = 1 ∧ 1 = 1 ∧ 0 = 0 ∧ y_2.snd.snd.fst = y'.snd.snd.fst ∧ y_2.snd.snd.fst + y_2.snd.snd.snd.fst = y'.snd.snd.fst + y'.snd.snd.snd.fst) ∧ (↑y_2.fst : Int) - (1 : Int) = (↑y'.fst : Int) - (1 : Int) ∧ (↑y_2.snd.snd.snd.snd.snd.fst : Int) = (↑y'.snd.snd.snd.snd.snd.fst : Int) ∧ Go.IntKind.u64.wrap ((Go.IntKind.u64.wrap ((↑y_2.snd.snd.snd.snd.snd.fst : Int) + (↑y_2.snd.snd.snd.snd.snd.snd : Int))).tdiv (2 : Int)) = (↑y'.snd.snd.snd.snd.snd.snd : Int) ∧ n = n ∧ 0 = 0 ∧ (∀ (i : Nat), i < n → y_2.snd.fst i = y'.snd.fst i) ∧ y_2.snd.snd.fst = y'.snd.snd.fst ∧ y_2.snd.snd.snd.fst = y'.snd.snd.snd.fst ∧ (∀ (i : Nat), i < y_2.snd.snd.fst → y_2.snd.snd.snd.snd.fst i = y'.snd.snd.snd.snd.fst i) ∧ y'.snd.snd.snd.snd.snd.snd - y'.snd.snd.snd.snd.snd.fst < y_2.snd.snd.snd.snd.snd.snd - y_2.snd.snd.snd.snd.snd.fst)) ∧ (Decidable.decide (Go.IntKind.u64.wrap ((↑y_2.snd.snd.snd.snd.snd.snd : Int) - (↑y_2.snd.snd.snd.snd.snd.fst : Int)) > (1 : Int)) = Bool.false → ((0 : Int) ≤ (↑y_2.fst : Int) - (1 : Int) ∧ (↑y_2.fst : Int) - (1 : Int) < (↑n : Int)) ∧ 0 + ((↑y_2.fst : Int) - (1 : Int)).toNat < n ∧ 1 ≤ 1 ∧ ∀ (_ : Go.Addr), (∀ (_ : Nat), True) ∧ (∀ (_ : Nat), True) ∧ (dgs m fun (i : Nat) => intsC (SC.val (Go.Value.int Go.IntKind.u64 (h i)))) ∧ m ≤ 1000 ∧ (dgs 1 fun (i : Nat) => intsC (SC.val (Go.Value.int (Go.IntKind.u64, (↑y_2.snd.snd.snd.snd.snd.fst : Int)).fst (selG [SK.c (SC.val (Go.Value.int Go.IntKind.u64 (↑y_2.snd.snd.snd.snd.snd.fst : Int)))] i)))) ∧ 1 ≤ 1000 ∧ ∀ (a_10 : Option Go.Addr) (cap : Nat), (a_10 = Option.none → x3 = 0 ∧ cap = 0) → x3 ≤ cap → 0 + y_2.snd.snd.fst ≤ y_2.snd.snd.fst ∧ y_2.snd.snd.fst ≤ y_2.snd.snd.fst + y_2.snd.snd.snd.fst ∧ ∀ (_ : Go.Addr), (∀ (_ : Nat), True) ∧ (∀ (_ : Nat), True) ∧ (dgs y_2.snd.snd.fst fun (i : Nat) => intsC (r64 y_2.snd.snd.snd.snd.fst (0 + i) 0)) ∧ y_2.snd.snd.fst ≤ 1000 ∧ (dgs x3 fun (i : Nat) => intsC (SC.val (Go.Value.int Go.IntKind.u64 (dg ((vn m fun (i : Nat) => intsC (SC.val (Go.Value.int Go.IntKind.u64 (h i)))) * vn 1 fun (i : Nat) => intsC (SC.val (Go.Value.int (Go.IntKind.u64, (↑y_2.snd.snd.snd.snd.snd.fst : Int)).fst (selG [SK.c (SC.val (Go.Value.int Go.IntKind.u64 (↑y_2.snd.snd.snd.snd.snd.fst : Int)))] i)))) i)))) ∧ x3 ≤ 1000 ∧ ((vn x3 fun (i : Nat) => dg ((vn m fun (i : Nat) => h i) * vn 1 fun (i : Nat) => (intsL [SK.c (SC.val (Go.Value.int Go.IntKind.u64 (↑y_2.snd.snd.snd.snd.snd.fst : Int)))]).getD i (0 : Int)) i) ≤ vn y_2.snd.snd.fst fun (i : Nat) => y_2.snd.snd.snd.snd.fst (0 + i)) ∧ ∀ (a_14 : Option Go.Addr) (cap : Nat), (a_14 = Option.none → y_2.snd.snd.fst = 0 ∧ cap = 0) → y_2.snd.snd.fst ≤ cap → ∃ (y' : Nat × (Nat → Int) × Option Go.Addr × Nat × Nat × (Nat → Int)), (P2 y'.fst y'.snd.fst y'.snd.snd.snd.fst y'.snd.snd.snd.snd.snd ∧ y'.fst ≤ n) ∧ (a = a ∧ n = n ∧ c = c ∧ ∀ (i : Nat), i < n → f i = f i) ∧ (b = b ∧ m = m ∧ d = d ∧ ∀ (i : Nat), i < m → h i = h i) ∧ (0 = 0 ∧ 1 = 1 ∧ 0 = 0 ∧ n = n ∧ n = n) ∧ (a_14 = y'.snd.snd.fst ∧ y_2.snd.snd.fst = y'.snd.snd.snd.fst ∧ cap = y'.snd.snd.snd.snd.fst ∧ ∀ (i : Nat), i < y_2.snd.snd.fst → dg ((vn y_2.snd.snd.fst fun (i : Nat) => y_2.snd.snd.snd.snd.fst (0 + i)) - vn x3 fun (i : Nat) => dg ((vn m fun (i : Nat) => h i) * vn 1 fun (i : Nat) => (intsL [SK.c (SC.val (Go.Value.int Go.IntKind.u64 (↑y_2.snd.snd.snd.snd.snd.fst : Int)))]).getD i (0 : Int)) i) i = y'.snd.snd.snd.snd.snd i) ∧ Go.IntKind.i64.wrap ((↑y_2.fst : Int) - (1 : Int) - (1 : Int)) = (↑y'.fst : Int) - (1 : Int) ∧ n = n ∧ 0 = 0 ∧ (∀ (i : Nat), i < n → (bif Decidable.decide (i = 0 + ((↑y_2.fst : Int) - (1 : Int)).toNat) then (↑y_2.snd.snd.snd.snd.snd.fst : Int) else y_2.snd.fst i) = y'.snd.fst i) ∧ y'.fst < y.fst)) ∧ (((0 : Int) ≤ (↑y.fst : Int) - (1 : Int) ∧ (↑y.fst : Int) - (1 : Int) < (↑n : Int)) ∧ ((∀ (_ : Nat), True) ∧ (dgs y.snd.snd.snd.fst fun (i : Nat) => intsC (SC.val (Go.Value.int Go.IntKind.u64 (y.snd.snd.snd.snd.snd i)))) ∧ y.snd.snd.snd.fst ≤ 1000 ∧ ∀ (a_4 : Option Go.Addr) (cap : Nat), (a_4 = Option.none → lenDg (vn y.snd.snd.snd.fst fun (i : Nat) => y.snd.snd.snd.snd.snd i) = 0 ∧ cap = 0) → lenDg (vn y.snd.snd.snd.fst fun (i : Nat) => y.snd.snd.snd.snd.snd i) ≤ cap → (1 ≤ 1 ∧ 1 ≤ Go.maxLen ∧ 1 = 1) ∧ (1 + lenDg (vn y.snd.snd.snd.fst fun (i : Nat) => y.snd.snd.snd.snd.snd i) ≤ Go.maxLen ∧ (1 + lenDg (vn y.snd.snd.snd.fst fun (i : Nat) => y.snd.snd.snd.snd.snd i)) * 8 ≤ 140737488355328) ∧ ∀ (c_1 : Nat), 1 + lenDg (vn y.snd.snd.snd.fst fun (i : Nat) => y.snd.snd.snd.snd.snd i) + c_1 ≤ Go.maxLen → ∃ (y_1 : Nat × (Nat → Int) × Nat × Nat × (Nat → Int)), ((Pc y_1.fst y_1.snd.fst y_1.snd.snd.fst y_1.snd.snd.snd.snd ∧ y_1.fst ≤ n) ∧ y_1.fst = y0.fst) ∧ (a = a ∧ n = n ∧ c = c ∧ ∀ (i : Nat), i < n → f i = f i) ∧ (b = b ∧ m = m ∧ d = d ∧ ∀ (i : Nat), i < m → h i = h i) ∧ (0 = 0 ∧ 1 = 1 ∧ 0 = 0 ∧ n = n ∧ n = n) ∧ ((match Bool.false with | Bool.true => 4 | Bool.false => [SO.row (22 : Go.TypeId) 1 n (r64 y.snd.fst) 0].length) = 1 ∧ 1 = 1 ∧ 0 = 0 ∧ 1 + lenDg (vn y.snd.snd.snd.fst fun (i : Nat) => y.snd.snd.snd.snd.snd i) = y_1.snd.snd.fst ∧ 1 + lenDg (vn y.snd.snd.snd.fst fun (i : Nat) => y.snd.snd.snd.snd.snd i) + c_1 = y_1.snd.snd.fst + y_1.snd.snd.snd.fst) ∧ (↑y.fst : Int) - (1 : Int) = (↑y_1.fst : Int) - (1 : Int) ∧ n = n ∧ 0 = 0 ∧ (∀ (i : Nat), i < n → y.snd.fst i = y_1.snd.fst i) ∧ 1 + lenDg (vn y.snd.snd.snd.fst fun (i : Nat) => y.snd.snd.snd.snd.snd i) = y_1.snd.snd.fst ∧ c_1 * 1 = y_1.snd.snd.snd.fst ∧ (∀ (i : Nat), i < 1 + lenDg (vn y.snd.snd.snd.fst fun (i : Nat) => y.snd.snd.snd.snd.snd i) → (bif Decidable.decide (i < 1) then f ((↑y.fst : Int) - (1 : Int)).toNat else dg (vn y.snd.snd.snd.fst fun (i : Nat) => y.snd.snd.snd.snd.snd i) (i - 1)) = y_1.snd.snd.snd.snd i) ∧ True) ∧ (∀ (_ : Nat), True) ∧ (dgs y.snd.snd.snd.fst fun (i : Nat) => intsC (SC.val (Go.Value.int Go.IntKind.u64 (y.snd.snd.snd.snd.snd i)))) ∧ y.snd.snd.snd.fst ≤ 1000 ∧ ∀ (a_4 : Option Go.Addr) (cap : Nat), (a_4 = Option.none → lenDg (vn y.snd.snd.snd.fst fun (i : Nat) => y.snd.snd.snd.snd.snd i) = 0 ∧ cap = 0) → lenDg (vn y.snd.snd.snd.fst fun (i : Nat) => y.snd.snd.snd.snd.snd i) ≤ cap → (1 ≤ 1 ∧ 1 ≤ Go.maxLen ∧ 1 = 1) ∧ (1 + lenDg (vn y.snd.snd.snd.fst fun (i : Nat) => y.snd.snd.snd.snd.snd i) ≤ Go.maxLen ∧ (1 + lenDg (vn y.snd.snd.snd.fst fun (i : Nat) => y.snd.snd.snd.snd.snd i)) * 8 ≤ 140737488355328) ∧ ∀ (c_1 : Nat), 1 + lenDg (vn y.snd.snd.snd.fst fun (i : Nat) => y.snd.snd.snd.snd.snd i) + c_1 ≤ Go.maxLen → ∃ (y_1 : Nat × (Nat → Int) × Nat × Nat × (Nat → Int)), ((Pc y_1.fst y_1.snd.fst y_1.snd.snd.fst y_1.snd.snd.snd.snd ∧ y_1.fst ≤ n) ∧ y_1.fst = y0.fst) ∧ (a = a ∧ n = n ∧ c = c ∧ ∀ (i : Nat), i < n → f i = f i) ∧ (b = b ∧ m = m ∧ d = d ∧ ∀ (i : Nat), i < m → h i = h i) ∧ (0 = 0 ∧ 1 = 1 ∧ 0 = 0 ∧ n = n ∧ n = n) ∧ ((match Bool.false with | Bool.true => 4 | Bool.false => [SO.row (22 : Go.TypeId) 1 n (r64 y.snd.fst) 0].length) = 1 ∧ 1 = 1 ∧ 0 = 0 ∧ 1 + lenDg (vn y.snd.snd.snd.fst fun (i : Nat) => y.snd.snd.snd.snd.snd i) = y_1.snd.snd.fst ∧ 1 + lenDg (vn y.snd.snd.snd.fst fun (i : Nat) => y.snd.snd.snd.snd.snd i) + c_1 = y_1.snd.snd.fst + y_1.snd.snd.snd.fst) ∧ (↑y.fst : Int) - (1 : Int) = (↑y_1.fst : Int) - (1 : Int) ∧ n = n ∧ 0 = 0 ∧ (∀ (i : Nat), i < n → y.snd.fst i = y_1.snd.fst i) ∧ 1 + lenDg (vn y.snd.snd.snd.fst fun (i : Nat) => y.snd.snd.snd.snd.snd i) = y_1.snd.snd.fst ∧ c_1 * 1 = y_1.snd.snd.snd.fst ∧ (∀ (i : Nat), i < 1 + lenDg (vn y.snd.snd.snd.fst fun (i : Nat) => y.snd.snd.snd.snd.snd i) → (bif Decidable.decide (i < 1) then f ((↑y.fst : Int) - (1 : Int)).toNat else dg (vn y.snd.snd.snd.fst fun (i : Nat) => y.snd.snd.snd.snd.snd i) (i - 1)) = y_1.snd.snd.snd.snd i) ∧ True) ∧ (∀ (_ : Nat), True) ∧ (dgs y.snd.snd.snd.fst fun (i : Nat) => intsC (SC.val (Go.Value.int Go.IntKind.u64 (y.snd.snd.snd.snd.snd i)))) ∧ y.snd.snd.snd.fst ≤ 1000 ∧ ∀ (a_4 : Option Go.Addr) (cap : Nat), (a_4 = Option.none → lenDg (vn y.snd.snd.snd.fst fun (i : Nat) => y.snd.snd.snd.snd.snd i) = 0 ∧ cap = 0) → lenDg (vn y.snd.snd.snd.fst fun (i : Nat) => y.snd.snd.snd.snd.snd i) ≤ cap → ((0 : Int) ≤ (↑y.fst : Int) - (1 : Int) ∧ (↑y.fst : Int) - (1 : Int) < (↑n : Int)) ∧ (1 ≤ 1 ∧ 1 ≤ Go.maxLen ∧ 1 = 1) ∧ (1 + lenDg (vn y.snd.snd.snd.fst fun (i : Nat) => y.snd.snd.snd.snd.snd i) ≤ Go.maxLen ∧ (1 + lenDg (vn y.snd.snd.snd.fst fun (i : Nat) => y.snd.snd.snd.snd.snd i)) * 8 ≤ 140737488355328) ∧ ∀ (c_1 : Nat), 1 + lenDg (vn y.snd.snd.snd.fst fun (i : Nat) => y.snd.snd.snd.snd.snd i) + c_1 ≤ Go.maxLen → ∃ (y_1 : Nat × (Nat → Int) × Nat × Nat × (Nat → Int)), ((Pc y_1.fst y_1.snd.fst y_1.snd.snd.fst y_1.snd.snd.snd.snd ∧ y_1.fst ≤ n) ∧ y_1.fst = y0.fst) ∧ (a = a ∧ n = n ∧ c = c ∧ ∀ (i : Nat), i < n → f i = f i) ∧ (b = b ∧ m = m ∧ d = d ∧ ∀ (i : Nat), i < m → h i = h i) ∧ (0 = 0 ∧ 1 = 1 ∧ 0 = 0 ∧ n = n ∧ n = n) ∧ ((match Bool.false with | Bool.true => 4 | Bool.false => [SO.row (22 : Go.TypeId) 1 n (r64 y.snd.fst) 0].length) = 1 ∧ 1 = 1 ∧ 0 = 0 ∧ 1 + lenDg (vn y.snd.snd.snd.fst fun (i : Nat) => y.snd.snd.snd.snd.snd i) = y_1.snd.snd.fst ∧ 1 + lenDg (vn y.snd.snd.snd.fst fun (i : Nat) => y.snd.snd.snd.snd.snd i) + c_1 = y_1.snd.snd.fst + y_1.snd.snd.snd.fst) ∧ (↑y.fst : Int) - (1 : Int) = (↑y_1.fst : Int) - (1 : Int) ∧ n = n ∧ 0 = 0 ∧ (∀ (i : Nat), i < n → y.snd.fst i = y_1.snd.fst i) ∧ 1 + lenDg (vn y.snd.snd.snd.fst fun (i : Nat) => y.snd.snd.snd.snd.snd i) = y_1.snd.snd.fst ∧ c_1 * 1 = y_1.snd.snd.snd.fst ∧ (∀ (i : Nat), i < 1 + lenDg (vn y.snd.snd.snd.fst fun (i : Nat) => y.snd.snd.snd.snd.snd i) → (bif Decidable.decide (i < 1) then f ((↑y.fst : Int) - (1 : Int)).toNat else dg (vn y.snd.snd.snd.fst fun (i : Nat) => y.snd.snd.snd.snd.snd i) (i - 1)) = y_1.snd.snd.snd.snd i) ∧ True) ∧ (Decidable.decide ((↑y.fst : Int) - (1 : Int) ≥ (0 : Int)) = Bool.false → (0 + n ≤ n ∧ n = n ∧ n ≤ n ∧ ∀ (i : Nat), i < n → y.snd.fst (0 + i) = q i) ∧ y.snd.snd.snd.fst = k ∧ ∀ (i : Nat), i < k → y.snd.snd.snd.snd.snd i = r i))) := by kernel_rfl
end Go.Proofs.Yteimeidpcgebkaa
end

section
namespace Go.Proofs.Yteimeidpcgebkaa
open Go Go.Sx Go.RowKit
theorem vn_one (z : Int) : vn 1 (fun i => (intsL [SK.c (SC.val (Value.int IntKind.u64 z))]).getD i 0) = z.toNat := by
 simp [vn, vz, intsL, intsC, asI]
theorem dgs_one {z : Int} (hz : 0 ≤ z ∧ z < 4294967296) : dgs 1 fun i => intsC (SC.val (Value.int IntKind.u64 (selG [SK.c (SC.val (Value.int IntKind.u64 z))] i))) := ⟨fun i hi => by
 have : i = 0 := by omega
 subst this
 exact hz⟩
def dvdC (n : Nat) (f : Nat → Int) (m : Nat) (h : Nat → Int) : List Prop := [dgs n f, n ≤ 1000, dgs m h, m ≤ 900, vn m h ≠ 0]
def dvdR (n : Nat) (f : Nat → Int) (m : Nat) (h : Nat → Int) : List RS := [.s n .u64 (dg (vn n f / vn m h)), .s (remL (vn n f) (vn m h) n) .u64 (dg (vn n f % vn m h))]
theorem cmpI_le {A R : Nat} : cmpI A R ≤ 0 ↔ A ≤ R := by
 unfold cmpI
 by_cases h : A < R
 ·rw [if_pos h]; omega
 ·rw [if_neg h]
  by_cases k : R < A
  ·rw [if_pos k]; omega
  ·rw [if_neg k]; omega
theorem vn_prod {Y z m : Nat} (hY : Y < 4294967296 ^ m) (hz : z < 4294967296) : vn (m + 1) (fun i => dg (Y * z) i) = Y * z := by
 refine vn_dg' ?_
 rw [Nat.pow_succ]
 exact Nat.lt_of_le_of_lt (Nat.mul_le_mul_left Y (show z ≤ 4294967296 by omega)) (Nat.mul_lt_mul_of_pos_right hY (by decide))
theorem ok_divided (a : Option Addr) (n c : Nat) (f : Nat → Int) (b : Option Addr) (m d : Nat) (h : Nat → Int) (hf : dgs n f) (hn : n ≤ 1000) (hh : dgs m h) (hm : m ≤ 900) (h0 : vn m h ≠ 0) :
  OwesR Try.prog cxR slDg [(6, .inv (invD1 a n c f b m d h (D1P (vn n f) (vn m h) n))), (13, .inv (invD2 a n c f b m d h (D2P (vn n f) (vn m h) n))), (15, .cut (cutD a n c f b m d h (DcP (vn n f) (vn m h) n)) (fun y z => z.1 = y.1)), (17, .invR (invD3 a n c f b m d h (D3P (vn n f) (vn m h) n)) (fun y z => z.1 = y.1))] 4 Try.f51 [xsI a n c .u64 f, xsI b m d .u64 h] true (dvdR n f m h) := by
 unfold dvdR
 rw [vc_divided]
 have hfi : ∀ i, i < n → f i = dg (vn n f) i := fun i hi => dg_in hf hi
 have hX := vn_lt hf
 have hXr := dg_range (vn n f)
 have hYm := vn_lt hh
 rw [show (fun i => h i) = h from rfl]
 generalize vn n f = X at *
 generalize vn m h = Y at *
 have hY : 0 < Y := by omega
 have hL := maxLen_eq
 have AA : (a = a ∧ n = n ∧ c = c ∧ ∀ i, i < n → f i = f i) := ⟨rfl, rfl, rfl, fun _ _ => rfl⟩
 have BB : (b = b ∧ m = m ∧ d = d ∧ ∀ i, i < m → h i = h i) := ⟨rfl, rfl, rfl, fun _ _ => rfl⟩
 have NN : ((0 : Int) ≤ (n : Int) ∧ (n : Int) ≤ (n : Int) ∧ 8 * (n : Int) ≤ 281474976710656 ∧ (n : Int) ≤ 9223372036854775807) := by omega
 have En : ((n : Int)).toNat = n := Int.toNat_natCast n
 intro x1 x2 x3
 have E1 : x1 = dg Y 0 := rfl
 have E2 : x2 = 0 := by simp only [x2]; rw [Nat.sub_self, Nat.zero_mul]
 have E3 : x3 = m + 1 := rfl
 clear_value x1 x2 x3
 subst E1 E2 E3
 refine ⟨fun _ => trivial, hh, by omega, fun h1 => ⟨NN, fun y => rfl, (n, fun _ => 0, 0), ⟨D1P.start hX _, Nat.le_refl _⟩, AA, ⟨rfl, rfl, rfl, En, En⟩, rfl, rfl, wrapi (by omega), En, rfl, fun _ _ => rfl, fun ⟨i, q, l⟩ ⟨hP, hi⟩ => ⟨fun h2 => ?_, fun h2 => ?_⟩⟩, fun h1 => ⟨NN, fun y => rfl, (n, fun _ => 0, none, 0, 0, fun _ => 0), ⟨D2P.start hX _, Nat.le_refl _⟩, AA, BB, ⟨rfl, rfl, rfl, En, En⟩, rfl, rfl, rfl, wrapi (by omega), En, rfl, fun _ _ => rfl, fun ⟨i, q, ra, rn, rc, rf⟩ ⟨hP, hi⟩ => ⟨fun h2 => ?_, fun h2 => ?_⟩⟩⟩
 ·have hYs : Y < 4294967296 := of_decide_eq_true h1
  have hP : D1P X Y n i q l := hP
  have hi : i ≤ n := hi
  have h2 : (i : Int) - 1 ≥ 0 := of_decide_eq_true h2
  obtain ⟨k, rfl⟩ : ∃ k, i = k + 1 := ⟨i - 1, by omega⟩
  have Ek : (((k + 1 : Nat) : Int) - 1).toNat = k := by omega
  have Ey : dg Y 0 = (Y : Int) := by
   unfold dg
   rw [Nat.pow_zero, Nat.div_one, Nat.mod_eq_of_lt hYs]
  have A : (0 : Int) ≤ ((k + 1 : Nat) : Int) - 1 ∧ ((k + 1 : Nat) : Int) - 1 < (n : Int) := by omega
  have xr := hXr k
  have hl := hP.left
  have hlt : X / 4294967296 ^ (k + 1) % Y < 4294967296 := Nat.lt_trans (Nat.mod_lt _ hY) hYs
  have T : IntKind.u64.wrap (IntKind.u64.wrap (l * 4294967296) + f (((k + 1 : Nat) : Int) - 1).toNat) = l * 4294967296 + dg X k := by
   rw [Ek, hfi k (by omega), wrap64 (x := l * 4294967296) (by omega), wrap64 (by omega)]
  have h64 : 0 ≤ l * 4294967296 + dg X k ∧ l * 4294967296 + dg X k < 18446744073709551616 := by omega
  have Q := hP.step hY rfl (q' := fun j => if j = k then (l * 4294967296 + dg X k) / (Y : Int) else q j) (fun _ _ => rfl)
  have Ed : IntKind.u64.wrap ((l * 4294967296 + dg X k).tdiv (Y : Int)) = (l * 4294967296 + dg X k) / (Y : Int) := by
   rw [Int.tdiv_eq_ediv_of_nonneg h64.1]
   have a1 : 0 ≤ (l * 4294967296 + dg X k) / (Y : Int) := Int.ediv_nonneg h64.1 (by omega)
   have a2 : (l * 4294967296 + dg X k) / (Y : Int) ≤ l * 4294967296 + dg X k := Int.ediv_le_self _ h64.1
   exact wrap64 (by omega)
  have Em : (l * 4294967296 + dg X k).tmod (Y : Int) = (l * 4294967296 + dg X k) % (Y : Int) := Int.tmod_eq_emod_of_nonneg h64.1
  refine ⟨A, by rw [Ey]; omega, by rw [Ey]; omega, A, by omega, (k, _, _), ⟨?_, by show k ≤ n; omega⟩, AA, ⟨rfl, rfl, rfl, rfl, rfl⟩, rfl, rfl, ?_, rfl, rfl, fun _ _ => rfl, by show k < k + 1; omega⟩
  ·show D1P X Y n k (fun j => bif decide (j = 0 + (((k + 1 : Nat) : Int) - 1).toNat) then IntKind.u64.wrap ((IntKind.u64.wrap (IntKind.u64.wrap (l * 4294967296) + f (((k + 1 : Nat) : Int) - 1).toNat)).tdiv (dg Y 0)) else q j) ((IntKind.u64.wrap (IntKind.u64.wrap (l * 4294967296) + f (((k + 1 : Nat) : Int) - 1).toNat)).tmod (dg Y 0))
   rw [T, Ey, Ed, Em, Ek, Nat.zero_add]
   have e5 : (fun j => bif decide (j = k) then (l * 4294967296 + dg X k) / (Y : Int) else q j) = fun j => if j = k then (l * 4294967296 + dg X k) / (Y : Int) else q j := by
    funext j
    by_cases e : j = k <;> simp [e]
   rw [e5]
   exact Q
  ·show IntKind.i64.wrap (((k + 1 : Nat) : Int) - 1 - 1) = (k : Int) - 1
   rw [wrapi (by omega)]; omega
 ·have hYs : Y < 4294967296 := of_decide_eq_true h1
  have hP : D1P X Y n i q l := hP
  have h2 : ¬ (i : Int) - 1 ≥ 0 := of_decide_eq_false h2
  have : i = 0 := by omega
  subst this
  refine ⟨⟨by omega, rfl, Nat.le_refl _, fun j hj => ?_⟩, ?_, Nat.le_refl _, fun j hj => ?_⟩
  ·show q (0 + j) = _
   rw [Nat.zero_add]
   exact hP.qs j (Nat.zero_le _) hj
  ·unfold remL; rw [if_pos hYs]
  ·have hj : j < remL X Y n := hj
   unfold remL at hj
   rw [if_pos hYs] at hj
   have : j = 0 := by omega
   subst this
   show l = _
   rw [hP.left]
   unfold dg
   rw [Nat.pow_zero, Nat.div_one, Nat.div_one, Nat.mod_eq_of_lt (Nat.lt_trans (Nat.mod_lt _ hY) hYs)]
 ·have hP : D2P X Y n i q rn rf := hP
  have hi : i ≤ n := hi
  have h2 : (i : Int) - 1 ≥ 0 := of_decide_eq_true h2
  obtain ⟨k, rfl⟩ : ∃ k, i = k + 1 := ⟨i - 1, by omega⟩
  have Ek : (((k + 1 : Nat) : Int) - 1).toNat = k := by omega
  have A : (0 : Int) ≤ ((k + 1 : Nat) : Int) - 1 ∧ ((k + 1 : Nat) : Int) - 1 < (n : Int) := by omega
  have hlm : lenDg (X / 4294967296 ^ (k + 1) % Y) ≤ m := lenDg_le (Nat.lt_trans (Nat.mod_lt _ hY) hYm)
  refine ⟨fun y => rfl, (k + 1, q, 0, 0, fun _ => 0), fun ⟨i1, q1, rn1, sp1, rf1⟩ ⟨hC, hi1⟩ e1 => ⟨fun y => rfl, (k + 1, q1, rn1, sp1, rf1, 0, 4294967296), ⟨⟨?_, hi⟩, rfl⟩, AA, BB, ⟨rfl, rfl, rfl, rfl, rfl⟩, ⟨rfl, rfl, rfl, rfl, rfl⟩, ?_, rfl, rfl, rfl, rfl, fun _ _ => rfl, rfl, rfl, fun _ _ => rfl, fun ⟨i2, q2, rn2, sp2, rf2, lo, hi2⟩ ⟨hQ, hi2n⟩ e2 => ⟨fun h3 => ?_, fun h3 => ?_⟩⟩, ?_⟩
  ·have e1 : i1 = k + 1 := e1
   subst e1
   exact DcP.seek hC hY
  ·have e1 : i1 = k + 1 := e1
   subst e1
   rfl
  ·have e2 : i2 = k + 1 := e2
   subst e2
   have hQ : D3P X Y n (k + 1) q2 rn2 rf2 lo hi2 := hQ
   have ht := hQ.top
   have hlt := hQ.lt
   have hr2 : rn2 ≤ 1000 := by have := hQ.at'.len; omega
   have E4 : IntKind.u64.wrap ((hi2 : Int) - (lo : Int)) = ((hi2 - lo : Nat) : Int) := by rw [wrap64 (by omega)]; omega
   have h3 : IntKind.u64.wrap ((hi2 : Int) - (lo : Int)) > 1 := of_decide_eq_true h3
   rw [E4] at h3
   have EZ : IntKind.u64.wrap ((IntKind.u64.wrap ((lo : Int) + (hi2 : Int))).tdiv 2) = (((lo + hi2) / 2 : Nat) : Int) := by
    rw [wrap64 (x := (lo : Int) + (hi2 : Int)) (by omega), Int.tdiv_eq_ediv_of_nonneg (by omega), wrap64 (by omega)]
    omega
   have hmid : (lo + hi2) / 2 < 4294967296 := by omega
   have E0 : (fun i => rf2 (0 + i)) = rf2 := by funext i; rw [Nat.zero_add]
   refine ⟨Nat.le_refl _, fun a8 => ⟨fun _ => trivial, fun _ => trivial, hh, by omega, dgs_one (by rw [EZ]; omega), by decide, fun a9 cap _ _ => ⟨by show 0 + rn2 ≤ rn2; omega, Nat.le_add_right _ _, fun a12 => ⟨fun _ => trivial, fun _ => trivial, dgs_dg _ _, by omega, ?_, hr2, fun h4 => ?_, fun h4 => ?_⟩⟩⟩⟩
   ·show dgs rn2 fun i => rf2 (0 + i)
    rw [E0]
    exact hQ.at'.ds
   all_goals
    have h4' := h4
    simp only [EZ, vn_one, Int.toNat_natCast, vn_prod hYm hmid, E0] at h4'
   ·have h4' := cmpI_le.1 (of_decide_eq_true h4')
    refine ⟨(k + 1, q2, rn2, sp2, rf2, (lo + hi2) / 2, hi2), ⟨⟨hQ.low (by omega) h4', hi⟩, rfl⟩, AA, BB, ⟨rfl, rfl, rfl, rfl, rfl⟩, ⟨rfl, rfl, rfl, rfl, rfl⟩, rfl, EZ, rfl, rfl, rfl, fun _ _ => rfl, rfl, rfl, fun _ _ => rfl, ?_⟩
    show hi2 - (lo + hi2) / 2 < hi2 - lo
    omega
   ·have h4' := fun e => of_decide_eq_false h4' (cmpI_le.2 e)
    refine ⟨(k + 1, q2, rn2, sp2, rf2, lo, (lo + hi2) / 2), ⟨⟨hQ.high (by omega) h4', hi⟩, rfl⟩, AA, BB, ⟨rfl, rfl, rfl, rfl, rfl⟩, ⟨rfl, rfl, rfl, rfl, rfl⟩, rfl, rfl, EZ, rfl, rfl, fun _ _ => rfl, rfl, rfl, fun _ _ => rfl, ?_⟩
    show (lo + hi2) / 2 - lo < hi2 - lo
    omega
  ·have e2 : i2 = k + 1 := e2
   subst e2
   have hQ : D3P X Y n (k + 1) q2 rn2 rf2 lo hi2 := hQ
   have ht := hQ.top
   have hlt := hQ.lt
   have hr2 : rn2 ≤ 1000 := by have := hQ.at'.len; omega
   have E4 : IntKind.u64.wrap ((hi2 : Int) - (lo : Int)) = ((hi2 - lo : Nat) : Int) := by rw [wrap64 (by omega)]; omega
   have h3 : ¬ IntKind.u64.wrap ((hi2 : Int) - (lo : Int)) > 1 := of_decide_eq_false h3
   rw [E4] at h3
   have hlo : lo < 4294967296 := by omega
   have E0 : (fun i => rf2 (0 + i)) = rf2 := by funext i; rw [Nat.zero_add]
   have D0 : dgs rn2 fun i => rf2 (0 + i) := by rw [E0]; exact hQ.at'.ds
   refine ⟨A, by show 0 + (((k + 1 : Nat) : Int) - 1).toNat < n; omega, Nat.le_refl _, fun a8 => ⟨fun _ => trivial, fun _ => trivial, hh, by omega, dgs_one (z := (lo : Int)) (by omega), by decide, fun a9 cap _ _ => ⟨by show 0 + rn2 ≤ rn2; omega, Nat.le_add_right _ _, fun a12 => ⟨fun _ => trivial, fun _ => trivial, D0, hr2, dgs_dg _ _, by omega, ?_, fun a13 cap' _ _ => ⟨(k, _, a13, rn2, cap', _), ⟨?_, by show k ≤ n; omega⟩, AA, BB, ⟨rfl, rfl, rfl, rfl, rfl⟩, ⟨rfl, rfl, rfl, fun _ _ => rfl⟩, ?_, rfl, rfl, fun _ _ => rfl, by show k < k + 1; omega⟩⟩⟩⟩⟩
   ·show vn (m + 1) (fun i => dg (Y * vn 1 fun i => (intsL [SK.c (SC.val (Value.int IntKind.u64 (lo : Int)))]).getD i 0) i) ≤ vn rn2 fun i => rf2 (0 + i)
    rw [vn_one, Int.toNat_natCast, vn_prod hYm hlo, E0]
    exact hQ.below
   ·refine D3P.found hQ (by omega) hY hi (fun j hj => ?_) fun j hj => ?_
    ·show (bif decide (j = 0 + (((k + 1 : Nat) : Int) - 1).toNat) then (lo : Int) else q2 j) = _
     rw [Ek, Nat.zero_add]
     by_cases e : j = k <;> simp [e]
    ·show dg ((vn rn2 fun i => rf2 (0 + i)) - vn (m + 1) fun i => dg (Y * vn 1 fun i => (intsL [SK.c (SC.val (Value.int IntKind.u64 (lo : Int)))]).getD i 0) i) j = _
     rw [vn_one, Int.toNat_natCast, vn_prod hYm hlo, E0]
   ·show IntKind.i64.wrap (((k + 1 : Nat) : Int) - 1 - 1) = (k : Int) - 1
    rw [wrapi (by omega)]; omega
  ·have hrn : rn ≤ 1000 := by
    rw [hP.len]
    split
    ·omega
    ·have : lenDg (X / 4294967296 ^ (k + 1 + 1) % Y) ≤ m := lenDg_le (Nat.lt_trans (Nat.mod_lt _ hY) hYm)
     omega
   have hle : lenDg (vn rn rf) ≤ m := by rw [hP.left]; exact hlm
   have C1 : (1 : Nat) ≤ 1 ∧ 1 ≤ maxLen ∧ 1 = 1 := ⟨Nat.le_refl _, by omega, rfl⟩
   have C2 : 1 + lenDg (vn rn rf) ≤ maxLen ∧ (1 + lenDg (vn rn rf)) * 8 ≤ 140737488355328 := by omega
   have T : ∀ i : Nat, True := fun _ => trivial
   have fin : ∀ c1 : Nat, 1 + lenDg (vn rn rf) + c1 ≤ maxLen → ∃ y1 : Nat × (Nat → Int) × Nat × Nat × (Nat → Int), ((DcP X Y n y1.1 y1.2.1 y1.2.2.1 y1.2.2.2.2 ∧ y1.1 ≤ n) ∧ y1.1 = k + 1) ∧ (a = a ∧ n = n ∧ c = c ∧ ∀ i, i < n → f i = f i) ∧ (b = b ∧ m = m ∧ d = d ∧ ∀ i, i < m → h i = h i) ∧ (0 = 0 ∧ 1 = 1 ∧ 0 = 0 ∧ n = n ∧ n = n) ∧ (1 = 1 ∧ 1 = 1 ∧ 0 = 0 ∧ 1 + lenDg (vn rn rf) = y1.2.2.1 ∧ 1 + lenDg (vn rn rf) + c1 = y1.2.2.1 + y1.2.2.2.1) ∧ ((k + 1 : Nat) : Int) - 1 = (y1.1 : Int) - 1 ∧ n = n ∧ 0 = 0 ∧ (∀ i, i < n → q i = y1.2.1 i) ∧ 1 + lenDg (vn rn rf) = y1.2.2.1 ∧ c1 * 1 = y1.2.2.2.1 ∧ (∀ i, i < 1 + lenDg (vn rn rf) → (bif decide (i < 1) then f (((k + 1 : Nat) : Int) - 1).toNat else dg (vn rn rf) (i - 1)) = y1.2.2.2.2 i) ∧ True := by
    intro c1 _
    refine ⟨(k + 1, q, 1 + lenDg (vn rn rf), c1, fun i => bif decide (i < 1) then f (((k + 1 : Nat) : Int) - 1).toNat else dg (vn rn rf) (i - 1)), ⟨⟨?_, hi⟩, rfl⟩, AA, BB, ⟨rfl, rfl, rfl, rfl, rfl⟩, ⟨rfl, rfl, rfl, rfl, rfl⟩, rfl, rfl, rfl, fun _ _ => rfl, rfl, Nat.mul_one _, fun _ _ => rfl, trivial⟩
    refine hP.next fun i _ => ?_
    rw [Ek, hfi k (by omega)]
   have F : ((1 : Nat) ≤ 1 ∧ 1 ≤ maxLen ∧ 1 = 1) ∧ (1 + lenDg (vn rn rf) ≤ maxLen ∧ (1 + lenDg (vn rn rf)) * 8 ≤ 140737488355328) ∧ _ := ⟨C1, C2, fin⟩
   have hds := hP.ds
   clear hP
   repeat' (first | exact A | exact T | exact hds | exact hrn | exact F | (intro _ _ _ _) | (refine And.intro ?_ ?_))
 ·have hYs : ¬ Y < 4294967296 := of_decide_eq_false h1
  have hP : D2P X Y n i q rn rf := hP
  have h2 : ¬ (i : Int) - 1 ≥ 0 := of_decide_eq_false h2
  have : i = 0 := by omega
  subst this
  refine ⟨⟨by omega, rfl, Nat.le_refl _, fun j hj => ?_⟩, ?_, fun j hj => ?_⟩
  ·show q (0 + j) = _
   rw [Nat.zero_add]
   exact hP.qs j (Nat.zero_le _) hj
  ·show rn = _
   rw [hP.len]
   unfold remL
   rw [if_neg hYs]
   by_cases e : n = 0
   ·rw [if_pos e.symm, if_pos e]
   ·rw [if_neg (fun k => e k.symm), if_neg e, Nat.zero_add, Nat.pow_one]
  ·show rf j = _
   have hl := hP.left
   rw [Nat.pow_zero, Nat.div_one] at hl
   have hj : j < remL X Y n := hj
   have hrn : rn = remL X Y n := by
    rw [hP.len]
    unfold remL
    rw [if_neg hYs]
    by_cases e : n = 0
    ·rw [if_pos e.symm, if_pos e]
    ·rw [if_neg (fun k => e k.symm), if_neg e, Nat.zero_add, Nat.pow_one]
   rw [← hl]
   exact dg_in hP.ds (by omega)
end Go.Proofs.Yteimeidpcgebkaa
end

section
namespace Go.Sx
open Go.RowKit
section
variable {P : Program} {cx : Cx} {sl : List (Nat × SSpec)} {f : Nat} {fn : Func}
theorem FnOKV_UU (hcx : CxOK P cx) (hsl : ∀ p ∈ sl, FnOKs P cx.gl p.1 p.2) (hf : P.funcs[f]? = some fn) (hb : fn.body.isSome = true) (hn : (fn.name == "runtime.NumGoroutine") = false) {g : Nat → Nat → SV} {iv : Nat → Nat → List (Nat × Hint)} {N : Nat} (hg : ∀ a b, (g a b).bnd none0)
  (h : ∀ a b, OwesV P cx sl (iv a b) N fn [sU a, sU b] (g a b)) : FnOKg P cx.gl f (specUU g) := by
 refine FnOK_owesV hcx hsl hf hb hn fun args ps sv hs hp => ?_
 unfold specUU at hs
 split at hs
 case h_2 => cases hs
 rename_i x y
 split at hs
 case h_2 => cases hs
 rename_i p a q b ha hb'
 simp only [Option.some.injEq, Prod.mk.injEq] at hs
 obtain ⟨rfl, rfl⟩ := hs
 obtain ⟨o1, o2⟩ := Ok.append.1 hp
 refine ⟨iv a b, N, [sU a, sU b], fun ρ => by simp only [List.map_cons, List.map_nil, asU_canon ha o1 ρ, asU_canon hb' o2 ρ], fun fz _ z hz => ?_, hg a b, h a b⟩
 simp only [List.mem_cons, List.not_mem_nil, or_false] at hz
 rcases hz with rfl | rfl
 ·exact bnd_Un a
 ·exact bnd_Un b
theorem FnOKV_UUC (hcx : CxOK P cx) (hsl : ∀ p ∈ sl, FnOKs P cx.gl p.1 p.2) (hf : P.funcs[f]? = some fn) (hb : fn.body.isSome = true) (hn : (fn.name == "runtime.NumGoroutine") = false) {c : Nat → Nat → List Prop} {g : Nat → Nat → SV} {iv : Nat → Nat → List (Nat × Hint)} {N : Nat} (hg : ∀ a b, (g a b).bnd none0)
  (h : ∀ a b, Ok (c a b) → OwesV P cx sl (iv a b) N fn [sU a, sU b] (g a b)) : FnOKg P cx.gl f (specUUC c g) := by
 refine FnOK_owesV hcx hsl hf hb hn fun args ps sv hs hp => ?_
 unfold specUUC at hs
 split at hs
 case h_2 => cases hs
 rename_i x y
 split at hs
 case h_2 => cases hs
 rename_i p a q b ha hb'
 simp only [Option.some.injEq, Prod.mk.injEq] at hs
 obtain ⟨rfl, rfl⟩ := hs
 obtain ⟨o12, o3⟩ := Ok.append.1 hp
 obtain ⟨o1, o2⟩ := Ok.append.1 o12
 refine ⟨iv a b, N, [sU a, sU b], fun ρ => by simp only [List.map_cons, List.map_nil, asU_canon ha o1 ρ, asU_canon hb' o2 ρ], fun fz _ z hz => ?_, hg a b, h a b o3⟩
 simp only [List.mem_cons, List.not_mem_nil, or_false] at hz
 rcases hz with rfl | rfl
 ·exact bnd_Un a
 ·exact bnd_Un b
theorem FnOKV_UUU (hcx : CxOK P cx) (hsl : ∀ p ∈ sl, FnOKs P cx.gl p.1 p.2) (hf : P.funcs[f]? = some fn) (hb : fn.body.isSome = true) (hn : (fn.name == "runtime.NumGoroutine") = false) {c : Nat → Nat → Nat → List Prop} {g : Nat → Nat → Nat → SV} {iv : Nat → Nat → Nat → List (Nat × Hint)} {N : Nat} (hg : ∀ a n b, (g a n b).bnd none0)
  (h : ∀ a n b, Ok (c a n b) → OwesV P cx sl (iv a n b) N fn [sU a, sU n, sU b] (g a n b)) : FnOKg P cx.gl f (specUUU c g) := by
 refine FnOK_owesV hcx hsl hf hb hn fun args ps sv hs hp => ?_
 unfold specUUU at hs
 split at hs
 case h_2 => cases hs
 rename_i x y z
 split at hs
 case h_2 => cases hs
 rename_i p a o n q b ha hn' hb'
 simp only [Option.some.injEq, Prod.mk.injEq] at hs
 obtain ⟨rfl, rfl⟩ := hs
 obtain ⟨o12, o3⟩ := Ok.append.1 hp
 obtain ⟨o1', o2⟩ := Ok.append.1 o12
 obtain ⟨o1, o4⟩ := Ok.append.1 o1'
 refine ⟨iv a n b, N, [sU a, sU n, sU b], fun ρ => by simp only [List.map_cons, List.map_nil, asU_canon ha o1 ρ, asU_canon hn' o4 ρ, asU_canon hb' o2 ρ], fun fz _ z hz => ?_, hg a n b, h a n b o3⟩
 simp only [List.mem_cons, List.not_mem_nil, or_false] at hz
 rcases hz with rfl | rfl | rfl
 ·exact bnd_Un a
 ·exact bnd_Un n
 ·exact bnd_Un b
end
end Go.Sx
end

section
namespace Go.Proofs.Yteimeidpcgebkaa
open Go Go.Sx Go.RowKit
theorem cx_none : CxOK Try.prog .none := ⟨fun p hp => (by cases hp), fun p hp => (by cases hp)⟩
theorem cx_R : CxOK Try.prog cxR := by
 refine ⟨fun p hp => ?_, fun p hp => (by cases hp)⟩
 simp only [cxR, markR, List.mem_cons, List.not_mem_nil, or_false] at hp
 subst hp
 exact fun args ps sv hs => by cases hs
theorem sl_nil : ∀ p ∈ ([] : List (Nat × SSpec)), FnOKs Try.prog [] p.1 p.2 := fun p hp => by cases hp
theorem closed_s {n : Nat} {g : Nat → Int} : ∀ x ∈ [RS.s n .u64 g], x.closed := fun x hx => by
 simp only [List.mem_singleton] at hx
 subst hx
 trivial
theorem card_dOf : FnOKs Try.prog [] 31 (specUR ofR) :=
 FnOKs_UR (iv := fun _ => []) cx_none sl_nil Try.func31 (by kernel_rfl) (by kernel_rfl) (fun _ => closed_s) ok_dOf
theorem card_dPlus : FnOKs Try.prog [] 30 (specDD false dg2C plusR) :=
 FnOKs_DD (iv := fun a n c f b m d h => [(4, .inv1 (invPlus a n c f b m d h (PlusP (vn n f) (vn m h))))]) cx_R sl_nil Try.func30 (by kernel_rfl) (by kernel_rfl) (fun _ _ _ _ => closed_s) fun a n c f b m d h ⟨h1, h2, h3, h4, _⟩ => ok_dPlus a n c f b m d h h1 h2 h3 h4
theorem card_dTimes : FnOKs Try.prog [] 60 (specDD false dg2C timesR) :=
 FnOKs_DD (iv := fun a n c f b m d h => [(3, .inv (invTi a n c f b m d h (TimesP (vn n f) (vn m h) n m))), (7, .invR (invTj a n c f b m d h (TimesQ (vn n f) (vn m h) n m)) fun y z => z.1 = y.1)]) cx_R sl_nil Try.func60 (by kernel_rfl) (by kernel_rfl) (fun _ _ _ _ => closed_s) fun a n c f b m d h ⟨h1, h2, h3, h4, _⟩ => ok_dTimes a n c f b m d h h1 h2 h3 h4
theorem card_dCompare : FnOKs Try.prog [] 50 (specDD false dg2C cmpR) :=
 FnOKs_DD (iv := fun a n c f b m d h => [(2, .inv (invCmp a n c f b m d h fun k => vn n f / 4294967296 ^ k = vn m h / 4294967296 ^ k))]) cx_R sl_nil Try.func50 (by kernel_rfl) (by kernel_rfl) (fun _ _ _ _ x hx => by simp only [cmpR, List.mem_singleton] at hx; subst hx; trivial) fun a n c f b m d h ⟨h1, h2, h3, h4, _⟩ => ok_compare a n c f b m d h h1 h2 h3 h4
theorem card_dLess : FnOKs Try.prog [] 54 (specDD false lessC lessR) :=
 FnOKs_DD (iv := fun a n c f b m d h => [(4, .inv (invLess b m d h n (LessP (vn n f) (vn m h) n)))]) cx_R sl_nil Try.func54 (by kernel_rfl) (by kernel_rfl) (fun _ _ _ _ => closed_s) fun a n c f b m d h ⟨h1, h2, h3, h4, h5, _⟩ => ok_dLess a n c f b m d h h1 h2 h3 h4 h5
theorem card_dShorn : FnOKs Try.prog [] 68 (specD true dgsC shornR) :=
 FnOKs_D (iv := fun a n c f => [(1, .inv (invShorn f fun k => k ≤ n ∧ vn n f < 4294967296 ^ k))]) cx_R sl_nil Try.func68 (by kernel_rfl) (by kernel_rfl) (fun _ _ => closed_s) fun a n c f ⟨h1, h2, _⟩ => ok_shorn a n c f h1 h2
theorem sl_shorn : ∀ p ∈ slShorn, FnOKs Try.prog [] p.1 p.2 := fun p hp => by
 simp only [slShorn, List.mem_cons, List.not_mem_nil, or_false] at hp
 subst hp
 exact card_dShorn
theorem card_dSmall : FnOKs Try.prog [] 67 (specD false dgsC smallR) :=
 FnOKs_D (iv := fun _ _ _ _ => []) cx_R sl_shorn Try.func67 (by kernel_rfl) (by kernel_rfl) (fun _ _ x hx => by simp only [smallR, List.mem_cons, List.not_mem_nil, or_false] at hx; rcases hx with rfl | rfl <;> trivial) fun a n c f ⟨h1, h2, _⟩ => ok_small a n c f h1 h2
theorem card_dWide : FnOKs Try.prog [] 29 (specD false dgsC wideR) :=
 FnOKs_D (iv := fun a n c f => [(4, .inv (invWide a n c f (fun y => vn n f % 4294967296 ^ min y 8) (fun y => decide (M256 ≤ vn n f % 4294967296 ^ y))))]) cx_R sl_nil Try.func29 (by kernel_rfl) (by kernel_rfl) (fun _ _ x hx => by
  simp only [wideR, List.mem_cons, List.not_mem_nil, or_false] at hx
  rcases hx with rfl | rfl
  ·exact bnd_Un _
  ·trivial) fun a n c f ⟨h1, h2, _⟩ => ok_wide a n c f h1 h2
theorem sl_wide : ∀ p ∈ slWide, FnOKs Try.prog [] p.1 p.2 := fun p hp => by
 simp only [slWide, List.mem_cons, List.not_mem_nil, or_false] at hp
 subst hp
 exact card_dWide
theorem card_dCut : FnOKs Try.prog [] 52 (specD false dgsC cutR) :=
 FnOKs_D (iv := fun _ _ _ _ => []) cx_R sl_wide Try.func52 (by kernel_rfl) (by kernel_rfl) (fun _ _ x hx => by simp only [cutR, List.mem_singleton] at hx; subst hx; exact bnd_Un _) fun a n c f ⟨h1, h2, _⟩ => ok_cut a n c f h1 h2
theorem sl_dg : ∀ p ∈ slDg, FnOKs Try.prog [] p.1 p.2 := fun p hp => by
 simp only [slDg, List.mem_cons, List.not_mem_nil, or_false] at hp
 rcases hp with rfl | rfl | rfl | rfl | rfl | rfl | rfl | rfl | rfl
 ·exact card_dOf
 ·exact card_dPlus
 ·exact card_dTimes
 ·exact card_dCompare
 ·exact card_dLess
 ·exact card_dShorn
 ·exact card_dSmall
 ·exact card_dWide
 ·exact card_dCut
theorem card_dDivided : FnOKs Try.prog [] 51 (specDD true dvdC dvdR) :=
 FnOKs_DD (iv := fun a n c f b m d h => [(6, .inv (invD1 a n c f b m d h (D1P (vn n f) (vn m h) n))), (13, .inv (invD2 a n c f b m d h (D2P (vn n f) (vn m h) n))), (15, .cut (cutD a n c f b m d h (DcP (vn n f) (vn m h) n)) (fun y z => z.1 = y.1)), (17, .invR (invD3 a n c f b m d h (D3P (vn n f) (vn m h) n)) (fun y z => z.1 = y.1))]) cx_R sl_dg Try.func51 (by kernel_rfl) (by kernel_rfl) (fun _ _ _ _ x hx => by simp only [dvdR, List.mem_cons, List.not_mem_nil, or_false] at hx; rcases hx with rfl | rfl <;> trivial) fun a n c f b m d h ⟨h1, h2, h3, h4, h5, _⟩ => ok_divided a n c f b m d h h1 h2 h3 h4 h5
def slAll : List (Nat × SSpec) := (51, specDD true dvdC dvdR) :: slDg
theorem sl_all : ∀ p ∈ slAll, FnOKs Try.prog [] p.1 p.2 := fun p hp => by
 rcases List.mem_cons.1 hp with rfl | hp
 ·exact card_dDivided
 ·exact sl_dg p hp
end Go.Proofs.Yteimeidpcgebkaa
end

section
namespace Go.Proofs.Yteimeidpcgebkaa
open Go.Sx
theorem okW {P : Prop} {n m : Int} (h : P) (e : n = m) : (P ∧ True) ∧ n = m := ⟨⟨h, trivial⟩, e⟩
theorem wNone : ∀ p ∈ ([] : List (Nat × SSpec)), FnOKs Try.prog [] p.1 p.2 := fun p hp => by cases hp
theorem ok_wMust (ls : List (List At)) (n : Int) (hc : Ok (mustC ls)) : OwesW Try.prog .none [] [] 10 Try.f27 (mkArgsW [.hand, .bit] ls) tErr .i64 n (voidG ls) (mustT ls n) := by
 unfold mustC at hc
 split at hc
 ·rename_i m x
  show OwesW Try.prog .none [] [] 10 Try.f27 [sHd m, sB x] tErr .i64 n (.tup []) (nt x n)
  rw [wc_must]
  cases x
  ·exact ⟨fun _ => ⟨trivial, rfl⟩, fun h => (by cases h)⟩
  ·exact ⟨fun h => (by cases h), fun _ => ⟨trivial, rfl⟩⟩
 ·exact hc.1.elim
theorem ok_wKept (ls : List (List At)) (n : Int) (hc : Ok (wKeptC ls)) : OwesW Try.prog cyKept [] [] 10 Try.f47 (mkArgsW [.hand, .str [.u], .int .i64] ls) tErr .i64 n (keptG ls) (wKeptT ls n) := by
 unfold wKeptC at hc
 split at hc
 ·rename_i m a e
  show OwesW Try.prog cyKept [] [] 10 Try.f47 [sHd m, sU a, sI .i64 e] tErr .i64 n (.one (sU a)) (nt (e == 0) n)
  rw [wc_kept]
  exact okW rfl rfl
 ·exact hc.1.elim
theorem ok_wAdd (ls : List (List At)) (n : Int) (hc : Ok (w2C ls)) : OwesW Try.prog cyAdd [] [] 10 Try.f38 (mkArgsW shH2 ls) tErr .i64 n (wAddG ls) (w2T ls n) := by
 unfold w2C at hc
 split at hc
 ·rename_i m a b
  show OwesW Try.prog cyAdd [] [] 10 Try.f38 [sHd m, sU a, sU b] tErr .i64 n (.one (sU (hAV m a b))) (nt (okF a b m) n)
  rw [wc_add]
  exact okW rfl rfl
 ·exact hc.1.elim
theorem ok_wSub (ls : List (List At)) (n : Int) (hc : Ok (w2C ls)) : OwesW Try.prog cySub [] [] 10 Try.f26 (mkArgsW shH2 ls) tErr .i64 n (wSubG ls) (w2T ls n) := by
 unfold w2C at hc
 split at hc
 ·rename_i m a b
  show OwesW Try.prog cySub [] [] 10 Try.f26 [sHd m, sU a, sU b] tErr .i64 n (.one (sU (hSV m a b))) (nt (okF a b m) n)
  rw [wc_sub]
  exact okW rfl rfl
 ·exact hc.1.elim
theorem ok_wMul (ls : List (List At)) (n : Int) (hc : Ok (w2C ls)) : OwesW Try.prog cyMul [] [] 10 Try.f37 (mkArgsW shH2 ls) tErr .i64 n (wMulG ls) (w2T ls n) := by
 unfold w2C at hc
 split at hc
 ·rename_i m a b
  show OwesW Try.prog cyMul [] [] 10 Try.f37 [sHd m, sU a, sU b] tErr .i64 n (.one (sU (hMV m a b))) (nt (okF a b m) n)
  rw [wc_mul]
  exact okW rfl rfl
 ·exact hc.1.elim
theorem ok_wDiv (ls : List (List At)) (n : Int) (hc : Ok (w2C ls)) : OwesW Try.prog cyDiv [] [] 10 Try.f59 (mkArgsW shH2 ls) tErr .i64 n (wDivG ls) (wDivT ls n) := by
 unfold w2C at hc
 split at hc
 ·rename_i m a b
  show OwesW Try.prog cyDiv [] [] 10 Try.f59 [sHd m, sU a, sU b] tErr .i64 n (.one (sU (hDV m a b))) (hDT m a b n)
  rw [wc_div]
  exact okW rfl rfl
 ·exact hc.1.elim
theorem ok_wTwice (ls : List (List At)) (n : Int) (hc : Ok (w1C ls)) : OwesW Try.prog cyTwice [] [] 10 Try.f55 (mkArgsW shH1 ls) tErr .i64 n (wTwG ls) (wTwT ls n) := by
 unfold w1C at hc
 split at hc
 ·rename_i m a
  show OwesW Try.prog cyTwice [] [] 10 Try.f55 [sHd m, sU a] tErr .i64 n (.one (sU (hAV m a a))) (nt (okF a a m) n)
  rw [wc_twice]
  exact okW rfl rfl
 ·exact hc.1.elim
theorem ok_wThrice (ls : List (List At)) (n : Int) (hc : Ok (w1C ls)) : OwesW Try.prog cyThrice [] [] 10 Try.f56 (mkArgsW shH1 ls) tErr .i64 n (wThG ls) (wThT ls n) := by
 unfold w1C at hc
 split at hc
 ·rename_i m a
  show OwesW Try.prog cyThrice [] [] 10 Try.f56 [sHd m, sU a] tErr .i64 n (.one (sU (h3V m a))) (h3T m a n)
  rw [wc_thrice]
  exact okW rfl rfl
 ·exact hc.1.elim
theorem ok_wRight (ls : List (List At)) (n : Int) (hc : Ok (wRgC ls)) : OwesW Try.prog cyRight [] [] 10 Try.f24 (mkArgsW [.hand, .str pCv, .str [.u]] ls) tErr .i64 n (wRgG ls) (wRgT ls n) := by
 unfold wRgC at hc
 split at hc
 ·rename_i m P A B N X Y F x
  show OwesW Try.prog cyRight [] [] 10 Try.f24 [sHd m, sCv P A B N X Y F, sU x] tErr .i64 n (.one (sU (rgtV m A B x))) (rgtT m A B x n)
  rw [wc_right]
  exact okW rfl rfl
 ·exact hc.1.elim
theorem ok_wSlopes (ls : List (List At)) (n : Int) (hc : Ok (wCvC ls)) : OwesW Try.prog cySlopes [] [] 10 Try.f36 (mkArgsW shCv ls) tErr .i64 n (wSlG ls) (wSlT ls n) := by
 unfold wCvC at hc
 split at hc
 ·rename_i m P A B N X Y F
  show OwesW Try.prog cySlopes [] [] 10 Try.f36 [sHd m, sCv P A B N X Y F] tErr .i64 n (.one (sU (slpV m A B))) (slpT m A B n)
  rw [wc_slopes]
  exact okW rfl rfl
 ·exact hc.1.elim
theorem ok_wHave (ls : List (List At)) (n : Int) (hc : Ok (wHvC ls)) : OwesW Try.prog cyHave [] [] 10 Try.f13 (mkArgsW [.hand, .str pCv, .str pPt] ls) tErr .i64 n (voidG ls) (wHvT ls n) := by
 unfold wHvC at hc
 split at hc
 ·rename_i m P A B N X Y F x y f
  show OwesW Try.prog cyHave [] [] 10 Try.f13 [sHd m, sCv P A B N X Y F, sPt x y f] tErr .i64 n (.tup []) (havT m A B x y f n)
  rw [wc_have]
  refine ⟨fun h => ⟨trivial, ?_⟩, fun h => ⟨trivial, ?_⟩⟩
  ·subst h
   have e : conj [x % M256 == 0, y % M256 == 0, true == true] = (x % M256 == 0 && y % M256 == 0) := by
    rw [conj_all]
    simp
   rw [e]
   rfl
  ·subst h
   have e : conj [hMV m y y % M256 == rgtV m A B x % M256] = (hMV m y y % M256 == rgtV m A B x % M256) := by
    rw [conj_all]
    simp
   rw [e]
   rfl
 ·exact hc.1.elim
theorem cmp_dec (a b : Nat) : decide (cmpN a b > 0) = decide (b % M256 < a % M256) := by
 unfold cmpN
 split
 ·rename_i h
  rw [decide_eq_false (by decide), decide_eq_false (by omega)]
 ·split
  ·rename_i h
   rw [decide_eq_true h]
   rfl
  ·rename_i h
   rw [decide_eq_false h]
   rfl
theorem limb_four' (P : Nat) : ((limb P 0).tmod 4 == (3 : Int)) = decide (P % M256 % 4 = 3) := by
 have e : limb P 0 = ((P / 2 ^ (64 * 0) % 2 ^ 64 : Nat) : Int) := rfl
 rw [e, limb_mod P 0 (by decide), Int.tmod_eq_emod_of_nonneg (Int.natCast_nonneg _)]
 generalize P % M256 = Q at *
 have h : Q / 2 ^ (64 * 0) % 2 ^ 64 % 4 = Q % 4 := by
  rw [Nat.mul_zero, Nat.pow_zero, Nat.div_one]
  omega
 rw [Bool.eq_iff_iff, beq_iff_eq, decide_eq_true_iff]
 omega
theorem ok_wBe (ls : List (List At)) (n : Int) (hc : Ok (wCvC ls)) : OwesW Try.prog cyBe [] [] 10 Try.f12 (mkArgsW shCv ls) tErr .i64 n (voidG ls) (wBeT ls n) := by
 unfold wCvC at hc
 split at hc
 ·rename_i m P A B N X Y F
  show OwesW Try.prog cyBe [] [] 10 Try.f12 [sHd m, sCv P A B N X Y F] tErr .i64 n (.tup []) (mbeT m P A B N X Y F n)
  rw [wc_be]
  intro x1
  refine ⟨id, id, id, id, id, trivial, ?_⟩
  have e1 : x1 = decide (3 < P % M256) := cmp_dec P 3
  have e2 : decide (cmpN N 1 > 0) = decide (1 < N % M256) := cmp_dec N 1
  have e3 : (!conj [slpV m A B % M256 == 0]) = !(slpV m A B % M256 == 0) := by
   rw [conj_all]
   simp
  rw [e1, e2, e3, limb_four']
  rfl
 ·exact hc.1.elim
theorem wg_one {ls : List (List At)} {g : List (List At) → SV} (h : g ls = .tup [] ∨ ∃ n, g ls = .one (sU n)) : (g ls).bnd none0 := by
 rcases h with h | ⟨n, h⟩ <;> rw [h]
 ·exact bnd_none
 ·exact bnd_one (bnd_U _)
theorem wcard_must : FnOKw Try.prog [] 27 wMust :=
 FnOKw_A (iv := fun _ => []) CxOK_wnil wNone Try.func27 (by kernel_rfl) (by kernel_rfl) (fun _ => bnd_none) ok_wMust
theorem wcard_kept : FnOKw Try.prog [] 47 wKept :=
 FnOKw_A (cx := cyKept) (iv := fun _ => []) (CxOK_wcons wcard_must CxOK_wnil) wNone Try.func47 (by kernel_rfl) (by kernel_rfl) (fun ls => wg_one (by unfold keptG; split; exact .inr ⟨_, rfl⟩; exact .inl rfl)) ok_wKept
theorem wcard_add : FnOKw Try.prog [] 38 wAdd :=
 FnOKw_A (cx := cyAdd) (iv := fun _ => []) (CxOK_cons card_fAdd (CxOK_wcons wcard_kept CxOK_wnil)) wNone Try.func38 (by kernel_rfl) (by kernel_rfl) (fun ls => wg_one (by unfold wAddG; split; exact .inr ⟨_, rfl⟩; exact .inl rfl)) ok_wAdd
theorem wcard_sub : FnOKw Try.prog [] 26 wSub :=
 FnOKw_A (cx := cySub) (iv := fun _ => []) (CxOK_cons card_fSub (CxOK_wcons wcard_kept CxOK_wnil)) wNone Try.func26 (by kernel_rfl) (by kernel_rfl) (fun ls => wg_one (by unfold wSubG; split; exact .inr ⟨_, rfl⟩; exact .inl rfl)) ok_wSub
theorem wcard_mul : FnOKw Try.prog [] 37 wMul :=
 FnOKw_A (cx := cyMul) (iv := fun _ => []) (CxOK_cons card_fMul (CxOK_wcons wcard_kept CxOK_wnil)) wNone Try.func37 (by kernel_rfl) (by kernel_rfl) (fun ls => wg_one (by unfold wMulG; split; exact .inr ⟨_, rfl⟩; exact .inl rfl)) ok_wMul
theorem wcard_div : FnOKw Try.prog [] 59 wDiv :=
 FnOKw_A (cx := cyDiv) (iv := fun _ => []) (CxOK_cons card_fInv (CxOK_wcons wcard_kept (CxOK_wcons wcard_mul CxOK_wnil))) wNone Try.func59 (by kernel_rfl) (by kernel_rfl) (fun ls => wg_one (by unfold wDivG; split; exact .inr ⟨_, rfl⟩; exact .inl rfl)) ok_wDiv
theorem wcard_twice : FnOKw Try.prog [] 55 wTwice :=
 FnOKw_A (cx := cyTwice) (iv := fun _ => []) (CxOK_wcons wcard_add CxOK_wnil) wNone Try.func55 (by kernel_rfl) (by kernel_rfl) (fun ls => wg_one (by unfold wTwG; split; exact .inr ⟨_, rfl⟩; exact .inl rfl)) ok_wTwice
theorem wcard_thrice : FnOKw Try.prog [] 56 wThrice :=
 FnOKw_A (cx := cyThrice) (iv := fun _ => []) (CxOK_wcons wcard_add (CxOK_wcons wcard_twice CxOK_wnil)) wNone Try.func56 (by kernel_rfl) (by kernel_rfl) (fun ls => wg_one (by unfold wThG; split; exact .inr ⟨_, rfl⟩; exact .inl rfl)) ok_wThrice
theorem wcard_right : FnOKw Try.prog [] 24 wRight :=
 FnOKw_A (cx := cyRight) (iv := fun _ => []) (CxOK_wcons wcard_add (CxOK_wcons wcard_mul CxOK_wnil)) wNone Try.func24 (by kernel_rfl) (by kernel_rfl) (fun ls => wg_one (by unfold wRgG; split; exact .inr ⟨_, rfl⟩; exact .inl rfl)) ok_wRight
theorem wcard_slopes : FnOKw Try.prog [] 36 wSlopes :=
 FnOKw_A (cx := cySlopes) (iv := fun _ => []) (CxOK_wcons wcard_add (CxOK_wcons wcard_mul (CxOK_wcons wcard_twice (CxOK_wcons wcard_thrice CxOK_wnil)))) wNone Try.func36 (by kernel_rfl) (by kernel_rfl) (fun ls => wg_one (by unfold wSlG; split; exact .inr ⟨_, rfl⟩; exact .inl rfl)) ok_wSlopes
theorem wcard_far : FnOK Try.prog 19 (spec0 farG) :=
 FnOK_0 (cx := Cx.none) (iv := []) (N := 100) CxOK_nil Try.func19 (by kernel_rfl) (by kernel_rfl) (fun k hk => by
  simp only [List.mem_cons, List.not_mem_nil, or_false] at hk
  rcases hk with rfl | rfl | rfl <;> trivial) (by rw [vc_far]; exact ⟨rfl, rfl, rfl, trivial⟩)
theorem wcard_have : FnOKw Try.prog [] 13 wHave :=
 FnOKw_A (cx := cyHave) (iv := fun _ => []) (CxOK_cons wcard_far (CxOK_wcons wcard_mul (CxOK_wcons wcard_right (CxOK_wcons wcard_must CxOK_wnil)))) wNone Try.func13 (by kernel_rfl) (by kernel_rfl) (fun _ => bnd_none) ok_wHave
theorem wcard_be : FnOKw Try.prog [] 12 wBe :=
 FnOKw_A (cx := cyBe) (iv := fun _ => []) (CxOK_cons card_Cmp (CxOK_wcons wcard_slopes (CxOK_wcons wcard_have (CxOK_wcons wcard_must CxOK_wnil)))) wNone Try.func12 (by kernel_rfl) (by kernel_rfl) (fun _ => bnd_none) ok_wBe
end Go.Proofs.Yteimeidpcgebkaa
end

section
namespace Go.Proofs.Yteimeidpcgebkaa
open Go.Sx
set_option maxRecDepth 100000
def samePt (x y : Nat) (f : Bool) (z w : Nat) (g : Bool) : Bool := conj [x % M256 == z % M256, y % M256 == w % M256, f == g]
def slV (m A x y : Nat) (f : Bool) (z w : Nat) (g : Bool) : Nat := cond (samePt x y f z w g) (hDV m (hAV m (h3V m (hMV m x x)) A) (hAV m y y)) (hDV m (hSV m w y) (hSV m z x))
def slT (m A x y : Nat) (f : Bool) (z w : Nat) (g : Bool) (n : Int) : Int :=
 cond (samePt x y f z w g) (hDT m (hAV m (h3V m (hMV m x x)) A) (hAV m y y) (nt (okF y y m) (nt (okF (h3V m (hMV m x x)) A m) (h3T m (hMV m x x) (nt (okF x x m) n)))))
  (hDT m (hSV m w y) (hSV m z x) (nt (okF z x m) (nt (okF w y m) n)))
def thX (m s x z : Nat) : Nat := hSV m (hSV m (hMV m s s) x) z
def thY (m s x y z : Nat) : Nat := hSV m (hMV m s (hSV m x (thX m s x z))) y
def thT (m s x y z : Nat) (n : Int) : Int := nt (okF (hMV m s (hSV m x (thX m s x z))) y m) (nt (okF s (hSV m x (thX m s x z)) m) (nt (okF x (thX m s x z) m) (nt (okF (hSV m (hMV m s s) x) z m) (nt (okF (hMV m s s) x m) (nt (okF s s m) n)))))
def smV (m A x y : Nat) (f : Bool) (z w : Nat) (g : Bool) : Pt :=
 cond f (z, w, g) (cond g (x, y, f) (cond (x % M256 == z % M256) (cond (hAV m y w % M256 == 0) (0, 0, true) (thX m (slV m A x y f z w g) x z, thY m (slV m A x y f z w g) x y z, false)) (thX m (slV m A x y f z w g) x z, thY m (slV m A x y f z w g) x y z, false)))
def smT (m A x y : Nat) (f : Bool) (z w : Nat) (g : Bool) (n : Int) : Int :=
 cond f n (cond g n (cond (x % M256 == z % M256) (cond (hAV m y w % M256 == 0) (nt (okF y w m) n) (thT m (slV m A x y f z w g) x y z (slT m A x y f z w g (nt (okF y w m) n)))) (thT m (slV m A x y f z w g) x y z (slT m A x y f z w g n))))
def wSmC : List (List At) → List Prop
 | [[.u _], [.u _], [.u _, .u _, .b _], [.u _, .u _, .b _]] => []
 | _ => [False]
def wSlpG : List (List At) → SV
 | [[.u m], [.u A], [.u x, .u y, .b f], [.u z, .u w, .b g]] => .one (sU (slV m A x y f z w g))
 | _ => .tup []
def wSlpT : List (List At) → Int → Int
 | [[.u m], [.u A], [.u x, .u y, .b f], [.u z, .u w, .b g]], n => slT m A x y f z w g n
 | _, n => n
def wSumG : List (List At) → SV
 | [[.u m], [.u A], [.u x, .u y, .b f], [.u z, .u w, .b g]] => .one (ptS (smV m A x y f z w g))
 | _ => .tup []
def wSumT : List (List At) → Int → Int
 | [[.u m], [.u A], [.u x, .u y, .b f], [.u z, .u w, .b g]], n => smT m A x y f z w g n
 | _, n => n
def wSlope : WSpec := specWr tErr .i64 [.hand, .str [.u], .str pPt, .str pPt] wSmC wSlpG wSlpT
def wSum : WSpec := specWr tErr .i64 [.hand, .str [.u], .str pPt, .str pPt] wSmC wSumG wSumT
def cySlope : Cx := ⟨[], [], 0, [(38, wAdd), (26, wSub), (37, wMul), (59, wDiv), (55, wTwice), (56, wThrice)]⟩
def cySum : Cx := ⟨[(19, spec0 farG)], [], 0, [(38, wAdd), (26, wSub), (37, wMul), (39, wSlope)]⟩
def ckE (P A B N X Y : Nat) (F : Bool) : Int := mbeT P P A B N X Y F 0
def ckC : List (List At) → List Prop
 | [[.u _, .u _, .u _, .u _, .u _, .u _, .b _]] => []
 | _ => [False]
def ckG : List (List At) → SV
 | [[.u P, .u A, .u B, .u N, .u X, .u Y, .b F]] => .one (sI .i64 (ckE P A B N X Y F))
 | _ => .tup []
def onC : List (List At) → List Prop
 | [[.u _, .u _, .u _, .u _, .u _, .u _, .b _], [.u _, .u _, .b _]] => []
 | _ => [False]
def onG : List (List At) → SV
 | [[.u P, .u A, .u B, .u N, .u X, .u Y, .b F], [.u x, .u y, .b f]] => .one (sI .i64 (havT P A B x y f (ckE P A B N X Y F)))
 | _ => .tup []
def mlS (m A k : Nat) (p : Pt) (n : Int) : Nat → Pt × Int
 | 0 => ((0, 0, true), n)
 | j + 1 =>
  let d := smV m A (mlS m A k p n j).1.1 (mlS m A k p n j).1.2.1 (mlS m A k p n j).1.2.2 (mlS m A k p n j).1.1 (mlS m A k p n j).1.2.1 (mlS m A k p n j).1.2.2
  let e := smT m A (mlS m A k p n j).1.1 (mlS m A k p n j).1.2.1 (mlS m A k p n j).1.2.2 (mlS m A k p n j).1.1 (mlS m A k p n j).1.2.1 (mlS m A k p n j).1.2.2 (mlS m A k p n j).2
  cond ((k % M256).testBit (255 - j)) (smV m A d.1 d.2.1 d.2.2 p.1 p.2.1 p.2.2, smT m A d.1 d.2.1 d.2.2 p.1 p.2.1 p.2.2 e) (d, e)
def cyMult : Cx := ⟨[(19, spec0 farG)], [], 0, [(12, wBe), (13, wHave), (15, wSum), (14, cTd)]⟩
def invMultW (P A B N X Y : Nat) (F : Bool) (k x y : Nat) (f : Bool) (S : Nat → Pt) (T : Nat → Int) : Inv where
 X := Nat
 tm j := slotsAt 57 [(3, .one (.sc (.ptr 0 0))), (4, .one (.sc (.ptr 1 0))), (5, .one (.sc (.ptr 2 0))), (6, .one (.sc (.ptr 3 0))), (8, .one (.sc (.ptr 4 0))), (9, .one (.sc (.ptr 5 0))), (10, .one (.sc (.ptr 6 0))), (11, .one (sI .i64 (255 - (j : Int))))]
 ob j := [.cells 28 [.u P, .u A, .u B, .u N, .u X, .u Y, .c (.val (.bool F))] 0, .cells 24 [.u k] 0, .cells 26 [.u x, .u y, .c (.val (.bool f))] 0, .cells 26 (zeroU ++ zeroU ++ [.c (.bit false)]) 0, .cells tErr [.c (.val (.int .i64 (T j)))] 0, .cells 39 [.u P, .c (.ptr 4 0)] 0, .cells 26 [.u (S j).1, .u (S j).2.1, .c (.val (.bool (S j).2.2))] 0]
 holds j := j ≤ 256
 less j := 256 - j
theorem wc_slope (m A x y z w : Nat) (f g : Bool) (n : Int) :
  OwesW Try.prog cySlope [] [] 10 Try.f39 [sHd m, sU A, sPt x y f, sPt z w g] tErr .i64 n (.one (sU (slV m A x y f z w g))) (slT m A x y f z w g n) =
  (let x1 : Nat := hAV m (h3V m (hMV m x x)) A; let x2 : Nat := slV m A x y f z w g % M256; let x3 : Int := slT m A x y f z w g n; (conj [x % M256 == z % M256, y % M256 == w % M256, f == g] = Bool.true → (hDV m x1 (hAV m y y) % M256 = x2 ∧ True) ∧ wDivT [[At.u m], [At.u x1], [At.u (hAV m y y)]] (wTwT [[At.u m], [At.u y]] (w2T [[At.u m], [At.u (h3V m (hMV m x x))], [At.u A]] (wThT [[At.u m], [At.u (hMV m x x)]] (w2T [[At.u m], [At.u x], [At.u x]] n)))) = x3) ∧ (conj [x % M256 == z % M256, y % M256 == w % M256, f == g] = Bool.false → (hDV m (hSV m w y) (hSV m z x) % M256 = x2 ∧ True) ∧ wDivT [[At.u m], [At.u (hSV m w y)], [At.u (hSV m z x)]] (w2T [[At.u m], [At.u z], [At.u x]] (w2T [[At.u m], [At.u w], [At.u y]] n)) = x3)) := by kernel_rfl
theorem wc_sum (m A x y z w r1 r2 : Nat) (f g r3 : Bool) (n e : Int) :
  OwesW Try.prog cySum [] [] 10 Try.f15 [sHd m, sU A, sPt x y f, sPt z w g] tErr .i64 n (.one (sPt r1 r2 r3)) e =
  (let x1 : Nat := z % M256; let x2 : Nat := r1 % M256; let x3 : Nat := r2 % M256; let x4 : Nat := x % M256; let x5 : Bool := conj [x4 == x1]; let x6 : Int := bif x5 then w2T [[At.u m], [At.u y], [At.u w]] n else n; let x7 : Nat := slV m A x y f z w g; let x8 : Nat := hMV m x7 x7; let x9 : Nat := hSV m x8 x; let x10 : Nat := hSV m x9 z; let x11 : Nat := hSV m x x10; let x12 : Nat := hMV m x7 x11; (f = Bool.true → (x1 = x2 ∧ w % M256 = x3 ∧ g = r3 ∧ True) ∧ n = e) ∧ (f = Bool.false → (g = Bool.true → (x4 = x2 ∧ y % M256 = x3 ∧ f = r3 ∧ True) ∧ n = e) ∧ (g = Bool.false → (x5 = Bool.true → x5 = Bool.true) ∧ (x5 = Bool.true → x5 = Bool.true) ∧ (x5 = Bool.true → x5 = Bool.true) ∧ (x5 = Bool.true → x5 = Bool.true) ∧ (x5 = Bool.true → x5 = Bool.true) ∧ (x5 = Bool.true → x5 = Bool.true) ∧ (x5 = Bool.true → x5 = Bool.true) ∧ (x5 = Bool.true → x5 = Bool.true) ∧ ((x5 && conj [hAV m y w % M256 == 0]) = Bool.true → (0 = x2 ∧ 0 = x3 ∧ Bool.true = r3 ∧ True) ∧ x6 = e) ∧ ((x5 && conj [hAV m y w % M256 == 0]) = Bool.false → (x10 % M256 = x2 ∧ hSV m x12 y % M256 = x3 ∧ Bool.false = r3 ∧ True) ∧ w2T [[At.u m], [At.u x12], [At.u y]] (w2T [[At.u m], [At.u x7], [At.u x11]] (w2T [[At.u m], [At.u x], [At.u x10]] (w2T [[At.u m], [At.u x9], [At.u z]] (w2T [[At.u m], [At.u x8], [At.u x]] (w2T [[At.u m], [At.u x7], [At.u x7]] (wSlpT [[At.u m], [At.u A], [At.u x, At.u y, At.b f], [At.u z, At.u w, At.b g]] x6)))))) = e)))) := by kernel_rfl
theorem wc_Mult (P A B N X Y k x y r1 r2 : Nat) (F f r3 : Bool) (e : Int) (S : Nat → Pt) (T : Nat → Int) :
  OwesU Try.prog cyMult [] [(7, .inv (invMultW P A B N X Y F k x y f S T))] 10 Try.f8 [sCv P A B N X Y F, sU k, sPt x y f] (.tup [sPt r1 r2 r3, sI .i64 e]) =
  (let x1 : Nat := P % M256; let x2 : Nat := A % M256; let x3 : Nat := B % M256; let x4 : Nat := N % M256; let x5 : Nat := X % M256; let x6 : Nat := Y % M256; let x7 : Nat := k % M256; let x8 : Nat := x % M256; let x9 : Nat := y % M256; (∀ (y_1 : Nat), closedB (slotsAt 57 [(3, SV.one (SA.sc (SC.ptr 0 0))), (4, SV.one (SA.sc (SC.ptr 1 0))), (5, SV.one (SA.sc (SC.ptr 2 0))), (6, SV.one (SA.sc (SC.ptr 3 0))), (8, SV.one (SA.sc (SC.ptr 4 0))), (9, SV.one (SA.sc (SC.ptr 5 0))), (10, SV.one (SA.sc (SC.ptr 6 0))), (11, SV.one (sI Go.IntKind.i64 ((255 : Int) - (↑y_1 : Int))))]) [SO.cells (28 : Go.TypeId) [SK.u P, SK.u A, SK.u B, SK.u N, SK.u X, SK.u Y, SK.c (SC.val (Go.Value.bool F))] 0, SO.cells (24 : Go.TypeId) [SK.u k] 0, SO.cells (26 : Go.TypeId) [SK.u x, SK.u y, SK.c (SC.val (Go.Value.bool f))] 0, SO.cells (26 : Go.TypeId) (zeroU ++ zeroU ++ [SK.c (SC.bit Bool.false)]) 0, SO.cells tErr [SK.c (SC.val (Go.Value.int Go.IntKind.i64 (T y_1)))] 0, SO.cells (39 : Go.TypeId) [SK.u P, SK.c (SC.ptr 4 0)] 0, SO.cells (26 : Go.TypeId) [SK.u (S y_1).fst, SK.u (S y_1).snd.fst, SK.c (SC.val (Go.Value.bool (S y_1).snd.snd))] 0] = Bool.true) ∧ ∃ (y_1 : Nat), y_1 ≤ 256 ∧ (255 : Int) = (255 : Int) - (↑y_1 : Int) ∧ x1 = x1 ∧ x2 = x2 ∧ x3 = x3 ∧ x4 = x4 ∧ x5 = x5 ∧ x6 = x6 ∧ F = F ∧ 0 = 0 ∧ x7 = x7 ∧ 0 = 0 ∧ x8 = x8 ∧ x9 = x9 ∧ f = f ∧ 0 = 0 ∧ 0 = 0 ∧ wHvT [[At.u P], [At.u P, At.u A, At.u B, At.u N, At.u X, At.u Y, At.b F], [At.u x, At.u y, At.b f]] (wBeT [[At.u P], [At.u P, At.u A, At.u B, At.u N, At.u X, At.u Y, At.b F]] (0 : Int)) = T y_1 ∧ 0 = 0 ∧ x1 = x1 ∧ 0 = 0 ∧ 0 = (S y_1).fst % M256 ∧ 0 = (S y_1).snd.fst % M256 ∧ Bool.true = (S y_1).snd.snd ∧ 0 = 0 ∧ ∀ (y_2 : Nat), y_2 ≤ 256 → (Decidable.decide ((255 : Int) - (↑y_2 : Int) ≥ (0 : Int)) = Bool.true → Decidable.decide ((255 : Int) - (↑y_2 : Int) ≥ (0 : Int)) = Bool.true) ∧ (Decidable.decide ((255 : Int) - (↑y_2 : Int) ≥ (0 : Int)) = Bool.true → Decidable.decide ((255 : Int) - (↑y_2 : Int) ≥ (0 : Int)) = Bool.true) ∧ ((Decidable.decide ((255 : Int) - (↑y_2 : Int) ≥ (0 : Int)) && T y_2 == (0 : Int)) = Bool.true → ((0 : Int) ≤ Go.IntKind.i64.wrap (((255 : Int) - (↑y_2 : Int)).tdiv (64 : Int)) ∧ Go.IntKind.i64.wrap (((255 : Int) - (↑y_2 : Int)).tdiv (64 : Int)) < (4 : Int)) ∧ ((0 : Int) ≤ Go.IntKind.i64.wrap (((255 : Int) - (↑y_2 : Int)).tdiv (64 : Int)) ∧ Go.IntKind.i64.wrap (((255 : Int) - (↑y_2 : Int)).tdiv (64 : Int)) < (4 : Int)) ∧ (0 : Int) ≤ ((255 : Int) - (↑y_2 : Int)).tmod (64 : Int) ∧ ((Go.IntKind.u64.wrap (↑(BitVec.ofInt 64 ((limb k (Go.IntKind.i64.wrap (((255 : Int) - (↑y_2 : Int)).tdiv (64 : Int))).toNat).fdiv ((2 : Int) ^ Min.min (((255 : Int) - (↑y_2 : Int)).tmod (64 : Int)).toNat 64)) &&& BitVec.ofInt 64 (1 : Int)).toNat : Int) == (1 : Int)) = Bool.true → ∃ (y' : Nat), y' ≤ 256 ∧ Go.IntKind.i64.wrap ((255 : Int) - (↑y_2 : Int) - (1 : Int)) = (255 : Int) - (↑y' : Int) ∧ x1 = x1 ∧ x2 = x2 ∧ x3 = x3 ∧ x4 = x4 ∧ x5 = x5 ∧ x6 = x6 ∧ F = F ∧ 0 = 0 ∧ x7 = x7 ∧ 0 = 0 ∧ x8 = x8 ∧ x9 = x9 ∧ f = f ∧ 0 = 0 ∧ 0 = 0 ∧ wSumT [[At.u P], [At.u A], [At.u (smV P A (S y_2).fst (S y_2).snd.fst (S y_2).snd.snd (S y_2).fst (S y_2).snd.fst (S y_2).snd.snd).fst, At.u (smV P A (S y_2).fst (S y_2).snd.fst (S y_2).snd.snd (S y_2).fst (S y_2).snd.fst (S y_2).snd.snd).snd.fst, At.b (smV P A (S y_2).fst (S y_2).snd.fst (S y_2).snd.snd (S y_2).fst (S y_2).snd.fst (S y_2).snd.snd).snd.snd], [At.u x, At.u y, At.b f]] (wSumT [[At.u P], [At.u A], [At.u (S y_2).fst, At.u (S y_2).snd.fst, At.b (S y_2).snd.snd], [At.u (S y_2).fst, At.u (S y_2).snd.fst, At.b (S y_2).snd.snd]] (T y_2)) = T y' ∧ 0 = 0 ∧ x1 = x1 ∧ 0 = 0 ∧ (smV P A (smV P A (S y_2).fst (S y_2).snd.fst (S y_2).snd.snd (S y_2).fst (S y_2).snd.fst (S y_2).snd.snd).fst (smV P A (S y_2).fst (S y_2).snd.fst (S y_2).snd.snd (S y_2).fst (S y_2).snd.fst (S y_2).snd.snd).snd.fst (smV P A (S y_2).fst (S y_2).snd.fst (S y_2).snd.snd (S y_2).fst (S y_2).snd.fst (S y_2).snd.snd).snd.snd x y f).fst % M256 = (S y').fst % M256 ∧ (smV P A (smV P A (S y_2).fst (S y_2).snd.fst (S y_2).snd.snd (S y_2).fst (S y_2).snd.fst (S y_2).snd.snd).fst (smV P A (S y_2).fst (S y_2).snd.fst (S y_2).snd.snd (S y_2).fst (S y_2).snd.fst (S y_2).snd.snd).snd.fst (smV P A (S y_2).fst (S y_2).snd.fst (S y_2).snd.snd (S y_2).fst (S y_2).snd.fst (S y_2).snd.snd).snd.snd x y f).snd.fst % M256 = (S y').snd.fst % M256 ∧ (smV P A (smV P A (S y_2).fst (S y_2).snd.fst (S y_2).snd.snd (S y_2).fst (S y_2).snd.fst (S y_2).snd.snd).fst (smV P A (S y_2).fst (S y_2).snd.fst (S y_2).snd.snd (S y_2).fst (S y_2).snd.fst (S y_2).snd.snd).snd.fst (smV P A (S y_2).fst (S y_2).snd.fst (S y_2).snd.snd (S y_2).fst (S y_2).snd.fst (S y_2).snd.snd).snd.snd x y f).snd.snd = (S y').snd.snd ∧ 0 = 0 ∧ ((invMultW P A B N X Y F k x y f S T).less y').succ.le ((invMultW P A B N X Y F k x y f S T).less y_2)) ∧ ((Go.IntKind.u64.wrap (↑(BitVec.ofInt 64 ((limb k (Go.IntKind.i64.wrap (((255 : Int) - (↑y_2 : Int)).tdiv (64 : Int))).toNat).fdiv ((2 : Int) ^ Min.min (((255 : Int) - (↑y_2 : Int)).tmod (64 : Int)).toNat 64)) &&& BitVec.ofInt 64 (1 : Int)).toNat : Int) == (1 : Int)) = Bool.false → ∃ (y' : Nat), y' ≤ 256 ∧ Go.IntKind.i64.wrap ((255 : Int) - (↑y_2 : Int) - (1 : Int)) = (255 : Int) - (↑y' : Int) ∧ x1 = x1 ∧ x2 = x2 ∧ x3 = x3 ∧ x4 = x4 ∧ x5 = x5 ∧ x6 = x6 ∧ F = F ∧ 0 = 0 ∧ x7 = x7 ∧ 0 = 0 ∧ x8 = x8 ∧ x9 = x9 ∧ f = f ∧ 0 = 0 ∧ 0 = 0 ∧ wSumT [[At.u P], [At.u A], [At.u (S y_2).fst, At.u (S y_2).snd.fst, At.b (S y_2).snd.snd], [At.u (S y_2).fst, At.u (S y_2).snd.fst, At.b (S y_2).snd.snd]] (T y_2) = T y' ∧ 0 = 0 ∧ x1 = x1 ∧ 0 = 0 ∧ (smV P A (S y_2).fst (S y_2).snd.fst (S y_2).snd.snd (S y_2).fst (S y_2).snd.fst (S y_2).snd.snd).fst % M256 = (S y').fst % M256 ∧ (smV P A (S y_2).fst (S y_2).snd.fst (S y_2).snd.snd (S y_2).fst (S y_2).snd.fst (S y_2).snd.snd).snd.fst % M256 = (S y').snd.fst % M256 ∧ (smV P A (S y_2).fst (S y_2).snd.fst (S y_2).snd.snd (S y_2).fst (S y_2).snd.fst (S y_2).snd.snd).snd.snd = (S y').snd.snd ∧ 0 = 0 ∧ ((invMultW P A B N X Y F k x y f S T).less y').succ.le ((invMultW P A B N X Y F k x y f S T).less y_2))) ∧ ((Decidable.decide ((255 : Int) - (↑y_2 : Int) ≥ (0 : Int)) && T y_2 == (0 : Int)) = Bool.false → ((tdV (T y_2) ((S y_2).fst, (S y_2).snd.fst, (S y_2).snd.snd)).fst % M256 = r1 % M256 ∧ (tdV (T y_2) ((S y_2).fst, (S y_2).snd.fst, (S y_2).snd.snd)).snd.fst % M256 = r2 % M256 ∧ (tdV (T y_2) ((S y_2).fst, (S y_2).snd.fst, (S y_2).snd.snd)).snd.snd = r3 ∧ True) ∧ T y_2 = e)) := by kernel_rfl
end Go.Proofs.Yteimeidpcgebkaa
end

section
namespace Go.Proofs.Yteimeidpcgebkaa
open Go.ChangeShapes Go.WideShapes Go.ChangeAt Go.RowKit Go.Sx
theorem u64_in {n : Int} (h : (Lit.int .u64 n).wf = true) : 0 ≤ n ∧ n < 2 ^ 64 := by
 simp [Lit.wf, IntKind.min, IntKind.max, IntKind.signed, IntKind.bits] at h
 omega
theorem four_u {l : List LK} {cs : List Value} (h : fitsL (.int .u64 :: .int .u64 :: .int .u64 :: .int .u64 :: l) cs) : ∃ n r, fitsL l r ∧ cs = ((SK.u n).cells.map (SC.conc Rho.nil)) ++ r := by
 match cs, h with
 | .int k1 a1 :: .int k2 a2 :: .int k3 a3 :: .int k4 a4 :: r, hf =>
  obtain ⟨⟨rfl, w1⟩, ⟨rfl, w2⟩, ⟨rfl, w3⟩, ⟨rfl, w4⟩, hr⟩ := hf
  refine ⟨join a1 a2 a3 a4, r, hr, ?_⟩
  have := U_join (u64_in w1) (u64_in w2) (u64_in w3) (u64_in w4)
  simp only [U, Value.agg.injEq] at this
  have := congrArg Array.toList this
  simp only [List.cons.injEq, and_true] at this
  obtain ⟨e1, e2, e3, e4⟩ := this
  simp only [SK.cells, List.map_cons, List.map_nil, SC.conc, e1, e2, e3, e4, List.cons_append, List.nil_append]
theorem one_b {l : List LK} {cs : List Value} (h : fitsL (.bool :: l) cs) : ∃ b r, fitsL l r ∧ cs = ((SK.c (.val (.bool b))).cells.map (SC.conc Rho.nil)) ++ r := by
 match cs, h with
 | .bool b :: r, hf => exact ⟨b, r, hf.2, rfl⟩
theorem fits_nil {cs : List Value} (h : fitsL [] cs) : cs = [] := by
 cases cs with
 | nil => rfl
 | cons _ _ => exact h.elim
abbrev kPt : List LK := [.int .u64, .int .u64, .int .u64, .int .u64, .int .u64, .int .u64, .int .u64, .int .u64, .bool]
abbrev kCv : List LK := [.int .u64, .int .u64, .int .u64, .int .u64, .int .u64, .int .u64, .int .u64, .int .u64, .int .u64, .int .u64, .int .u64, .int .u64, .int .u64, .int .u64, .int .u64, .int .u64, .int .u64, .int .u64, .int .u64, .int .u64, .int .u64, .int .u64, .int .u64, .int .u64, .bool]
theorem lks_pt : lks Try.prog 5 26 = some kPt := by kernel_rfl
theorem lks_cv : lks Try.prog 5 28 = some kCv := by kernel_rfl
theorem open_pt {H : Type} {enc : TypeId × Value → H} {W : World} {base b0 : Nat} {sp : Nat → Bool} {held : Bool} {v : Value} {d : DataW H} {ps : List MemPlace}
  (hval : Unit → Value.okWide Try.prog W .any b0 26 v) (h : Unit → DataW.Trod enc Try.prog W base sp held 26 v d ps) : ∃ x y f, v = (sPt x y f).conc Rho.nil := by
 have hx : ∃ cs : List Value, v = .agg cs.toArray ∧ fitsL kPt cs := by
  refine open_flat (H := H) (enc := enc) (P := Try.prog) (w := W) (base := base) (sp := sp) (held := held) (d := 5) (t := 26) (r := .any) (b0 := b0) (v := v) (x := d) (ps := ps) lks_pt ?_ ?_ ?_
  ·kernel_rfl
  ·with_reducible exact hval ()
  ·with_reducible exact h ()
 obtain ⟨cs, rfl, hf0⟩ := hx
 obtain ⟨x, r1, hf1, rfl⟩ := four_u hf0
 obtain ⟨y, r2, hf2, rfl⟩ := four_u hf1
 obtain ⟨f, r3, hf3, rfl⟩ := one_b hf2
 have := fits_nil hf3
 subst this
 refine ⟨x, y, f, ?_⟩
 simp only [SA.conc, concs, flat, List.map_append, List.map_nil, List.append_nil]
theorem open_cv {H : Type} {enc : TypeId × Value → H} {W : World} {base b0 : Nat} {sp : Nat → Bool} {held : Bool} {v : Value} {d : DataW H} {ps : List MemPlace}
  (hval : Unit → Value.okWide Try.prog W .any b0 28 v) (h : Unit → DataW.Trod enc Try.prog W base sp held 28 v d ps) : ∃ P A B N X Y F, v = (sCv P A B N X Y F).conc Rho.nil := by
 have hx : ∃ cs : List Value, v = .agg cs.toArray ∧ fitsL kCv cs := by
  refine open_flat (H := H) (enc := enc) (P := Try.prog) (w := W) (base := base) (sp := sp) (held := held) (d := 5) (t := 28) (r := .any) (b0 := b0) (v := v) (x := d) (ps := ps) lks_cv ?_ ?_ ?_
  ·kernel_rfl
  ·with_reducible exact hval ()
  ·with_reducible exact h ()
 obtain ⟨cs, rfl, hf0⟩ := hx
 obtain ⟨P, r1, hf1, rfl⟩ := four_u hf0
 obtain ⟨A, r2, hf2, rfl⟩ := four_u hf1
 obtain ⟨B, r3, hf3, rfl⟩ := four_u hf2
 obtain ⟨N, r4, hf4, rfl⟩ := four_u hf3
 obtain ⟨X, r5, hf5, rfl⟩ := four_u hf4
 obtain ⟨Y, r6, hf6, rfl⟩ := four_u hf5
 obtain ⟨F, r7, hf7, rfl⟩ := one_b hf6
 have := fits_nil hf7
 subst this
 refine ⟨P, A, B, N, X, Y, F, ?_⟩
 simp only [SA.conc, concs, flat, List.map_append, List.map_nil, List.append_nil]
theorem bnd_pt' (x y : Nat) (f : Bool) : SA.bnd none0 (sPt x y f) := by
 intro k hk
 simp only [List.mem_cons, List.not_mem_nil, or_false] at hk
 rcases hk with rfl | rfl | rfl <;> trivial
theorem bnd_cv (P A B N X Y : Nat) (F : Bool) : SA.bnd none0 (sCv P A B N X Y F) := by
 intro k hk
 simp only [List.mem_cons, List.not_mem_nil, or_false] at hk
 rcases hk with rfl | rfl | rfl | rfl | rfl | rfl | rfl <;> trivial
end Go.Proofs.Yteimeidpcgebkaa
end
