/-
  Texts: P241, P242, P238, P243.
-/
import Derived.Test.YtjpddnjgbgpegaaM1
import Derived.Test.YtjpddnjgbgpegaaM2
import Derived.Test.YtjpddnjgbgpegaaM3
import Derived.Test.YtjpddnjgbgpegaaM4
import Derived.Test.YtjpddnjgbgpegaaM5
import Derived.Test.YtjpddnjgbgpegaaM6
import Derived.Test.YtjpddnjgbgpegaaM7
import Derived.Test.YtjpddnjgbgpegaaM8
import Derived.Test.YtjpddnjgbgpegaaM9
import Derived.Test.YtjpddnjgbgpegaaM10
import Derived.Test.YtjpddnjgbgpegaaM11
section
namespace Go.Proofs.Ytjpddnjgbgpegaa
open Go Go.Sx
set_option maxRecDepth 100000
theorem ok_tu1 (a : Option Addr) (cap : Nat) (I U : Nat → Int) (A : Nat → Option Addr) (N C : Nat → Nat) (K : Nat → Nat → Nat → Int) (b : Option Addr) (m cb : Nat) (l : Nat → Nat → Int) (now : Int) (hcap : 1 ≤ cap) (hk : ∀ i, i < 1 → kyP (A i) (N i) (u8F (K i))) (hl : kyP b m (u8F l)) (_ : i64ok now) :
    OwesV Try.prog cxTu slTu [] 30 Try.f7 [sXs a 1 cap I U A N C K, sXk b m cb l, sI .i64 now] yes := by
  rw [vc_tu1]
  intro x1 x2 x3 x4 x5 x6 x7 x8 x9 x10 x11 x12 x13 x14 x15 x16 x17 x18
  have hst : stP 1 (setF I U A N C K) := stP_set (by decide) hk
  have h1 : x1 = stE 1 I U N K := rfl
  have h2 : x2 = (decide (now < (1 : Int))) := rfl
  have h3 : x3 = (x2 || decide (now > (1099511627776 : Int))) := rfl
  have h4 : x4 = (IntKind.i64.wrap (now + (24 : Int))) := rfl
  have h5 : x5 = (IntKind.i64.wrap (IntKind.i64.wrap ((0 : Int) + (↑(N (0 : Nat)) : Int)) + (↑m : Int))) := rfl
  have h6 : x6 = (x5.toNat) := rfl
  have h7 : x7 = ((N (0 : Nat)).min x6) := rfl
  have h8 : x8 = ((↑x7 : Int)) := rfl
  have h9 : x9 = ((↑x6 : Int)) := rfl
  have h10 : x10 = (x8.toNat) := rfl
  have h11 : x11 = (offS x6 x10 (0 : Nat)) := rfl
  have h12 : x12 = (x6 - x10) := rfl
  have h13 : x13 = (m.min x12) := rfl
  have h14 : x14 = ((↑x13 : Int)) := rfl
  have h15 : x15 = ((↑x12 : Int)) := rfl
  have h16 : x16 = (x11 + x13) := rfl
  have h17 : x17 = ((0 : Nat) + x7) := rfl
  have h18 : x18 = (x14.toNat) := rfl
  clear_value x1 x2 x3 x4 x5 x6 x7 x8 x9 x10 x11 x12 x13 x14 x15 x16 x17 x18
  have k2 : ∀ k : Nat → Nat → Int, kOf (u8F k) = k := fun _ => rfl
  simp only [k2]
  generalize hy : kyE m l = y
  by_cases c1 : x1 = 0
  case neg =>
    have d1 : (x1 != 0) = true := by simpa using c1
    simp only [d1, hst, hl, Bool.and_true, Bool.true_eq_false, Bool.false_eq_true, false_implies, forall_const, true_and, and_true, beq_self_eq_true, implies_true, eq_self, and_self, imp_self]
  have d1 : (x1 != 0) = false := by rw [c1]; rfl
  by_cases c2 : y = 0
  case neg =>
    have d2 : (y != 0) = true := by simpa using c2
    simp only [d1, d2, hst, hl, Bool.and_true, Bool.true_eq_false, Bool.false_eq_true, false_implies, forall_const, true_and, and_true, beq_self_eq_true, implies_true, eq_self, and_self, imp_self]
  have d2 : (y != 0) = false := by rw [c2]; rfl
  by_cases c3 : x3 = true
  case pos =>
    simp only [d1, d2, c3, hst, hl, Bool.and_true, Bool.true_eq_false, Bool.false_eq_true, false_implies, forall_const, true_and, and_true, beq_self_eq_true, implies_true, Bool.not_true, eq_self, and_self, imp_self]
    all_goals (repeat' (first | apply And.intro | intro _))
    all_goals first | with_reducible exact bt0 | with_reducible exact bt0 (by assumption) | omega
  have c3 : x3 = false := by simpa using c3
  have g3 : ¬ now < 1 ∧ ¬ now > 1099511627776 := by
    rw [h3, h2] at c3
    simpa using c3
  have c4 : ¬ x4 < 1 := by rw [h4, IntKind.wrap_i64]; omega
  have d4 : decide (x4 < 1) = false := decide_eq_false c4
  simp only [d1, d2, c3, d4, hst, hl, Bool.and_true, Bool.true_eq_false, Bool.false_eq_true, false_implies, forall_const, true_and, and_true, beq_self_eq_true, implies_true, Bool.not_false, eq_self, imp_self]
  have b0 := stE_0 (h1.symm.trans c1)
  have n0 := kyE_0 (b0.2 0 (by decide)).1
  have nm := kyE_0 (hy.trans c2)
  have r1 : 0 < m := nm.1
  have w0 : IntKind.i64.wrap ((0 : Int) + ((N 0 : Nat) : Int)) = ((N 0 : Nat) : Int) := by clear h5 h6 h7 h8 h9 h10 h11 h12 h13 h14 h15 h16 h17 h18; rw [IntKind.wrap_i64]; omega
  have w1 : IntKind.i64.wrap (((N 0 : Nat) : Int) + ((m : Nat) : Int)) = ((N 0 : Nat) : Int) + ((m : Nat) : Int) := by clear h5 h6 h7 h8 h9 h10 h11 h12 h13 h14 h15 h16 h17 h18; rw [IntKind.wrap_i64]; omega
  have e5 : x5 = ((N 0 + m : Nat) : Int) := by rw [h5, w0, w1]; clear h5 h6 h7 h8 h9 h10 h11 h12 h13 h14 h15 h16 h17 h18; omega
  have e6 : x6 = N 0 + m := by rw [h6, e5]; exact Int.toNat_natCast _
  have e7 : x7 = N 0 := by rw [h7, e6]; first | exact Nat.min_eq_left (Nat.le_add_right _ _) | exact Nat.min_self _
  have e8 : x8 = ((N 0 : Nat) : Int) := by rw [h8, e7]
  have e9 : x9 = ((N 0 + m : Nat) : Int) := by rw [h9, e6]
  have e10 : x10 = N 0 := by rw [h10, e8]; exact Int.toNat_natCast _
  have e11 : x11 = 0 + N 0 := by rw [h11, e6, e10]; exact offS_no r1
  have e12 : x12 = m := by rw [h12, e6, e10]; exact Nat.add_sub_cancel_left ..
  have e13 : x13 = m := by rw [h13, e12]; first | exact Nat.min_eq_left (Nat.le_add_right _ _) | exact Nat.min_self _
  have e14 : x14 = ((m : Nat) : Int) := by rw [h14, e13]
  have e15 : x15 = ((m : Nat) : Int) := by rw [h15, e12]
  have e16 : x16 = 0 + N 0 + m := by rw [h16, e11, e13]
  have e17 : x17 = 0 + N 0 := by rw [h17, e7]
  have e18 : x18 = m := by rw [h18, e14]; exact Int.toNat_natCast _
  clear h5 h6 h7 h8 h9 h10 h11 h12 h13 h14 h15 h16 h17 h18 w0 w1
  subst e5 e6 e7 e8 e9 e10 e11 e12 e13 e14 e15 e16 e17 e18
  clear r1
  clear b0 hst h1 h2 h3 h4 k2 d1 d2 c2 d4
  repeat' (first | apply And.intro | intro _)
  all_goals first
    | with_reducible exact bt0
    | with_reducible exact bt0 (by assumption)
    | omega
    | (refine sq_of (hk 0 (by decide)) (by omega) fun i hi c hc => ?_
       repeat (refine (selc_no (by omega)).trans ?_)
       refine (selc_yes (by omega) (by omega)).trans ?_
       exact cellk (by omega))
    | (refine sq_of (hl) (by omega) fun i hi c hc => ?_
       repeat (refine (selc_no (by omega)).trans ?_)
       refine (selc_yes (by omega) (by omega)).trans ?_
       exact cellk (by omega))
theorem ok_tu2 (a : Option Addr) (cap : Nat) (I U : Nat → Int) (A : Nat → Option Addr) (N C : Nat → Nat) (K : Nat → Nat → Nat → Int) (b : Option Addr) (m cb : Nat) (l : Nat → Nat → Int) (now : Int) (hcap : 2 ≤ cap) (hk : ∀ i, i < 2 → kyP (A i) (N i) (u8F (K i))) (hl : kyP b m (u8F l)) (_ : i64ok now) :
    OwesV Try.prog cxTu slTu [] 30 Try.f7 [sXs a 2 cap I U A N C K, sXk b m cb l, sI .i64 now] yes := by
  rw [vc_tu2]
  intro x1 x2 x3 x4 x5 x6 x7 x8 x9 x10 x11 x12 x13 x14 x15 x16 x17 x18 x19 x20 x21 x22 x23 x24 x25
  have hst : stP 2 (setF I U A N C K) := stP_set (by decide) hk
  have h1 : x1 = stE 2 I U N K := rfl
  have h2 : x2 = (decide (now < (1 : Int))) := rfl
  have h3 : x3 = (x2 || decide (now > (1099511627776 : Int))) := rfl
  have h4 : x4 = (IntKind.i64.wrap (now + (24 : Int))) := rfl
  have h5 : x5 = (IntKind.i64.wrap (IntKind.i64.wrap (IntKind.i64.wrap ((0 : Int) + (↑(N (0 : Nat)) : Int)) + (↑(N (1 : Nat)) : Int)) + (↑m : Int))) := rfl
  have h6 : x6 = (x5.toNat) := rfl
  have h7 : x7 = ((N (0 : Nat)).min x6) := rfl
  have h8 : x8 = ((↑x7 : Int)) := rfl
  have h9 : x9 = ((↑x6 : Int)) := rfl
  have h10 : x10 = (x8.toNat) := rfl
  have h11 : x11 = (offS x6 x10 (0 : Nat)) := rfl
  have h12 : x12 = (x6 - x10) := rfl
  have h13 : x13 = ((N (1 : Nat)).min x12) := rfl
  have h14 : x14 = ((↑x13 : Int)) := rfl
  have h15 : x15 = ((↑x12 : Int)) := rfl
  have h16 : x16 = (x14.toNat) := rfl
  have h17 : x17 = (offS x12 x16 x11) := rfl
  have h18 : x18 = (x12 - x16) := rfl
  have h19 : x19 = (m.min x18) := rfl
  have h20 : x20 = ((↑x19 : Int)) := rfl
  have h21 : x21 = ((↑x18 : Int)) := rfl
  have h22 : x22 = (x17 + x19) := rfl
  have h23 : x23 = (x11 + x13) := rfl
  have h24 : x24 = ((0 : Nat) + x7) := rfl
  have h25 : x25 = (x20.toNat) := rfl
  clear_value x1 x2 x3 x4 x5 x6 x7 x8 x9 x10 x11 x12 x13 x14 x15 x16 x17 x18 x19 x20 x21 x22 x23 x24 x25
  have k2 : ∀ k : Nat → Nat → Int, kOf (u8F k) = k := fun _ => rfl
  simp only [k2]
  generalize hy : kyE m l = y
  by_cases c1 : x1 = 0
  case neg =>
    have d1 : (x1 != 0) = true := by simpa using c1
    simp only [d1, hst, hl, Bool.true_eq_false, Bool.false_eq_true, false_implies, forall_const, true_and, and_true, beq_self_eq_true, implies_true, eq_self, and_self, imp_self]
  have d1 : (x1 != 0) = false := by rw [c1]; rfl
  by_cases c2 : y = 0
  case neg =>
    have d2 : (y != 0) = true := by simpa using c2
    simp only [d1, d2, hst, hl, Bool.true_eq_false, Bool.false_eq_true, false_implies, forall_const, true_and, and_true, beq_self_eq_true, implies_true, eq_self, and_self, imp_self]
  have d2 : (y != 0) = false := by rw [c2]; rfl
  by_cases c3 : x3 = true
  case pos =>
    simp only [d1, d2, c3, hst, hl, Bool.true_eq_false, Bool.false_eq_true, false_implies, forall_const, true_and, and_true, beq_self_eq_true, implies_true, Bool.true_or, Bool.not_true, eq_self, and_self, imp_self]
    all_goals (repeat' (first | apply And.intro | intro _))
    all_goals first | with_reducible exact bt0 | with_reducible exact bt0 (by assumption) | omega
  have c3 : x3 = false := by simpa using c3
  by_cases c4 : x4 < U 0
  case pos =>
    have d4 : decide (x4 < U 0) = true := decide_eq_true c4
    have d5 : decide (U 0 > x4) = true := decide_eq_true c4
    simp only [d1, d2, c3, d4, hst, hl, Bool.true_eq_false, Bool.false_eq_true, false_implies, forall_const, true_and, and_true, beq_self_eq_true, implies_true, Bool.false_or, Bool.not_false, eq_self, and_self, imp_self]
    all_goals (repeat' (first | apply And.intro | intro _))
    all_goals first | with_reducible exact bt0 | with_reducible exact bt0 (by assumption) | omega
  have d4 : decide (x4 < U 0) = false := decide_eq_false c4
  have d5 : decide (U 0 > x4) = false := decide_eq_false c4
  simp only [d1, d2, c3, d4, hst, hl, Bool.true_eq_false, Bool.false_eq_true, false_implies, forall_const, true_and, and_true, beq_self_eq_true, implies_true, Bool.false_or, Bool.not_false, eq_self, imp_self]
  have b0 := stE_0 (h1.symm.trans c1)
  have n0 := kyE_0 (b0.2 0 (by decide)).1
  have n1 := kyE_0 (b0.2 1 (by decide)).1
  have nm := kyE_0 (hy.trans c2)
  have r2 : 0 < m := nm.1
  have r1 : 0 < N 1 + m := Nat.add_pos_left n1.1 _
  have w0 : IntKind.i64.wrap ((0 : Int) + ((N 0 : Nat) : Int)) = ((N 0 : Nat) : Int) := by clear h5 h6 h7 h8 h9 h10 h11 h12 h13 h14 h15 h16 h17 h18 h19 h20 h21 h22 h23 h24 h25; rw [IntKind.wrap_i64]; omega
  have w1 : IntKind.i64.wrap (((N 0 : Nat) : Int) + ((N 1 : Nat) : Int)) = ((N 0 : Nat) : Int) + ((N 1 : Nat) : Int) := by clear h5 h6 h7 h8 h9 h10 h11 h12 h13 h14 h15 h16 h17 h18 h19 h20 h21 h22 h23 h24 h25; rw [IntKind.wrap_i64]; omega
  have w2 : IntKind.i64.wrap (((N 0 : Nat) : Int) + ((N 1 : Nat) : Int) + ((m : Nat) : Int)) = ((N 0 : Nat) : Int) + ((N 1 : Nat) : Int) + ((m : Nat) : Int) := by clear h5 h6 h7 h8 h9 h10 h11 h12 h13 h14 h15 h16 h17 h18 h19 h20 h21 h22 h23 h24 h25; rw [IntKind.wrap_i64]; omega
  have e5 : x5 = ((N 0 + (N 1 + m) : Nat) : Int) := by rw [h5, w0, w1, w2]; clear h5 h6 h7 h8 h9 h10 h11 h12 h13 h14 h15 h16 h17 h18 h19 h20 h21 h22 h23 h24 h25; omega
  have e6 : x6 = N 0 + (N 1 + m) := by rw [h6, e5]; exact Int.toNat_natCast _
  have e7 : x7 = N 0 := by rw [h7, e6]; first | exact Nat.min_eq_left (Nat.le_add_right _ _) | exact Nat.min_self _
  have e8 : x8 = ((N 0 : Nat) : Int) := by rw [h8, e7]
  have e9 : x9 = ((N 0 + (N 1 + m) : Nat) : Int) := by rw [h9, e6]
  have e10 : x10 = N 0 := by rw [h10, e8]; exact Int.toNat_natCast _
  have e11 : x11 = 0 + N 0 := by rw [h11, e6, e10]; exact offS_no r1
  have e12 : x12 = N 1 + m := by rw [h12, e6, e10]; exact Nat.add_sub_cancel_left ..
  have e13 : x13 = N 1 := by rw [h13, e12]; first | exact Nat.min_eq_left (Nat.le_add_right _ _) | exact Nat.min_self _
  have e14 : x14 = ((N 1 : Nat) : Int) := by rw [h14, e13]
  have e15 : x15 = ((N 1 + m : Nat) : Int) := by rw [h15, e12]
  have e16 : x16 = N 1 := by rw [h16, e14]; exact Int.toNat_natCast _
  have e17 : x17 = 0 + N 0 + N 1 := by rw [h17, e12, e16, e11]; exact offS_no r2
  have e18 : x18 = m := by rw [h18, e12, e16]; exact Nat.add_sub_cancel_left ..
  have e19 : x19 = m := by rw [h19, e18]; first | exact Nat.min_eq_left (Nat.le_add_right _ _) | exact Nat.min_self _
  have e20 : x20 = ((m : Nat) : Int) := by rw [h20, e19]
  have e21 : x21 = ((m : Nat) : Int) := by rw [h21, e18]
  have e22 : x22 = 0 + N 0 + N 1 + m := by rw [h22, e17, e19]
  have e23 : x23 = 0 + N 0 + N 1 := by rw [h23, e11, e13]
  have e24 : x24 = 0 + N 0 := by rw [h24, e7]
  have e25 : x25 = m := by rw [h25, e20]; exact Int.toNat_natCast _
  clear h5 h6 h7 h8 h9 h10 h11 h12 h13 h14 h15 h16 h17 h18 h19 h20 h21 h22 h23 h24 h25 w0 w1 w2
  subst e5 e6 e7 e8 e9 e10 e11 e12 e13 e14 e15 e16 e17 e18 e19 e20 e21 e22 e23 e24 e25
  clear r1 r2
  clear b0 hst h1 h2 h3 h4 k2 d1 d2 c2 d4 d5
  repeat' (first | apply And.intro | intro _)
  all_goals first
    | with_reducible exact bt0
    | with_reducible exact bt0 (by assumption)
    | omega
    | (refine sq_of (hk 0 (by decide)) (by omega) fun i hi c hc => ?_
       repeat (refine (selc_no (by omega)).trans ?_)
       refine (selc_yes (by omega) (by omega)).trans ?_
       exact cellk (by omega))
    | (refine sq_of (hk 1 (by decide)) (by omega) fun i hi c hc => ?_
       repeat (refine (selc_no (by omega)).trans ?_)
       refine (selc_yes (by omega) (by omega)).trans ?_
       exact cellk (by omega))
    | (refine sq_of (hl) (by omega) fun i hi c hc => ?_
       repeat (refine (selc_no (by omega)).trans ?_)
       refine (selc_yes (by omega) (by omega)).trans ?_
       exact cellk (by omega))
theorem ok_tu3 (a : Option Addr) (cap : Nat) (I U : Nat → Int) (A : Nat → Option Addr) (N C : Nat → Nat) (K : Nat → Nat → Nat → Int) (b : Option Addr) (m cb : Nat) (l : Nat → Nat → Int) (now : Int) (hcap : 3 ≤ cap) (hk : ∀ i, i < 3 → kyP (A i) (N i) (u8F (K i))) (hl : kyP b m (u8F l)) (_ : i64ok now) :
    OwesV Try.prog cxTu slTu [] 30 Try.f7 [sXs a 3 cap I U A N C K, sXk b m cb l, sI .i64 now] yes := by
  rw [vc_tu3]
  intro x1 x2 x3 x4 x5 x6 x7 x8 x9 x10 x11 x12 x13 x14 x15 x16 x17 x18 x19 x20 x21 x22 x23 x24 x25 x26 x27 x28 x29 x30 x31 x32
  have hst : stP 3 (setF I U A N C K) := stP_set (by decide) hk
  have h1 : x1 = stE 3 I U N K := rfl
  have h2 : x2 = (decide (now < (1 : Int))) := rfl
  have h3 : x3 = (x2 || decide (now > (1099511627776 : Int))) := rfl
  have h4 : x4 = (IntKind.i64.wrap (now + (24 : Int))) := rfl
  have h5 : x5 = (IntKind.i64.wrap (IntKind.i64.wrap (IntKind.i64.wrap (IntKind.i64.wrap ((0 : Int) + (↑(N (0 : Nat)) : Int)) + (↑(N (1 : Nat)) : Int)) + (↑(N (2 : Nat)) : Int)) + (↑m : Int))) := rfl
  have h6 : x6 = (x5.toNat) := rfl
  have h7 : x7 = ((N (0 : Nat)).min x6) := rfl
  have h8 : x8 = ((↑x7 : Int)) := rfl
  have h9 : x9 = ((↑x6 : Int)) := rfl
  have h10 : x10 = (x8.toNat) := rfl
  have h11 : x11 = (offS x6 x10 (0 : Nat)) := rfl
  have h12 : x12 = (x6 - x10) := rfl
  have h13 : x13 = ((N (1 : Nat)).min x12) := rfl
  have h14 : x14 = ((↑x13 : Int)) := rfl
  have h15 : x15 = ((↑x12 : Int)) := rfl
  have h16 : x16 = (x14.toNat) := rfl
  have h17 : x17 = (offS x12 x16 x11) := rfl
  have h18 : x18 = (x12 - x16) := rfl
  have h19 : x19 = ((N (2 : Nat)).min x18) := rfl
  have h20 : x20 = ((↑x19 : Int)) := rfl
  have h21 : x21 = ((↑x18 : Int)) := rfl
  have h22 : x22 = (x20.toNat) := rfl
  have h23 : x23 = (offS x18 x22 x17) := rfl
  have h24 : x24 = (x18 - x22) := rfl
  have h25 : x25 = (m.min x24) := rfl
  have h26 : x26 = ((↑x25 : Int)) := rfl
  have h27 : x27 = ((↑x24 : Int)) := rfl
  have h28 : x28 = (x23 + x25) := rfl
  have h29 : x29 = (x17 + x19) := rfl
  have h30 : x30 = (x11 + x13) := rfl
  have h31 : x31 = ((0 : Nat) + x7) := rfl
  have h32 : x32 = (x26.toNat) := rfl
  clear_value x1 x2 x3 x4 x5 x6 x7 x8 x9 x10 x11 x12 x13 x14 x15 x16 x17 x18 x19 x20 x21 x22 x23 x24 x25 x26 x27 x28 x29 x30 x31 x32
  have k2 : ∀ k : Nat → Nat → Int, kOf (u8F k) = k := fun _ => rfl
  simp only [k2]
  generalize hy : kyE m l = y
  by_cases c1 : x1 = 0
  case neg =>
    have d1 : (x1 != 0) = true := by simpa using c1
    simp only [d1, hst, hl, Bool.true_eq_false, Bool.false_eq_true, false_implies, forall_const, true_and, and_true, beq_self_eq_true, implies_true, eq_self, and_self, imp_self]
  have d1 : (x1 != 0) = false := by rw [c1]; rfl
  by_cases c2 : y = 0
  case neg =>
    have d2 : (y != 0) = true := by simpa using c2
    simp only [d1, d2, hst, hl, Bool.true_eq_false, Bool.false_eq_true, false_implies, forall_const, true_and, and_true, beq_self_eq_true, implies_true, eq_self, and_self, imp_self]
  have d2 : (y != 0) = false := by rw [c2]; rfl
  by_cases c3 : x3 = true
  case pos =>
    simp only [d1, d2, c3, hst, hl, Bool.true_eq_false, Bool.false_eq_true, false_implies, forall_const, true_and, and_true, beq_self_eq_true, implies_true, Bool.true_or, Bool.not_true, eq_self, and_self, imp_self]
    all_goals (repeat' (first | apply And.intro | intro _))
    all_goals first | with_reducible exact bt0 | with_reducible exact bt0 (by assumption) | omega
  have c3 : x3 = false := by simpa using c3
  by_cases c4 : x4 < U 1
  case pos =>
    have d4 : decide (x4 < U 1) = true := decide_eq_true c4
    have d5 : decide (U 1 > x4) = true := decide_eq_true c4
    simp only [d1, d2, c3, d4, hst, hl, Bool.true_eq_false, Bool.false_eq_true, false_implies, forall_const, true_and, and_true, beq_self_eq_true, implies_true, Bool.false_or, Bool.not_false, eq_self, and_self, imp_self]
    all_goals (repeat' (first | apply And.intro | intro _))
    all_goals first | with_reducible exact bt0 | with_reducible exact bt0 (by assumption) | omega
  have d4 : decide (x4 < U 1) = false := decide_eq_false c4
  have d5 : decide (U 1 > x4) = false := decide_eq_false c4
  simp only [d1, d2, c3, d4, hst, hl, Bool.true_eq_false, Bool.false_eq_true, false_implies, forall_const, true_and, and_true, beq_self_eq_true, implies_true, Bool.false_or, Bool.not_false, eq_self, imp_self]
  have b0 := stE_0 (h1.symm.trans c1)
  have n0 := kyE_0 (b0.2 0 (by decide)).1
  have n1 := kyE_0 (b0.2 1 (by decide)).1
  have n2 := kyE_0 (b0.2 2 (by decide)).1
  have nm := kyE_0 (hy.trans c2)
  have r3 : 0 < m := nm.1
  have r2 : 0 < N 2 + m := Nat.add_pos_left n2.1 _
  have r1 : 0 < N 1 + (N 2 + m) := Nat.add_pos_left n1.1 _
  have w0 : IntKind.i64.wrap ((0 : Int) + ((N 0 : Nat) : Int)) = ((N 0 : Nat) : Int) := by clear h5 h6 h7 h8 h9 h10 h11 h12 h13 h14 h15 h16 h17 h18 h19 h20 h21 h22 h23 h24 h25 h26 h27 h28 h29 h30 h31 h32; rw [IntKind.wrap_i64]; omega
  have w1 : IntKind.i64.wrap (((N 0 : Nat) : Int) + ((N 1 : Nat) : Int)) = ((N 0 : Nat) : Int) + ((N 1 : Nat) : Int) := by clear h5 h6 h7 h8 h9 h10 h11 h12 h13 h14 h15 h16 h17 h18 h19 h20 h21 h22 h23 h24 h25 h26 h27 h28 h29 h30 h31 h32; rw [IntKind.wrap_i64]; omega
  have w2 : IntKind.i64.wrap (((N 0 : Nat) : Int) + ((N 1 : Nat) : Int) + ((N 2 : Nat) : Int)) = ((N 0 : Nat) : Int) + ((N 1 : Nat) : Int) + ((N 2 : Nat) : Int) := by clear h5 h6 h7 h8 h9 h10 h11 h12 h13 h14 h15 h16 h17 h18 h19 h20 h21 h22 h23 h24 h25 h26 h27 h28 h29 h30 h31 h32; rw [IntKind.wrap_i64]; omega
  have w3 : IntKind.i64.wrap (((N 0 : Nat) : Int) + ((N 1 : Nat) : Int) + ((N 2 : Nat) : Int) + ((m : Nat) : Int)) = ((N 0 : Nat) : Int) + ((N 1 : Nat) : Int) + ((N 2 : Nat) : Int) + ((m : Nat) : Int) := by clear h5 h6 h7 h8 h9 h10 h11 h12 h13 h14 h15 h16 h17 h18 h19 h20 h21 h22 h23 h24 h25 h26 h27 h28 h29 h30 h31 h32; rw [IntKind.wrap_i64]; omega
  have e5 : x5 = ((N 0 + (N 1 + (N 2 + m)) : Nat) : Int) := by rw [h5, w0, w1, w2, w3]; clear h5 h6 h7 h8 h9 h10 h11 h12 h13 h14 h15 h16 h17 h18 h19 h20 h21 h22 h23 h24 h25 h26 h27 h28 h29 h30 h31 h32; omega
  have e6 : x6 = N 0 + (N 1 + (N 2 + m)) := by rw [h6, e5]; exact Int.toNat_natCast _
  have e7 : x7 = N 0 := by rw [h7, e6]; first | exact Nat.min_eq_left (Nat.le_add_right _ _) | exact Nat.min_self _
  have e8 : x8 = ((N 0 : Nat) : Int) := by rw [h8, e7]
  have e9 : x9 = ((N 0 + (N 1 + (N 2 + m)) : Nat) : Int) := by rw [h9, e6]
  have e10 : x10 = N 0 := by rw [h10, e8]; exact Int.toNat_natCast _
  have e11 : x11 = 0 + N 0 := by rw [h11, e6, e10]; exact offS_no r1
  have e12 : x12 = N 1 + (N 2 + m) := by rw [h12, e6, e10]; exact Nat.add_sub_cancel_left ..
  have e13 : x13 = N 1 := by rw [h13, e12]; first | exact Nat.min_eq_left (Nat.le_add_right _ _) | exact Nat.min_self _
  have e14 : x14 = ((N 1 : Nat) : Int) := by rw [h14, e13]
  have e15 : x15 = ((N 1 + (N 2 + m) : Nat) : Int) := by rw [h15, e12]
  have e16 : x16 = N 1 := by rw [h16, e14]; exact Int.toNat_natCast _
  have e17 : x17 = 0 + N 0 + N 1 := by rw [h17, e12, e16, e11]; exact offS_no r2
  have e18 : x18 = N 2 + m := by rw [h18, e12, e16]; exact Nat.add_sub_cancel_left ..
  have e19 : x19 = N 2 := by rw [h19, e18]; first | exact Nat.min_eq_left (Nat.le_add_right _ _) | exact Nat.min_self _
  have e20 : x20 = ((N 2 : Nat) : Int) := by rw [h20, e19]
  have e21 : x21 = ((N 2 + m : Nat) : Int) := by rw [h21, e18]
  have e22 : x22 = N 2 := by rw [h22, e20]; exact Int.toNat_natCast _
  have e23 : x23 = 0 + N 0 + N 1 + N 2 := by rw [h23, e18, e22, e17]; exact offS_no r3
  have e24 : x24 = m := by rw [h24, e18, e22]; exact Nat.add_sub_cancel_left ..
  have e25 : x25 = m := by rw [h25, e24]; first | exact Nat.min_eq_left (Nat.le_add_right _ _) | exact Nat.min_self _
  have e26 : x26 = ((m : Nat) : Int) := by rw [h26, e25]
  have e27 : x27 = ((m : Nat) : Int) := by rw [h27, e24]
  have e28 : x28 = 0 + N 0 + N 1 + N 2 + m := by rw [h28, e23, e25]
  have e29 : x29 = 0 + N 0 + N 1 + N 2 := by rw [h29, e17, e19]
  have e30 : x30 = 0 + N 0 + N 1 := by rw [h30, e11, e13]
  have e31 : x31 = 0 + N 0 := by rw [h31, e7]
  have e32 : x32 = m := by rw [h32, e26]; exact Int.toNat_natCast _
  clear h5 h6 h7 h8 h9 h10 h11 h12 h13 h14 h15 h16 h17 h18 h19 h20 h21 h22 h23 h24 h25 h26 h27 h28 h29 h30 h31 h32 w0 w1 w2 w3
  subst e5 e6 e7 e8 e9 e10 e11 e12 e13 e14 e15 e16 e17 e18 e19 e20 e21 e22 e23 e24 e25 e26 e27 e28 e29 e30 e31 e32
  clear r1 r2 r3
  clear b0 hst h1 h2 h3 h4 k2 d1 d2 c2 d4 d5
  repeat' (first | apply And.intro | intro _)
  all_goals first
    | with_reducible exact bt0
    | with_reducible exact bt0 (by assumption)
    | omega
    | (refine sq_of (hk 0 (by decide)) (by omega) fun i hi c hc => ?_
       repeat (refine (selc_no (by omega)).trans ?_)
       refine (selc_yes (by omega) (by omega)).trans ?_
       exact cellk (by omega))
    | (refine sq_of (hk 1 (by decide)) (by omega) fun i hi c hc => ?_
       repeat (refine (selc_no (by omega)).trans ?_)
       refine (selc_yes (by omega) (by omega)).trans ?_
       exact cellk (by omega))
    | (refine sq_of (hk 2 (by decide)) (by omega) fun i hi c hc => ?_
       repeat (refine (selc_no (by omega)).trans ?_)
       refine (selc_yes (by omega) (by omega)).trans ?_
       exact cellk (by omega))
    | (refine sq_of (hl) (by omega) fun i hi c hc => ?_
       repeat (refine (selc_no (by omega)).trans ?_)
       refine (selc_yes (by omega) (by omega)).trans ?_
       exact cellk (by omega))
theorem ok_tu4 (a : Option Addr) (cap : Nat) (I U : Nat → Int) (A : Nat → Option Addr) (N C : Nat → Nat) (K : Nat → Nat → Nat → Int) (b : Option Addr) (m cb : Nat) (l : Nat → Nat → Int) (now : Int) (hcap : 4 ≤ cap) (hk : ∀ i, i < 4 → kyP (A i) (N i) (u8F (K i))) (hl : kyP b m (u8F l)) (_ : i64ok now) :
    OwesV Try.prog cxTu slTu [] 30 Try.f7 [sXs a 4 cap I U A N C K, sXk b m cb l, sI .i64 now] yes := by
  rw [vc_tu4]
  intro x1 x2 x3 x4 x5 x6 x7 x8 x9 x10 x11 x12 x13 x14 x15 x16 x17 x18 x19 x20 x21 x22 x23 x24 x25 x26 x27 x28 x29 x30 x31 x32 x33 x34 x35 x36 x37 x38 x39
  have hst : stP 4 (setF I U A N C K) := stP_set (by decide) hk
  have h1 : x1 = stE 4 I U N K := rfl
  have h2 : x2 = (decide (now < (1 : Int))) := rfl
  have h3 : x3 = (x2 || decide (now > (1099511627776 : Int))) := rfl
  have h4 : x4 = (IntKind.i64.wrap (now + (24 : Int))) := rfl
  have h5 : x5 = (IntKind.i64.wrap (IntKind.i64.wrap (IntKind.i64.wrap (IntKind.i64.wrap (IntKind.i64.wrap ((0 : Int) + (↑(N (0 : Nat)) : Int)) + (↑(N (1 : Nat)) : Int)) + (↑(N (2 : Nat)) : Int)) + (↑(N (3 : Nat)) : Int)) + (↑m : Int))) := rfl
  have h6 : x6 = (x5.toNat) := rfl
  have h7 : x7 = ((N (0 : Nat)).min x6) := rfl
  have h8 : x8 = ((↑x7 : Int)) := rfl
  have h9 : x9 = ((↑x6 : Int)) := rfl
  have h10 : x10 = (x8.toNat) := rfl
  have h11 : x11 = (offS x6 x10 (0 : Nat)) := rfl
  have h12 : x12 = (x6 - x10) := rfl
  have h13 : x13 = ((N (1 : Nat)).min x12) := rfl
  have h14 : x14 = ((↑x13 : Int)) := rfl
  have h15 : x15 = ((↑x12 : Int)) := rfl
  have h16 : x16 = (x14.toNat) := rfl
  have h17 : x17 = (offS x12 x16 x11) := rfl
  have h18 : x18 = (x12 - x16) := rfl
  have h19 : x19 = ((N (2 : Nat)).min x18) := rfl
  have h20 : x20 = ((↑x19 : Int)) := rfl
  have h21 : x21 = ((↑x18 : Int)) := rfl
  have h22 : x22 = (x20.toNat) := rfl
  have h23 : x23 = (offS x18 x22 x17) := rfl
  have h24 : x24 = (x18 - x22) := rfl
  have h25 : x25 = ((N (3 : Nat)).min x24) := rfl
  have h26 : x26 = ((↑x25 : Int)) := rfl
  have h27 : x27 = ((↑x24 : Int)) := rfl
  have h28 : x28 = (x26.toNat) := rfl
  have h29 : x29 = (offS x24 x28 x23) := rfl
  have h30 : x30 = (x24 - x28) := rfl
  have h31 : x31 = (m.min x30) := rfl
  have h32 : x32 = ((↑x31 : Int)) := rfl
  have h33 : x33 = ((↑x30 : Int)) := rfl
  have h34 : x34 = (x29 + x31) := rfl
  have h35 : x35 = (x23 + x25) := rfl
  have h36 : x36 = (x17 + x19) := rfl
  have h37 : x37 = (x11 + x13) := rfl
  have h38 : x38 = ((0 : Nat) + x7) := rfl
  have h39 : x39 = (x32.toNat) := rfl
  clear_value x1 x2 x3 x4 x5 x6 x7 x8 x9 x10 x11 x12 x13 x14 x15 x16 x17 x18 x19 x20 x21 x22 x23 x24 x25 x26 x27 x28 x29 x30 x31 x32 x33 x34 x35 x36 x37 x38 x39
  have k2 : ∀ k : Nat → Nat → Int, kOf (u8F k) = k := fun _ => rfl
  simp only [k2]
  generalize hy : kyE m l = y
  by_cases c1 : x1 = 0
  case neg =>
    have d1 : (x1 != 0) = true := by simpa using c1
    simp only [d1, hst, hl, Bool.true_eq_false, Bool.false_eq_true, false_implies, forall_const, true_and, and_true, beq_self_eq_true, implies_true, eq_self, and_self, imp_self]
  have d1 : (x1 != 0) = false := by rw [c1]; rfl
  by_cases c2 : y = 0
  case neg =>
    have d2 : (y != 0) = true := by simpa using c2
    simp only [d1, d2, hst, hl, Bool.true_eq_false, Bool.false_eq_true, false_implies, forall_const, true_and, and_true, beq_self_eq_true, implies_true, eq_self, and_self, imp_self]
  have d2 : (y != 0) = false := by rw [c2]; rfl
  by_cases c3 : x3 = true
  case pos =>
    simp only [d1, d2, c3, hst, hl, Bool.true_eq_false, Bool.false_eq_true, false_implies, forall_const, true_and, and_true, beq_self_eq_true, implies_true, Bool.true_or, Bool.not_true, eq_self, and_self, imp_self]
    all_goals (repeat' (first | apply And.intro | intro _))
    all_goals first | with_reducible exact bt0 | with_reducible exact bt0 (by assumption) | omega
  have c3 : x3 = false := by simpa using c3
  by_cases c4 : x4 < U 2
  case pos =>
    have d4 : decide (x4 < U 2) = true := decide_eq_true c4
    have d5 : decide (U 2 > x4) = true := decide_eq_true c4
    simp only [d1, d2, c3, d4, hst, hl, Bool.true_eq_false, Bool.false_eq_true, false_implies, forall_const, true_and, and_true, beq_self_eq_true, implies_true, Bool.false_or, Bool.not_false, eq_self, and_self, imp_self]
    all_goals (repeat' (first | apply And.intro | intro _))
    all_goals first | with_reducible exact bt0 | with_reducible exact bt0 (by assumption) | omega
  have d4 : decide (x4 < U 2) = false := decide_eq_false c4
  have d5 : decide (U 2 > x4) = false := decide_eq_false c4
  simp only [d1, d2, c3, d4, hst, hl, Bool.true_eq_false, Bool.false_eq_true, false_implies, forall_const, true_and, and_true, beq_self_eq_true, implies_true, Bool.false_or, Bool.not_false, eq_self, imp_self]
  have b0 := stE_0 (h1.symm.trans c1)
  have n0 := kyE_0 (b0.2 0 (by decide)).1
  have n1 := kyE_0 (b0.2 1 (by decide)).1
  have n2 := kyE_0 (b0.2 2 (by decide)).1
  have n3 := kyE_0 (b0.2 3 (by decide)).1
  have nm := kyE_0 (hy.trans c2)
  have r4 : 0 < m := nm.1
  have r3 : 0 < N 3 + m := Nat.add_pos_left n3.1 _
  have r2 : 0 < N 2 + (N 3 + m) := Nat.add_pos_left n2.1 _
  have r1 : 0 < N 1 + (N 2 + (N 3 + m)) := Nat.add_pos_left n1.1 _
  have w0 : IntKind.i64.wrap ((0 : Int) + ((N 0 : Nat) : Int)) = ((N 0 : Nat) : Int) := by clear h5 h6 h7 h8 h9 h10 h11 h12 h13 h14 h15 h16 h17 h18 h19 h20 h21 h22 h23 h24 h25 h26 h27 h28 h29 h30 h31 h32 h33 h34 h35 h36 h37 h38 h39; rw [IntKind.wrap_i64]; omega
  have w1 : IntKind.i64.wrap (((N 0 : Nat) : Int) + ((N 1 : Nat) : Int)) = ((N 0 : Nat) : Int) + ((N 1 : Nat) : Int) := by clear h5 h6 h7 h8 h9 h10 h11 h12 h13 h14 h15 h16 h17 h18 h19 h20 h21 h22 h23 h24 h25 h26 h27 h28 h29 h30 h31 h32 h33 h34 h35 h36 h37 h38 h39; rw [IntKind.wrap_i64]; omega
  have w2 : IntKind.i64.wrap (((N 0 : Nat) : Int) + ((N 1 : Nat) : Int) + ((N 2 : Nat) : Int)) = ((N 0 : Nat) : Int) + ((N 1 : Nat) : Int) + ((N 2 : Nat) : Int) := by clear h5 h6 h7 h8 h9 h10 h11 h12 h13 h14 h15 h16 h17 h18 h19 h20 h21 h22 h23 h24 h25 h26 h27 h28 h29 h30 h31 h32 h33 h34 h35 h36 h37 h38 h39; rw [IntKind.wrap_i64]; omega
  have w3 : IntKind.i64.wrap (((N 0 : Nat) : Int) + ((N 1 : Nat) : Int) + ((N 2 : Nat) : Int) + ((N 3 : Nat) : Int)) = ((N 0 : Nat) : Int) + ((N 1 : Nat) : Int) + ((N 2 : Nat) : Int) + ((N 3 : Nat) : Int) := by clear h5 h6 h7 h8 h9 h10 h11 h12 h13 h14 h15 h16 h17 h18 h19 h20 h21 h22 h23 h24 h25 h26 h27 h28 h29 h30 h31 h32 h33 h34 h35 h36 h37 h38 h39; rw [IntKind.wrap_i64]; omega
  have w4 : IntKind.i64.wrap (((N 0 : Nat) : Int) + ((N 1 : Nat) : Int) + ((N 2 : Nat) : Int) + ((N 3 : Nat) : Int) + ((m : Nat) : Int)) = ((N 0 : Nat) : Int) + ((N 1 : Nat) : Int) + ((N 2 : Nat) : Int) + ((N 3 : Nat) : Int) + ((m : Nat) : Int) := by clear h5 h6 h7 h8 h9 h10 h11 h12 h13 h14 h15 h16 h17 h18 h19 h20 h21 h22 h23 h24 h25 h26 h27 h28 h29 h30 h31 h32 h33 h34 h35 h36 h37 h38 h39; rw [IntKind.wrap_i64]; omega
  have e5 : x5 = ((N 0 + (N 1 + (N 2 + (N 3 + m))) : Nat) : Int) := by rw [h5, w0, w1, w2, w3, w4]; clear h5 h6 h7 h8 h9 h10 h11 h12 h13 h14 h15 h16 h17 h18 h19 h20 h21 h22 h23 h24 h25 h26 h27 h28 h29 h30 h31 h32 h33 h34 h35 h36 h37 h38 h39; omega
  have e6 : x6 = N 0 + (N 1 + (N 2 + (N 3 + m))) := by rw [h6, e5]; exact Int.toNat_natCast _
  have e7 : x7 = N 0 := by rw [h7, e6]; first | exact Nat.min_eq_left (Nat.le_add_right _ _) | exact Nat.min_self _
  have e8 : x8 = ((N 0 : Nat) : Int) := by rw [h8, e7]
  have e9 : x9 = ((N 0 + (N 1 + (N 2 + (N 3 + m))) : Nat) : Int) := by rw [h9, e6]
  have e10 : x10 = N 0 := by rw [h10, e8]; exact Int.toNat_natCast _
  have e11 : x11 = 0 + N 0 := by rw [h11, e6, e10]; exact offS_no r1
  have e12 : x12 = N 1 + (N 2 + (N 3 + m)) := by rw [h12, e6, e10]; exact Nat.add_sub_cancel_left ..
  have e13 : x13 = N 1 := by rw [h13, e12]; first | exact Nat.min_eq_left (Nat.le_add_right _ _) | exact Nat.min_self _
  have e14 : x14 = ((N 1 : Nat) : Int) := by rw [h14, e13]
  have e15 : x15 = ((N 1 + (N 2 + (N 3 + m)) : Nat) : Int) := by rw [h15, e12]
  have e16 : x16 = N 1 := by rw [h16, e14]; exact Int.toNat_natCast _
  have e17 : x17 = 0 + N 0 + N 1 := by rw [h17, e12, e16, e11]; exact offS_no r2
  have e18 : x18 = N 2 + (N 3 + m) := by rw [h18, e12, e16]; exact Nat.add_sub_cancel_left ..
  have e19 : x19 = N 2 := by rw [h19, e18]; first | exact Nat.min_eq_left (Nat.le_add_right _ _) | exact Nat.min_self _
  have e20 : x20 = ((N 2 : Nat) : Int) := by rw [h20, e19]
  have e21 : x21 = ((N 2 + (N 3 + m) : Nat) : Int) := by rw [h21, e18]
  have e22 : x22 = N 2 := by rw [h22, e20]; exact Int.toNat_natCast _
  have e23 : x23 = 0 + N 0 + N 1 + N 2 := by rw [h23, e18, e22, e17]; exact offS_no r3
  have e24 : x24 = N 3 + m := by rw [h24, e18, e22]; exact Nat.add_sub_cancel_left ..
  have e25 : x25 = N 3 := by rw [h25, e24]; first | exact Nat.min_eq_left (Nat.le_add_right _ _) | exact Nat.min_self _
  have e26 : x26 = ((N 3 : Nat) : Int) := by rw [h26, e25]
  have e27 : x27 = ((N 3 + m : Nat) : Int) := by rw [h27, e24]
  have e28 : x28 = N 3 := by rw [h28, e26]; exact Int.toNat_natCast _
  have e29 : x29 = 0 + N 0 + N 1 + N 2 + N 3 := by rw [h29, e24, e28, e23]; exact offS_no r4
  have e30 : x30 = m := by rw [h30, e24, e28]; exact Nat.add_sub_cancel_left ..
  have e31 : x31 = m := by rw [h31, e30]; first | exact Nat.min_eq_left (Nat.le_add_right _ _) | exact Nat.min_self _
  have e32 : x32 = ((m : Nat) : Int) := by rw [h32, e31]
  have e33 : x33 = ((m : Nat) : Int) := by rw [h33, e30]
  have e34 : x34 = 0 + N 0 + N 1 + N 2 + N 3 + m := by rw [h34, e29, e31]
  have e35 : x35 = 0 + N 0 + N 1 + N 2 + N 3 := by rw [h35, e23, e25]
  have e36 : x36 = 0 + N 0 + N 1 + N 2 := by rw [h36, e17, e19]
  have e37 : x37 = 0 + N 0 + N 1 := by rw [h37, e11, e13]
  have e38 : x38 = 0 + N 0 := by rw [h38, e7]
  have e39 : x39 = m := by rw [h39, e32]; exact Int.toNat_natCast _
  clear h5 h6 h7 h8 h9 h10 h11 h12 h13 h14 h15 h16 h17 h18 h19 h20 h21 h22 h23 h24 h25 h26 h27 h28 h29 h30 h31 h32 h33 h34 h35 h36 h37 h38 h39 w0 w1 w2 w3 w4
  subst e5 e6 e7 e8 e9 e10 e11 e12 e13 e14 e15 e16 e17 e18 e19 e20 e21 e22 e23 e24 e25 e26 e27 e28 e29 e30 e31 e32 e33 e34 e35 e36 e37 e38 e39
  clear r1 r2 r3 r4
  clear b0 hst h1 h2 h3 h4 k2 d1 d2 c2 d4 d5
  repeat' (first | apply And.intro | intro _)
  all_goals first
    | with_reducible exact bt0
    | with_reducible exact bt0 (by assumption)
    | omega
    | (refine sq_of (hk 0 (by decide)) (by omega) fun i hi c hc => ?_
       repeat (refine (selc_no (by omega)).trans ?_)
       refine (selc_yes (by omega) (by omega)).trans ?_
       exact cellk (by omega))
    | (refine sq_of (hk 1 (by decide)) (by omega) fun i hi c hc => ?_
       repeat (refine (selc_no (by omega)).trans ?_)
       refine (selc_yes (by omega) (by omega)).trans ?_
       exact cellk (by omega))
    | (refine sq_of (hk 2 (by decide)) (by omega) fun i hi c hc => ?_
       repeat (refine (selc_no (by omega)).trans ?_)
       refine (selc_yes (by omega) (by omega)).trans ?_
       exact cellk (by omega))
    | (refine sq_of (hk 3 (by decide)) (by omega) fun i hi c hc => ?_
       repeat (refine (selc_no (by omega)).trans ?_)
       refine (selc_yes (by omega) (by omega)).trans ?_
       exact cellk (by omega))
    | (refine sq_of (hl) (by omega) fun i hi c hc => ?_
       repeat (refine (selc_no (by omega)).trans ?_)
       refine (selc_yes (by omega) (by omega)).trans ?_
       exact cellk (by omega))
end Go.Proofs.Ytjpddnjgbgpegaa
end

section
namespace Go.Proofs.Ytjpddnjgbgpegaa
open Go Go.Sx
set_option maxRecDepth 100000
theorem ok_tu5 (a : Option Addr) (cap : Nat) (I U : Nat → Int) (A : Nat → Option Addr) (N C : Nat → Nat) (K : Nat → Nat → Nat → Int) (b : Option Addr) (m cb : Nat) (l : Nat → Nat → Int) (now : Int) (hcap : 5 ≤ cap) (hk : ∀ i, i < 5 → kyP (A i) (N i) (u8F (K i))) (hl : kyP b m (u8F l)) (_ : i64ok now) :
    OwesV Try.prog cxTu slTu [] 30 Try.f7 [sXs a 5 cap I U A N C K, sXk b m cb l, sI .i64 now] yes := by
  rw [vc_tu5]
  intro x1 x2 x3 x4 x5 x6 x7 x8 x9 x10 x11 x12 x13 x14 x15 x16 x17 x18 x19 x20 x21 x22 x23 x24 x25 x26 x27 x28 x29 x30 x31 x32 x33 x34 x35 x36 x37 x38 x39 x40 x41 x42 x43 x44 x45 x46
  have hst : stP 5 (setF I U A N C K) := stP_set (by decide) hk
  have h1 : x1 = stE 5 I U N K := rfl
  have h2 : x2 = (decide (now < (1 : Int))) := rfl
  have h3 : x3 = (x2 || decide (now > (1099511627776 : Int))) := rfl
  have h4 : x4 = (IntKind.i64.wrap (now + (24 : Int))) := rfl
  have h5 : x5 = (IntKind.i64.wrap (IntKind.i64.wrap (IntKind.i64.wrap (IntKind.i64.wrap (IntKind.i64.wrap (IntKind.i64.wrap ((0 : Int) + (↑(N (0 : Nat)) : Int)) + (↑(N (1 : Nat)) : Int)) + (↑(N (2 : Nat)) : Int)) + (↑(N (3 : Nat)) : Int)) + (↑(N (4 : Nat)) : Int)) + (↑m : Int))) := rfl
  have h6 : x6 = (x5.toNat) := rfl
  have h7 : x7 = ((N (0 : Nat)).min x6) := rfl
  have h8 : x8 = ((↑x7 : Int)) := rfl
  have h9 : x9 = ((↑x6 : Int)) := rfl
  have h10 : x10 = (x8.toNat) := rfl
  have h11 : x11 = (offS x6 x10 (0 : Nat)) := rfl
  have h12 : x12 = (x6 - x10) := rfl
  have h13 : x13 = ((N (1 : Nat)).min x12) := rfl
  have h14 : x14 = ((↑x13 : Int)) := rfl
  have h15 : x15 = ((↑x12 : Int)) := rfl
  have h16 : x16 = (x14.toNat) := rfl
  have h17 : x17 = (offS x12 x16 x11) := rfl
  have h18 : x18 = (x12 - x16) := rfl
  have h19 : x19 = ((N (2 : Nat)).min x18) := rfl
  have h20 : x20 = ((↑x19 : Int)) := rfl
  have h21 : x21 = ((↑x18 : Int)) := rfl
  have h22 : x22 = (x20.toNat) := rfl
  have h23 : x23 = (offS x18 x22 x17) := rfl
  have h24 : x24 = (x18 - x22) := rfl
  have h25 : x25 = ((N (3 : Nat)).min x24) := rfl
  have h26 : x26 = ((↑x25 : Int)) := rfl
  have h27 : x27 = ((↑x24 : Int)) := rfl
  have h28 : x28 = (x26.toNat) := rfl
  have h29 : x29 = (offS x24 x28 x23) := rfl
  have h30 : x30 = (x24 - x28) := rfl
  have h31 : x31 = ((N (4 : Nat)).min x30) := rfl
  have h32 : x32 = ((↑x31 : Int)) := rfl
  have h33 : x33 = ((↑x30 : Int)) := rfl
  have h34 : x34 = (x32.toNat) := rfl
  have h35 : x35 = (offS x30 x34 x29) := rfl
  have h36 : x36 = (x30 - x34) := rfl
  have h37 : x37 = (m.min x36) := rfl
  have h38 : x38 = ((↑x37 : Int)) := rfl
  have h39 : x39 = ((↑x36 : Int)) := rfl
  have h40 : x40 = (x35 + x37) := rfl
  have h41 : x41 = (x29 + x31) := rfl
  have h42 : x42 = (x23 + x25) := rfl
  have h43 : x43 = (x17 + x19) := rfl
  have h44 : x44 = (x11 + x13) := rfl
  have h45 : x45 = ((0 : Nat) + x7) := rfl
  have h46 : x46 = (x38.toNat) := rfl
  clear_value x1 x2 x3 x4 x5 x6 x7 x8 x9 x10 x11 x12 x13 x14 x15 x16 x17 x18 x19 x20 x21 x22 x23 x24 x25 x26 x27 x28 x29 x30 x31 x32 x33 x34 x35 x36 x37 x38 x39 x40 x41 x42 x43 x44 x45 x46
  have k2 : ∀ k : Nat → Nat → Int, kOf (u8F k) = k := fun _ => rfl
  simp only [k2]
  generalize hy : kyE m l = y
  by_cases c1 : x1 = 0
  case neg =>
    have d1 : (x1 != 0) = true := by simpa using c1
    simp only [d1, hst, hl, Bool.true_eq_false, Bool.false_eq_true, false_implies, forall_const, true_and, and_true, beq_self_eq_true, implies_true, eq_self, and_self, imp_self]
  have d1 : (x1 != 0) = false := by rw [c1]; rfl
  by_cases c2 : y = 0
  case neg =>
    have d2 : (y != 0) = true := by simpa using c2
    simp only [d1, d2, hst, hl, Bool.true_eq_false, Bool.false_eq_true, false_implies, forall_const, true_and, and_true, beq_self_eq_true, implies_true, eq_self, and_self, imp_self]
  have d2 : (y != 0) = false := by rw [c2]; rfl
  by_cases c3 : x3 = true
  case pos =>
    simp only [d1, d2, c3, hst, hl, Bool.true_eq_false, Bool.false_eq_true, false_implies, forall_const, true_and, and_true, beq_self_eq_true, implies_true, Bool.true_or, Bool.not_true, eq_self, and_self, imp_self]
    all_goals (repeat' (first | apply And.intro | intro _))
    all_goals first | with_reducible exact bt0 | with_reducible exact bt0 (by assumption) | omega
  have c3 : x3 = false := by simpa using c3
  by_cases c4 : x4 < U 3
  case pos =>
    have d4 : decide (x4 < U 3) = true := decide_eq_true c4
    have d5 : decide (U 3 > x4) = true := decide_eq_true c4
    simp only [d1, d2, c3, d4, hst, hl, Bool.true_eq_false, Bool.false_eq_true, false_implies, forall_const, true_and, and_true, beq_self_eq_true, implies_true, Bool.false_or, Bool.not_false, eq_self, and_self, imp_self]
    all_goals (repeat' (first | apply And.intro | intro _))
    all_goals first | with_reducible exact bt0 | with_reducible exact bt0 (by assumption) | omega
  have d4 : decide (x4 < U 3) = false := decide_eq_false c4
  have d5 : decide (U 3 > x4) = false := decide_eq_false c4
  simp only [d1, d2, c3, d4, hst, hl, Bool.true_eq_false, Bool.false_eq_true, false_implies, forall_const, true_and, and_true, beq_self_eq_true, implies_true, Bool.false_or, Bool.not_false, eq_self, imp_self]
  have b0 := stE_0 (h1.symm.trans c1)
  have n0 := kyE_0 (b0.2 0 (by decide)).1
  have n1 := kyE_0 (b0.2 1 (by decide)).1
  have n2 := kyE_0 (b0.2 2 (by decide)).1
  have n3 := kyE_0 (b0.2 3 (by decide)).1
  have n4 := kyE_0 (b0.2 4 (by decide)).1
  have nm := kyE_0 (hy.trans c2)
  have r5 : 0 < m := nm.1
  have r4 : 0 < N 4 + m := Nat.add_pos_left n4.1 _
  have r3 : 0 < N 3 + (N 4 + m) := Nat.add_pos_left n3.1 _
  have r2 : 0 < N 2 + (N 3 + (N 4 + m)) := Nat.add_pos_left n2.1 _
  have r1 : 0 < N 1 + (N 2 + (N 3 + (N 4 + m))) := Nat.add_pos_left n1.1 _
  have w0 : IntKind.i64.wrap ((0 : Int) + ((N 0 : Nat) : Int)) = ((N 0 : Nat) : Int) := by clear h5 h6 h7 h8 h9 h10 h11 h12 h13 h14 h15 h16 h17 h18 h19 h20 h21 h22 h23 h24 h25 h26 h27 h28 h29 h30 h31 h32 h33 h34 h35 h36 h37 h38 h39 h40 h41 h42 h43 h44 h45 h46; rw [IntKind.wrap_i64]; omega
  have w1 : IntKind.i64.wrap (((N 0 : Nat) : Int) + ((N 1 : Nat) : Int)) = ((N 0 : Nat) : Int) + ((N 1 : Nat) : Int) := by clear h5 h6 h7 h8 h9 h10 h11 h12 h13 h14 h15 h16 h17 h18 h19 h20 h21 h22 h23 h24 h25 h26 h27 h28 h29 h30 h31 h32 h33 h34 h35 h36 h37 h38 h39 h40 h41 h42 h43 h44 h45 h46; rw [IntKind.wrap_i64]; omega
  have w2 : IntKind.i64.wrap (((N 0 : Nat) : Int) + ((N 1 : Nat) : Int) + ((N 2 : Nat) : Int)) = ((N 0 : Nat) : Int) + ((N 1 : Nat) : Int) + ((N 2 : Nat) : Int) := by clear h5 h6 h7 h8 h9 h10 h11 h12 h13 h14 h15 h16 h17 h18 h19 h20 h21 h22 h23 h24 h25 h26 h27 h28 h29 h30 h31 h32 h33 h34 h35 h36 h37 h38 h39 h40 h41 h42 h43 h44 h45 h46; rw [IntKind.wrap_i64]; omega
  have w3 : IntKind.i64.wrap (((N 0 : Nat) : Int) + ((N 1 : Nat) : Int) + ((N 2 : Nat) : Int) + ((N 3 : Nat) : Int)) = ((N 0 : Nat) : Int) + ((N 1 : Nat) : Int) + ((N 2 : Nat) : Int) + ((N 3 : Nat) : Int) := by clear h5 h6 h7 h8 h9 h10 h11 h12 h13 h14 h15 h16 h17 h18 h19 h20 h21 h22 h23 h24 h25 h26 h27 h28 h29 h30 h31 h32 h33 h34 h35 h36 h37 h38 h39 h40 h41 h42 h43 h44 h45 h46; rw [IntKind.wrap_i64]; omega
  have w4 : IntKind.i64.wrap (((N 0 : Nat) : Int) + ((N 1 : Nat) : Int) + ((N 2 : Nat) : Int) + ((N 3 : Nat) : Int) + ((N 4 : Nat) : Int)) = ((N 0 : Nat) : Int) + ((N 1 : Nat) : Int) + ((N 2 : Nat) : Int) + ((N 3 : Nat) : Int) + ((N 4 : Nat) : Int) := by clear h5 h6 h7 h8 h9 h10 h11 h12 h13 h14 h15 h16 h17 h18 h19 h20 h21 h22 h23 h24 h25 h26 h27 h28 h29 h30 h31 h32 h33 h34 h35 h36 h37 h38 h39 h40 h41 h42 h43 h44 h45 h46; rw [IntKind.wrap_i64]; omega
  have w5 : IntKind.i64.wrap (((N 0 : Nat) : Int) + ((N 1 : Nat) : Int) + ((N 2 : Nat) : Int) + ((N 3 : Nat) : Int) + ((N 4 : Nat) : Int) + ((m : Nat) : Int)) = ((N 0 : Nat) : Int) + ((N 1 : Nat) : Int) + ((N 2 : Nat) : Int) + ((N 3 : Nat) : Int) + ((N 4 : Nat) : Int) + ((m : Nat) : Int) := by clear h5 h6 h7 h8 h9 h10 h11 h12 h13 h14 h15 h16 h17 h18 h19 h20 h21 h22 h23 h24 h25 h26 h27 h28 h29 h30 h31 h32 h33 h34 h35 h36 h37 h38 h39 h40 h41 h42 h43 h44 h45 h46; rw [IntKind.wrap_i64]; omega
  have e5 : x5 = ((N 0 + (N 1 + (N 2 + (N 3 + (N 4 + m)))) : Nat) : Int) := by rw [h5, w0, w1, w2, w3, w4, w5]; clear h5 h6 h7 h8 h9 h10 h11 h12 h13 h14 h15 h16 h17 h18 h19 h20 h21 h22 h23 h24 h25 h26 h27 h28 h29 h30 h31 h32 h33 h34 h35 h36 h37 h38 h39 h40 h41 h42 h43 h44 h45 h46; omega
  have e6 : x6 = N 0 + (N 1 + (N 2 + (N 3 + (N 4 + m)))) := by rw [h6, e5]; exact Int.toNat_natCast _
  have e7 : x7 = N 0 := by rw [h7, e6]; first | exact Nat.min_eq_left (Nat.le_add_right _ _) | exact Nat.min_self _
  have e8 : x8 = ((N 0 : Nat) : Int) := by rw [h8, e7]
  have e9 : x9 = ((N 0 + (N 1 + (N 2 + (N 3 + (N 4 + m)))) : Nat) : Int) := by rw [h9, e6]
  have e10 : x10 = N 0 := by rw [h10, e8]; exact Int.toNat_natCast _
  have e11 : x11 = 0 + N 0 := by rw [h11, e6, e10]; exact offS_no r1
  have e12 : x12 = N 1 + (N 2 + (N 3 + (N 4 + m))) := by rw [h12, e6, e10]; exact Nat.add_sub_cancel_left ..
  have e13 : x13 = N 1 := by rw [h13, e12]; first | exact Nat.min_eq_left (Nat.le_add_right _ _) | exact Nat.min_self _
  have e14 : x14 = ((N 1 : Nat) : Int) := by rw [h14, e13]
  have e15 : x15 = ((N 1 + (N 2 + (N 3 + (N 4 + m))) : Nat) : Int) := by rw [h15, e12]
  have e16 : x16 = N 1 := by rw [h16, e14]; exact Int.toNat_natCast _
  have e17 : x17 = 0 + N 0 + N 1 := by rw [h17, e12, e16, e11]; exact offS_no r2
  have e18 : x18 = N 2 + (N 3 + (N 4 + m)) := by rw [h18, e12, e16]; exact Nat.add_sub_cancel_left ..
  have e19 : x19 = N 2 := by rw [h19, e18]; first | exact Nat.min_eq_left (Nat.le_add_right _ _) | exact Nat.min_self _
  have e20 : x20 = ((N 2 : Nat) : Int) := by rw [h20, e19]
  have e21 : x21 = ((N 2 + (N 3 + (N 4 + m)) : Nat) : Int) := by rw [h21, e18]
  have e22 : x22 = N 2 := by rw [h22, e20]; exact Int.toNat_natCast _
  have e23 : x23 = 0 + N 0 + N 1 + N 2 := by rw [h23, e18, e22, e17]; exact offS_no r3
  have e24 : x24 = N 3 + (N 4 + m) := by rw [h24, e18, e22]; exact Nat.add_sub_cancel_left ..
  have e25 : x25 = N 3 := by rw [h25, e24]; first | exact Nat.min_eq_left (Nat.le_add_right _ _) | exact Nat.min_self _
  have e26 : x26 = ((N 3 : Nat) : Int) := by rw [h26, e25]
  have e27 : x27 = ((N 3 + (N 4 + m) : Nat) : Int) := by rw [h27, e24]
  have e28 : x28 = N 3 := by rw [h28, e26]; exact Int.toNat_natCast _
  have e29 : x29 = 0 + N 0 + N 1 + N 2 + N 3 := by rw [h29, e24, e28, e23]; exact offS_no r4
  have e30 : x30 = N 4 + m := by rw [h30, e24, e28]; exact Nat.add_sub_cancel_left ..
  have e31 : x31 = N 4 := by rw [h31, e30]; first | exact Nat.min_eq_left (Nat.le_add_right _ _) | exact Nat.min_self _
  have e32 : x32 = ((N 4 : Nat) : Int) := by rw [h32, e31]
  have e33 : x33 = ((N 4 + m : Nat) : Int) := by rw [h33, e30]
  have e34 : x34 = N 4 := by rw [h34, e32]; exact Int.toNat_natCast _
  have e35 : x35 = 0 + N 0 + N 1 + N 2 + N 3 + N 4 := by rw [h35, e30, e34, e29]; exact offS_no r5
  have e36 : x36 = m := by rw [h36, e30, e34]; exact Nat.add_sub_cancel_left ..
  have e37 : x37 = m := by rw [h37, e36]; first | exact Nat.min_eq_left (Nat.le_add_right _ _) | exact Nat.min_self _
  have e38 : x38 = ((m : Nat) : Int) := by rw [h38, e37]
  have e39 : x39 = ((m : Nat) : Int) := by rw [h39, e36]
  have e40 : x40 = 0 + N 0 + N 1 + N 2 + N 3 + N 4 + m := by rw [h40, e35, e37]
  have e41 : x41 = 0 + N 0 + N 1 + N 2 + N 3 + N 4 := by rw [h41, e29, e31]
  have e42 : x42 = 0 + N 0 + N 1 + N 2 + N 3 := by rw [h42, e23, e25]
  have e43 : x43 = 0 + N 0 + N 1 + N 2 := by rw [h43, e17, e19]
  have e44 : x44 = 0 + N 0 + N 1 := by rw [h44, e11, e13]
  have e45 : x45 = 0 + N 0 := by rw [h45, e7]
  have e46 : x46 = m := by rw [h46, e38]; exact Int.toNat_natCast _
  clear h5 h6 h7 h8 h9 h10 h11 h12 h13 h14 h15 h16 h17 h18 h19 h20 h21 h22 h23 h24 h25 h26 h27 h28 h29 h30 h31 h32 h33 h34 h35 h36 h37 h38 h39 h40 h41 h42 h43 h44 h45 h46 w0 w1 w2 w3 w4 w5
  subst e5 e6 e7 e8 e9 e10 e11 e12 e13 e14 e15 e16 e17 e18 e19 e20 e21 e22 e23 e24 e25 e26 e27 e28 e29 e30 e31 e32 e33 e34 e35 e36 e37 e38 e39 e40 e41 e42 e43 e44 e45 e46
  clear r1 r2 r3 r4 r5
  clear b0 hst h1 h2 h3 h4 k2 d1 d2 c2 d4 d5
  repeat' (first | apply And.intro | intro _)
  all_goals first
    | with_reducible exact bt0
    | with_reducible exact bt0 (by assumption)
    | omega
    | (refine sq_of (hk 0 (by decide)) (by omega) fun i hi c hc => ?_
       repeat (refine (selc_no (by omega)).trans ?_)
       refine (selc_yes (by omega) (by omega)).trans ?_
       exact cellk (by omega))
    | (refine sq_of (hk 1 (by decide)) (by omega) fun i hi c hc => ?_
       repeat (refine (selc_no (by omega)).trans ?_)
       refine (selc_yes (by omega) (by omega)).trans ?_
       exact cellk (by omega))
    | (refine sq_of (hk 2 (by decide)) (by omega) fun i hi c hc => ?_
       repeat (refine (selc_no (by omega)).trans ?_)
       refine (selc_yes (by omega) (by omega)).trans ?_
       exact cellk (by omega))
    | (refine sq_of (hk 3 (by decide)) (by omega) fun i hi c hc => ?_
       repeat (refine (selc_no (by omega)).trans ?_)
       refine (selc_yes (by omega) (by omega)).trans ?_
       exact cellk (by omega))
    | (refine sq_of (hk 4 (by decide)) (by omega) fun i hi c hc => ?_
       repeat (refine (selc_no (by omega)).trans ?_)
       refine (selc_yes (by omega) (by omega)).trans ?_
       exact cellk (by omega))
    | (refine sq_of (hl) (by omega) fun i hi c hc => ?_
       repeat (refine (selc_no (by omega)).trans ?_)
       refine (selc_yes (by omega) (by omega)).trans ?_
       exact cellk (by omega))
theorem ok_tu6 (a : Option Addr) (cap : Nat) (I U : Nat → Int) (A : Nat → Option Addr) (N C : Nat → Nat) (K : Nat → Nat → Nat → Int) (b : Option Addr) (m cb : Nat) (l : Nat → Nat → Int) (now : Int) (hcap : 6 ≤ cap) (hk : ∀ i, i < 6 → kyP (A i) (N i) (u8F (K i))) (hl : kyP b m (u8F l)) (_ : i64ok now) :
    OwesV Try.prog cxTu slTu [] 30 Try.f7 [sXs a 6 cap I U A N C K, sXk b m cb l, sI .i64 now] yes := by
  rw [vc_tu6]
  intro x1 x2 x3 x4 x5 x6 x7 x8 x9 x10 x11 x12 x13 x14 x15 x16 x17 x18 x19 x20 x21 x22 x23 x24 x25 x26 x27 x28 x29 x30 x31 x32 x33 x34 x35 x36 x37 x38 x39 x40 x41 x42 x43 x44 x45 x46 x47 x48 x49 x50 x51 x52 x53
  have hst : stP 6 (setF I U A N C K) := stP_set (by decide) hk
  have h1 : x1 = stE 6 I U N K := rfl
  have h2 : x2 = (decide (now < (1 : Int))) := rfl
  have h3 : x3 = (x2 || decide (now > (1099511627776 : Int))) := rfl
  have h4 : x4 = (IntKind.i64.wrap (now + (24 : Int))) := rfl
  have h5 : x5 = (IntKind.i64.wrap (IntKind.i64.wrap (IntKind.i64.wrap (IntKind.i64.wrap (IntKind.i64.wrap (IntKind.i64.wrap (IntKind.i64.wrap ((0 : Int) + (↑(N (0 : Nat)) : Int)) + (↑(N (1 : Nat)) : Int)) + (↑(N (2 : Nat)) : Int)) + (↑(N (3 : Nat)) : Int)) + (↑(N (4 : Nat)) : Int)) + (↑(N (5 : Nat)) : Int)) + (↑m : Int))) := rfl
  have h6 : x6 = (x5.toNat) := rfl
  have h7 : x7 = ((N (0 : Nat)).min x6) := rfl
  have h8 : x8 = ((↑x7 : Int)) := rfl
  have h9 : x9 = ((↑x6 : Int)) := rfl
  have h10 : x10 = (x8.toNat) := rfl
  have h11 : x11 = (offS x6 x10 (0 : Nat)) := rfl
  have h12 : x12 = (x6 - x10) := rfl
  have h13 : x13 = ((N (1 : Nat)).min x12) := rfl
  have h14 : x14 = ((↑x13 : Int)) := rfl
  have h15 : x15 = ((↑x12 : Int)) := rfl
  have h16 : x16 = (x14.toNat) := rfl
  have h17 : x17 = (offS x12 x16 x11) := rfl
  have h18 : x18 = (x12 - x16) := rfl
  have h19 : x19 = ((N (2 : Nat)).min x18) := rfl
  have h20 : x20 = ((↑x19 : Int)) := rfl
  have h21 : x21 = ((↑x18 : Int)) := rfl
  have h22 : x22 = (x20.toNat) := rfl
  have h23 : x23 = (offS x18 x22 x17) := rfl
  have h24 : x24 = (x18 - x22) := rfl
  have h25 : x25 = ((N (3 : Nat)).min x24) := rfl
  have h26 : x26 = ((↑x25 : Int)) := rfl
  have h27 : x27 = ((↑x24 : Int)) := rfl
  have h28 : x28 = (x26.toNat) := rfl
  have h29 : x29 = (offS x24 x28 x23) := rfl
  have h30 : x30 = (x24 - x28) := rfl
  have h31 : x31 = ((N (4 : Nat)).min x30) := rfl
  have h32 : x32 = ((↑x31 : Int)) := rfl
  have h33 : x33 = ((↑x30 : Int)) := rfl
  have h34 : x34 = (x32.toNat) := rfl
  have h35 : x35 = (offS x30 x34 x29) := rfl
  have h36 : x36 = (x30 - x34) := rfl
  have h37 : x37 = ((N (5 : Nat)).min x36) := rfl
  have h38 : x38 = ((↑x37 : Int)) := rfl
  have h39 : x39 = ((↑x36 : Int)) := rfl
  have h40 : x40 = (x38.toNat) := rfl
  have h41 : x41 = (offS x36 x40 x35) := rfl
  have h42 : x42 = (x36 - x40) := rfl
  have h43 : x43 = (m.min x42) := rfl
  have h44 : x44 = ((↑x43 : Int)) := rfl
  have h45 : x45 = ((↑x42 : Int)) := rfl
  have h46 : x46 = (x41 + x43) := rfl
  have h47 : x47 = (x35 + x37) := rfl
  have h48 : x48 = (x29 + x31) := rfl
  have h49 : x49 = (x23 + x25) := rfl
  have h50 : x50 = (x17 + x19) := rfl
  have h51 : x51 = (x11 + x13) := rfl
  have h52 : x52 = ((0 : Nat) + x7) := rfl
  have h53 : x53 = (x44.toNat) := rfl
  clear_value x1 x2 x3 x4 x5 x6 x7 x8 x9 x10 x11 x12 x13 x14 x15 x16 x17 x18 x19 x20 x21 x22 x23 x24 x25 x26 x27 x28 x29 x30 x31 x32 x33 x34 x35 x36 x37 x38 x39 x40 x41 x42 x43 x44 x45 x46 x47 x48 x49 x50 x51 x52 x53
  have k2 : ∀ k : Nat → Nat → Int, kOf (u8F k) = k := fun _ => rfl
  simp only [k2]
  generalize hy : kyE m l = y
  by_cases c1 : x1 = 0
  case neg =>
    have d1 : (x1 != 0) = true := by simpa using c1
    simp only [d1, hst, hl, Bool.true_eq_false, Bool.false_eq_true, false_implies, forall_const, true_and, and_true, beq_self_eq_true, implies_true, eq_self, and_self, imp_self]
  have d1 : (x1 != 0) = false := by rw [c1]; rfl
  by_cases c2 : y = 0
  case neg =>
    have d2 : (y != 0) = true := by simpa using c2
    simp only [d1, d2, hst, hl, Bool.true_eq_false, Bool.false_eq_true, false_implies, forall_const, true_and, and_true, beq_self_eq_true, implies_true, eq_self, and_self, imp_self]
  have d2 : (y != 0) = false := by rw [c2]; rfl
  by_cases c3 : x3 = true
  case pos =>
    simp only [d1, d2, c3, hst, hl, Bool.true_eq_false, Bool.false_eq_true, false_implies, forall_const, true_and, and_true, beq_self_eq_true, implies_true, Bool.true_or, Bool.not_true, eq_self, and_self, imp_self]
    all_goals (repeat' (first | apply And.intro | intro _))
    all_goals first | with_reducible exact bt0 | with_reducible exact bt0 (by assumption) | omega
  have c3 : x3 = false := by simpa using c3
  by_cases c4 : x4 < U 4
  case pos =>
    have d4 : decide (x4 < U 4) = true := decide_eq_true c4
    have d5 : decide (U 4 > x4) = true := decide_eq_true c4
    simp only [d1, d2, c3, d4, hst, hl, Bool.true_eq_false, Bool.false_eq_true, false_implies, forall_const, true_and, and_true, beq_self_eq_true, implies_true, Bool.false_or, Bool.not_false, eq_self, and_self, imp_self]
    all_goals (repeat' (first | apply And.intro | intro _))
    all_goals first | with_reducible exact bt0 | with_reducible exact bt0 (by assumption) | omega
  have d4 : decide (x4 < U 4) = false := decide_eq_false c4
  have d5 : decide (U 4 > x4) = false := decide_eq_false c4
  simp only [d1, d2, c3, d4, hst, hl, Bool.true_eq_false, Bool.false_eq_true, false_implies, forall_const, true_and, and_true, beq_self_eq_true, implies_true, Bool.false_or, Bool.not_false, eq_self, imp_self]
  have b0 := stE_0 (h1.symm.trans c1)
  have n0 := kyE_0 (b0.2 0 (by decide)).1
  have n1 := kyE_0 (b0.2 1 (by decide)).1
  have n2 := kyE_0 (b0.2 2 (by decide)).1
  have n3 := kyE_0 (b0.2 3 (by decide)).1
  have n4 := kyE_0 (b0.2 4 (by decide)).1
  have n5 := kyE_0 (b0.2 5 (by decide)).1
  have nm := kyE_0 (hy.trans c2)
  have r6 : 0 < m := nm.1
  have r5 : 0 < N 5 + m := Nat.add_pos_left n5.1 _
  have r4 : 0 < N 4 + (N 5 + m) := Nat.add_pos_left n4.1 _
  have r3 : 0 < N 3 + (N 4 + (N 5 + m)) := Nat.add_pos_left n3.1 _
  have r2 : 0 < N 2 + (N 3 + (N 4 + (N 5 + m))) := Nat.add_pos_left n2.1 _
  have r1 : 0 < N 1 + (N 2 + (N 3 + (N 4 + (N 5 + m)))) := Nat.add_pos_left n1.1 _
  have w0 : IntKind.i64.wrap ((0 : Int) + ((N 0 : Nat) : Int)) = ((N 0 : Nat) : Int) := by clear h5 h6 h7 h8 h9 h10 h11 h12 h13 h14 h15 h16 h17 h18 h19 h20 h21 h22 h23 h24 h25 h26 h27 h28 h29 h30 h31 h32 h33 h34 h35 h36 h37 h38 h39 h40 h41 h42 h43 h44 h45 h46 h47 h48 h49 h50 h51 h52 h53; rw [IntKind.wrap_i64]; omega
  have w1 : IntKind.i64.wrap (((N 0 : Nat) : Int) + ((N 1 : Nat) : Int)) = ((N 0 : Nat) : Int) + ((N 1 : Nat) : Int) := by clear h5 h6 h7 h8 h9 h10 h11 h12 h13 h14 h15 h16 h17 h18 h19 h20 h21 h22 h23 h24 h25 h26 h27 h28 h29 h30 h31 h32 h33 h34 h35 h36 h37 h38 h39 h40 h41 h42 h43 h44 h45 h46 h47 h48 h49 h50 h51 h52 h53; rw [IntKind.wrap_i64]; omega
  have w2 : IntKind.i64.wrap (((N 0 : Nat) : Int) + ((N 1 : Nat) : Int) + ((N 2 : Nat) : Int)) = ((N 0 : Nat) : Int) + ((N 1 : Nat) : Int) + ((N 2 : Nat) : Int) := by clear h5 h6 h7 h8 h9 h10 h11 h12 h13 h14 h15 h16 h17 h18 h19 h20 h21 h22 h23 h24 h25 h26 h27 h28 h29 h30 h31 h32 h33 h34 h35 h36 h37 h38 h39 h40 h41 h42 h43 h44 h45 h46 h47 h48 h49 h50 h51 h52 h53; rw [IntKind.wrap_i64]; omega
  have w3 : IntKind.i64.wrap (((N 0 : Nat) : Int) + ((N 1 : Nat) : Int) + ((N 2 : Nat) : Int) + ((N 3 : Nat) : Int)) = ((N 0 : Nat) : Int) + ((N 1 : Nat) : Int) + ((N 2 : Nat) : Int) + ((N 3 : Nat) : Int) := by clear h5 h6 h7 h8 h9 h10 h11 h12 h13 h14 h15 h16 h17 h18 h19 h20 h21 h22 h23 h24 h25 h26 h27 h28 h29 h30 h31 h32 h33 h34 h35 h36 h37 h38 h39 h40 h41 h42 h43 h44 h45 h46 h47 h48 h49 h50 h51 h52 h53; rw [IntKind.wrap_i64]; omega
  have w4 : IntKind.i64.wrap (((N 0 : Nat) : Int) + ((N 1 : Nat) : Int) + ((N 2 : Nat) : Int) + ((N 3 : Nat) : Int) + ((N 4 : Nat) : Int)) = ((N 0 : Nat) : Int) + ((N 1 : Nat) : Int) + ((N 2 : Nat) : Int) + ((N 3 : Nat) : Int) + ((N 4 : Nat) : Int) := by clear h5 h6 h7 h8 h9 h10 h11 h12 h13 h14 h15 h16 h17 h18 h19 h20 h21 h22 h23 h24 h25 h26 h27 h28 h29 h30 h31 h32 h33 h34 h35 h36 h37 h38 h39 h40 h41 h42 h43 h44 h45 h46 h47 h48 h49 h50 h51 h52 h53; rw [IntKind.wrap_i64]; omega
  have w5 : IntKind.i64.wrap (((N 0 : Nat) : Int) + ((N 1 : Nat) : Int) + ((N 2 : Nat) : Int) + ((N 3 : Nat) : Int) + ((N 4 : Nat) : Int) + ((N 5 : Nat) : Int)) = ((N 0 : Nat) : Int) + ((N 1 : Nat) : Int) + ((N 2 : Nat) : Int) + ((N 3 : Nat) : Int) + ((N 4 : Nat) : Int) + ((N 5 : Nat) : Int) := by clear h5 h6 h7 h8 h9 h10 h11 h12 h13 h14 h15 h16 h17 h18 h19 h20 h21 h22 h23 h24 h25 h26 h27 h28 h29 h30 h31 h32 h33 h34 h35 h36 h37 h38 h39 h40 h41 h42 h43 h44 h45 h46 h47 h48 h49 h50 h51 h52 h53; rw [IntKind.wrap_i64]; omega
  have w6 : IntKind.i64.wrap (((N 0 : Nat) : Int) + ((N 1 : Nat) : Int) + ((N 2 : Nat) : Int) + ((N 3 : Nat) : Int) + ((N 4 : Nat) : Int) + ((N 5 : Nat) : Int) + ((m : Nat) : Int)) = ((N 0 : Nat) : Int) + ((N 1 : Nat) : Int) + ((N 2 : Nat) : Int) + ((N 3 : Nat) : Int) + ((N 4 : Nat) : Int) + ((N 5 : Nat) : Int) + ((m : Nat) : Int) := by clear h5 h6 h7 h8 h9 h10 h11 h12 h13 h14 h15 h16 h17 h18 h19 h20 h21 h22 h23 h24 h25 h26 h27 h28 h29 h30 h31 h32 h33 h34 h35 h36 h37 h38 h39 h40 h41 h42 h43 h44 h45 h46 h47 h48 h49 h50 h51 h52 h53; rw [IntKind.wrap_i64]; omega
  have e5 : x5 = ((N 0 + (N 1 + (N 2 + (N 3 + (N 4 + (N 5 + m))))) : Nat) : Int) := by rw [h5, w0, w1, w2, w3, w4, w5, w6]; clear h5 h6 h7 h8 h9 h10 h11 h12 h13 h14 h15 h16 h17 h18 h19 h20 h21 h22 h23 h24 h25 h26 h27 h28 h29 h30 h31 h32 h33 h34 h35 h36 h37 h38 h39 h40 h41 h42 h43 h44 h45 h46 h47 h48 h49 h50 h51 h52 h53; omega
  have e6 : x6 = N 0 + (N 1 + (N 2 + (N 3 + (N 4 + (N 5 + m))))) := by rw [h6, e5]; exact Int.toNat_natCast _
  have e7 : x7 = N 0 := by rw [h7, e6]; first | exact Nat.min_eq_left (Nat.le_add_right _ _) | exact Nat.min_self _
  have e8 : x8 = ((N 0 : Nat) : Int) := by rw [h8, e7]
  have e9 : x9 = ((N 0 + (N 1 + (N 2 + (N 3 + (N 4 + (N 5 + m))))) : Nat) : Int) := by rw [h9, e6]
  have e10 : x10 = N 0 := by rw [h10, e8]; exact Int.toNat_natCast _
  have e11 : x11 = 0 + N 0 := by rw [h11, e6, e10]; exact offS_no r1
  have e12 : x12 = N 1 + (N 2 + (N 3 + (N 4 + (N 5 + m)))) := by rw [h12, e6, e10]; exact Nat.add_sub_cancel_left ..
  have e13 : x13 = N 1 := by rw [h13, e12]; first | exact Nat.min_eq_left (Nat.le_add_right _ _) | exact Nat.min_self _
  have e14 : x14 = ((N 1 : Nat) : Int) := by rw [h14, e13]
  have e15 : x15 = ((N 1 + (N 2 + (N 3 + (N 4 + (N 5 + m)))) : Nat) : Int) := by rw [h15, e12]
  have e16 : x16 = N 1 := by rw [h16, e14]; exact Int.toNat_natCast _
  have e17 : x17 = 0 + N 0 + N 1 := by rw [h17, e12, e16, e11]; exact offS_no r2
  have e18 : x18 = N 2 + (N 3 + (N 4 + (N 5 + m))) := by rw [h18, e12, e16]; exact Nat.add_sub_cancel_left ..
  have e19 : x19 = N 2 := by rw [h19, e18]; first | exact Nat.min_eq_left (Nat.le_add_right _ _) | exact Nat.min_self _
  have e20 : x20 = ((N 2 : Nat) : Int) := by rw [h20, e19]
  have e21 : x21 = ((N 2 + (N 3 + (N 4 + (N 5 + m))) : Nat) : Int) := by rw [h21, e18]
  have e22 : x22 = N 2 := by rw [h22, e20]; exact Int.toNat_natCast _
  have e23 : x23 = 0 + N 0 + N 1 + N 2 := by rw [h23, e18, e22, e17]; exact offS_no r3
  have e24 : x24 = N 3 + (N 4 + (N 5 + m)) := by rw [h24, e18, e22]; exact Nat.add_sub_cancel_left ..
  have e25 : x25 = N 3 := by rw [h25, e24]; first | exact Nat.min_eq_left (Nat.le_add_right _ _) | exact Nat.min_self _
  have e26 : x26 = ((N 3 : Nat) : Int) := by rw [h26, e25]
  have e27 : x27 = ((N 3 + (N 4 + (N 5 + m)) : Nat) : Int) := by rw [h27, e24]
  have e28 : x28 = N 3 := by rw [h28, e26]; exact Int.toNat_natCast _
  have e29 : x29 = 0 + N 0 + N 1 + N 2 + N 3 := by rw [h29, e24, e28, e23]; exact offS_no r4
  have e30 : x30 = N 4 + (N 5 + m) := by rw [h30, e24, e28]; exact Nat.add_sub_cancel_left ..
  have e31 : x31 = N 4 := by rw [h31, e30]; first | exact Nat.min_eq_left (Nat.le_add_right _ _) | exact Nat.min_self _
  have e32 : x32 = ((N 4 : Nat) : Int) := by rw [h32, e31]
  have e33 : x33 = ((N 4 + (N 5 + m) : Nat) : Int) := by rw [h33, e30]
  have e34 : x34 = N 4 := by rw [h34, e32]; exact Int.toNat_natCast _
  have e35 : x35 = 0 + N 0 + N 1 + N 2 + N 3 + N 4 := by rw [h35, e30, e34, e29]; exact offS_no r5
  have e36 : x36 = N 5 + m := by rw [h36, e30, e34]; exact Nat.add_sub_cancel_left ..
  have e37 : x37 = N 5 := by rw [h37, e36]; first | exact Nat.min_eq_left (Nat.le_add_right _ _) | exact Nat.min_self _
  have e38 : x38 = ((N 5 : Nat) : Int) := by rw [h38, e37]
  have e39 : x39 = ((N 5 + m : Nat) : Int) := by rw [h39, e36]
  have e40 : x40 = N 5 := by rw [h40, e38]; exact Int.toNat_natCast _
  have e41 : x41 = 0 + N 0 + N 1 + N 2 + N 3 + N 4 + N 5 := by rw [h41, e36, e40, e35]; exact offS_no r6
  have e42 : x42 = m := by rw [h42, e36, e40]; exact Nat.add_sub_cancel_left ..
  have e43 : x43 = m := by rw [h43, e42]; first | exact Nat.min_eq_left (Nat.le_add_right _ _) | exact Nat.min_self _
  have e44 : x44 = ((m : Nat) : Int) := by rw [h44, e43]
  have e45 : x45 = ((m : Nat) : Int) := by rw [h45, e42]
  have e46 : x46 = 0 + N 0 + N 1 + N 2 + N 3 + N 4 + N 5 + m := by rw [h46, e41, e43]
  have e47 : x47 = 0 + N 0 + N 1 + N 2 + N 3 + N 4 + N 5 := by rw [h47, e35, e37]
  have e48 : x48 = 0 + N 0 + N 1 + N 2 + N 3 + N 4 := by rw [h48, e29, e31]
  have e49 : x49 = 0 + N 0 + N 1 + N 2 + N 3 := by rw [h49, e23, e25]
  have e50 : x50 = 0 + N 0 + N 1 + N 2 := by rw [h50, e17, e19]
  have e51 : x51 = 0 + N 0 + N 1 := by rw [h51, e11, e13]
  have e52 : x52 = 0 + N 0 := by rw [h52, e7]
  have e53 : x53 = m := by rw [h53, e44]; exact Int.toNat_natCast _
  clear h5 h6 h7 h8 h9 h10 h11 h12 h13 h14 h15 h16 h17 h18 h19 h20 h21 h22 h23 h24 h25 h26 h27 h28 h29 h30 h31 h32 h33 h34 h35 h36 h37 h38 h39 h40 h41 h42 h43 h44 h45 h46 h47 h48 h49 h50 h51 h52 h53 w0 w1 w2 w3 w4 w5 w6
  subst e5 e6 e7 e8 e9 e10 e11 e12 e13 e14 e15 e16 e17 e18 e19 e20 e21 e22 e23 e24 e25 e26 e27 e28 e29 e30 e31 e32 e33 e34 e35 e36 e37 e38 e39 e40 e41 e42 e43 e44 e45 e46 e47 e48 e49 e50 e51 e52 e53
  clear r1 r2 r3 r4 r5 r6
  clear b0 hst h1 h2 h3 h4 k2 d1 d2 c2 d4 d5
  repeat' (first | apply And.intro | intro _)
  all_goals first
    | with_reducible exact bt0
    | with_reducible exact bt0 (by assumption)
    | omega
    | (refine sq_of (hk 0 (by decide)) (by omega) fun i hi c hc => ?_
       repeat (refine (selc_no (by omega)).trans ?_)
       refine (selc_yes (by omega) (by omega)).trans ?_
       exact cellk (by omega))
    | (refine sq_of (hk 1 (by decide)) (by omega) fun i hi c hc => ?_
       repeat (refine (selc_no (by omega)).trans ?_)
       refine (selc_yes (by omega) (by omega)).trans ?_
       exact cellk (by omega))
    | (refine sq_of (hk 2 (by decide)) (by omega) fun i hi c hc => ?_
       repeat (refine (selc_no (by omega)).trans ?_)
       refine (selc_yes (by omega) (by omega)).trans ?_
       exact cellk (by omega))
    | (refine sq_of (hk 3 (by decide)) (by omega) fun i hi c hc => ?_
       repeat (refine (selc_no (by omega)).trans ?_)
       refine (selc_yes (by omega) (by omega)).trans ?_
       exact cellk (by omega))
    | (refine sq_of (hk 4 (by decide)) (by omega) fun i hi c hc => ?_
       repeat (refine (selc_no (by omega)).trans ?_)
       refine (selc_yes (by omega) (by omega)).trans ?_
       exact cellk (by omega))
    | (refine sq_of (hk 5 (by decide)) (by omega) fun i hi c hc => ?_
       repeat (refine (selc_no (by omega)).trans ?_)
       refine (selc_yes (by omega) (by omega)).trans ?_
       exact cellk (by omega))
    | (refine sq_of (hl) (by omega) fun i hi c hc => ?_
       repeat (refine (selc_no (by omega)).trans ?_)
       refine (selc_yes (by omega) (by omega)).trans ?_
       exact cellk (by omega))
theorem ok_tu7 (a : Option Addr) (cap : Nat) (I U : Nat → Int) (A : Nat → Option Addr) (N C : Nat → Nat) (K : Nat → Nat → Nat → Int) (b : Option Addr) (m cb : Nat) (l : Nat → Nat → Int) (now : Int) (hcap : 7 ≤ cap) (hk : ∀ i, i < 7 → kyP (A i) (N i) (u8F (K i))) (hl : kyP b m (u8F l)) (_ : i64ok now) :
    OwesV Try.prog cxTu slTu [] 30 Try.f7 [sXs a 7 cap I U A N C K, sXk b m cb l, sI .i64 now] yes := by
  rw [vc_tu7]
  intro x1 x2 x3 x4 x5 x6 x7 x8 x9 x10 x11 x12 x13 x14 x15 x16 x17 x18 x19 x20 x21 x22 x23 x24 x25 x26 x27 x28 x29 x30 x31 x32 x33 x34 x35 x36 x37 x38 x39 x40 x41 x42 x43 x44 x45 x46 x47 x48 x49 x50 x51 x52 x53 x54 x55 x56 x57 x58 x59 x60
  have hst : stP 7 (setF I U A N C K) := stP_set (by decide) hk
  have h1 : x1 = stE 7 I U N K := rfl
  have h2 : x2 = (decide (now < (1 : Int))) := rfl
  have h3 : x3 = (x2 || decide (now > (1099511627776 : Int))) := rfl
  have h4 : x4 = (IntKind.i64.wrap (now + (24 : Int))) := rfl
  have h5 : x5 = (IntKind.i64.wrap (IntKind.i64.wrap (IntKind.i64.wrap (IntKind.i64.wrap (IntKind.i64.wrap (IntKind.i64.wrap (IntKind.i64.wrap (IntKind.i64.wrap ((0 : Int) + (↑(N (0 : Nat)) : Int)) + (↑(N (1 : Nat)) : Int)) + (↑(N (2 : Nat)) : Int)) + (↑(N (3 : Nat)) : Int)) + (↑(N (4 : Nat)) : Int)) + (↑(N (5 : Nat)) : Int)) + (↑(N (6 : Nat)) : Int)) + (↑m : Int))) := rfl
  have h6 : x6 = (x5.toNat) := rfl
  have h7 : x7 = ((N (0 : Nat)).min x6) := rfl
  have h8 : x8 = ((↑x7 : Int)) := rfl
  have h9 : x9 = ((↑x6 : Int)) := rfl
  have h10 : x10 = (x8.toNat) := rfl
  have h11 : x11 = (offS x6 x10 (0 : Nat)) := rfl
  have h12 : x12 = (x6 - x10) := rfl
  have h13 : x13 = ((N (1 : Nat)).min x12) := rfl
  have h14 : x14 = ((↑x13 : Int)) := rfl
  have h15 : x15 = ((↑x12 : Int)) := rfl
  have h16 : x16 = (x14.toNat) := rfl
  have h17 : x17 = (offS x12 x16 x11) := rfl
  have h18 : x18 = (x12 - x16) := rfl
  have h19 : x19 = ((N (2 : Nat)).min x18) := rfl
  have h20 : x20 = ((↑x19 : Int)) := rfl
  have h21 : x21 = ((↑x18 : Int)) := rfl
  have h22 : x22 = (x20.toNat) := rfl
  have h23 : x23 = (offS x18 x22 x17) := rfl
  have h24 : x24 = (x18 - x22) := rfl
  have h25 : x25 = ((N (3 : Nat)).min x24) := rfl
  have h26 : x26 = ((↑x25 : Int)) := rfl
  have h27 : x27 = ((↑x24 : Int)) := rfl
  have h28 : x28 = (x26.toNat) := rfl
  have h29 : x29 = (offS x24 x28 x23) := rfl
  have h30 : x30 = (x24 - x28) := rfl
  have h31 : x31 = ((N (4 : Nat)).min x30) := rfl
  have h32 : x32 = ((↑x31 : Int)) := rfl
  have h33 : x33 = ((↑x30 : Int)) := rfl
  have h34 : x34 = (x32.toNat) := rfl
  have h35 : x35 = (offS x30 x34 x29) := rfl
  have h36 : x36 = (x30 - x34) := rfl
  have h37 : x37 = ((N (5 : Nat)).min x36) := rfl
  have h38 : x38 = ((↑x37 : Int)) := rfl
  have h39 : x39 = ((↑x36 : Int)) := rfl
  have h40 : x40 = (x38.toNat) := rfl
  have h41 : x41 = (offS x36 x40 x35) := rfl
  have h42 : x42 = (x36 - x40) := rfl
  have h43 : x43 = ((N (6 : Nat)).min x42) := rfl
  have h44 : x44 = ((↑x43 : Int)) := rfl
  have h45 : x45 = ((↑x42 : Int)) := rfl
  have h46 : x46 = (x44.toNat) := rfl
  have h47 : x47 = (offS x42 x46 x41) := rfl
  have h48 : x48 = (x42 - x46) := rfl
  have h49 : x49 = (m.min x48) := rfl
  have h50 : x50 = ((↑x49 : Int)) := rfl
  have h51 : x51 = ((↑x48 : Int)) := rfl
  have h52 : x52 = (x47 + x49) := rfl
  have h53 : x53 = (x41 + x43) := rfl
  have h54 : x54 = (x35 + x37) := rfl
  have h55 : x55 = (x29 + x31) := rfl
  have h56 : x56 = (x23 + x25) := rfl
  have h57 : x57 = (x17 + x19) := rfl
  have h58 : x58 = (x11 + x13) := rfl
  have h59 : x59 = ((0 : Nat) + x7) := rfl
  have h60 : x60 = (x50.toNat) := rfl
  clear_value x1 x2 x3 x4 x5 x6 x7 x8 x9 x10 x11 x12 x13 x14 x15 x16 x17 x18 x19 x20 x21 x22 x23 x24 x25 x26 x27 x28 x29 x30 x31 x32 x33 x34 x35 x36 x37 x38 x39 x40 x41 x42 x43 x44 x45 x46 x47 x48 x49 x50 x51 x52 x53 x54 x55 x56 x57 x58 x59 x60
  have k2 : ∀ k : Nat → Nat → Int, kOf (u8F k) = k := fun _ => rfl
  simp only [k2]
  generalize hy : kyE m l = y
  by_cases c1 : x1 = 0
  case neg =>
    have d1 : (x1 != 0) = true := by simpa using c1
    simp only [d1, hst, hl, Bool.true_eq_false, Bool.false_eq_true, false_implies, forall_const, true_and, and_true, beq_self_eq_true, implies_true, eq_self, and_self, imp_self]
  have d1 : (x1 != 0) = false := by rw [c1]; rfl
  by_cases c2 : y = 0
  case neg =>
    have d2 : (y != 0) = true := by simpa using c2
    simp only [d1, d2, hst, hl, Bool.true_eq_false, Bool.false_eq_true, false_implies, forall_const, true_and, and_true, beq_self_eq_true, implies_true, eq_self, and_self, imp_self]
  have d2 : (y != 0) = false := by rw [c2]; rfl
  by_cases c3 : x3 = true
  case pos =>
    simp only [d1, d2, c3, hst, hl, Bool.true_eq_false, Bool.false_eq_true, false_implies, forall_const, true_and, and_true, beq_self_eq_true, implies_true, Bool.true_or, Bool.not_true, eq_self, and_self, imp_self]
    all_goals (repeat' (first | apply And.intro | intro _))
    all_goals first | with_reducible exact bt0 | with_reducible exact bt0 (by assumption) | omega
  have c3 : x3 = false := by simpa using c3
  by_cases c4 : x4 < U 5
  case pos =>
    have d4 : decide (x4 < U 5) = true := decide_eq_true c4
    have d5 : decide (U 5 > x4) = true := decide_eq_true c4
    simp only [d1, d2, c3, d4, hst, hl, Bool.true_eq_false, Bool.false_eq_true, false_implies, forall_const, true_and, and_true, beq_self_eq_true, implies_true, Bool.false_or, Bool.not_false, eq_self, and_self, imp_self]
    all_goals (repeat' (first | apply And.intro | intro _))
    all_goals first | with_reducible exact bt0 | with_reducible exact bt0 (by assumption) | omega
  have d4 : decide (x4 < U 5) = false := decide_eq_false c4
  have d5 : decide (U 5 > x4) = false := decide_eq_false c4
  simp only [d1, d2, c3, d4, hst, hl, Bool.true_eq_false, Bool.false_eq_true, false_implies, forall_const, true_and, and_true, beq_self_eq_true, implies_true, Bool.false_or, Bool.not_false, eq_self, imp_self]
  have b0 := stE_0 (h1.symm.trans c1)
  have n0 := kyE_0 (b0.2 0 (by decide)).1
  have n1 := kyE_0 (b0.2 1 (by decide)).1
  have n2 := kyE_0 (b0.2 2 (by decide)).1
  have n3 := kyE_0 (b0.2 3 (by decide)).1
  have n4 := kyE_0 (b0.2 4 (by decide)).1
  have n5 := kyE_0 (b0.2 5 (by decide)).1
  have n6 := kyE_0 (b0.2 6 (by decide)).1
  have nm := kyE_0 (hy.trans c2)
  have r7 : 0 < m := nm.1
  have r6 : 0 < N 6 + m := Nat.add_pos_left n6.1 _
  have r5 : 0 < N 5 + (N 6 + m) := Nat.add_pos_left n5.1 _
  have r4 : 0 < N 4 + (N 5 + (N 6 + m)) := Nat.add_pos_left n4.1 _
  have r3 : 0 < N 3 + (N 4 + (N 5 + (N 6 + m))) := Nat.add_pos_left n3.1 _
  have r2 : 0 < N 2 + (N 3 + (N 4 + (N 5 + (N 6 + m)))) := Nat.add_pos_left n2.1 _
  have r1 : 0 < N 1 + (N 2 + (N 3 + (N 4 + (N 5 + (N 6 + m))))) := Nat.add_pos_left n1.1 _
  have w0 : IntKind.i64.wrap ((0 : Int) + ((N 0 : Nat) : Int)) = ((N 0 : Nat) : Int) := by clear h5 h6 h7 h8 h9 h10 h11 h12 h13 h14 h15 h16 h17 h18 h19 h20 h21 h22 h23 h24 h25 h26 h27 h28 h29 h30 h31 h32 h33 h34 h35 h36 h37 h38 h39 h40 h41 h42 h43 h44 h45 h46 h47 h48 h49 h50 h51 h52 h53 h54 h55 h56 h57 h58 h59 h60; rw [IntKind.wrap_i64]; omega
  have w1 : IntKind.i64.wrap (((N 0 : Nat) : Int) + ((N 1 : Nat) : Int)) = ((N 0 : Nat) : Int) + ((N 1 : Nat) : Int) := by clear h5 h6 h7 h8 h9 h10 h11 h12 h13 h14 h15 h16 h17 h18 h19 h20 h21 h22 h23 h24 h25 h26 h27 h28 h29 h30 h31 h32 h33 h34 h35 h36 h37 h38 h39 h40 h41 h42 h43 h44 h45 h46 h47 h48 h49 h50 h51 h52 h53 h54 h55 h56 h57 h58 h59 h60; rw [IntKind.wrap_i64]; omega
  have w2 : IntKind.i64.wrap (((N 0 : Nat) : Int) + ((N 1 : Nat) : Int) + ((N 2 : Nat) : Int)) = ((N 0 : Nat) : Int) + ((N 1 : Nat) : Int) + ((N 2 : Nat) : Int) := by clear h5 h6 h7 h8 h9 h10 h11 h12 h13 h14 h15 h16 h17 h18 h19 h20 h21 h22 h23 h24 h25 h26 h27 h28 h29 h30 h31 h32 h33 h34 h35 h36 h37 h38 h39 h40 h41 h42 h43 h44 h45 h46 h47 h48 h49 h50 h51 h52 h53 h54 h55 h56 h57 h58 h59 h60; rw [IntKind.wrap_i64]; omega
  have w3 : IntKind.i64.wrap (((N 0 : Nat) : Int) + ((N 1 : Nat) : Int) + ((N 2 : Nat) : Int) + ((N 3 : Nat) : Int)) = ((N 0 : Nat) : Int) + ((N 1 : Nat) : Int) + ((N 2 : Nat) : Int) + ((N 3 : Nat) : Int) := by clear h5 h6 h7 h8 h9 h10 h11 h12 h13 h14 h15 h16 h17 h18 h19 h20 h21 h22 h23 h24 h25 h26 h27 h28 h29 h30 h31 h32 h33 h34 h35 h36 h37 h38 h39 h40 h41 h42 h43 h44 h45 h46 h47 h48 h49 h50 h51 h52 h53 h54 h55 h56 h57 h58 h59 h60; rw [IntKind.wrap_i64]; omega
  have w4 : IntKind.i64.wrap (((N 0 : Nat) : Int) + ((N 1 : Nat) : Int) + ((N 2 : Nat) : Int) + ((N 3 : Nat) : Int) + ((N 4 : Nat) : Int)) = ((N 0 : Nat) : Int) + ((N 1 : Nat) : Int) + ((N 2 : Nat) : Int) + ((N 3 : Nat) : Int) + ((N 4 : Nat) : Int) := by clear h5 h6 h7 h8 h9 h10 h11 h12 h13 h14 h15 h16 h17 h18 h19 h20 h21 h22 h23 h24 h25 h26 h27 h28 h29 h30 h31 h32 h33 h34 h35 h36 h37 h38 h39 h40 h41 h42 h43 h44 h45 h46 h47 h48 h49 h50 h51 h52 h53 h54 h55 h56 h57 h58 h59 h60; rw [IntKind.wrap_i64]; omega
  have w5 : IntKind.i64.wrap (((N 0 : Nat) : Int) + ((N 1 : Nat) : Int) + ((N 2 : Nat) : Int) + ((N 3 : Nat) : Int) + ((N 4 : Nat) : Int) + ((N 5 : Nat) : Int)) = ((N 0 : Nat) : Int) + ((N 1 : Nat) : Int) + ((N 2 : Nat) : Int) + ((N 3 : Nat) : Int) + ((N 4 : Nat) : Int) + ((N 5 : Nat) : Int) := by clear h5 h6 h7 h8 h9 h10 h11 h12 h13 h14 h15 h16 h17 h18 h19 h20 h21 h22 h23 h24 h25 h26 h27 h28 h29 h30 h31 h32 h33 h34 h35 h36 h37 h38 h39 h40 h41 h42 h43 h44 h45 h46 h47 h48 h49 h50 h51 h52 h53 h54 h55 h56 h57 h58 h59 h60; rw [IntKind.wrap_i64]; omega
  have w6 : IntKind.i64.wrap (((N 0 : Nat) : Int) + ((N 1 : Nat) : Int) + ((N 2 : Nat) : Int) + ((N 3 : Nat) : Int) + ((N 4 : Nat) : Int) + ((N 5 : Nat) : Int) + ((N 6 : Nat) : Int)) = ((N 0 : Nat) : Int) + ((N 1 : Nat) : Int) + ((N 2 : Nat) : Int) + ((N 3 : Nat) : Int) + ((N 4 : Nat) : Int) + ((N 5 : Nat) : Int) + ((N 6 : Nat) : Int) := by clear h5 h6 h7 h8 h9 h10 h11 h12 h13 h14 h15 h16 h17 h18 h19 h20 h21 h22 h23 h24 h25 h26 h27 h28 h29 h30 h31 h32 h33 h34 h35 h36 h37 h38 h39 h40 h41 h42 h43 h44 h45 h46 h47 h48 h49 h50 h51 h52 h53 h54 h55 h56 h57 h58 h59 h60; rw [IntKind.wrap_i64]; omega
  have w7 : IntKind.i64.wrap (((N 0 : Nat) : Int) + ((N 1 : Nat) : Int) + ((N 2 : Nat) : Int) + ((N 3 : Nat) : Int) + ((N 4 : Nat) : Int) + ((N 5 : Nat) : Int) + ((N 6 : Nat) : Int) + ((m : Nat) : Int)) = ((N 0 : Nat) : Int) + ((N 1 : Nat) : Int) + ((N 2 : Nat) : Int) + ((N 3 : Nat) : Int) + ((N 4 : Nat) : Int) + ((N 5 : Nat) : Int) + ((N 6 : Nat) : Int) + ((m : Nat) : Int) := by clear h5 h6 h7 h8 h9 h10 h11 h12 h13 h14 h15 h16 h17 h18 h19 h20 h21 h22 h23 h24 h25 h26 h27 h28 h29 h30 h31 h32 h33 h34 h35 h36 h37 h38 h39 h40 h41 h42 h43 h44 h45 h46 h47 h48 h49 h50 h51 h52 h53 h54 h55 h56 h57 h58 h59 h60; rw [IntKind.wrap_i64]; omega
  have e5 : x5 = ((N 0 + (N 1 + (N 2 + (N 3 + (N 4 + (N 5 + (N 6 + m)))))) : Nat) : Int) := by rw [h5, w0, w1, w2, w3, w4, w5, w6, w7]; clear h5 h6 h7 h8 h9 h10 h11 h12 h13 h14 h15 h16 h17 h18 h19 h20 h21 h22 h23 h24 h25 h26 h27 h28 h29 h30 h31 h32 h33 h34 h35 h36 h37 h38 h39 h40 h41 h42 h43 h44 h45 h46 h47 h48 h49 h50 h51 h52 h53 h54 h55 h56 h57 h58 h59 h60; omega
  have e6 : x6 = N 0 + (N 1 + (N 2 + (N 3 + (N 4 + (N 5 + (N 6 + m)))))) := by rw [h6, e5]; exact Int.toNat_natCast _
  have e7 : x7 = N 0 := by rw [h7, e6]; first | exact Nat.min_eq_left (Nat.le_add_right _ _) | exact Nat.min_self _
  have e8 : x8 = ((N 0 : Nat) : Int) := by rw [h8, e7]
  have e9 : x9 = ((N 0 + (N 1 + (N 2 + (N 3 + (N 4 + (N 5 + (N 6 + m)))))) : Nat) : Int) := by rw [h9, e6]
  have e10 : x10 = N 0 := by rw [h10, e8]; exact Int.toNat_natCast _
  have e11 : x11 = 0 + N 0 := by rw [h11, e6, e10]; exact offS_no r1
  have e12 : x12 = N 1 + (N 2 + (N 3 + (N 4 + (N 5 + (N 6 + m))))) := by rw [h12, e6, e10]; exact Nat.add_sub_cancel_left ..
  have e13 : x13 = N 1 := by rw [h13, e12]; first | exact Nat.min_eq_left (Nat.le_add_right _ _) | exact Nat.min_self _
  have e14 : x14 = ((N 1 : Nat) : Int) := by rw [h14, e13]
  have e15 : x15 = ((N 1 + (N 2 + (N 3 + (N 4 + (N 5 + (N 6 + m))))) : Nat) : Int) := by rw [h15, e12]
  have e16 : x16 = N 1 := by rw [h16, e14]; exact Int.toNat_natCast _
  have e17 : x17 = 0 + N 0 + N 1 := by rw [h17, e12, e16, e11]; exact offS_no r2
  have e18 : x18 = N 2 + (N 3 + (N 4 + (N 5 + (N 6 + m)))) := by rw [h18, e12, e16]; exact Nat.add_sub_cancel_left ..
  have e19 : x19 = N 2 := by rw [h19, e18]; first | exact Nat.min_eq_left (Nat.le_add_right _ _) | exact Nat.min_self _
  have e20 : x20 = ((N 2 : Nat) : Int) := by rw [h20, e19]
  have e21 : x21 = ((N 2 + (N 3 + (N 4 + (N 5 + (N 6 + m)))) : Nat) : Int) := by rw [h21, e18]
  have e22 : x22 = N 2 := by rw [h22, e20]; exact Int.toNat_natCast _
  have e23 : x23 = 0 + N 0 + N 1 + N 2 := by rw [h23, e18, e22, e17]; exact offS_no r3
  have e24 : x24 = N 3 + (N 4 + (N 5 + (N 6 + m))) := by rw [h24, e18, e22]; exact Nat.add_sub_cancel_left ..
  have e25 : x25 = N 3 := by rw [h25, e24]; first | exact Nat.min_eq_left (Nat.le_add_right _ _) | exact Nat.min_self _
  have e26 : x26 = ((N 3 : Nat) : Int) := by rw [h26, e25]
  have e27 : x27 = ((N 3 + (N 4 + (N 5 + (N 6 + m))) : Nat) : Int) := by rw [h27, e24]
  have e28 : x28 = N 3 := by rw [h28, e26]; exact Int.toNat_natCast _
  have e29 : x29 = 0 + N 0 + N 1 + N 2 + N 3 := by rw [h29, e24, e28, e23]; exact offS_no r4
  have e30 : x30 = N 4 + (N 5 + (N 6 + m)) := by rw [h30, e24, e28]; exact Nat.add_sub_cancel_left ..
  have e31 : x31 = N 4 := by rw [h31, e30]; first | exact Nat.min_eq_left (Nat.le_add_right _ _) | exact Nat.min_self _
  have e32 : x32 = ((N 4 : Nat) : Int) := by rw [h32, e31]
  have e33 : x33 = ((N 4 + (N 5 + (N 6 + m)) : Nat) : Int) := by rw [h33, e30]
  have e34 : x34 = N 4 := by rw [h34, e32]; exact Int.toNat_natCast _
  have e35 : x35 = 0 + N 0 + N 1 + N 2 + N 3 + N 4 := by rw [h35, e30, e34, e29]; exact offS_no r5
  have e36 : x36 = N 5 + (N 6 + m) := by rw [h36, e30, e34]; exact Nat.add_sub_cancel_left ..
  have e37 : x37 = N 5 := by rw [h37, e36]; first | exact Nat.min_eq_left (Nat.le_add_right _ _) | exact Nat.min_self _
  have e38 : x38 = ((N 5 : Nat) : Int) := by rw [h38, e37]
  have e39 : x39 = ((N 5 + (N 6 + m) : Nat) : Int) := by rw [h39, e36]
  have e40 : x40 = N 5 := by rw [h40, e38]; exact Int.toNat_natCast _
  have e41 : x41 = 0 + N 0 + N 1 + N 2 + N 3 + N 4 + N 5 := by rw [h41, e36, e40, e35]; exact offS_no r6
  have e42 : x42 = N 6 + m := by rw [h42, e36, e40]; exact Nat.add_sub_cancel_left ..
  have e43 : x43 = N 6 := by rw [h43, e42]; first | exact Nat.min_eq_left (Nat.le_add_right _ _) | exact Nat.min_self _
  have e44 : x44 = ((N 6 : Nat) : Int) := by rw [h44, e43]
  have e45 : x45 = ((N 6 + m : Nat) : Int) := by rw [h45, e42]
  have e46 : x46 = N 6 := by rw [h46, e44]; exact Int.toNat_natCast _
  have e47 : x47 = 0 + N 0 + N 1 + N 2 + N 3 + N 4 + N 5 + N 6 := by rw [h47, e42, e46, e41]; exact offS_no r7
  have e48 : x48 = m := by rw [h48, e42, e46]; exact Nat.add_sub_cancel_left ..
  have e49 : x49 = m := by rw [h49, e48]; first | exact Nat.min_eq_left (Nat.le_add_right _ _) | exact Nat.min_self _
  have e50 : x50 = ((m : Nat) : Int) := by rw [h50, e49]
  have e51 : x51 = ((m : Nat) : Int) := by rw [h51, e48]
  have e52 : x52 = 0 + N 0 + N 1 + N 2 + N 3 + N 4 + N 5 + N 6 + m := by rw [h52, e47, e49]
  have e53 : x53 = 0 + N 0 + N 1 + N 2 + N 3 + N 4 + N 5 + N 6 := by rw [h53, e41, e43]
  have e54 : x54 = 0 + N 0 + N 1 + N 2 + N 3 + N 4 + N 5 := by rw [h54, e35, e37]
  have e55 : x55 = 0 + N 0 + N 1 + N 2 + N 3 + N 4 := by rw [h55, e29, e31]
  have e56 : x56 = 0 + N 0 + N 1 + N 2 + N 3 := by rw [h56, e23, e25]
  have e57 : x57 = 0 + N 0 + N 1 + N 2 := by rw [h57, e17, e19]
  have e58 : x58 = 0 + N 0 + N 1 := by rw [h58, e11, e13]
  have e59 : x59 = 0 + N 0 := by rw [h59, e7]
  have e60 : x60 = m := by rw [h60, e50]; exact Int.toNat_natCast _
  clear h5 h6 h7 h8 h9 h10 h11 h12 h13 h14 h15 h16 h17 h18 h19 h20 h21 h22 h23 h24 h25 h26 h27 h28 h29 h30 h31 h32 h33 h34 h35 h36 h37 h38 h39 h40 h41 h42 h43 h44 h45 h46 h47 h48 h49 h50 h51 h52 h53 h54 h55 h56 h57 h58 h59 h60 w0 w1 w2 w3 w4 w5 w6 w7
  subst e5 e6 e7 e8 e9 e10 e11 e12 e13 e14 e15 e16 e17 e18 e19 e20 e21 e22 e23 e24 e25 e26 e27 e28 e29 e30 e31 e32 e33 e34 e35 e36 e37 e38 e39 e40 e41 e42 e43 e44 e45 e46 e47 e48 e49 e50 e51 e52 e53 e54 e55 e56 e57 e58 e59 e60
  clear r1 r2 r3 r4 r5 r6 r7
  clear b0 hst h1 h2 h3 h4 k2 d1 d2 c2 d4 d5
  repeat' (first | apply And.intro | intro _)
  all_goals first
    | with_reducible exact bt0
    | with_reducible exact bt0 (by assumption)
    | omega
    | (refine sq_of (hk 0 (by decide)) (by omega) fun i hi c hc => ?_
       repeat (refine (selc_no (by omega)).trans ?_)
       refine (selc_yes (by omega) (by omega)).trans ?_
       exact cellk (by omega))
    | (refine sq_of (hk 1 (by decide)) (by omega) fun i hi c hc => ?_
       repeat (refine (selc_no (by omega)).trans ?_)
       refine (selc_yes (by omega) (by omega)).trans ?_
       exact cellk (by omega))
    | (refine sq_of (hk 2 (by decide)) (by omega) fun i hi c hc => ?_
       repeat (refine (selc_no (by omega)).trans ?_)
       refine (selc_yes (by omega) (by omega)).trans ?_
       exact cellk (by omega))
    | (refine sq_of (hk 3 (by decide)) (by omega) fun i hi c hc => ?_
       repeat (refine (selc_no (by omega)).trans ?_)
       refine (selc_yes (by omega) (by omega)).trans ?_
       exact cellk (by omega))
    | (refine sq_of (hk 4 (by decide)) (by omega) fun i hi c hc => ?_
       repeat (refine (selc_no (by omega)).trans ?_)
       refine (selc_yes (by omega) (by omega)).trans ?_
       exact cellk (by omega))
    | (refine sq_of (hk 5 (by decide)) (by omega) fun i hi c hc => ?_
       repeat (refine (selc_no (by omega)).trans ?_)
       refine (selc_yes (by omega) (by omega)).trans ?_
       exact cellk (by omega))
    | (refine sq_of (hk 6 (by decide)) (by omega) fun i hi c hc => ?_
       repeat (refine (selc_no (by omega)).trans ?_)
       refine (selc_yes (by omega) (by omega)).trans ?_
       exact cellk (by omega))
    | (refine sq_of (hl) (by omega) fun i hi c hc => ?_
       repeat (refine (selc_no (by omega)).trans ?_)
       refine (selc_yes (by omega) (by omega)).trans ?_
       exact cellk (by omega))
theorem ok_tu8 (a : Option Addr) (cap : Nat) (I U : Nat → Int) (A : Nat → Option Addr) (N C : Nat → Nat) (K : Nat → Nat → Nat → Int) (b : Option Addr) (m cb : Nat) (l : Nat → Nat → Int) (now : Int) (_ : 8 ≤ cap) (hk : ∀ i, i < 8 → kyP (A i) (N i) (u8F (K i))) (hl : kyP b m (u8F l)) (_ : i64ok now) :
    OwesV Try.prog cxTu slTu [] 30 Try.f7 [sXs a 8 cap I U A N C K, sXk b m cb l, sI .i64 now] yes := by
  rw [vc_tu8]
  intro x1 x2 x3 x4
  have hst : stP 8 (setF I U A N C K) := stP_set (by decide) hk
  have h1 : x1 = stE 8 I U N K := rfl
  have h2 : x2 = (decide (now < (1 : Int))) := rfl
  have h3 : x3 = (x2 || decide (now > (1099511627776 : Int))) := rfl
  have h4 : x4 = (IntKind.i64.wrap (now + (24 : Int))) := rfl
  clear_value x1 x2 x3 x4
  have k2 : ∀ k : Nat → Nat → Int, kOf (u8F k) = k := fun _ => rfl
  simp only [k2]
  generalize hy : kyE m l = y
  by_cases c1 : x1 = 0
  case neg =>
    have d1 : (x1 != 0) = true := by simpa using c1
    simp only [d1, hst, hl, Bool.true_eq_false, Bool.false_eq_true, false_implies, forall_const, true_and, and_true, beq_self_eq_true, implies_true, eq_self, and_self, imp_self, Int.reduceBEq]
  have d1 : (x1 != 0) = false := by rw [c1]; rfl
  by_cases c2 : y = 0
  case neg =>
    have d2 : (y != 0) = true := by simpa using c2
    simp only [d1, d2, hst, hl, Bool.true_eq_false, Bool.false_eq_true, false_implies, forall_const, true_and, and_true, beq_self_eq_true, implies_true, eq_self, and_self, imp_self, Int.reduceBEq]
  have d2 : (y != 0) = false := by rw [c2]; rfl
  by_cases c3 : x3 = true
  case pos =>
    simp only [d1, d2, c3, hst, hl, Bool.true_eq_false, Bool.false_eq_true, false_implies, forall_const, true_and, and_true, beq_self_eq_true, implies_true, Bool.true_or, Bool.not_true, eq_self, and_self, imp_self, Int.reduceBEq]
    all_goals (repeat' (first | apply And.intro | intro _))
    all_goals first | with_reducible exact bt0 | with_reducible exact bt0 (by assumption) | omega
  have c3 : x3 = false := by simpa using c3
  by_cases c4 : x4 < U 6
  case pos =>
    have d4 : decide (x4 < U 6) = true := decide_eq_true c4
    have d5 : decide (U 6 > x4) = true := decide_eq_true c4
    simp only [d1, d2, c3, d4, hst, hl, Bool.true_eq_false, Bool.false_eq_true, false_implies, forall_const, true_and, and_true, beq_self_eq_true, implies_true, Bool.false_or, Bool.not_false, eq_self, and_self, imp_self, Int.reduceBEq]
    all_goals (repeat' (first | apply And.intro | intro _))
    all_goals first | with_reducible exact bt0 | with_reducible exact bt0 (by assumption) | omega
  have d4 : decide (x4 < U 6) = false := decide_eq_false c4
  have d5 : decide (U 6 > x4) = false := decide_eq_false c4
  simp only [d1, d2, c3, d4, hst, hl, Bool.true_eq_false, Bool.false_eq_true, false_implies, forall_const, true_and, and_true, beq_self_eq_true, implies_true, Bool.false_or, Bool.not_false, eq_self, and_self, imp_self, Int.reduceBEq]
  repeat' (first | apply And.intro | intro _)
  all_goals first
    | with_reducible exact bt0
    | with_reducible exact bt0 (by assumption)
    | omega
end Go.Proofs.Ytjpddnjgbgpegaa
end

section
namespace Go.Proofs.Ytjpddnjgbgpegaa
open Go Go.Sx Go.RowKit Go.ChangeShapes Go.WideShapes
set_option maxRecDepth 100000
theorem open_keys {H : Type} {enc : TypeId × Value → H} {W : World} {base b0 : Nat} {sp : Nat → Bool} {held : Bool} {v : Value} {d : DataW H} {ps : List MemPlace}
    (hval : Unit → Value.okWide Try.prog W .any b0 34 v) (h : Unit → DataW.Trod enc Try.prog W base sp held 34 v d ps) :
    ∃ (a : Option Addr) (n cap : Nat) (k : Nat → Nat → Int), v = SA.conc (Rho.whole W) (sXk a n cap k) ∧ kyP a n (u8F k) ∧ (sXk a n cap k).bnd ⟨fun _ => False, (Rho.whole W).fz⟩ := by
  have hx : (LQ.sl (List.replicate 20 (.int .u8))).fits W v := by
    refine open_sl (H := H) (enc := enc) (P := Try.prog) (w := W) (base := base) (sp := sp) (held := held) (d := 3) (t := 34) (e := 71) (ks := List.replicate 20 (.int .u8)) (r := .any) (b0 := b0) (v := v) (x := d) (ps := ps) ?_ ?_ ?_ ?_ ?_ ?_
    · kernel_rfl
    · kernel_rfl
    · kernel_rfl
    · decide
    · with_reducible exact hval ()
    · with_reducible exact h ()
  obtain ⟨a, n, cap, k, rfl, hk, hb⟩ := fits_keys hx
  exact ⟨a, n, cap, k, rfl, hk, hb⟩
theorem open_i64 {H : Type} {enc : TypeId × Value → H} {W : World} {base b0 : Nat} {sp : Nat → Bool} {held : Bool} {v : Value} {d : DataW H} {ps : List MemPlace}
    (hval : Unit → Value.okWide Try.prog W .any b0 3 v) (h : Unit → DataW.Trod enc Try.prog W base sp held 3 v d ps) : ∃ a, v = (sI .i64 a).conc (Rho.whole W) ∧ i64ok a := by
  have hu : Try.prog.underlying 3 = some (.int .i64) := by kernel_rfl
  obtain ⟨n, e, _, _, w⟩ := open_int hu (by with_reducible exact hval ()) (by with_reducible exact h ())
  exact ⟨n, e, bounds_i64 w⟩
end Go.Proofs.Ytjpddnjgbgpegaa
end

section
namespace Go.Proofs.Ytjpddnjgbgpegaa
open Go Go.Sx
set_option maxRecDepth 100000
theorem card_lk0 {gl : Globs} : FnOKs Try.prog gl 31 cLk0 := by
  refine FnOKs.up0 (FnOKs_R0 (cx := Cx.none) ⟨fun _ h => (by cases h), fun _ h => (by cases h)⟩ (sl := slCt) (oks_cons card_ct oks_nil) Try.func31 (by kernel_rfl) (by kernel_rfl) fun ls hc => ?_) gl
  unfold lkC at hc
  split at hc
  · rename_i a n cap f
    obtain ⟨p, _⟩ := hc
    have := ok_lk a n cap (kOf f) p.kn p.ka p.kr
    unfold sXk at this
    rw [← p.kf] at this
    refine ⟨_, _, _, fun _ => rfl, fun _ h => h, fun r hr => ?_, this⟩
    rw [List.mem_singleton.1 hr]; exact trivial
  · exact hc.1.elim
theorem card_kf0 {gl : Globs} : FnOKs Try.prog gl 33 cLk0 := by
  intro args ps rs hs hp ρ w hz hg ha
  refine ⟨run_callFunc_enter Try.func33 (by kernel_rfl) (by kernel_rfl) _ w, ?_⟩
  simp only [cLk0, specQ0] at hs
  split at hs
  case h_2 => cases hs
  rename_i q ls hq
  simp only [Option.some.injEq, Prod.mk.injEq] at hs
  obtain ⟨rfl, rfl⟩ := hs
  obtain ⟨o1, o3⟩ : _ ∧ Ok (lkC ls) := Ok.append.1 hp
  obtain ⟨a1, a2⟩ := asQs_sound hq
  unfold lkC at o3
  split at o3
  case h_2 => exact o3.1.elim
  rename_i ad n cap f
  obtain ⟨p, _⟩ := o3
  have em : mkQs [AQ.one (.x 20)] [[FD.x ad n cap f]] = [sXk ad n cap (kOf f)] := by
    unfold sXk
    rw [← p.kf]
    rfl
  rw [a1 o1 ρ, em]
  refine (kf_calls p.kn p.kr hz (fun x hx => a2 ⟨fun _ => True, ρ.fz⟩ ha x (by rw [em]; exact hx))).mono ?_
  rintro e w' ⟨rfl, hbl⟩
  refine ⟨[.int .i64 (kyE n (kOf f))], rfl, ⟨⟨rfl, trivial⟩, trivial⟩, hbl⟩
theorem card_sc0 {gl : Globs} : FnOKs Try.prog gl 13 cSc0 := by
  refine FnOKs.up0 (FnOKs_R0 (cx := cxSc) okx_Sc (sl := slSc) (oks_cons card_lk oks_nil) Try.func13 (by kernel_rfl) (by kernel_rfl) fun ls hc => ?_) gl
  unfold scC at hc
  split at hc
  · rename_i a n cap f
    obtain ⟨p, _⟩ := hc
    have := ok_sck a n cap (fun i => intOf (f i 0)) (fun i => intOf (f i 2)) (aOf f) (mOf f) (cpOf f) (kkOf f) p.sn p.sk
    unfold sXs at this
    rw [← p.sf] at this
    refine ⟨_, _, _, fun _ => rfl, fun _ h => h, fun r hr => ?_, this⟩
    rw [List.mem_singleton.1 hr]; exact trivial
  · exact hc.1.elim
theorem card_sf0 {gl : Globs} : FnOKs Try.prog gl 14 cSc0 := by
  refine FnOKs.up0 (FnOKs_R0 (cx := cxSc) okx_Sc (sl := slSf) (oks_cons card_kf oks_nil) Try.func14 (by kernel_rfl) (by kernel_rfl) fun ls hc => ?_) gl
  unfold scC at hc
  split at hc
  · rename_i a n cap f
    obtain ⟨p, _⟩ := hc
    have := ok_rsf a n cap (fun i => intOf (f i 0)) (fun i => intOf (f i 2)) (aOf f) (mOf f) (cpOf f) (kkOf f) p.sn p.sk
    unfold sXs at this
    rw [← p.sf] at this
    refine ⟨_, _, _, fun _ => rfl, fun _ h => h, fun r hr => ?_, this⟩
    rw [List.mem_singleton.1 hr]; exact trivial
  · exact hc.1.elim
theorem card_ss0 {gl : Globs} : FnOKs Try.prog gl 22 cSs0 := by
  refine FnOKs.up0 (FnOKs_R0 (cx := cxSc) okx_Sc (sl := slSs) (oks_cons card_sk oks_nil) Try.func22 (by kernel_rfl) (by kernel_rfl) fun ls hc => ?_) gl
  unfold ssC at hc
  split at hc
  · rename_i x a n ca f u y b m cb g v
    obtain ⟨p, _⟩ := hc
    have := ok_ss x a n ca (kOf f) u y b m cb (kOf g) v ⟨p.q0.ky, p.q5.ky⟩
    rw [eqKy_of p.q4, show (x == y) = true from beq_iff_eq.2 p.q1, show (u == v) = true from beq_iff_eq.2 p.q2, show (n == m) = true from beq_iff_eq.2 p.q3] at this
    refine ⟨_, _, [sSet x a n ca (kOf f) u, sSet y b m cb (kOf g) v], fun ρ => rfl, fun E hE => ?_, fun r hr => ?_, this⟩
    · intro z hz
      simp only [List.mem_cons, List.not_mem_nil, or_false] at hz
      rcases hz with rfl | rfl
      · exact bnd_set p.q0 (hE _ (List.mem_cons_self ..))
      · exact bnd_set p.q5 (hE _ (List.mem_cons_of_mem _ (List.mem_cons_self ..)))
    · rw [List.mem_singleton.1 hr]; exact trivial
  · exact hc.1.elim
theorem card_no {gl : Globs} {f : Nat} : FnOKs Try.prog gl f cNo := by
  intro args ps rs hs
  cases hs
theorem okx_Tu : CxOK Try.prog cxTu := okx_mark (okx_mark (okx_mark (okx_mark (okx_mark (okx_mark (okx_mark (okx_mark okx_nil)))))))
theorem okx_Tg : CxOK Try.prog cxTg := okx_mark (okx_mark (okx_mark (okx_mark (okx_mark (okx_mark okx_nil)))))
theorem oks_Tu : ∀ p ∈ slTu, FnOKs Try.prog cxTu.gl p.1 p.2 := oks_cons card_sc0 (oks_cons card_sf0 (oks_cons card_lk0 (oks_cons card_kf0 (oks_cons card_ss0 oks_nil))))
theorem oks_Tg : ∀ p ∈ slTg, FnOKs Try.prog cxTg.gl p.1 p.2 := oks_cons card_sc0 (oks_cons card_sf0 (oks_cons card_no (oks_cons card_no (oks_cons card_ss0 oks_nil))))
theorem ok_tug (a : Option Addr) (n cap : Nat) (I U : Nat → Int) (A : Nat → Option Addr) (N C : Nat → Nat) (K : Nat → Nat → Nat → Int) (b : Option Addr) (m cb : Nat) (l : Nat → Nat → Int) (now : Int) (hn : n ≤ maxLen) (hk : ∀ i, i < n → kyP (A i) (N i) (u8F (K i))) (h : stE n I U N K ≠ 0) :
    OwesV Try.prog cxTg slTg [] 30 Try.f7 [sXs a n cap I U A N C K, sXk b m cb l, sI .i64 now] yes := by
  rw [vc_tug]
  intro x1
  have hst : stP n (setF I U A N C K) := stP_set hn hk
  have d1 : (x1 != 0) = true := bne_iff_ne.2 h
  exact ⟨hst, fun _ => ⟨hst, fun _ => beq_self_eq_true x1, fun c => bno d1 c⟩, fun c => bno d1 c⟩
theorem ok_tu (a : Option Addr) (n cap : Nat) (I U : Nat → Int) (A : Nat → Option Addr) (N C : Nat → Nat) (K : Nat → Nat → Nat → Int) (b : Option Addr) (m cb : Nat) (l : Nat → Nat → Int) (now : Int) (hn : n ≤ maxLen) (hcap : n ≤ cap) (hk : ∀ i, i < n → kyP (A i) (N i) (u8F (K i))) (hl : kyP b m (u8F l)) (hw : i64ok now) (h : stE n I U N K = 0) :
    OwesV Try.prog cxTu slTu [] 30 Try.f7 [sXs a n cap I U A N C K, sXk b m cb l, sI .i64 now] yes := by
  obtain ⟨⟨h1, h2⟩, _⟩ := stE_0 h
  match n, h1, h2 with
  | 1, _, _ => exact ok_tu1 a cap I U A N C K b m cb l now hcap hk hl hw
  | 2, _, _ => exact ok_tu2 a cap I U A N C K b m cb l now hcap hk hl hw
  | 3, _, _ => exact ok_tu3 a cap I U A N C K b m cb l now hcap hk hl hw
  | 4, _, _ => exact ok_tu4 a cap I U A N C K b m cb l now hcap hk hl hw
  | 5, _, _ => exact ok_tu5 a cap I U A N C K b m cb l now hcap hk hl hw
  | 6, _, _ => exact ok_tu6 a cap I U A N C K b m cb l now hcap hk hl hw
  | 7, _, _ => exact ok_tu7 a cap I U A N C K b m cb l now hcap hk hl hw
  | 8, _, _ => exact ok_tu8 a cap I U A N C K b m cb l now hcap hk hl hw
  | _ + 9, _, h => exact absurd h (by omega)
end Go.Proofs.Ytjpddnjgbgpegaa
end
