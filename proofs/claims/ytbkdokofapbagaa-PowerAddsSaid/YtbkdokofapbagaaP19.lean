/-
  Quotients: moves up and down.
-/
import Derived.Test.YtbkdokofapbagaaP18
namespace Go.Proofs.Ytbkdokofapbagaa
open Go.Sx

theorem W_two (t : Nat) (h : t ≤ 64) : 2 ^ t * 2 ^ (64 - t) = 18446744073709551616 := by
  rw [← Nat.pow_add, show t + (64 - t) = 64 by omega]
/-- A word moved up: what stays, and what leaves. -/
theorem word_up (c D E : Nat) (h : D * E = 18446744073709551616) : c * D = c % E * D + c / E * 18446744073709551616 ∧ c % E * D < 18446744073709551616 ∧ (c < 18446744073709551616 → c / E < D) := by
  have hE : 0 < E := by rcases Nat.eq_zero_or_pos E with e | e; subst e; omega; exact e
  have hD : 0 < D := by rcases Nat.eq_zero_or_pos D with e | e; subst e; omega; exact e
  have e := Nat.div_add_mod c E
  have m := Nat.mod_lt c hE
  refine ⟨?_, ?_, fun hc => ?_⟩
  · conv => lhs; rw [← e]
    rw [Nat.add_mul, Nat.mul_comm E, Nat.mul_assoc, Nat.mul_comm E D, h, Nat.add_comm]
  · have := Nat.mul_lt_mul_of_pos_right m hD
    rw [Nat.mul_comm E D, h] at this
    exact this
  · rw [Nat.div_lt_iff_lt_mul hE, h]
    exact hc
theorem wrap_up (c D E : Nat) (h : D * E = 18446744073709551616) : IntKind.u64.wrap ((c : Int) * (D : Int)) = ((c % E * D : Nat) : Int) := by
  obtain ⟨a, b, _⟩ := word_up c D E h
  rw [← Int.natCast_mul, a, wrap_mod]
  generalize c % E * D = p at *
  omega
theorem or_up (c d t : Nat) (ht : t ≤ 64) (hd : d < 18446744073709551616) :
    IntKind.u64.wrap ((BitVec.ofInt 64 (IntKind.u64.wrap ((c : Int) * ((2 ^ t : Nat) : Int))) ||| BitVec.ofInt 64 ((d : Int).fdiv ((2 ^ (64 - t) : Nat) : Int))).toNat : Int) = ((c % 2 ^ (64 - t) * 2 ^ t + d / 2 ^ (64 - t) : Nat) : Int) ∧ c % 2 ^ (64 - t) * 2 ^ t + d / 2 ^ (64 - t) < 18446744073709551616 := by
  have hW := W_two t ht
  obtain ⟨a, b, _⟩ := word_up c _ _ hW
  obtain ⟨_, _, e⟩ := word_up d _ _ hW
  have e := e hd
  have hlt : c % 2 ^ (64 - t) * 2 ^ t + d / 2 ^ (64 - t) < 18446744073709551616 := by
    have m := Nat.mod_lt c (Nat.two_pow_pos (64 - t))
    have := Nat.mul_le_mul_right (2 ^ t) (show c % 2 ^ (64 - t) + 1 ≤ 2 ^ (64 - t) from m)
    rw [Nat.add_mul, Nat.one_mul, Nat.mul_comm (2 ^ (64 - t)) (2 ^ t), hW] at this
    omega
  rw [wrap_up c _ _ hW, fdiv_nat]
  exact ⟨or_add _ _ _ e hlt, hlt⟩
theorem or_down (c d t : Nat) (ht : t ≤ 64) (hc : c < 18446744073709551616) :
    IntKind.u64.wrap ((BitVec.ofInt 64 ((c : Int).fdiv ((2 ^ t : Nat) : Int)) ||| BitVec.ofInt 64 (IntKind.u64.wrap ((d : Int) * ((2 ^ (64 - t) : Nat) : Int)))).toNat : Int) = ((d % 2 ^ t * 2 ^ (64 - t) + c / 2 ^ t : Nat) : Int) ∧ d % 2 ^ t * 2 ^ (64 - t) + c / 2 ^ t < 18446744073709551616 := by
  have := or_up d c (64 - t) (by omega) hc
  rw [show 64 - (64 - t) = t by omega] at this
  rw [BitVec.or_comm]
  exact this

theorem M_val : M256 = 115792089237316195423570985008687907853269984665640564039457584007913129639936 := by rw [M256_eq]
theorem mod_mul_M (a K : Nat) : a * K % M256 = a % M256 * K % M256 := by rw [Nat.mul_mod a K, Nat.mul_mod (a % M256) K, Nat.mod_mod]
theorem two_split (p t : Nat) : 2 ^ (64 * p + t) = 2 ^ t * (2 ^ 64) ^ p := by rw [Nat.pow_add, Nat.pow_mul, Nat.mul_comm]

/-- The number moved up by less than a word. -/
theorem up_sum (c0 c1 c2 c3 D E : Nat) (h : D * E = 18446744073709551616) :
    (((c3 * 18446744073709551616 + c2) * 18446744073709551616 + c1) * 18446744073709551616 + c0) * D =
      ((((c3 / E) * 18446744073709551616 + (c3 % E * D + c2 / E)) * 18446744073709551616 + (c2 % E * D + c1 / E)) * 18446744073709551616 + (c1 % E * D + c0 / E)) * 18446744073709551616 + c0 % E * D := by
  obtain ⟨a0, _⟩ := word_up c0 D E h
  obtain ⟨a1, _⟩ := word_up c1 D E h
  obtain ⟨a2, _⟩ := word_up c2 D E h
  obtain ⟨a3, _⟩ := word_up c3 D E h
  have e : (((c3 * 18446744073709551616 + c2) * 18446744073709551616 + c1) * 18446744073709551616 + c0) * D = ((c3 * D * 18446744073709551616 + c2 * D) * 18446744073709551616 + c1 * D) * 18446744073709551616 + c0 * D := by
    have k1 : ∀ X Y : Nat, (X * 18446744073709551616 + Y) * D = X * D * 18446744073709551616 + Y * D := fun X Y => by rw [Nat.add_mul, Nat.mul_right_comm]
    rw [k1, k1, k1]
  rw [e]
  generalize c0 * D = p0 at *
  generalize c1 * D = p1 at *
  generalize c2 * D = p2 at *
  generalize c3 * D = p3 at *
  generalize c0 % E * D = m0 at *
  generalize c1 % E * D = m1 at *
  generalize c2 % E * D = m2 at *
  generalize c3 % E * D = m3 at *
  generalize c0 / E = q0 at *
  generalize c1 / E = q1 at *
  generalize c2 / E = q2 at *
  generalize c3 / E = q3 at *
  omega
/-- The number moved down by less than a word. -/
theorem down_sum (c0 c1 c2 c3 D E : Nat) (h : D * E = 18446744073709551616) (hD : 0 < D) :
    (((c3 * 18446744073709551616 + c2) * 18446744073709551616 + c1) * 18446744073709551616 + c0) / D =
      ((c3 / D * 18446744073709551616 + (c3 % D * E + c2 / D)) * 18446744073709551616 + (c2 % D * E + c1 / D)) * 18446744073709551616 + (c1 % D * E + c0 / D) := by
  have w : ∀ c : Nat, D * (c % D * E) = c % D * 18446744073709551616 := fun c => by rw [← h, Nat.mul_left_comm]
  have s0 := Nat.div_add_mod c0 D
  have s1 := Nat.div_add_mod c1 D
  have s2 := Nat.div_add_mod c2 D
  have s3 := Nat.div_add_mod c3 D
  have e : (((c3 * 18446744073709551616 + c2) * 18446744073709551616 + c1) * 18446744073709551616 + c0) =
      D * (((c3 / D * 18446744073709551616 + (c3 % D * E + c2 / D)) * 18446744073709551616 + (c2 % D * E + c1 / D)) * 18446744073709551616 + (c1 % D * E + c0 / D)) + c0 % D := by
    have k1 : ∀ X Y : Nat, D * (X * 18446744073709551616 + Y) = D * X * 18446744073709551616 + D * Y := fun X Y => by rw [Nat.mul_add, Nat.mul_assoc]
    rw [k1, k1, k1, Nat.mul_add D (c3 % D * E), Nat.mul_add D (c2 % D * E), Nat.mul_add D (c1 % D * E), w, w, w]
    clear k1 w h
    generalize D * (c0 / D) = p0 at *
    generalize D * (c1 / D) = p1 at *
    generalize D * (c2 / D) = p2 at *
    generalize D * (c3 / D) = p3 at *
    generalize c0 % D = r0 at *
    generalize c1 % D = r1 at *
    generalize c2 % D = r2 at *
    generalize c3 % D = r3 at *
    omega
  rw [e, Nat.mul_add_div hD, Nat.div_eq_of_lt (Nat.mod_lt _ hD), Nat.add_zero]

theorem n_parts {n : Int} (h : 0 ≤ n ∧ n ≤ 256) : ∃ p t : Nat, n = ((64 * p + t : Nat) : Int) ∧ t ≤ 63 ∧ p ≤ 4 ∧ IntKind.i64.wrap (n.tdiv 64) = (p : Int) ∧ n.tmod 64 = (t : Int) ∧ IntKind.i64.wrap (64 - n.tmod 64) = ((64 - t : Nat) : Int) ∧ (p = 4 → t = 0) := by
  obtain ⟨m, rfl⟩ := Int.eq_ofNat_of_zero_le h.1
  have e1 : (m : Int).tdiv 64 = ((m / 64 : Nat) : Int) := tdiv_nat m 64
  have e2 : (m : Int).tmod 64 = ((m % 64 : Nat) : Int) := by
    rw [Int.tmod_eq_emod_of_nonneg (Int.natCast_nonneg _)]
    exact (Int.natCast_emod m 64).symm
  have hm : m ≤ 256 := by omega
  refine ⟨m / 64, m % 64, by rw [Nat.div_add_mod], by omega, by omega, ?_, e2, ?_, by omega⟩
  · rw [e1, IntWalk.i64_in _ (by omega)]
  · rw [e2, IntWalk.i64_in _ (by omega)]
    omega
theorem nn (n : Nat) : (0 : Int) ≤ (n : Int) := Int.natCast_nonneg n
theorem zz64 : (0 : Int) ≤ 0 ∧ (0 : Int) < 18446744073709551616 := by decide

theorem ok_up : ∀ (a : Nat) (n : Int), Ok (moveC a n) → Owes Try.prog [] [(2, .split 6 4)] 100 Try.f62 [sU a, sI .i64 n] (upG a n) := by
  intro a n hc
  obtain ⟨hn, _⟩ := hc
  rw [vc_up]
  obtain ⟨c0, h0, b0⟩ := limb_is a 0
  obtain ⟨c1, h1, b1⟩ := limb_is a 1
  obtain ⟨c2, h2, b2⟩ := limb_is a 2
  obtain ⟨c3, h3, b3⟩ := limb_is a 3
  have hA := horner_is a c0 c1 c2 c3 h0 h1 h2 h3
  obtain ⟨p, t, hnp, ht, hp, y1, y2, y3, y4⟩ := n_parts hn
  have hW := W_two t (by omega)
  have S := up_sum c0 c1 c2 c3 _ _ hW
  obtain ⟨o1, l1⟩ := or_up c1 c0 t (by omega) b0
  obtain ⟨o2, l2⟩ := or_up c2 c1 t (by omega) b1
  obtain ⟨o3, l3⟩ := or_up c3 c2 t (by omega) b2
  obtain ⟨_, l0, _⟩ := word_up c0 _ _ hW
  have o0 := wrap_up c0 _ _ hW
  intro x1 x2 x3 x4 x5 x6 x7 x8 x9
  have E1 : x1 = (p : Int) := y1
  have E2 : x2 = ((64 - t : Nat) : Int) := y3
  have E3 : x3 = ((2 ^ t : Nat) : Int) := by simp only [x3, y2]; exact two_min t (by omega)
  have E5 : x5 = ((2 ^ (64 - t) : Nat) : Int) := by simp only [x5, E2]; exact two_min (64 - t) (by omega)
  have E4 : x4 = ((c0 % 2 ^ (64 - t) * 2 ^ t : Nat) : Int) := by simp only [x4, E3, h0]; exact o0
  have E6 : x6 = ((c1 % 2 ^ (64 - t) * 2 ^ t + c0 / 2 ^ (64 - t) : Nat) : Int) := by simp only [x6, E3, E5, h0, h1]; exact o1
  have E7 : x7 = ((c2 % 2 ^ (64 - t) * 2 ^ t + c1 / 2 ^ (64 - t) : Nat) : Int) := by simp only [x7, E3, E5, h1, h2]; exact o2
  have E8 : x8 = ((c3 % 2 ^ (64 - t) * 2 ^ t + c2 / 2 ^ (64 - t) : Nat) : Int) := by simp only [x8, E3, E5, h2, h3]; exact o3
  have E9 : x9 = a % M256 * (2 ^ t * (2 ^ 64) ^ p) % M256 := by
    simp only [x9]
    rw [hnp, Int.toNat_natCast, two_split, mod_mul_M]
  rw [hA, ← Nat.mul_assoc, S] at E9
  have T4 : p = 4 → x9 = 0 := fun e => by
    simp only [x9]
    rw [hnp, Int.toNat_natCast, e, y4 e]
    exact Nat.mul_mod_left _ _
  have e1 : n.tmod 64 = (t : Int) := y2
  rw [e1]
  clear_value x1 x2 x3 x4 x5 x6 x7 x8 x9
  subst E1 E2 E4 E6 E7 E8
  clear o0 o1 o2 o3 S hA h0 h1 h2 h3
  generalize c0 % 2 ^ (64 - t) * 2 ^ t = w0 at *
  generalize c1 % 2 ^ (64 - t) * 2 ^ t + c0 / 2 ^ (64 - t) = w1 at *
  generalize c2 % 2 ^ (64 - t) * 2 ^ t + c1 / 2 ^ (64 - t) = w2 at *
  generalize c3 % 2 ^ (64 - t) * 2 ^ t + c2 / 2 ^ (64 - t) = w3 at *
  generalize c3 / 2 ^ (64 - t) = w4 at *
  have z := zz64
  have v0 := word_nat l0
  have v1 := word_nat l1
  have v2 := word_nat l2
  have v3 := word_nat l3
  refine ⟨⟨nn _, by omega⟩, ⟨⟨⟨fun e => ?_, fun e => ?_⟩, fun e => ?_⟩, fun e => ?_⟩, fun e => ?_⟩
  · have e : p = 0 := Int.ofNat.inj e
    subst e
    refine ⟨nn _, nn _, nn _, nn _, nn _, nn _, nn _, v0, v1, v2, v3, ?_, trivial⟩
    rw [E9, join_nat, M_val]
    omega
  · have e : p = 1 := Int.ofNat.inj e
    subst e
    refine ⟨nn _, nn _, nn _, nn _, nn _, z, v0, v1, v2, ?_, trivial⟩
    have j := join_nat 0 w0 w1 w2
    rw [E9, M_val]
    refine Eq.trans (congrArg (· % _) j) ?_
    omega
  · have e : p = 2 := Int.ofNat.inj e
    subst e
    refine ⟨nn _, nn _, nn _, z, z, v0, v1, ?_, trivial⟩
    have j := join_nat 0 0 w0 w1
    rw [E9, M_val]
    refine Eq.trans (congrArg (· % _) j) ?_
    omega
  · have e : p = 3 := Int.ofNat.inj e
    subst e
    refine ⟨nn _, z, z, z, v0, ?_, trivial⟩
    have j := join_nat 0 0 0 w0
    rw [E9, M_val]
    refine Eq.trans (congrArg (· % _) j) ?_
    omega
  · exact ⟨(T4 (Int.ofNat.inj e)).symm, trivial⟩
theorem card_up : FnOK Try.prog 62 (specUJ moveC upG) :=
  FnOK_UJ CxOK_nil (iv := fun _ _ => [(2, .split 6 4)]) (N := 100) Try.func62 (by kernel_rfl) (by kernel_rfl) (fun _ _ => bnd_one (bnd_U _)) ok_up

theorem ok_down : ∀ (a : Nat) (n : Int), Ok (moveC a n) → Owes Try.prog [] [(2, .split 6 4)] 100 Try.f63 [sU a, sI .i64 n] (downG a n) := by
  intro a n hc
  obtain ⟨hn, _⟩ := hc
  rw [vc_down]
  obtain ⟨c0, h0, b0⟩ := limb_is a 0
  obtain ⟨c1, h1, b1⟩ := limb_is a 1
  obtain ⟨c2, h2, b2⟩ := limb_is a 2
  obtain ⟨c3, h3, b3⟩ := limb_is a 3
  have hA := horner_is a c0 c1 c2 c3 h0 h1 h2 h3
  obtain ⟨p, t, hnp, ht, hp, y1, y2, y3, y4⟩ := n_parts hn
  have hW := W_two t (by omega)
  have S := down_sum c0 c1 c2 c3 _ _ hW (Nat.two_pow_pos t)
  obtain ⟨o1, l1⟩ := or_down c0 c1 t (by omega) b0
  obtain ⟨o2, l2⟩ := or_down c1 c2 t (by omega) b1
  obtain ⟨o3, l3⟩ := or_down c2 c3 t (by omega) b2
  have l4 : c3 / 2 ^ t < 18446744073709551616 := Nat.lt_of_le_of_lt (Nat.div_le_self _ _) b3
  intro x1 x2 x3 x4 x5 x6 x7 x8 x9
  have E1 : x1 = (p : Int) := y1
  have E2 : x2 = ((64 - t : Nat) : Int) := y3
  have E3 : x3 = ((2 ^ t : Nat) : Int) := by simp only [x3, y2]; exact two_min t (by omega)
  have E4 : x4 = ((2 ^ (64 - t) : Nat) : Int) := by simp only [x4, E2]; exact two_min (64 - t) (by omega)
  have E5 : x5 = ((c1 % 2 ^ t * 2 ^ (64 - t) + c0 / 2 ^ t : Nat) : Int) := by simp only [x5, E3, E4, h0, h1]; exact o1
  have E6 : x6 = ((c2 % 2 ^ t * 2 ^ (64 - t) + c1 / 2 ^ t : Nat) : Int) := by simp only [x6, E3, E4, h1, h2]; exact o2
  have E7 : x7 = ((c3 % 2 ^ t * 2 ^ (64 - t) + c2 / 2 ^ t : Nat) : Int) := by simp only [x7, E3, E4, h2, h3]; exact o3
  have E8 : x8 = ((c3 / 2 ^ t : Nat) : Int) := by simp only [x8, E3, h3]; exact fdiv_nat _ _
  have E9 : x9 = a % M256 / 2 ^ t / (2 ^ 64) ^ p % M256 := by
    simp only [x9]
    rw [hnp, Int.toNat_natCast, two_split, Nat.div_div_eq_div_mul]
  rw [hA, S] at E9
  have T4 : p = 4 → x9 = 0 := fun e => by
    simp only [x9]
    rw [hnp, Int.toNat_natCast, e, y4 e]
    rw [show a % M256 / 2 ^ (64 * 4 + 0) = 0 from Nat.div_eq_of_lt (Nat.mod_lt _ (Nat.two_pow_pos _))]
    exact Nat.zero_mod _
  have e1 : n.tmod 64 = (t : Int) := y2
  rw [e1]
  clear_value x1 x2 x3 x4 x5 x6 x7 x8 x9
  subst E1 E2 E5 E6 E7 E8
  clear o1 o2 o3 S hA h0 h1 h2 h3
  generalize c1 % 2 ^ t * 2 ^ (64 - t) + c0 / 2 ^ t = w0 at *
  generalize c2 % 2 ^ t * 2 ^ (64 - t) + c1 / 2 ^ t = w1 at *
  generalize c3 % 2 ^ t * 2 ^ (64 - t) + c2 / 2 ^ t = w2 at *
  generalize c3 / 2 ^ t = w3 at *
  have z := zz64
  have v0 := word_nat l1
  have v1 := word_nat l2
  have v2 := word_nat l3
  have v3 := word_nat l4
  refine ⟨⟨nn _, by omega⟩, ⟨⟨⟨fun e => ?_, fun e => ?_⟩, fun e => ?_⟩, fun e => ?_⟩, fun e => ?_⟩
  · have e : p = 0 := Int.ofNat.inj e
    subst e
    refine ⟨nn _, nn _, nn _, nn _, nn _, nn _, nn _, v0, v1, v2, v3, ?_, trivial⟩
    rw [E9, join_nat, M_val]
    omega
  · have e : p = 1 := Int.ofNat.inj e
    subst e
    refine ⟨nn _, nn _, nn _, nn _, nn _, v1, v2, v3, z, ?_, trivial⟩
    have j := join_nat w1 w2 w3 0
    rw [E9, M_val]
    refine Eq.trans (congrArg (· % _) j) ?_
    omega
  · have e : p = 2 := Int.ofNat.inj e
    subst e
    refine ⟨nn _, nn _, nn _, v2, v3, z, z, ?_, trivial⟩
    have j := join_nat w2 w3 0 0
    rw [E9, M_val]
    refine Eq.trans (congrArg (· % _) j) ?_
    omega
  · have e : p = 3 := Int.ofNat.inj e
    subst e
    refine ⟨nn _, v3, z, z, z, ?_, trivial⟩
    have j := join_nat w3 0 0 0
    rw [E9, M_val]
    refine Eq.trans (congrArg (· % _) j) ?_
    omega
  · exact ⟨(T4 (Int.ofNat.inj e)).symm, trivial⟩
theorem card_down : FnOK Try.prog 63 (specUJ moveC downG) :=
  FnOK_UJ CxOK_nil (iv := fun _ _ => [(2, .split 6 4)]) (N := 100) Try.func63 (by kernel_rfl) (by kernel_rfl) (fun _ _ => bnd_one (bnd_U _)) ok_down
end Go.Proofs.Ytbkdokofapbagaa
