/-
  Texts: P30, P31, P32, P33, P34, P35, P36, P39, P40, P41, Ptab, P37, P38, P38s.
-/
import Derived.Test.YtohnkglcabfpjaaM1
import Derived.Test.YtohnkglcabfpjaaM2
import Derived.Test.YtohnkglcabfpjaaM3
import Derived.Test.YtohnkglcabfpjaaM4
import Derived.Test.YtohnkglcabfpjaaM5
import Derived.Test.YtohnkglcabfpjaaM6
import Derived.Test.YtohnkglcabfpjaaM7
import Derived.Test.YtohnkglcabfpjaaM8
import Derived.Test.YtohnkglcabfpjaaM9
import Derived.Test.YtohnkglcabfpjaaM10
import Derived.Test.YtohnkglcabfpjaaM11
import Init
import Derived.KernelRfl
section
namespace Go.Proofs.Ytohnkglcabfpjaa
open Go.Sx
theorem and_one (v : Nat) (h : v < 18446744073709551616) : IntKind.u64.wrap ((BitVec.ofInt 64 (v : Int) &&& BitVec.ofInt 64 (1 : Int)).toNat : Int) = ((v % 2 : Nat) : Int) := by
  have b1 : (BitVec.ofInt 64 (v : Int)).toNat = v := by rw [BitVec.toNat_ofInt]; omega
  have b2 : (BitVec.ofInt 64 (1 : Int)).toNat = 1 := by decide
  rw [BitVec.toNat_and, b1, b2, Nat.and_one_is_mod, wrap_id (word_nat (by omega))]
theorem limb_bit (x j : Nat) (hj : j < 256) : (IntKind.u64.wrap ((BitVec.ofInt 64 ((limb x (j / 64)).fdiv ((2 ^ (j % 64) : Nat) : Int)) &&& BitVec.ofInt 64 (1 : Int)).toNat : Int) == 1) = (x % M256).testBit j := by
  have e : limb x (j / 64) = ((x / 2 ^ (64 * (j / 64)) % 2 ^ 64 : Nat) : Int) := rfl
  have hc : x / 2 ^ (64 * (j / 64)) % 2 ^ 64 < 18446744073709551616 := Nat.mod_lt _ (by decide)
  rw [e, fdiv_nat, and_one _ (Nat.lt_of_le_of_lt (Nat.div_le_self _ _) hc)]
  have h1 : (x / 2 ^ (64 * (j / 64)) % 2 ^ 64).testBit (j % 64) = (x % M256).testBit j := by
    rw [Nat.testBit_mod_two_pow, M_pow, Nat.testBit_mod_two_pow, Nat.testBit_div_two_pow]
    rw [decide_eq_true (Nat.mod_lt j (show 0 < 64 by decide)), decide_eq_true hj, Nat.mod_add_div]
  rw [← h1, Nat.testBit_eq_decide_div_mod_eq, Bool.eq_iff_iff, beq_iff_eq, decide_eq_true_eq]
  generalize x / 2 ^ (64 * (j / 64)) % 2 ^ 64 / 2 ^ (j % 64) = w
  omega
theorem half_step (X j : Nat) : X / 2 ^ j = 2 * (X / 2 ^ (j + 1)) + (X.testBit j).toNat := by
  rw [Nat.toNat_testBit, Nat.pow_succ, ← Nat.div_div_eq_div_mul]
  generalize X / 2 ^ j = w
  omega
theorem pow_zero_bit {a X m j : Nat} (h : X.testBit j = false) : a ^ (X / 2 ^ (j + 1)) % m * (a ^ (X / 2 ^ (j + 1)) % m) % m = a ^ (X / 2 ^ j) % m := by
  rw [half_step X j, h, ← Nat.mul_mod, ← Nat.pow_add]
  exact congrArg (fun v => a ^ v % m) (by simp; omega)
theorem pow_one_bit {a X m j : Nat} (h : X.testBit j = true) : a ^ (X / 2 ^ (j + 1)) % m * (a ^ (X / 2 ^ (j + 1)) % m) % m * a % m = a ^ (X / 2 ^ j) % m := by
  rw [half_step X j, h, ← Nat.mul_mod, ← Nat.pow_add, Nat.mod_mul_mod, ← Nat.pow_succ]
  exact congrArg (fun v => a ^ v % m) (by simp; omega)
theorem ok_power : ∀ a x m : Nat, Ok (powC a x m) → Owes Try.prog cxPow [((97 + 1) * 100000 + 2, .inv (invPow a x m))] 100 Try.f90 [sU a, sU x, sU m] (powG a x m) := by
  intro a x m hc
  obtain ⟨ha, _⟩ := hc
  rw [vc_power]
  have hM : 1 < M256 := by rw [M256_eq]; decide
  have hmM := Nat.mod_lt m (Nat.lt_trans Nat.zero_lt_one hM)
  have hxM := Nat.mod_lt x (Nat.lt_trans Nat.zero_lt_one hM)
  have hbl := bitsN_le (n := x % M256) (k := 256) hxM
  have hb0 : x % M256 / 2 ^ bitsN (x % M256) = 0 := by
    rcases Nat.eq_zero_or_pos (x % M256) with e | e
    · rw [e, Nat.zero_div]
    · exact Nat.div_eq_of_lt (bitsN_two _ (by omega)).1
  have hbit := fun j hj => limb_bit x j hj
  intro x1 x2 x3 x4
  have E1 : x1 = m % M256 := rfl
  have E2 : x2 = a % M256 := rfl
  have E3 : x3 = x % M256 := rfl
  have E4 : x4 = x2 ^ x3 % x1 % M256 := rfl
  clear_value x4 x3 x2 x1
  rw [← E1] at hmM
  rw [← E2, ← E1] at ha
  rw [← E3] at hbl hb0
  simp only [← E3] at hbit
  have hpos : 0 < x1 := by omega
  have hlt : ∀ v : Nat, v % x1 < M256 := fun v => Nat.lt_trans (Nat.mod_lt v hpos) hmM
  have hmm : ∀ v : Nat, v % x1 % M256 = v % x1 := fun v => Nat.mod_eq_of_lt (hlt v)
  refine ⟨fun h => ⟨?_, trivial⟩, fun h => ⟨fun _ => rfl, bitsN x3, hbl, rfl, ⟨rfl, rfl⟩, ?_, rfl, rfl, rfl, rfl, rfl, rfl, rfl, ⟨?_, trivial⟩, rfl, rfl, rfl, fun y hy => ⟨fun hc => ?_, fun hc => ⟨?_, trivial⟩⟩⟩⟩
  · have h : 1 = x1 := beq_iff_eq.1 h
    rw [E4, ← h, Nat.mod_one, Nat.zero_mod]
  · rw [IntWalk.i64_in _ (by omega)]
    omega
  · have h : 1 ≠ x1 := beq_eq_false_iff_ne.1 h
    rw [hb0, Nat.pow_zero, hmm, Nat.mod_eq_of_lt (by omega)]
  · have hy0 : 1 ≤ y := by have := of_decide_eq_true hc; omega
    obtain ⟨j, rfl⟩ : ∃ j, y = j + 1 := ⟨y - 1, by omega⟩
    have hj : j < 256 := by omega
    rw [show ((j + 1 : Nat) : Int) - 1 = (j : Int) by omega]
    have t1 : IntKind.i64.wrap ((j : Int).tdiv 64) = ((j / 64 : Nat) : Int) := by
      have e : (j : Int).tdiv 64 = ((j / 64 : Nat) : Int) := tdiv_nat j 64
      rw [e, IntWalk.i64_in _ (by omega)]
    have t2 : (j : Int).tmod 64 = ((j % 64 : Nat) : Int) := by
      rw [Int.tmod_eq_emod_of_nonneg (Int.natCast_nonneg _)]
      exact (Int.natCast_emod j 64).symm
    have t3 : IntKind.i64.wrap ((j : Int) - 1) = ((j : Nat) : Int) - 1 := IntWalk.i64_in _ (by omega)
    have hq : (0 : Int) ≤ ((j / 64 : Nat) : Int) ∧ ((j / 64 : Nat) : Int) < 4 := by omega
    rw [t1, t2, t3, two_min _ (by omega), Int.toNat_natCast, hbit j hj, hmm, hmm, hmm]
    refine ⟨hq, hq, nn _, Nat.mod_lt _ hpos, Nat.mod_lt _ hpos, fun hb => ⟨Nat.mod_lt _ hpos, ha, j, by omega, rfl, ⟨rfl, rfl⟩, rfl, rfl, rfl, rfl, rfl, rfl, rfl, rfl, ?_, rfl, rfl, rfl, by omega⟩, fun hb => ⟨j, by omega, rfl, ⟨rfl, rfl⟩, rfl, rfl, rfl, rfl, rfl, rfl, rfl, rfl, ?_, rfl, rfl, rfl, by omega⟩⟩
    · rw [pow_one_bit hb, hmm]
    · rw [pow_zero_bit hb, hmm]
  · have hy0 : y = 0 := by have := of_decide_eq_false hc; omega
    rw [hy0, Nat.pow_zero, Nat.div_one, E4]
theorem card_power : FnOK Try.prog 90 (specUUU powC powG) :=
  FnOK_UUU (CxOK_cons card_product (CxOK_cons card_fnoughts CxOK_nil)) (iv := fun a x m => [((97 + 1) * 100000 + 2, .inv (invPow a x m))]) (N := 100) Try.func90 (by kernel_rfl) (by kernel_rfl) (fun _ _ _ => bnd_one (bnd_U _)) ok_power
theorem p_all {a m r : Nat} :
    (m % M256 = 0 → 0 = (if pE a m = 0 then r else 0) % M256 ∧ 7 = pE a m) ∧
    (m % M256 ≠ 0 → m % M256 ≤ a % M256 → 0 = (if pE a m = 0 then r else 0) % M256 ∧ 6 = pE a m) ∧
    (m % M256 ≠ 0 → a % M256 < m % M256 → r % M256 = (if pE a m = 0 then r else 0) % M256 ∧ 0 = pE a m) := by
  refine ⟨fun h => ?_, fun h h' => ?_, fun h h1 => ?_⟩
  · have e : pE a m = 7 := by unfold pE; rw [if_pos h]
    rw [e, if_neg (by decide)]
    exact ⟨(Nat.zero_mod _).symm, rfl⟩
  · have e : pE a m = 6 := by unfold pE; rw [if_neg h, if_neg (by omega)]
    rw [e, if_neg (by decide)]
    exact ⟨(Nat.zero_mod _).symm, rfl⟩
  · have e : pE a m = 0 := by unfold pE; rw [if_neg h, if_pos h1]
    rw [e, if_pos rfl]
    exact ⟨rfl, rfl⟩
theorem ok_fPow : ∀ a x m : Nat, Ok (noC a x m) → Owes Try.prog cxFpow [] 100 Try.f73 [sU a, sU x, sU m] (fpowG a x m) := by
  intro a x m _
  rw [vc_fPow]
  intro x1 x2 x3 x4
  obtain ⟨f1, f2, f3⟩ := p_all (a := a) (m := m) (r := (a % M256) ^ (x % M256) % (m % M256))
  refine ⟨fun h => ?_, fun h => ⟨fun h1 => ?_, fun h1 => ?_⟩⟩
  · obtain ⟨p, q⟩ := f1 (beq_iff_eq.1 h)
    exact ⟨⟨p, trivial⟩, q⟩
  · obtain ⟨p, q⟩ := f2 (beq_eq_false_iff_ne.1 h) (cmp_ge.1 (of_decide_eq_true h1))
    exact ⟨⟨p, trivial⟩, q⟩
  · have l1 : a % M256 < m % M256 := Nat.lt_of_not_le fun c => of_decide_eq_false h1 (cmp_ge.2 c)
    obtain ⟨p, q⟩ := f3 (beq_eq_false_iff_ne.1 h) l1
    exact ⟨l1, ⟨p, trivial⟩, q⟩
theorem card_fPow : FnOK Try.prog 73 (specUUU noC fpowG) :=
  FnOK_UUU (CxOK_cons card_Cmp (CxOK_cons card_power CxOK_nil)) (iv := fun _ _ _ => []) (N := 100) Try.func73 (by kernel_rfl) (by kernel_rfl) (fun _ _ _ => bnd_two (bnd_U _) (bnd_I _ _)) ok_fPow
end Go.Proofs.Ytohnkglcabfpjaa
end

section
namespace Go.Proofs.Ytohnkglcabfpjaa
open Go.Sx
theorem wrN_nonneg {z : Int} (h0 : 0 ≤ z) (h : z < 2 ^ 256) : wrN z = z.toNat := by
  unfold wrN
  rw [Int.emod_eq_of_lt h0 (by rw [M256_eq]; exact h)]
theorem wrN_neg {z : Int} (h0 : z < 0) (h : -(2 ^ 256) ≤ z) : wrN z = (z + 2 ^ 256).toNat := by
  unfold wrN
  have e : z % (M256 : Int) = z + 2 ^ 256 := by
    rw [M256_eq, ← Int.add_emod_right]
    exact Int.emod_eq_of_lt (by omega) (by omega)
  rw [e]
theorem wrN_lt (z : Int) : wrN z < M256 := by
  unfold wrN
  have h1 := Int.emod_nonneg z (show (M256 : Int) ≠ 0 by rw [M256_eq]; decide)
  have h2 := Int.emod_lt_of_pos z (show 0 < (M256 : Int) by rw [M256_eq]; decide)
  omega
theorem wrN_cast (z : Int) : ((wrN z : Nat) : Int) = z % (M256 : Int) := by
  unfold wrN
  exact Int.toNat_of_nonneg (Int.emod_nonneg z (by rw [M256_eq]; decide))
theorem ok_signed : ∀ z : Int, Ok (signedC z) → Owes Try.prog Cx.none [] 100 Try.f104 [sI .i64 z] (signedG z) := by
  intro z hc
  obtain ⟨hz, _⟩ := hc
  rw [vc_signed]
  have hz' : -9223372036854775808 ≤ z ∧ z ≤ 9223372036854775807 := hz
  intro x1
  have E : x1 = if z < 0 then 18446744073709551615 else 0 := by
    simp only [x1]
    rw [wrap_mod, Int.fdiv_eq_ediv_of_nonneg _ (by decide)]
    split <;> omega
  have W : IntKind.u64.wrap z = if z < 0 then z + 18446744073709551616 else z := by
    rw [wrap_mod]
    split <;> omega
  clear_value x1
  rw [W, E]
  by_cases h : z < 0
  · simp only [if_pos h]
    refine ⟨by omega, by omega, by omega, by omega, congrArg (· % M256) ?_, trivial⟩
    rw [wrN_neg h (by omega)]
    unfold join
    omega
  · simp only [if_neg h]
    refine ⟨by omega, by omega, by omega, by omega, congrArg (· % M256) ?_, trivial⟩
    rw [wrN_nonneg (by omega) (by omega)]
    unfold join
    omega
theorem card_signed : FnOK Try.prog 104 (specI signedC signedG) :=
  FnOK_I CxOK_nil (iv := fun _ => []) (N := 100) Try.func104 (by kernel_rfl) (by kernel_rfl) (fun _ => bnd_one (bnd_U _)) ok_signed
theorem limb_mod (a i : Nat) (hi : i ≤ 3) : a / 2 ^ (64 * i) % 2 ^ 64 = a % M256 / 2 ^ (64 * i) % 2 ^ 64 := by
  have e : M256 = 2 ^ (64 * i) * 2 ^ (256 - 64 * i) := by rw [← Nat.pow_add, M_pow, show 64 * i + (256 - 64 * i) = 256 by omega]
  rw [e, Nat.mod_mul_right_div_self, Nat.mod_mod_of_dvd _ (Nat.pow_dvd_pow 2 (by omega))]
theorem high_word {A k t p : Nat} (ht : t ≤ 63) (hp : p + k = 2) (hA : A * 2 ^ (64 * p + t) < 2 ^ 256) :
    (A / 2 ^ (64 * (k + 1)) % 2 ^ 64 % 2 ^ (64 - t) * 2 ^ t + A / 2 ^ (64 * k) % 2 ^ 64 / 2 ^ (64 - t)) / 4 = A * 2 ^ (64 * p + t) / 2 ^ 194 := by
  have hW : 2 ^ t * 2 ^ (64 - t) = 2 ^ 64 := W_two t (by omega)
  have e1 : A / 2 ^ (64 * (k + 1)) = A / 2 ^ (64 * k) / 2 ^ 64 := by rw [Nat.mul_add, Nat.pow_add, ← Nat.div_div_eq_div_mul]
  have hlt : A / 2 ^ (64 * (k + 1)) < 2 ^ (64 - t) := by
    refine Nat.div_lt_of_lt_mul ?_
    refine Nat.lt_of_mul_lt_mul_right (a := 2 ^ (64 * p + t)) ?_
    rw [← Nat.pow_add, ← Nat.pow_add, show 64 * (k + 1) + (64 - t) + (64 * p + t) = 256 by omega]
    exact hA
  have hE : 2 ^ (64 - t) ≤ 2 ^ 64 := Nat.pow_le_pow_right (by decide) (by omega)
  rw [Nat.mod_eq_of_lt (Nat.lt_of_lt_of_le hlt hE), Nat.mod_eq_of_lt hlt, e1]
  have hs : A / 2 ^ (64 * k) / 2 ^ 64 * 2 ^ t + A / 2 ^ (64 * k) % 2 ^ 64 / 2 ^ (64 - t) = A / 2 ^ (64 * k) / 2 ^ (64 - t) := by
    generalize A / 2 ^ (64 * k) = B
    conv => rhs; rw [← Nat.div_add_mod B (2 ^ 64), ← hW, Nat.mul_comm (2 ^ t), Nat.mul_assoc, Nat.mul_add_div (Nat.two_pow_pos _)]
    rw [Nat.mul_comm (2 ^ (64 - t)) (2 ^ t), hW, Nat.mul_comm]
  rw [hs, Nat.div_div_eq_div_mul, Nat.div_div_eq_div_mul]
  have e2 : (2 : Nat) ^ 194 = 2 ^ (64 * k) * 2 ^ (64 - t) * 4 * 2 ^ (64 * p + t) := by
    rw [show (4 : Nat) = 2 ^ 2 from rfl, ← Nat.pow_add, ← Nat.pow_add, ← Nat.pow_add, show 64 * k + (64 - t) + 2 + (64 * p + t) = 194 by omega]
  rw [e2, Nat.mul_div_mul_right _ _ (Nat.two_pow_pos _), Nat.mul_assoc]
theorem high_low {A t : Nat} (ht : t ≤ 63) (hA : A * 2 ^ (64 * 3 + t) < 2 ^ 256) : A / 2 ^ (64 * 0) % 2 ^ 64 % 2 ^ (64 - t) * 2 ^ t / 4 = A * 2 ^ (64 * 3 + t) / 2 ^ 194 := by
  have hlt : A < 2 ^ (64 - t) := by
    refine Nat.lt_of_mul_lt_mul_right (a := 2 ^ (64 * 3 + t)) ?_
    rw [← Nat.pow_add, show 64 - t + (64 * 3 + t) = 256 by omega]
    exact hA
  have hE : 2 ^ (64 - t) ≤ 2 ^ 64 := Nat.pow_le_pow_right (by decide) (by omega)
  rw [Nat.mul_zero, Nat.pow_zero, Nat.div_one, Nat.mod_eq_of_lt (Nat.lt_of_lt_of_le hlt hE), Nat.mod_eq_of_lt hlt, Nat.pow_add, Nat.mul_comm (2 ^ (64 * 3)), ← Nat.mul_assoc]
  rw [show (2 : Nat) ^ 194 = 4 * 2 ^ (64 * 3) from by decide, Nat.mul_div_mul_right _ _ (Nat.two_pow_pos _)]
theorem ok_highest : ∀ (a : Nat) (n : Int), Ok (highC a n) → Owes Try.prog Cx.none [] 100 Try.f103 [sU a, sI .i64 n] (highG a n) := by
  intro a n hc
  obtain ⟨hn, hlt, _⟩ := hc
  rw [vc_highest]
  obtain ⟨p, t, hnp, ht, hp, y1, y2, y3, _⟩ := n_parts (n := n) (by omega)
  have hp3 : p ≤ 3 := by omega
  have hn2 : n.toNat = 64 * p + t := by omega
  have hlt' : a % M256 * 2 ^ (64 * p + t) < 2 ^ 256 := by rw [← hn2]; exact hlt
  have hN : highN a n = a % M256 * 2 ^ (64 * p + t) / 2 ^ 194 := by unfold highN; rw [hn2]
  have hNlt : highN a n < 4611686018427387904 := by
    rw [hN]
    exact Nat.div_lt_of_lt_mul hlt'
  have hW := W_two t (by omega)
  intro x1 x2 x3 x4
  have E1 : x1 = ((3 - p : Nat) : Int) := by simp only [x1]; rw [y1, IntWalk.i64_in _ (by omega)]; omega
  have E3 : x3 = ((64 - t : Nat) : Int) := y3
  obtain ⟨c, hc, bc⟩ := limb_is a (3 - p)
  have hc' : c = a % M256 / 2 ^ (64 * (3 - p)) % 2 ^ 64 := by
    have : limb a (3 - p) = ((a / 2 ^ (64 * (3 - p)) % 2 ^ 64 : Nat) : Int) := rfl
    rw [hc, limb_mod a (3 - p) (by omega)] at this
    exact_mod_cast this
  have E4 : x4 = IntKind.u64.wrap ((c : Int) * ((2 ^ t : Nat) : Int)) := by simp only [x4]; rw [E1, Int.toNat_natCast, hc, y2, two_min t (by omega)]
  have E2 : x2 = ((3 - p : Nat) : Int) - 1 := by simp only [x2]; rw [E1, IntWalk.i64_in _ (by omega)]
  clear_value x4 x3 x2 x1
  rw [E1, E2, E3, E4, y2]
  refine ⟨by omega, by omega, nn _, fun h => ⟨?_, ?_, nn _, ?_⟩, fun h => ?_⟩
  · have := of_decide_eq_true h; omega
  · have := of_decide_eq_true h; omega
  · have h := of_decide_eq_true h
    obtain ⟨k, hk⟩ : ∃ k, 3 - p = k + 1 := ⟨2 - p, by omega⟩
    have hk2 : p + k = 2 := by omega
    rw [hk] at hc' ⊢
    rw [show ((k + 1 : Nat) : Int) - 1 = ((k : Nat) : Int) by omega, Int.toNat_natCast]
    obtain ⟨d, hd, bd⟩ := limb_is a k
    have hd' : d = a % M256 / 2 ^ (64 * k) % 2 ^ 64 := by
      have : limb a k = ((a / 2 ^ (64 * k) % 2 ^ 64 : Nat) : Int) := rfl
      rw [hd, limb_mod a k (by omega)] at this
      exact_mod_cast this
    rw [hd, two_min (64 - t) (by omega)]
    obtain ⟨o1, _⟩ := or_up c d t (by omega) bd
    rw [o1, hc', hd']
    have e4 : ∀ n : Nat, (n : Int).fdiv 4 = ((n / 4 : Nat) : Int) := fun n => fdiv_nat n 4
    rw [e4, high_word ht hk2 hlt', ← hN, IntWalk.i64_in _ (by omega)]
  · have h := of_decide_eq_false h
    have hp' : p = 3 := by omega
    subst hp'
    have e4 : ∀ n : Nat, (n : Int).fdiv 4 = ((n / 4 : Nat) : Int) := fun n => fdiv_nat n 4
    rw [wrap_up c _ _ hW, e4, hc', show 3 - 3 = 0 from rfl, high_low ht hlt', ← hN, IntWalk.i64_in _ (by omega)]
theorem card_highest : FnOK Try.prog 103 (specUJ highC highG) :=
  FnOK_UJ CxOK_nil (iv := fun _ _ => []) (N := 100) Try.func103 (by kernel_rfl) (by kernel_rfl) (fun _ _ => bnd_one (bnd_I _ _)) ok_highest
theorem ok_of : ∀ (ls : List (List At)) (vs : List (Option Addr)), Ok (turnC ls) → Owes Try.prog cxTurn [] 100 Try.f101 (mkArgs [.str [.u, .u, .u, .u], .str [.u, .u]] ls vs) (turnG ls) := by
  intro ls vs hc
  unfold turnC at hc
  split at hc
  · rename_i a b c d p q
    have h : Owes Try.prog cxTurn [] 100 Try.f101 [.agg [.u a, .u b, .u c, .u d], .agg [.u p, .u q]] (turnG [[.u a, .u b, .u c, .u d], [.u p, .u q]]) := by
      rw [vc_of]
      exact ⟨rfl, rfl, trivial⟩
    exact h
  · exact hc.1.elim
theorem bnd_agg {ks : List SK} (h : ∀ k ∈ ks, ∃ n, k = .u n) : SA.bnd none0 (.agg ks) := by
  intro k hk
  obtain ⟨n, rfl⟩ := h k hk
  trivial
theorem card_of : FnOK Try.prog 101 (specA [.str [.u, .u, .u, .u], .str [.u, .u]] turnC turnG) :=
  FnOK_A (CxOK_cons card_Mul (CxOK_cons card_Add CxOK_nil)) (iv := fun _ => []) (N := 100) Try.func101 (by kernel_rfl) (by kernel_rfl) (fun ls => by
    unfold turnG
    split
    · exact bnd_one (bnd_agg (by intro k hk; simp only [List.mem_cons, List.not_mem_nil, or_false] at hk; rcases hk with rfl | rfl <;> exact ⟨_, rfl⟩))
    · intro z hz; simp at hz) ok_of
theorem top_bit (a : Nat) : (((limb a 3).fdiv (9223372036854775808 : Int) == (1 : Int)) = true → 57896044618658097711785492504343953926634992332820282019728792003956564819968 ≤ a % M256) ∧ (((limb a 3).fdiv (9223372036854775808 : Int) == (1 : Int)) = false → a % M256 < 57896044618658097711785492504343953926634992332820282019728792003956564819968) := by
  obtain ⟨c0, h0, b0⟩ := limb_is a 0
  obtain ⟨c1, h1, b1⟩ := limb_is a 1
  obtain ⟨c2, h2, b2⟩ := limb_is a 2
  obtain ⟨c3, h3, b3⟩ := limb_is a 3
  have hA := horner_is a c0 c1 c2 c3 h0 h1 h2 h3
  have e : (c3 : Int).fdiv 9223372036854775808 = ((c3 / 9223372036854775808 : Nat) : Int) := fdiv_nat c3 9223372036854775808
  rw [h3, e, hA]
  refine ⟨fun h => ?_, fun h => ?_⟩
  · have := beq_iff_eq.1 h
    omega
  · have := beq_eq_false_iff_ne.1 h
    omega
theorem ok_above : ∀ a m : Nat, Owes Try.prog cxAbove [] 100 Try.f102 [sU a, sU m] (aboveG a m) := by
  intro a m
  rw [vc_above]
  obtain ⟨t1, t2⟩ := top_bit a
  intro x1 x2 x3
  refine ⟨fun h => ⟨?_, trivial⟩, fun h => ⟨?_, trivial⟩⟩
  · simp only [x3]
    rw [if_pos (t1 h)]
  · simp only [x3]
    rw [if_neg (Nat.not_le_of_lt (t2 h))]
theorem card_above : FnOK Try.prog 102 (specUU aboveG) :=
  FnOK_UU (CxOK_cons card_Add CxOK_nil) (iv := []) (N := 100) Try.func102 (by kernel_rfl) (by kernel_rfl) (fun _ _ => bnd_one (bnd_U _)) ok_above
end Go.Proofs.Ytohnkglcabfpjaa
end

section
namespace Go.Proofs.Ytohnkglcabfpjaa
open Go.Sx
theorem fsC_of {p q : Nat} (h : q % M256 < p % M256) : 0 ≤ foN p ∧ foN p ≤ 255 ∧ p % M256 * 2 ^ (foN p).toNat < M256 ∧ q % M256 * 2 ^ (foN p).toNat < M256 ∧
    ∃ N B e0 e1 : Int, FsC (p % M256) (q % M256) N B (highN p (foN p) : Nat) (highN q (foN p) : Nat) e0 e1 4611686018427387904 := by
  have hM : p % M256 < M256 := Nat.mod_lt _ (by rw [M256_eq]; decide)
  unfold foN highN
  generalize p % M256 = P at *
  generalize q % M256 = Q at *
  have hb := bitsN_le (n := P) (k := 256) hM
  obtain ⟨b1, b2⟩ := bitsN_two P (by omega)
  have hb0 : 0 < bitsN P := by
    rcases Nat.eq_zero_or_pos (bitsN P) with e | e
    · rw [e] at b1; omega
    · exact e
  have hD : 2 ^ bitsN P * 2 ^ (256 - bitsN P) = M256 := by rw [← Nat.pow_add, M_pow, show bitsN P + (256 - bitsN P) = 256 by omega]
  have c1 : P * 2 ^ (256 - bitsN P) < M256 := by rw [← hD]; exact Nat.mul_lt_mul_of_pos_right b1 (Nat.two_pow_pos _)
  have c2 : Q * 2 ^ (256 - bitsN P) < M256 := Nat.lt_trans (Nat.mul_lt_mul_of_pos_right h (Nat.two_pow_pos _)) c1
  have c3 : M256 ≤ 2 * (P * 2 ^ (256 - bitsN P)) := by rw [← hD, ← Nat.mul_assoc]; exact Nat.mul_le_mul_right _ b2
  rw [Int.toNat_natCast]
  refine ⟨by omega, by omega, c1, c2, ((2 ^ (256 - bitsN P) : Nat) : Int), ((2 ^ 194 : Nat) : Int), ((P * 2 ^ (256 - bitsN P) % 2 ^ 194 : Nat) : Int), ((Q * 2 ^ (256 - bitsN P) % 2 ^ 194 : Nat) : Int), ?_⟩
  have hN : 0 < 2 ^ (256 - bitsN P) := Nat.two_pow_pos _
  rw [M256_eq] at c1 c2 c3
  have k : ∀ z : Nat, (z : Int) * ((2 ^ (256 - bitsN P) : Nat) : Int) = ((z * 2 ^ (256 - bitsN P) : Nat) : Int) := fun z => (Int.natCast_mul _ _).symm
  generalize 2 ^ (256 - bitsN P) = D at *
  refine ⟨by omega, ?_, ?_, ?_, ?_, ?_, ?_⟩
  · rw [k]
    have := Nat.div_add_mod (P * D) (2 ^ 194)
    generalize P * D = X at *
    omega
  · rw [k]
    have := Nat.div_add_mod (Q * D) (2 ^ 194)
    generalize Q * D = X at *
    omega
  · generalize P * D = X at *
    omega
  · generalize Q * D = X at *
    omega
  · generalize P * D = X at *
    omega
  · generalize Q * D = X at *
    omega
theorem foR_goes {p q : Nat} (h : q % M256 < p % M256) : ∃ R0 R1 : Nat, Goes (p % M256) (q % M256) R0 R1 (foR p q).1 (foR p q).2.1 (foR p q).2.2.1 (foR p q).2.2.2 ∧ (R1 < q % M256 ∨ (foR p q).2.1 = 0) := by
  obtain ⟨_, _, _, _, N, B, e0, e1, C⟩ := fsC_of h
  obtain ⟨x, y, F⟩ := FsK.run C (highN q (foN p) + 1) _ _ _ _ _ _ (FsK.start C)
  obtain ⟨R0, R1, g, hg⟩ := F.g
  exact ⟨R0, R1, g, hg.imp id (fun h => h.2)⟩
theorem wrap_step (x z : Int) : IntKind.i64.wrap (x - IntKind.i64.wrap z) = IntKind.i64.wrap (x - z) := by
  rw [IntKind.wrap_i64, IntKind.wrap_i64, IntKind.wrap_i64]
  omega
theorem ent_range {a : Int} (h : a.natAbs ≤ Int.toNat 4611686018427387904) : -9223372036854775808 ≤ a ∧ a ≤ 9223372036854775807 := by
  have : Int.toNat 4611686018427387904 = 4611686018427387904 := rfl
  omega
theorem foC_pair (ls : List (List At)) (h : Ok (foC ls)) : ∃ p q, ls = [[.u p, .u q]] ∧ q % M256 < p % M256 := by
  unfold foC at h
  split at h
  · exact ⟨_, _, rfl, h.1⟩
  · exact h.1.elim
theorem ok_foresee : ∀ p q : Nat, q % M256 < p % M256 → Owes Try.prog cxFo [(4, .inv (invFo p q))] 100 Try.f99 [.agg [.u p, .u q]] (foG [[.u p, .u q]]) := by
  intro p q hpq
  rw [vc_foresee]
  obtain ⟨n0, n1, hP, hQ, C0⟩ := fsC_of hpq
  intro x1 x2 x3 x4 x5 x6 x7 x8 x9 x10
  refine ⟨⟨n0, n1⟩, hP, ⟨n0, n1⟩, hQ, fun y => rfl, ⟨((highN p (foN p) : Nat) : Int), ((highN q (foN p) : Nat) : Int), 1, 0, 0, 1, highN q (foN p) + 1⟩, ⟨rfl, ?_, ?_⟩, rfl, rfl, rfl, rfl, rfl, rfl, rfl, rfl, rfl, rfl, ?_⟩
  · show ((highN q (foN p) : Nat) + (0 : Int)).toNat < highN q (foN p) + 1
    omega
  · obtain ⟨N, B, e0, e1, C⟩ := C0
    exact ⟨N, B, e0, e1, C, FsK.start C⟩
  rintro ⟨x, y, a, b, c, d, n⟩ ⟨hfs, hlt, N, B, e0, e1, C, F⟩
  dsimp only at hfs hlt F ⊢
  have F' := F
  obtain ⟨_, _, _, p1, p2, p3, p4, sg, ba, bb, bc, bd⟩ := F'
  have ra := ent_range ba
  have rb := ent_range bb
  have rc := ent_range bc
  have rd := ent_range bd
  have w1 : IntKind.i64.wrap (y + c) = y + c := IntWalk.i64_in _ (by clear sg; omega)
  have w2 : IntKind.i64.wrap (y + d) = y + d := IntWalk.i64_in _ (by clear sg; omega)
  have w3 : IntKind.i64.wrap (x + a) = x + a := IntWalk.i64_in _ (by clear sg; omega)
  have w4 : IntKind.i64.wrap (x + b) = x + b := IntWalk.i64_in _ (by clear sg; omega)
  rw [w1, w2, w3, w4]
  have leave : foR p q = (a, b, c, d) → (-9223372036854775808 ≤ a ∧ a ≤ 9223372036854775807) ∧ (-9223372036854775808 ≤ b ∧ b ≤ 9223372036854775807) ∧ (-9223372036854775808 ≤ c ∧ c ≤ 9223372036854775807) ∧ (-9223372036854775808 ≤ d ∧ d ≤ 9223372036854775807) ∧
      (wrN a % M256 = x5 ∧ wrN b % M256 = x7 ∧ wrN c % M256 = x8 ∧ wrN d % M256 = x9 ∧ True) ∧ (b != (0 : Int)) = x10 := by
    intro e
    refine ⟨ra, rb, rc, rd, ⟨?_, ?_, ?_, ?_, trivial⟩, ?_⟩
    · simp only [x5, e]
    · simp only [x7, x6, e]
    · simp only [x8, e]
    · simp only [x9, e]
    · simp only [x10, x6, e]; rfl
  obtain ⟨k, rfl⟩ : ∃ k, n = k + 1 := ⟨n - 1, by omega⟩
  refine ⟨id, id, id, id, fun hc => ?_, fun hc => leave ?_⟩
  · rw [Bool.and_eq_true] at hc
    have hyc : y + c ≠ 0 := bne_iff_ne.1 hc.1
    have hyd : y + d ≠ 0 := bne_iff_ne.1 hc.2
    have t1 : (x + a).tdiv (y + c) = (x + a) / (y + c) := Int.tdiv_eq_ediv_of_nonneg (by clear sg; omega)
    have t2 : (x + b).tdiv (y + d) = (x + b) / (y + d) := Int.tdiv_eq_ediv_of_nonneg (by clear sg; omega)
    have r1 : 0 ≤ (x + a) / (y + c) := Int.ediv_nonneg (by clear sg; omega) p3.1
    have r2 : 0 ≤ (x + b) / (y + d) := Int.ediv_nonneg (by clear sg; omega) p4.1
    have r3 : (x + a) / (y + c) ≤ x + a := Int.ediv_le_self _ (by clear sg; omega)
    have r4 : (x + b) / (y + d) ≤ x + b := Int.ediv_le_self _ (by clear sg; omega)
    have w5 : IntKind.i64.wrap ((x + a) / (y + c)) = (x + a) / (y + c) := IntWalk.i64_in _ (by clear sg; omega)
    have w6 : IntKind.i64.wrap ((x + b) / (y + d)) = (x + b) / (y + d) := IntWalk.i64_in _ (by clear sg; omega)
    rw [t1, t2, w5, w6, wrap_step, wrap_step, wrap_step]
    refine ⟨hyc, hyd, fun hq => leave ?_, fun hq => ?_⟩
    · have hq := bne_iff_ne.1 hq
      rw [← hfs, fs, if_neg (by omega), if_pos hq]
    · have hq : (x + a) / (y + c) = (x + b) / (y + d) := by
        rcases Classical.em ((x + a) / (y + c) = (x + b) / (y + d)) with e | e
        · exact e
        · rw [bne_iff_ne.2 e] at hq; cases hq
      obtain ⟨G, hlt'⟩ := F.step C hyc hyd rfl hq.symm
      have G' := G
      obtain ⟨_, _, _, g1, g2, g3, g4, gs, _, _, gc, gd⟩ := G'
      have hfs' : fs k y (x - (x + a) / (y + c) * y) c d (a - (x + a) / (y + c) * c) (b - (x + a) / (y + c) * d) = foR p q := by
        rw [← hfs, fs, if_neg (by omega), if_neg (fun h => h hq)]
      generalize (x + a) / (y + c) = Q at *
      have gc := ent_range gc
      have gd := ent_range gd
      have v1 : IntKind.i64.wrap (x - Q * y) = x - Q * y := IntWalk.i64_in _ (by
        generalize Q * y = Z at *
        generalize a - Q * c = A at *
        generalize b - Q * d = D at *
        clear sg hfs'
        rcases gs with h | h
        · have := h.2.2.1; have := h.2.2.2.1; omega
        · have := h.2.2.1; have := h.2.2.2.1; omega)
      have v2 : IntKind.i64.wrap (a - Q * c) = a - Q * c := IntWalk.i64_in _ gc
      have v3 : IntKind.i64.wrap (b - Q * d) = b - Q * d := IntWalk.i64_in _ gd
      rw [v1, v2, v3]
      refine ⟨⟨y, x - Q * y, c, d, a - Q * c, b - Q * d, k⟩, ⟨hfs', ?_, N, B, e0, e1, C, G⟩, rfl, rfl, rfl, rfl, rfl, rfl, rfl, rfl, rfl, rfl, Nat.lt_succ_self k⟩
      show (x - Q * y + (a - Q * c)).toNat < k
      clear gs sg hfs'
      omega
  · rw [← hfs, fs, if_pos ?_]
    rcases Classical.em (y + c = 0) with e | e
    · exact .inl e
    · refine .inr ?_
      rcases Classical.em (y + d = 0) with e' | e'
      · exact e'
      · rw [bne_iff_ne.2 e, bne_iff_ne.2 e'] at hc; cases hc
theorem card_foresee : FnOK Try.prog 99 (specA [.str [.u, .u]] foC foG) :=
  FnOK_A (CxOK_cons card_fnoughts (CxOK_cons card_highest (CxOK_cons card_signed CxOK_nil))) (iv := fun ls => match ls with
    | [[.u p, .u q]] => [(4, .inv (invFo p q))]
    | _ => []) (N := 100) Try.func99 (by kernel_rfl) (by kernel_rfl) (fun ls => by
    unfold foG
    split
    · exact bnd_two (bnd_agg (by intro k hk; simp only [List.mem_cons, List.not_mem_nil, or_false] at hk; rcases hk with rfl | rfl | rfl | rfl <;> exact ⟨_, rfl⟩)) (bnd_B _)
    · intro z hz; simp at hz) (fun ls vs h => by
    obtain ⟨p, q, rfl, h2⟩ := foC_pair ls h
    exact ok_foresee p q h2)
end Go.Proofs.Ytohnkglcabfpjaa
end

section
namespace Go.Proofs.Ytohnkglcabfpjaa
open Go.Sx
theorem EuK.le_m {m a r0 r1 : Nat} {s0 s1 : Int} (k : EuK m a r0 r1 s0 s1) (hm : 0 < m) : r0 ≤ m := by
  have hle := k.le
  have hlt := k.lt
  rcases k.sg with ⟨g1, g2, e⟩ | ⟨g1, g2, e⟩
  · have h1 : 1 ≤ s1 := by
      rcases Int.lt_or_le 0 s1 with h | h
      · exact h
      · have : s1 = 0 := by omega
        have : s0 = 0 := by omega
        subst_vars
        omega
    have p1 := Int.mul_le_mul_of_nonneg_left h1 (show (0 : Int) ≤ r0 by omega)
    have p2 := Int.mul_nonpos_of_nonneg_of_nonpos (show (0 : Int) ≤ r1 by omega) g1
    omega
  · have h1 : s1 ≤ -1 := by
      rcases Int.lt_or_le s1 0 with h | h
      · omega
      · have : s1 = 0 := by omega
        have : s0 = 0 := by omega
        subst_vars
        omega
    have p1 := Int.mul_le_mul_of_nonneg_left h1 (show (0 : Int) ≤ r0 by omega)
    have p2 := Int.mul_nonneg (show (0 : Int) ≤ r1 by omega) g1
    omega
theorem wr_lin {x y u v : Nat} {X Y A B Z : Int} (hx : (x : Int) % (M256 : Int) = X % (M256 : Int)) (hy : (y : Int) % (M256 : Int) = Y % (M256 : Int)) (hu : (u : Int) % (M256 : Int) = A % (M256 : Int)) (hv : (v : Int) % (M256 : Int) = B % (M256 : Int)) (hZ : X * A + Y * B = Z) :
    (x * u + y * v) % M256 = wrN Z % M256 := by
  have e : (((x * u + y * v) % M256 : Nat) : Int) = ((wrN Z % M256 : Nat) : Int) := by
    rw [Int.natCast_emod, Int.natCast_emod, wrN_cast, Int.emod_emod, Int.natCast_add, Int.natCast_mul, Int.natCast_mul, Int.add_emod, Int.mul_emod (x : Int), Int.mul_emod (y : Int), hx, hy, hu, hv, ← Int.mul_emod, ← Int.mul_emod, ← Int.add_emod, hZ]
  exact_mod_cast e
theorem wr_nat (n : Nat) : wrN (n : Int) % M256 = n % M256 := by
  have e : ((wrN (n : Int) % M256 : Nat) : Int) = ((n % M256 : Nat) : Int) := by
    rw [Int.natCast_emod, wrN_cast, Int.emod_emod, Int.natCast_emod]
  exact_mod_cast e
theorem wr_cast (z : Int) : ((wrN z : Nat) : Int) % (M256 : Int) = z % (M256 : Int) := by rw [wrN_cast, Int.emod_emod]
theorem neg_cast (q : Nat) : (((115792089237316195423570985008687907853269984665640564039457584007913129639936 - q % M256 : Nat) : Int)) % (M256 : Int) = (-(q : Int)) % (M256 : Int) := by
  have hlt : q % M256 < M256 := Nat.mod_lt _ (by rw [M256_eq]; decide)
  rw [← M256_eq, Int.ofNat_sub (Nat.le_of_lt hlt), Int.natCast_emod]
  have e : (M256 : Int) - (q : Int) % (M256 : Int) = -(q : Int) + (M256 : Int) * ((q : Int) / (M256 : Int) + 1) := by
    have := Int.mul_ediv_add_emod (q : Int) (M256 : Int)
    rw [Int.mul_add]
    omega
  rw [e, Int.add_mul_emod_self_left]
theorem inv_end {m a r0 : Nat} {s0 s1 : Int} (hmM : m < M256) (ham : a < m) (k : EuK m a r0 0 s0 s1) (e : euE r0 0 s0 s1 = euE m a 0 1) :
    (r0 ≠ 1 → 0 = invN a m % M256 ∧ (5 : Int) = invE a m) ∧
    (r0 = 1 → ∀ mm : Nat, mm % M256 = m → (if 57896044618658097711785492504343953926634992332820282019728792003956564819968 ≤ wrN s0 % M256 then wrN s0 + mm else wrN s0) % M256 = invN a m % M256 ∧ (0 : Int) = invE a m) := by
  rw [euE_zero] at e
  unfold invN invE
  rw [← e]
  refine ⟨fun h => ?_, fun h mm hmm => ?_⟩
  · rw [if_neg h, if_neg h, Nat.zero_mod]
    exact ⟨rfl, rfl⟩
  · rw [if_pos h, if_pos h]
    refine ⟨?_, rfl⟩
    have hh := k.half
    rw [Nat.mod_eq_of_lt (wrN_lt s0)]
    have hM := M256_eq
    rcases Int.lt_or_le s0 0 with g | g
    · have w : wrN s0 = (s0 + 2 ^ 256).toNat := wrN_neg g (by omega)
      have v : s0 % (m : Int) = s0 + m := by
        rw [← Int.add_emod_right]
        exact Int.emod_eq_of_lt (by omega) (by omega)
      have c : 57896044618658097711785492504343953926634992332820282019728792003956564819968 ≤ wrN s0 := by omega
      rw [if_pos c, v, Nat.add_mod, hmm]
      have q1 : wrN s0 % M256 = wrN s0 := Nat.mod_eq_of_lt (wrN_lt s0)
      rw [q1]
      have q2 : wrN s0 + m = (s0 + m).toNat + M256 := by
        rw [w, hM]
        omega
      rw [q2, Nat.add_mod_right]
    · have w : wrN s0 = s0.toNat := wrN_nonneg g (by omega)
      have v : s0 % (m : Int) = s0 := Int.emod_eq_of_lt g (by omega)
      have c : ¬ 57896044618658097711785492504343953926634992332820282019728792003956564819968 ≤ wrN s0 := by omega
      rw [if_neg c, v, w]
set_option maxHeartbeats 1000000 in
theorem ok_inverse : ∀ a m : Nat, Ok (inverseC a m) → Owes Try.prog cxInverse [(2, .inv (invInv a m))] 100 Try.f91 [sU a, sU m] (inverseG a m) := by
  intro a m hc
  obtain ⟨ham, _⟩ := hc
  rw [vc_inverse]
  have hM0 : 0 < M256 := by rw [M256_eq]; decide
  have hM1 : 1 % M256 = 1 := by rw [M256_eq]
  have hmM : m % M256 < M256 := Nat.mod_lt _ hM0
  have END := fun (r0 : Nat) (s0 s1 : Int) => inv_end (r0 := r0) (s0 := s0) (s1 := s1) hmM ham
  intro x1 x2 x3 x4
  have E3 : x3 = invN x2 x1 % M256 := rfl
  have E4 : x4 = invE x2 x1 := rfl
  have X1 : m % M256 = x1 := rfl
  have X2 : a % M256 = x2 := rfl
  clear_value x4 x3
  rw [X1, X2] at END
  rw [X1] at hmM
  rw [X1, X2] at ham
  clear_value x2 x1
  refine ⟨fun y => rfl, ⟨x1, x2, 0, 1⟩, ⟨EuK.start ham, rfl, Nat.le_refl _⟩, rfl, rfl, rfl, rfl, rfl, (Nat.mod_eq_of_lt hmM).symm, (Nat.mod_eq_of_lt (Nat.lt_trans ham hmM)).symm, rfl, ⟨(wr_nat 0).symm, ?_, trivial⟩, rfl, ?_⟩
  · have := wr_nat 1
    rw [hM1] at this
    exact this.symm
  rintro ⟨r0, r1, s0, s1⟩ ⟨K, hE, hle⟩
  dsimp only at K hE hle ⊢
  have hlt := K.lt
  have m0 : r0 % M256 = r0 := Nat.mod_eq_of_lt (Nat.lt_of_le_of_lt hle hmM)
  have m1 : r1 % M256 = r1 := Nat.mod_eq_of_lt (Nat.lt_trans hlt (Nat.lt_of_le_of_lt hle hmM))
  rw [m1, m0]
  have hx1 : 0 < x1 := Nat.lt_of_le_of_lt (Nat.zero_le _) ham
  refine ⟨fun h => ⟨hlt, fun hb => ?_, fun hb => ?_⟩, fun h => ?_⟩
  · have hr : r1 ≠ 0 := by
      intro e
      subst e
      revert h
      decide
    rw [if_neg hr]
    have K' := K.step hr
    have l' := EuK.le_m K' hx1
    have hq : ((r0 / r1 : Nat) : Int) = ((r0 / r1 : Nat) : Int) := rfl
    have hdm : (r0 : Int) = (r1 : Int) * ((r0 / r1 : Nat) : Int) + ((r0 % r1 : Nat) : Int) := by exact_mod_cast (Nat.div_add_mod r0 r1).symm
    refine ⟨⟨r1, r0 % r1, s1, s0 - ((r0 / r1 : Nat) : Int) * s1⟩, ⟨K', by rw [← hE, ← euE_step hr], l'⟩, rfl, rfl, rfl, rfl, rfl, ?_, ?_, rfl, ?_, ?_, rfl, Nat.mod_lt _ (Nat.pos_of_ne_zero hr)⟩
    · rw [Nat.zero_mul, Nat.zero_add, Nat.one_mul]
    · rw [← wr_nat (r0 % r1)]
      refine wr_lin (X := 1) (Y := -((r0 / r1 : Nat) : Int)) (A := r0) (B := r1) rfl (neg_cast _) rfl rfl ?_
      rw [Int.one_mul, Int.neg_mul, Int.mul_comm ((r0 / r1 : Nat) : Int)]
      omega
    · rw [Nat.zero_mul, Nat.zero_add, Nat.one_mul]
    · refine wr_lin (X := 1) (Y := -((r0 / r1 : Nat) : Int)) (A := s0) (B := s1) rfl (neg_cast _) (wr_cast _) (wr_cast _) ?_
      show 1 * s0 + -((r0 / r1 : Nat) : Int) * s1 = s0 - ((r0 / r1 : Nat) : Int) * s1
      rw [Int.one_mul, Int.neg_mul, Int.sub_eq_add_neg]
  · obtain ⟨R0, R1, g, hg⟩ := foR_goes (p := r0) (q := r1) (by rw [m0, m1]; exact hlt)
    rw [m0, m1] at g
    rw [m1] at hg
    have hb' : (foR r0 r1).2.1 ≠ 0 := by
      intro e
      rw [e] at hb
      revert hb
      decide
    have hg' : R1 < r1 := hg.resolve_right hb'
    have K' := g.gK _ _ _ _ K
    have l' := EuK.le_m K' hx1
    refine ⟨⟨R0, R1, _, _⟩, ⟨K', by rw [← hE, g.gE], l'⟩, rfl, rfl, rfl, rfl, rfl, ?_, ?_, rfl, ?_, ?_, rfl, hg'⟩
    · rw [← wr_nat R0]
      exact wr_lin (wr_cast _) (wr_cast _) rfl rfl g.e0.symm
    · rw [← wr_nat R1]
      exact wr_lin (wr_cast _) (wr_cast _) rfl rfl g.e1.symm
    · exact wr_lin (wr_cast _) (wr_cast _) (wr_cast _) (wr_cast _) rfl
    · exact wr_lin (wr_cast _) (wr_cast _) (wr_cast _) (wr_cast _) rfl
  · have hr : r1 = 0 := by
      rcases Nat.eq_zero_or_pos r1 with e | e
      · exact e
      · have hne : (r1 == 0) = false := beq_eq_false_iff_ne.2 (by omega)
        rw [hne] at h
        exact absurd h (by decide)
    subst hr
    obtain ⟨e1, e2⟩ := END r0 s0 s1 K hE
    refine ⟨fun h1 => ?_, fun h1 => ?_⟩
    · have hne : r0 ≠ 1 := by
        intro e
        subst e
        revert h1
        decide
      obtain ⟨p, q⟩ := e1 hne
      rw [E3, E4]
      exact ⟨⟨p, trivial⟩, q⟩
    · have heq : r0 = 1 := by
        rcases Classical.em (r0 = 1) with e | e
        · exact e
        · rw [beq_eq_false_iff_ne.2 e] at h1
          exact absurd h1 (by decide)
      obtain ⟨p, q⟩ := e2 heq m X1
      rw [E3, E4]
      exact ⟨⟨p, trivial⟩, q⟩
theorem card_inverse : FnOK Try.prog 91 (specUUC inverseC inverseG) :=
  FnOK_UUC (CxOK_cons card_foresee (CxOK_cons card_of (CxOK_cons card_above (CxOK_cons card_DivMod (CxOK_cons card_Sub CxOK_nil))))) (iv := fun a m => [(2, .inv (invInv a m))]) (N := 100) Try.func91 (by kernel_rfl) (by kernel_rfl) (fun _ _ => bnd_two (bnd_U _) (bnd_I _ _)) ok_inverse
theorem ok_fInv : ∀ a m : Nat, Owes Try.prog cxInv [] 100 Try.f76 [sU a, sU m] (finvG a m) := by
  intro a m
  rw [vc_fInv]
  intro x1 x2 x3 x4
  refine ⟨fun h => ?_, fun h => ⟨fun h1 => ?_, fun h1 => ?_⟩⟩
  · have e : finvE a m = 7 := by unfold finvE; rw [if_pos (beq_iff_eq.1 h)]
    simp only [x4, e]
    exact ⟨⟨rfl, trivial⟩, trivial⟩
  · have hge := cmp_ge.1 (of_decide_eq_true h1)
    have e : finvE a m = 6 := by unfold finvE; rw [if_neg (beq_eq_false_iff_ne.1 h), if_neg (Nat.not_lt_of_le hge)]
    simp only [x4, e]
    exact ⟨⟨rfl, trivial⟩, trivial⟩
  · have l1 : a % M256 < m % M256 := Nat.lt_of_not_le fun c => of_decide_eq_false h1 (cmp_ge.2 c)
    have e : finvE a m = invE x2 x1 := by unfold finvE; rw [if_neg (beq_eq_false_iff_ne.1 h), if_pos l1]
    refine ⟨l1, ⟨?_, trivial⟩, e.symm⟩
    simp only [x4]
    rw [e]
    simp only [x3]
    unfold invE invN
    by_cases c : (euE x1 x2 0 1).1 = 1
    · rw [if_pos c, if_pos c, if_pos rfl]
    · rw [if_neg c, if_neg c, if_neg (by decide)]
theorem card_fInv : FnOK Try.prog 76 (specUU finvG) :=
  FnOK_UU (CxOK_cons card_Cmp (CxOK_cons card_inverse CxOK_nil)) (iv := []) (N := 100) Try.func76 (by kernel_rfl) (by kernel_rfl) (fun _ _ => bnd_two (bnd_U _) (bnd_I _ _)) ok_fInv
end Go.Proofs.Ytohnkglcabfpjaa
end

section
namespace Go.Proofs.Ytohnkglcabfpjaa
open Go.Sx
theorem euE_run {m a : Nat} : ∀ (n r0 r1 : Nat) (s0 s1 : Int), r1 ≤ n → EuK m a r0 r1 s0 s1 → ∃ s1', EuK m a (euE r0 r1 s0 s1).1 0 (euE r0 r1 s0 s1).2 s1'
  | 0, r0, r1, s0, s1, h, k => by
    have : r1 = 0 := by omega
    subst this
    exact ⟨s1, k⟩
  | n + 1, r0, r1, s0, s1, h, k => by
    by_cases e : r1 = 0
    · subst e
      exact ⟨s1, k⟩
    · have := Nat.mod_lt r0 (Nat.pos_of_ne_zero e)
      rw [euE_step e]
      exact euE_run n _ _ _ _ (by omega) (k.step e)
theorem invE_gcd (a m : Nat) : invE a m = if Nat.gcd a m = 1 then 0 else 5 := by
  unfold invE
  rw [euE_gcd]
theorem invN_gcd {a m : Nat} (h : Nat.gcd a m = 1) : invN a m = ((euE m a 0 1).2 % (m : Int)).toNat := by
  unfold invN
  rw [euE_gcd, if_pos h]
theorem invN_spec {a m : Nat} (ham : a < m) (h : Nat.gcd a m = 1) : invN a m < m ∧ a * invN a m % m = 1 % m := by
  rw [invN_gcd h]
  have hm : (m : Int) ≠ 0 := by omega
  have h1 := Int.emod_nonneg (euE m a 0 1).2 hm
  have h2 := Int.emod_lt_of_pos (euE m a 0 1).2 (show 0 < (m : Int) by omega)
  refine ⟨by omega, ?_⟩
  obtain ⟨_, k⟩ := euE_run a m a 0 1 (Nat.le_refl _) (EuK.start ham)
  have k0 := k.d0
  rw [euE_gcd, h] at k0
  have e : ((a * ((euE m a 0 1).2 % (m : Int)).toNat % m : Nat) : Int) = ((1 % m : Nat) : Int) := by
    rw [Int.natCast_emod, Int.natCast_mul, Int.toNat_of_nonneg h1, Int.natCast_emod, Int.mul_emod, Int.emod_emod, ← Int.mul_emod]
    exact Int.emod_eq_emod_iff_emod_sub_eq_zero.2 (Int.emod_eq_zero_of_dvd k0)
  exact_mod_cast e
theorem ok_pickBig (n m : Int) (hn : i64ok n) (hm : 0 < m ∧ m ≤ 1048576) : Owes Try.prog Cx.none [] 100 Try.f21 [sI .i64 n, sI .i64 m] (pickedG n m) := by
  rw [vc_pickBig]
  obtain ⟨h1, h2⟩ := hn
  have hd := Int.tmod_add_mul_tdiv n m
  have b1 := Int.emod_nonneg n (show m ≠ 0 by omega)
  have b2 := Int.emod_lt_of_pos n hm.1
  have hlt := Int.tmod_lt_of_pos n hm.1
  have hgt := Int.lt_tmod_of_pos n hm.1
  have e0 : n.tmod m % m = n % m := by
    conv => rhs; rw [← hd, Int.add_mul_emod_self_left]
  refine ⟨by omega, fun h => ?_, fun h => ?_⟩
  · have h := of_decide_eq_true h
    have e : n.tmod m + m = n % m := by
      rw [← e0, ← Int.add_emod_right]
      exact (Int.emod_eq_of_lt (by omega) (by omega)).symm
    rw [e, IntWalk.i64_in _ (by omega)]
  · have h := of_decide_eq_false h
    rw [← e0]
    exact (Int.emod_eq_of_lt (by omega) hlt).symm
theorem card_pickBig : FnOK Try.prog 21 (specII (fun a b => [i64ok a, 0 < b ∧ b ≤ 1048576]) pickedG) :=
  FnOK_II CxOK_nil (iv := []) (N := 100) Try.func21 (by kernel_rfl) (by kernel_rfl) (fun _ _ => bnd_one (bnd_I _ _)) (fun a b h => ok_pickBig a b h.1 h.2.1)
theorem ok_pickN (k : Nat) (n m : Int) (h : Ok (pickC k n m)) : Owes Try.prog Cx.none [] 100 Try.f21 [sI .i64 n, sI .i64 m] (numG k) := by
  obtain ⟨h1, h2, h3, _⟩ := h
  have := ok_pickBig n m h1 (by omega)
  rw [vc_pickBig] at this
  rw [vc_pickN]
  rw [h3] at this
  exact this
theorem card_pickN (k : Nat) : FnOK Try.prog 21 (specII (pickC k) fun _ _ => numG k) :=
  FnOK_II CxOK_nil (iv := []) (N := 100) Try.func21 (by kernel_rfl) (by kernel_rfl) (fun _ _ => trivial) (ok_pickN k)
theorem ok_Curve : ∀ (ls : List (List At)) (vs : List (Option Addr)), Ok (curveC ls) → Owes Try.prog (match ls with | [[.i n]] => cxPickN (ixN n) | _ => Cx.none) [] 100 Try.f10 (mkArgs [.int .i64] ls vs) (curveG ls) := by
  intro ls vs hc
  unfold curveC at hc
  split at hc
  · rename_i n
    obtain ⟨hn, _⟩ := hc
    have hlt : ixN n < 8 := by unfold ixN; omega
    have hix : n % 8 = ((ixN n : Nat) : Int) := by unfold ixN; omega
    have M : ∀ v, v < 1000 → v % M256 = v := fun v h => Nat.mod_eq_of_lt (by rw [M256_eq]; omega)
    show Owes Try.prog (cxPickN (ixN n)) [] 100 Try.f10 [sI .i64 n] (curveG [[.i n]])
    generalize hi : ixN n = i at *
    match i, hlt with
    | 0, _ => rw [vc_Curve0, hi]; exact ⟨hn, by decide, hix, (M 43 (by decide)).symm, rfl, (M 7 (by decide)).symm, (M 31 (by decide)).symm, (M 2 (by decide)).symm, (M 12 (by decide)).symm, rfl, trivial⟩
    | 1, _ => rw [vc_Curve1, hi]; exact ⟨hn, by decide, hix, (M 67 (by decide)).symm, rfl, (M 2 (by decide)).symm, (M 73 (by decide)).symm, (M 2 (by decide)).symm, (M 12 (by decide)).symm, rfl, trivial⟩
    | 2, _ => rw [vc_Curve2, hi]; exact ⟨hn, by decide, hix, (M 79 (by decide)).symm, rfl, (M 6 (by decide)).symm, (M 67 (by decide)).symm, (M 5 (by decide)).symm, (M 17 (by decide)).symm, rfl, trivial⟩
    | 3, _ => rw [vc_Curve3, hi]; exact ⟨hn, by decide, hix, (M 139 (by decide)).symm, rfl, (M 2 (by decide)).symm, (M 163 (by decide)).symm, (M 3 (by decide)).symm, (M 53 (by decide)).symm, rfl, trivial⟩
    | 4, _ => rw [vc_Curve4, hi]; exact ⟨hn, by decide, hix, (M 163 (by decide)).symm, rfl, (M 3 (by decide)).symm, (M 181 (by decide)).symm, (M 1 (by decide)).symm, (M 2 (by decide)).symm, rfl, trivial⟩
    | 5, _ => rw [vc_Curve5, hi]; exact ⟨hn, by decide, hix, (M 211 (by decide)).symm, rfl, (M 3 (by decide)).symm, (M 199 (by decide)).symm, (M 1 (by decide)).symm, (M 2 (by decide)).symm, rfl, trivial⟩
    | 6, _ => rw [vc_Curve6, hi]; exact ⟨hn, by decide, hix, (M 379 (by decide)).symm, rfl, (M 2 (by decide)).symm, (M 409 (by decide)).symm, (M 5 (by decide)).symm, (M 49 (by decide)).symm, rfl, trivial⟩
    | 7, _ => rw [vc_Curve7, hi]; exact ⟨hn, by decide, hix, (M 691 (by decide)).symm, rfl, (M 3 (by decide)).symm, (M 643 (by decide)).symm, (M 1 (by decide)).symm, (M 2 (by decide)).symm, rfl, trivial⟩
    | k + 8, h => omega
  · exact hc.1.elim
theorem bnd_curve (i : Nat) : SA.bnd none0 (curveS i) := by
  intro k hk
  simp only [List.mem_cons, List.not_mem_nil, or_false] at hk
  rcases hk with rfl | rfl | rfl | rfl | rfl | rfl | rfl <;> trivial
theorem card_Curve : FnOK Try.prog 10 (specA [.int .i64] curveC curveG) :=
  FnOK_AX (cx := fun ls => match ls with | [[.i n]] => cxPickN (ixN n) | _ => Cx.none) (iv := fun _ => []) (N := 100) (fun ls _ => by
    split
    · exact CxOK_cons (card_pickN _) CxOK_nil
    · exact CxOK_nil) (fun ls => by split <;> rfl) Try.func10 (by kernel_rfl) (by kernel_rfl) (fun ls => by
    unfold curveG
    split
    · exact bnd_one (bnd_curve _)
    · intro z hz; simp at hz) ok_Curve
end Go.Proofs.Ytohnkglcabfpjaa
end

section
namespace Go.Proofs.Ytohnkglcabfpjaa
open Go.Sx
theorem small_mod {v : Nat} (h : v < 18446744073709551616) : v % M256 = v := Nat.mod_eq_of_lt (by rw [M256_eq]; omega)
theorem join_one {z : Int} (h : 0 ≤ z ∧ z < 18446744073709551616) : join z 0 0 0 % M256 = z.toNat := by
  have e : join z 0 0 0 = z.toNat := by unfold join; simp
  rw [e, small_mod (by omega)]
def ppOK (p : Nat) : Bool := (List.range (p - 1)).all fun k => Nat.beq ((k + 1) ^ (p - 1) % p) 1 && Nat.beq ((k + 1) ^ (p - 2) % p) (invN (k + 1) p) && Nat.beq (Nat.gcd (k + 1) p) 1
theorem pp_all : (List.range 8).all (fun i => ppOK (cP i)) = true := by kernel_rfl
theorem cP_range {i : Nat} (h : i < 8) : 43 ≤ cP i ∧ cP i ≤ 691 := by
  have : ∀ i : Fin 8, 43 ≤ cP i.val ∧ cP i.val ≤ 691 := by decide
  exact this ⟨i, h⟩
theorem pp_fact {i A : Nat} (hi : i < 8) (h1 : 1 ≤ A) (h2 : A < cP i) : A ^ (cP i - 1) % cP i = 1 ∧ A ^ (cP i - 2) % cP i = invN A (cP i) ∧ Nat.gcd A (cP i) = 1 := by
  have h := List.all_eq_true.1 (List.all_eq_true.1 pp_all i (List.mem_range.2 hi)) (A - 1) (List.mem_range.2 (by omega))
  rw [show A - 1 + 1 = A by omega] at h
  simp only [Bool.and_eq_true] at h
  exact ⟨Nat.eq_of_beq_eq_true h.1.1, Nat.eq_of_beq_eq_true h.1.2, Nat.eq_of_beq_eq_true h.2⟩
theorem limb_small {v : Nat} (h : v < 18446744073709551616) : limb v 0 = (v : Int) := by
  have e : limb v 0 = ((v / 2 ^ (64 * 0) % 2 ^ 64 : Nat) : Int) := rfl
  rw [e, Nat.mul_zero, Nat.pow_zero, Nat.div_one, Nat.mod_eq_of_lt h]
theorem ixN_lt (n : Int) : ixN n < 8 := by unfold ixN; omega
end Go.Proofs.Ytohnkglcabfpjaa
end

section
namespace Go.Proofs.Ytohnkglcabfpjaa
open Go.Sx
theorem M_pos : 0 < M256 := by rw [M256_eq]; decide
theorem mod_M {v m : Nat} (h : v < m % M256) : v % M256 = v := Nat.mod_eq_of_lt (Nat.lt_trans h (Nat.mod_lt _ M_pos))
theorem fE_zero {a b m : Nat} (ha : a % M256 < m % M256) (hb : b % M256 < m % M256) : fE a b m = 0 := by
  unfold fE
  rw [if_neg (by omega), if_pos ⟨ha, hb⟩]
theorem ok_kept : ∀ (ls : List (List At)) (vs : List (Option Addr)), Ok (keptC ls) → Owes Try.prog Cx.none [] 100 Try.f72 (mkArgs [.hand, .str [.u], .int .i64] ls vs) (keptG ls) := by
  intro ls vs hc
  unfold keptC at hc
  split at hc
  · rename_i m a e
    have h : Owes Try.prog Cx.none [] 100 Try.f72 [sHand m (vs.headD none), sU a, sI .i64 e] (keptG [[.u m], [.u a], [.i e]]) := by
      rw [vc_kept]
      obtain ⟨rfl, _⟩ := hc
      exact ⟨fun h => absurd h (by decide), fun _ => ⟨rfl, trivial⟩⟩
    exact h
  · exact hc.1.elim
theorem ok_hadd : ∀ (ls : List (List At)) (vs : List (Option Addr)), Ok (h2C ls) → Owes Try.prog cxHadd [] 100 Try.f59 (mkArgs shH2 ls vs) (haddG ls) := by
  intro ls vs hc
  unfold h2C at hc
  split at hc
  · rename_i m a b
    have h : Owes Try.prog cxHadd [] 100 Try.f59 [sHand m (vs.headD none), sU a, sU b] (haddG [[.u m], [.u a], [.u b]]) := by
      rw [vc_hadd]
      obtain ⟨h1, h2, _⟩ := hc
      have e := fE_zero h1 h2
      exact ⟨e, by rw [if_pos e], trivial⟩
    exact h
  · exact hc.1.elim
theorem ok_hsub : ∀ (ls : List (List At)) (vs : List (Option Addr)), Ok (h2C ls) → Owes Try.prog cxHsub [] 100 Try.f44 (mkArgs shH2 ls vs) (hsubG ls) := by
  intro ls vs hc
  unfold h2C at hc
  split at hc
  · rename_i m a b
    have h : Owes Try.prog cxHsub [] 100 Try.f44 [sHand m (vs.headD none), sU a, sU b] (hsubG [[.u m], [.u a], [.u b]]) := by
      rw [vc_hsub]
      obtain ⟨h1, h2, _⟩ := hc
      have e := fE_zero h1 h2
      exact ⟨e, by rw [if_pos e], trivial⟩
    exact h
  · exact hc.1.elim
theorem ok_hmul : ∀ (ls : List (List At)) (vs : List (Option Addr)), Ok (h2C ls) → Owes Try.prog cxHmul [] 100 Try.f58 (mkArgs shH2 ls vs) (hmulG ls) := by
  intro ls vs hc
  unfold h2C at hc
  split at hc
  · rename_i m a b
    have h : Owes Try.prog cxHmul [] 100 Try.f58 [sHand m (vs.headD none), sU a, sU b] (hmulG [[.u m], [.u a], [.u b]]) := by
      rw [vc_hmul]
      obtain ⟨h1, h2, _⟩ := hc
      have e := fE_zero h1 h2
      exact ⟨e, by rw [if_pos e], trivial⟩
    exact h
  · exact hc.1.elim
theorem ok_hdiv : ∀ (ls : List (List At)) (vs : List (Option Addr)), Ok (hdivC ls) → Owes Try.prog cxHdiv [] 100 Try.f81 (mkArgs shH2 ls vs) (hdivG ls) := by
  intro ls vs hc
  unfold hdivC at hc
  split at hc
  · rename_i m a b
    have h : Owes Try.prog cxHdiv [] 100 Try.f81 [sHand m (vs.headD none), sU a, sU b] (hdivG [[.u m], [.u a], [.u b]]) := by
      rw [vc_hdiv]
      obtain ⟨h1, h2, h3, _⟩ := hc
      have e : finvE b m = 0 := by
        unfold finvE
        rw [if_neg (by omega), if_pos h2, invE_gcd, if_pos h3]
      obtain ⟨i1, _⟩ := invN_spec h2 h3
      have i2 := mod_M i1
      intro x1 x2 x3 x4
      have E4 : x4 = x3 := by simp only [x4]; rw [if_pos e]; exact i2
      rw [E4]
      exact ⟨e, h1, i1, rfl, trivial⟩
    exact h
  · exact hc.1.elim
theorem ok_twice : ∀ (ls : List (List At)) (vs : List (Option Addr)), Ok (h1C ls) → Owes Try.prog cxTwice [] 100 Try.f79 (mkArgs shH1 ls vs) (htwiceG ls) := by
  intro ls vs hc
  unfold h1C at hc
  split at hc
  · rename_i m a
    have h : Owes Try.prog cxTwice [] 100 Try.f79 [sHand m (vs.headD none), sU a] (htwiceG [[.u m], [.u a]]) := by
      rw [vc_twice]
      obtain ⟨h1, _⟩ := hc
      exact ⟨h1, h1, rfl, trivial⟩
    exact h
  · exact hc.1.elim
theorem ok_thrice : ∀ (ls : List (List At)) (vs : List (Option Addr)), Ok (h1C ls) → Owes Try.prog cxThrice [] 100 Try.f80 (mkArgs shH1 ls vs) (hthriceG ls) := by
  intro ls vs hc
  unfold h1C at hc
  split at hc
  · rename_i m a
    have h : Owes Try.prog cxThrice [] 100 Try.f80 [sHand m (vs.headD none), sU a] (hthriceG [[.u m], [.u a]]) := by
      rw [vc_thrice]
      obtain ⟨h1, _⟩ := hc
      have hlt : (a % M256 + a % M256) % (m % M256) < m % M256 := Nat.mod_lt _ (Nat.lt_of_le_of_lt (Nat.zero_le _) h1)
      have e := mod_M hlt
      intro x1 x2 x3 x4
      have E4 : x4 = x3 := e
      rw [E4]
      exact ⟨h1, h1, hlt, rfl, trivial⟩
    exact h
  · exact hc.1.elim
theorem ok_root : ∀ (ls : List (List At)) (vs : List (Option Addr)), Ok (h1C ls) → Owes Try.prog cxRoot [] 100 Try.f41 (mkArgs shH1 ls vs) (hrootG ls) := by
  intro ls vs hc
  unfold h1C at hc
  split at hc
  · rename_i m a
    have h : Owes Try.prog cxRoot [] 100 Try.f41 [sHand m (vs.headD none), sU a] (hrootG [[.u m], [.u a]]) := by
      rw [vc_root]
      obtain ⟨h1, _⟩ := hc
      have e : pE a m = 0 := by unfold pE; rw [if_neg (by omega), if_pos h1]
      have hq : (m % M256 / 4 + 1) % M256 = m % M256 / 4 + 1 := by
        have := Nat.mod_lt m M_pos
        have hM := M256_eq
        exact Nat.mod_eq_of_lt (by omega)
      intro x1 x2
      have hq' : (x2 + 1) % M256 = x2 + 1 := hq
      rw [if_neg (show ¬ (4 : Nat) = 0 by decide), hq', if_pos e]
      exact ⟨e, rfl, trivial⟩
    exact h
  · exact hc.1.elim
theorem bnd_none : SV.bnd none0 (.tup []) := by intro z hz; simp at hz
theorem card_kept : FnOK Try.prog 72 cKept :=
  FnOK_A CxOK_nil (iv := fun _ => []) (N := 100) Try.func72 (by kernel_rfl) (by kernel_rfl) (fun ls => by unfold keptG; split; exact bnd_one (bnd_U _); exact bnd_none) ok_kept
theorem card_hadd : FnOK Try.prog 59 cHadd :=
  FnOK_A (CxOK_cons card_fAdd (CxOK_cons card_kept CxOK_nil)) (iv := fun _ => []) (N := 100) Try.func59 (by kernel_rfl) (by kernel_rfl) (fun ls => by unfold haddG; split; exact bnd_one (bnd_U _); exact bnd_none) ok_hadd
theorem card_hsub : FnOK Try.prog 44 cHsub :=
  FnOK_A (CxOK_cons card_fSub (CxOK_cons card_kept CxOK_nil)) (iv := fun _ => []) (N := 100) Try.func44 (by kernel_rfl) (by kernel_rfl) (fun ls => by unfold hsubG; split; exact bnd_one (bnd_U _); exact bnd_none) ok_hsub
theorem card_hmul : FnOK Try.prog 58 cHmul :=
  FnOK_A (CxOK_cons card_fMul (CxOK_cons card_kept CxOK_nil)) (iv := fun _ => []) (N := 100) Try.func58 (by kernel_rfl) (by kernel_rfl) (fun ls => by unfold hmulG; split; exact bnd_one (bnd_U _); exact bnd_none) ok_hmul
theorem card_hdiv : FnOK Try.prog 81 cHdiv :=
  FnOK_A (CxOK_cons card_fInv (CxOK_cons card_kept (CxOK_cons card_hmul CxOK_nil))) (iv := fun _ => []) (N := 100) Try.func81 (by kernel_rfl) (by kernel_rfl) (fun ls => by unfold hdivG; split; exact bnd_one (bnd_U _); exact bnd_none) ok_hdiv
theorem card_twice : FnOK Try.prog 79 cTwice :=
  FnOK_A (CxOK_cons card_hadd CxOK_nil) (iv := fun _ => []) (N := 100) Try.func79 (by kernel_rfl) (by kernel_rfl) (fun ls => by unfold htwiceG; split; exact bnd_one (bnd_U _); exact bnd_none) ok_twice
theorem card_thrice : FnOK Try.prog 80 cThrice :=
  FnOK_A (CxOK_cons card_hadd (CxOK_cons card_twice CxOK_nil)) (iv := fun _ => []) (N := 100) Try.func80 (by kernel_rfl) (by kernel_rfl) (fun ls => by unfold hthriceG; split; exact bnd_one (bnd_U _); exact bnd_none) ok_thrice
theorem card_root : FnOK Try.prog 41 cRoot :=
  FnOK_A (CxOK_cons card_DivMod (CxOK_cons card_Add (CxOK_cons card_fPow (CxOK_cons card_kept CxOK_nil)))) (iv := fun _ => []) (N := 100) Try.func41 (by kernel_rfl) (by kernel_rfl) (fun ls => by unfold hrootG; split; exact bnd_one (bnd_U _); exact bnd_none) ok_root
end Go.Proofs.Ytohnkglcabfpjaa
end

section
namespace Go.Proofs.Ytohnkglcabfpjaa
open Go.Sx
structure Cg (p n : Nat) (N : Int) : Prop where
  d : (p : Int) ∣ (n : Int) - N
theorem Cg.self (p n : Nat) : Cg p n n := ⟨by rw [Int.sub_self]; exact Int.dvd_zero _⟩
theorem Cg.md {p n : Nat} {N : Int} (h : Cg p n N) : Cg p (n % p) N := by
  obtain ⟨k, hk⟩ := h.d
  refine ⟨⟨k - ((n / p : Nat) : Int), ?_⟩⟩
  have e : (n : Int) = (p : Int) * ((n / p : Nat) : Int) + ((n % p : Nat) : Int) := by exact_mod_cast (Nat.div_add_mod n p).symm
  rw [Int.mul_sub, ← hk]
  omega
theorem Cg.add {p a b : Nat} {A B : Int} (h : Cg p a A) (h' : Cg p b B) : Cg p (a + b) (A + B) := by
  refine ⟨?_⟩
  have := Int.dvd_add h.d h'.d
  rw [show ((a + b : Nat) : Int) - (A + B) = ((a : Int) - A) + ((b : Int) - B) by rw [Int.natCast_add]; omega]
  exact this
theorem Cg.mul {p a b : Nat} {A B : Int} (h : Cg p a A) (h' : Cg p b B) : Cg p (a * b) (A * B) := by
  obtain ⟨k, hk⟩ := h.d
  obtain ⟨l, hl⟩ := h'.d
  refine ⟨⟨k * b + A * l, ?_⟩⟩
  rw [Int.natCast_mul]
  have e1 : (a : Int) = A + p * k := by omega
  have e2 : (b : Int) = B + p * l := by omega
  rw [e1, e2]
  grind
theorem Cg.sub {p a b : Nat} {A B : Int} (h : Cg p a A) (h' : Cg p b B) (hb : b ≤ p) : Cg p (a + p - b) (A - B) := by
  obtain ⟨k, hk⟩ := h.d
  obtain ⟨l, hl⟩ := h'.d
  refine ⟨⟨k - l + 1, ?_⟩⟩
  rw [Int.mul_add, Int.mul_sub, ← hk, ← hl]
  omega
theorem Cg.to {p n : Nat} {N M : Int} (h : Cg p n N) (hd : (p : Int) ∣ N - M) : Cg p n M := by
  refine ⟨?_⟩
  have := Int.dvd_add h.d hd
  rw [show (n : Int) - M = ((n : Int) - N) + (N - M) by omega]
  exact this
theorem Cg.eq {p n m : Nat} {N : Int} (h : Cg p n N) (h' : Cg p m N) (hn : n < p) (hm : m < p) : n = m := by
  have := Int.dvd_sub h.d h'.d
  rw [show (n : Int) - N - ((m : Int) - N) = (n : Int) - m by omega] at this
  obtain ⟨k, hk⟩ := this
  have h0 : k = 0 := by
    rcases Int.lt_trichotomy k 0 with g | g | g
    · have := Int.mul_le_mul_of_nonneg_left (show k ≤ -1 by omega) (show (0 : Int) ≤ p by omega)
      omega
    · exact g
    · have := Int.mul_le_mul_of_nonneg_left (show 1 ≤ k by omega) (show (0 : Int) ≤ p by omega)
      omega
  rw [h0] at hk
  omega
theorem Cg.of_eq {p a b : Nat} {A B : Int} (h : a % p = b % p) (ha : Cg p a A) (hb : Cg p b B) : (p : Int) ∣ A - B := by
  have h1 := ha.md
  have h2 := hb.md
  rw [h] at h1
  have := Int.dvd_sub h2.d h1.d
  rw [show (((b % p : Nat) : Int) - B) - (((b % p : Nat) : Int) - A) = A - B by omega] at this
  exact this
theorem line_x {p t D E u : Int} (h1 : p ∣ t * (D * D) - E * E) (h2 : p ∣ D * u - 1) : p ∣ (E * u) * (E * u) - t := by
  obtain ⟨k, hk⟩ := h1
  obtain ⟨l, hl⟩ := h2
  refine ⟨t * (l * (D * u + 1)) - u * u * k, ?_⟩
  have e1 : E * E = t * (D * D) - p * k := by omega
  have e2 : D * u = 1 + p * l := by omega
  have e3 : (E * u) * (E * u) = E * E * (u * u) := by grind
  have e4 : D * D * (u * u) = (D * u) * (D * u) := by grind
  rw [e3, e1, Int.sub_mul, Int.mul_assoc t, e4, e2]
  grind
theorem line_y {p t D E u z : Int} (h1 : p ∣ t * D - E * z) (h2 : p ∣ D * u - 1) : p ∣ (E * u) * z - t := by
  obtain ⟨k, hk⟩ := h1
  obtain ⟨l, hl⟩ := h2
  refine ⟨t * l - u * k, ?_⟩
  have e1 : E * z = t * D - p * k := by omega
  have e2 : D * u = 1 + p * l := by omega
  have e3 : (E * u) * z = E * z * u := by grind
  have e4 : t * D * u = t * (D * u) := by grind
  rw [e3, e1, Int.sub_mul, e4, e2]
  grind
theorem inv_cg {p d : Nat} {D : Int} (hd : d < p) (hg : Nat.gcd d p = 1) (h : Cg p d D) : (p : Int) ∣ D * ((invN d p : Nat) : Int) - 1 := by
  obtain ⟨i1, i2⟩ := invN_spec hd hg
  have h1 := Cg.mul h (Cg.self p (invN d p))
  have h2 := Cg.self p 1
  exact Cg.of_eq i2 h1 h2
end Go.Proofs.Ytohnkglcabfpjaa
end

section
namespace Go.Proofs.Ytohnkglcabfpjaa
open Go.Sx
theorem lt_pos {a m : Nat} (h : a < m) : 0 < m := Nat.lt_of_le_of_lt (Nat.zero_le _) h
theorem md_M {m : Nat} (h : 0 < m % M256) (v : Nat) : v % (m % M256) % M256 = v % (m % M256) := mod_M (Nat.mod_lt v h)
theorem ok_right : ∀ (ls : List (List At)) (vs : List (Option Addr)), Ok (rightC ls) → Owes Try.prog cxRight [] 100 Try.f42 (mkArgs [.hand, .str pCv, .str [.u]] ls vs) (rightG ls) := by
  intro ls vs hc
  unfold rightC at hc
  split at hc
  · rename_i m P A B N X Y F x
    have h : Owes Try.prog cxRight [] 100 Try.f42 [sHand m (vs.headD none), sCv P A B N X Y F, sU x] (rightG [[.u m], [.u P, .u A, .u B, .u N, .u X, .u Y, .b F], [.u x]]) := by
      rw [vc_right]
      obtain ⟨hA, hB, hx, _⟩ := hc
      have mM := md_M (lt_pos hx)
      have lt := fun v => Nat.mod_lt v (lt_pos hx)
      intro x1 x2 x3 x4 x5 x6 x7 x8
      have E3 : x3 = x1 * x1 % x2 := mM _
      have E5 : x5 = x1 * x3 % x2 := mM _
      have E6 : x6 = x4 * x1 % x2 := mM _
      have E7 : x7 = (x5 + x6) % x2 := mM _
      refine ⟨hx, hx, hx, by rw [E3]; exact lt _, hA, hx, by rw [E5]; exact lt _, by rw [E6]; exact lt _, by rw [E7]; exact lt _, hB, ?_, trivial⟩
      rw [E7, E6, E5, E3]
      rfl
    exact h
  · exact hc.1.elim
theorem ok_slopes : ∀ (ls : List (List At)) (vs : List (Option Addr)), Ok (slopesC ls) → Owes Try.prog cxSlopes [] 100 Try.f57 (mkArgs [.hand, .str pCv] ls vs) (slopesG ls) := by
  intro ls vs hc
  unfold slopesC at hc
  split at hc
  · rename_i m P A B N X Y F
    have h : Owes Try.prog cxSlopes [] 100 Try.f57 [sHand m (vs.headD none), sCv P A B N X Y F] (slopesG [[.u m], [.u P, .u A, .u B, .u N, .u X, .u Y, .b F]]) := by
      rw [vc_slopes]
      obtain ⟨hA, hB, _⟩ := hc
      have mM := md_M (lt_pos hA)
      have lt := fun v => Nat.mod_lt v (lt_pos hA)
      intro x1 x2 x3 x4 x5 x6 x7 x8 x9 x10 x11
      have E3 : x3 = x1 * x1 % x2 := mM _
      have E5 : x5 = x1 * x3 % x2 := mM _
      have E6 : x6 = (x5 + x5) % x2 := mM _
      have E7 : x7 = x4 * x4 % x2 := mM _
      have E8 : x8 = tw3 x2 x7 := mM _
      have E9 : x9 = tw3 x2 x8 := mM _
      have E10 : x10 = (x6 + x6) % x2 := mM _
      have E11 : x11 = tw3 x2 x9 := mM _
      refine ⟨hA, hA, hA, by rw [E3]; exact lt _, hB, hB, by rw [E5]; exact lt _, by rw [E6]; exact lt _, by rw [E7]; exact lt _, by rw [E8]; exact lt _, by rw [E9]; exact lt _, by rw [E10]; exact lt _, by rw [E11]; exact lt _, ?_, trivial⟩
      rw [E11, E10, E9, E8, E7, E6, E5, E3]
      rfl
    exact h
  · exact hc.1.elim
theorem ok_have : ∀ (ls : List (List At)) (vs : List (Option Addr)), Ok (haveC ls) → Owes Try.prog cxHave [] 100 Try.f31 (mkArgs [.hand, .str pCv, .str pPt] ls vs) (voidG ls) := by
  intro ls vs hc
  unfold haveC at hc
  split at hc
  · rename_i m P A B N X Y F x y f
    have h : Owes Try.prog cxHave [] 100 Try.f31 [sHand m (vs.headD none), sCv P A B N X Y F, sPt x y f] (.tup []) := by
      rw [vc_have]
      obtain ⟨hA, hB, hon, _⟩ := hc
      intro x1 x2 x3 x4 x5
      refine ⟨fun hf => ?_, fun hf => ?_⟩
      · obtain ⟨e1, e2⟩ := hon.far hf
        have e1 : x1 = 0 := e1
        have e2 : x2 = 0 := e2
        rw [e1, e2, hf]
        exact ⟨fun h => absurd h (by decide), fun _ => trivial⟩
      · obtain ⟨l1, l2, e⟩ := hon.near hf
        have e : x2 * x2 % x3 = rhsN x3 x4 x5 x1 := e
        rw [e]
        have c : (rhsN x3 x4 x5 x1 % M256 == rhsN x3 x4 x5 x1 % M256) = true := beq_self_eq_true _
        rw [c]
        exact ⟨l2, l2, hA, hB, l1, fun h => absurd h (by decide), fun _ => trivial⟩
    exact h
  · exact hc.1.elim
theorem cmp_gt {a m : Nat} (h : m % M256 < a % M256) : decide (cmpN a m > 0) = true := by
  unfold cmpN
  rw [if_neg (by omega), if_pos h]
  rfl
theorem limb_four {P : Nat} (h : P % M256 % 4 = 3) : ((limb P 0).tmod 4 == (3 : Int)) = true := by
  have e : limb P 0 = ((P / 2 ^ (64 * 0) % 2 ^ 64 : Nat) : Int) := rfl
  rw [e, limb_mod P 0 (by decide), beq_iff_eq, Int.tmod_eq_emod_of_nonneg (Int.natCast_nonneg _)]
  generalize P % M256 = Q at *
  have : Q / 2 ^ (64 * 0) % 2 ^ 64 % 4 = 3 := by
    rw [Nat.mul_zero, Nat.pow_zero, Nat.div_one]
    omega
  omega
theorem ok_be : ∀ (ls : List (List At)) (vs : List (Option Addr)), Ok (beC ls) → Owes Try.prog cxBe [] 100 Try.f30 (mkArgs [.hand, .str pCv] ls vs) (voidG ls) := by
  intro ls vs hc
  unfold beC at hc
  split at hc
  · rename_i m P A B N X Y F
    have h : Owes Try.prog cxBe [] 100 Try.f30 [sHand m (vs.headD none), sCv P A B N X Y F] (.tup []) := by
      rw [vc_be]
      obtain ⟨hm, g, _⟩ := hc
      rw [← hm] at g
      have g3 : 3 < P % M256 := by rw [← hm]; exact g.P3
      have g4 : P % M256 % 4 = 3 := by rw [← hm]; exact g.P4
      have c1 : decide (cmpN P 3 > 0) = true := cmp_gt (by rw [small_mod (show 3 < 18446744073709551616 by decide)]; exact g3)
      have c2 : decide (cmpN N 1 > 0) = true := cmp_gt (by rw [small_mod (show 1 < 18446744073709551616 by decide)]; exact g.N1)
      have c3 : (slopesN (m % M256) (A % M256) (B % M256) % M256 == 0) = false := by
        have : slopesN (m % M256) (A % M256) (B % M256) % M256 = slopesN (m % M256) (A % M256) (B % M256) := md_M (lt_pos g.A0) _
        rw [this]
        exact beq_eq_false_iff_ne.2 g.s0
      have c4 : F = false := g.b0
      intro x1 x2 x3 x4
      have E1 : x1 = true := c1
      have E5 : (slopesN x3 x2 x4 % M256 == 0) = false := c3
      rw [E1, c2, limb_four g4, E5, c4]
      exact ⟨id, id, id, id, id, fun h => absurd h (by decide), fun _ => ⟨fun h => absurd h (by decide), fun _ => ⟨g.A0, g.B0, fun h => absurd h (by decide), fun _ => ⟨fun h => absurd h (by decide), fun _ => ⟨g.A0, g.B0, by rw [← c4]; exact g.on, trivial⟩⟩⟩⟩⟩
    exact h
  · exact hc.1.elim
theorem ok_slope : ∀ (ls : List (List At)) (vs : List (Option Addr)), Ok (slopeC ls) → Owes Try.prog cxSlope [] 100 Try.f60 (mkArgs [.hand, .str [.u], .str pPt, .str pPt] ls vs) (slopeG ls) := by
  intro ls vs hc
  unfold slopeC at hc
  split at hc
  · rename_i m A x y f z w g
    have h : Owes Try.prog cxSlope [] 100 Try.f60 [sHand m (vs.headD none), sU A, sPt x y f, sPt z w g] (slopeG [[.u m], [.u A], [.u x, .u y, .b f], [.u z, .u w, .b g]]) := by
      rw [vc_slope]
      obtain ⟨hA, rfl, rfl, hp, hq, hs, _⟩ := hc
      obtain ⟨l1, l2⟩ := hp.lt rfl
      obtain ⟨l3, l4⟩ := hq.lt rfl
      have mM := md_M (lt_pos hA)
      have lt := fun v => Nat.mod_lt v (lt_pos hA)
      have seq := hs.eq
      have sne := hs.ne
      intro x1 x2 x3 x4 x5 x6 x7 x8 x9 x10 x11 x12 x13
      have E6 : x6 = x1 * x1 % x5 := mM _
      have E7 : x7 = tw3 x5 x6 := mM _
      have E9 : x9 = (x7 + x8) % x5 := mM _
      have E10 : x10 = (x3 + x3) % x5 := mM _
      have E12 : x12 = (x4 + x5 - x3) % x5 := mM _
      have E13 : x13 = (x2 + x5 - x1) % x5 := mM _
      have E11 : x11 = slopeN x5 x8 (x1, x3, false) (x2, x4, false) % M256 := rfl
      have seq : (x1, x3, false) = (x2, x4, false) → Nat.gcd ((x3 + x3) % x5) x5 = 1 := seq
      have sne : (x1, x3, false) ≠ (x2, x4, false) → Nat.gcd ((x2 + x5 - x1) % x5) x5 = 1 := sne
      have l1 : x1 < x5 := l1
      have l2 : x3 < x5 := l2
      have l3 : x2 < x5 := l3
      have l4 : x4 < x5 := l4
      have hA : x8 < x5 := hA
      refine ⟨fun h => ?_, fun h => ?_⟩
      · rw [conj_all] at h
        simp only [List.all_cons, List.all_nil, id_eq, Bool.and_true, Bool.and_eq_true, beq_iff_eq] at h
        obtain ⟨h1, h2, _⟩ := h
        have hpq : (x1, x3, false) = (x2, x4, false) := by rw [h1, h2]
        refine ⟨l1, l1, by rw [E6]; exact lt _, by rw [E7]; exact lt _, hA, l2, by rw [E9]; exact lt _, by rw [E10]; exact lt _, by rw [E10]; exact seq hpq, ?_, trivial⟩
        rw [E11]
        unfold slopeN
        rw [if_pos hpq, E9, E10, E7, E6]
      · have hpq : (x1, x3, false) ≠ (x2, x4, false) := by
          intro e
          have h1 : x1 = x2 := congrArg (·.1) e
          have h2 : x3 = x4 := congrArg (·.2.1) e
          rw [h1, h2] at h
          rw [conj_all] at h
          simp at h
        refine ⟨l4, l2, l3, l1, by rw [E12]; exact lt _, by rw [E13]; exact lt _, by rw [E13]; exact sne hpq, ?_, trivial⟩
        rw [E11]
        unfold slopeN
        rw [if_neg hpq, E12, E13]
    exact h
  · exact hc.1.elim
theorem ok_isOdd : ∀ a : Nat, Owes Try.prog Cx.none [] 100 Try.f43 [sU a] (oddG a) := by
  intro a
  rw [vc_isOdd]
  have e : limb a 0 = ((a / 2 ^ (64 * 0) % 2 ^ 64 : Nat) : Int) := rfl
  rw [e, limb_mod a 0 (by decide), Int.tmod_eq_emod_of_nonneg (Int.natCast_nonneg _), Bool.eq_iff_iff, beq_iff_eq, beq_iff_eq]
  generalize a % M256 = Q
  rw [Nat.mul_zero, Nat.pow_zero, Nat.div_one]
  omega
theorem ok_far : Owes Try.prog Cx.none [] 100 Try.f36 [] farG := by
  rw [vc_far]
  exact ⟨rfl, rfl, rfl, trivial⟩
theorem ok_sumP : ∀ (ls : List (List At)) (vs : List (Option Addr)), Ok (sumPC ls) → Owes Try.prog cxSumP [] 100 Try.f33 (mkArgs [.hand, .str [.u], .str pPt, .str pPt] ls vs) (sumPG ls) := by
  intro ls vs hc
  unfold sumPC at hc
  split at hc
  · rename_i m A x y f z w g
    have h : Owes Try.prog cxSumP [] 100 Try.f33 [sHand m (vs.headD none), sU A, sPt x y f, sPt z w g] (sumPG [[.u m], [.u A], [.u x, .u y, .b f], [.u z, .u w, .b g]]) := by
      rw [vc_sumP]
      obtain ⟨hs, _⟩ := hc
      have hA := hs.A0
      have hp := hs.p0
      have hq := hs.q0
      have hsl := hs.sl
      have mM := md_M (lt_pos hA)
      have lt := fun v => Nat.mod_lt v (lt_pos hA)
      intro x1 x2 x3 x4 x5 x6 x7 x8 x9 x10 x11 x12 x13 x14 x15 x16
      have C4 : x4 = (csum x2 x3 (x8, x9, f) (x1, x5, g)).1 % M256 := rfl
      have C6 : x6 = (csum x2 x3 (x8, x9, f) (x1, x5, g)).2.1 % M256 := rfl
      have C7 : x7 = (csum x2 x3 (x8, x9, f) (x1, x5, g)).2.2 := rfl
      have m8 : x8 % M256 = x8 := Nat.mod_mod _ _
      have m9 : x9 % M256 = x9 := Nat.mod_mod _ _
      have m1 : x1 % M256 = x1 := Nat.mod_mod _ _
      have m5 : x5 % M256 = x5 := Nat.mod_mod _ _
      refine ⟨fun hf => ?_, fun hf => ⟨fun hg => ?_, fun hg => ⟨id, id, id, id, id, fun _ => (hp.lt hf).2, fun _ => (hq.lt hg).2, id, id, id, fun hh => ?_, fun hh => ?_⟩⟩⟩
      · have e : csum x2 x3 (x8, x9, f) (x1, x5, g) = (x1, x5, g) := by unfold csum; rw [if_pos hf]
        rw [C4, C6, C7, e]
        exact ⟨m1.symm, m5.symm, rfl, trivial⟩
      · have e : csum x2 x3 (x8, x9, f) (x1, x5, g) = (x8, x9, f) := by unfold csum; rw [if_neg (by rw [hf]; exact Bool.false_ne_true), if_pos hg]
        rw [C4, C6, C7, e]
        exact ⟨m8.symm, m9.symm, rfl, trivial⟩
      · have m95 := mM (x9 + x5)
        have m95 : (x9 + x5) % x2 % M256 = (x9 + x5) % x2 := m95
        rw [m95] at hh
        simp only [x10, conj_all, List.all_cons, List.all_nil, id_eq, Bool.and_true, Bool.and_eq_true, beq_iff_eq] at hh
        have e : csum x2 x3 (x8, x9, f) (x1, x5, g) = (0, 0, true) := by unfold csum; rw [if_neg (by rw [hf]; exact Bool.false_ne_true), if_neg (by rw [hg]; exact Bool.false_ne_true), if_pos hh]
        rw [C4, C6, C7, e]
        exact ⟨(Nat.zero_mod _).symm, (Nat.zero_mod _).symm, rfl, trivial⟩
      · have m95 : (x9 + x5) % x2 % M256 = (x9 + x5) % x2 := mM (x9 + x5)
        rw [m95] at hh
        have hn : ¬ (x8 = x1 ∧ (x9 + x5) % x2 = 0) := by
          intro h
          simp only [x10, conj_all, List.all_cons, List.all_nil, id_eq, Bool.and_true, beq_iff_eq.2 h.1, beq_iff_eq.2 h.2] at hh
          exact absurd hh (by decide)
        have hso := hsl hf hg hn
        have e : csum x2 x3 (x8, x9, f) (x1, x5, g) = throughN x2 (slopeN x2 x3 (x8, x9, f) (x1, x5, g)) (x8, x9, f) (x1, x5, g) := by unfold csum; rw [if_neg (by rw [hf]; exact Bool.false_ne_true), if_neg (by rw [hg]; exact Bool.false_ne_true), if_neg hn]
        have hslt : slopeN x2 x3 (x8, x9, f) (x1, x5, g) < x2 := by
          unfold slopeN
          split <;> exact lt _
        have E11 : x11 = slopeN x2 x3 (x8, x9, f) (x1, x5, g) := mod_M hslt
        have l11 : x11 < x2 := by rw [E11]; exact hslt
        have E12 : x12 = x11 * x11 % x2 := mM _
        have E13 : x13 = (x12 + x2 - x8) % x2 := mM _
        have E14 : x14 = (x13 + x2 - x1) % x2 := mM _
        have E15 : x15 = (x8 + x2 - x14) % x2 := mM _
        have E16 : x16 = x11 * x15 % x2 := mM _
        have l14 : x14 < x2 := by rw [E14]; exact lt _
        rw [C4, C6, C7, e, ← E11]
        refine ⟨hA, hf, hg, hp, hq, hso, l11, l11, by rw [E12]; exact lt _, (hp.lt hf).1, by rw [E13]; exact lt _, (hq.lt hg).1, (hp.lt hf).1, l14, l11, by rw [E15]; exact lt _, by rw [E16]; exact lt _, (hp.lt hf).2, ?_, ?_, rfl, trivial⟩
        · unfold throughN
          rw [← E12, ← E13, ← E14]
          exact (mod_M l14).symm
        · unfold throughN
          rw [← E12, ← E13, ← E14, ← E15, ← E16]
    exact h
  · exact hc.1.elim
theorem card_right : FnOK Try.prog 42 cRight :=
  FnOK_A (CxOK_cons card_hadd (CxOK_cons card_hmul CxOK_nil)) (iv := fun _ => []) (N := 100) Try.func42 (by kernel_rfl) (by kernel_rfl) (fun ls => by unfold rightG; split; exact bnd_one (bnd_U _); exact bnd_none) ok_right
theorem card_slopes : FnOK Try.prog 57 cSlopes :=
  FnOK_A (CxOK_cons card_hadd (CxOK_cons card_hmul (CxOK_cons card_twice (CxOK_cons card_thrice CxOK_nil)))) (iv := fun _ => []) (N := 100) Try.func57 (by kernel_rfl) (by kernel_rfl) (fun ls => by unfold slopesG; split; exact bnd_one (bnd_U _); exact bnd_none) ok_slopes
theorem bnd_pt (p : Pt) : SA.bnd none0 (ptS p) := by
  intro k hk
  simp only [List.mem_cons, List.not_mem_nil, or_false] at hk
  rcases hk with rfl | rfl | rfl <;> trivial
theorem card_far : FnOK Try.prog 36 (spec0 farG) :=
  FnOK_0 CxOK_nil (iv := []) (N := 100) Try.func36 (by kernel_rfl) (by kernel_rfl) (by
    intro k hk
    simp only [List.mem_cons, List.not_mem_nil, or_false] at hk
    rcases hk with rfl | rfl | rfl <;> trivial) ok_far
theorem card_have : FnOK Try.prog 31 cHave :=
  FnOK_A (CxOK_cons card_hmul (CxOK_cons card_right (CxOK_cons card_far CxOK_nil))) (iv := fun _ => []) (N := 100) Try.func31 (by kernel_rfl) (by kernel_rfl) (fun _ => bnd_none) ok_have
theorem card_be : FnOK Try.prog 30 cBe :=
  FnOK_A (CxOK_cons card_Cmp (CxOK_cons card_slopes (CxOK_cons card_have CxOK_nil))) (iv := fun _ => []) (N := 100) Try.func30 (by kernel_rfl) (by kernel_rfl) (fun _ => bnd_none) ok_be
theorem card_slope : FnOK Try.prog 60 cSlope :=
  FnOK_A (CxOK_cons card_hadd (CxOK_cons card_hsub (CxOK_cons card_hmul (CxOK_cons card_hdiv (CxOK_cons card_twice (CxOK_cons card_thrice CxOK_nil)))))) (iv := fun _ => []) (N := 100) Try.func60 (by kernel_rfl) (by kernel_rfl) (fun ls => by unfold slopeG; split; exact bnd_one (bnd_U _); exact bnd_none) ok_slope
theorem card_sumP : FnOK Try.prog 33 cSum :=
  FnOK_A (CxOK_cons card_hadd (CxOK_cons card_hsub (CxOK_cons card_hmul (CxOK_cons card_slope (CxOK_cons card_far CxOK_nil))))) (iv := fun _ => []) (N := 100) Try.func33 (by kernel_rfl) (by kernel_rfl) (fun ls => by unfold sumPG; split; exact bnd_one (bnd_pt _); exact bnd_none) ok_sumP
theorem ok_Td (ls : List (List At)) (e : Int) (hc : Ok (tdC ls)) : OwesW Try.prog .none [] [] 10 Try.f32 (mkArgsW [.hand, .str pPt] ls) tErr .i64 e (tdG ls e) e := by
  unfold tdC at hc
  split at hc
  · rename_i m x y f
    show OwesW Try.prog .none [] [] 10 Try.f32 [sHd m, sPt x y f] tErr .i64 e (.tup [sPt (tdV e (x, y, f)).1 (tdV e (x, y, f)).2.1 (tdV e (x, y, f)).2.2, sI .i64 e]) e
    rw [wc_told]
    refine ⟨fun h => ?_, fun h => ?_⟩
    · have h : e ≠ 0 := by simpa using h
      unfold tdV
      rw [if_neg h]
      exact ⟨⟨⟨rfl, rfl, rfl, trivial⟩, rfl⟩, rfl⟩
    · have h : e = 0 := by simpa using h
      subst h
      exact ⟨⟨⟨rfl, rfl, rfl, trivial⟩, rfl⟩, rfl⟩
  · exact hc.1.elim
theorem wcard_told : FnOKw Try.prog [] 32 cTd :=
  FnOKw_N (cx := .none) (iv := fun _ => []) CxOK_wnil (fun p hp => by cases hp) Try.func32 (by kernel_rfl) (by kernel_rfl) (fun ls e => by unfold tdG; split; exact bnd_two (bnd_pt (_, _, _)) trivial; exact bnd_none) ok_Td
theorem card_isOdd : FnOK Try.prog 43 (specU oddG) :=
  FnOK_U CxOK_nil (iv := []) (N := 100) Try.func43 (by kernel_rfl) (by kernel_rfl) (fun _ => bnd_one (bnd_B _)) ok_isOdd
end Go.Proofs.Ytohnkglcabfpjaa
end

section
namespace Go.Proofs.Ytohnkglcabfpjaa
open Go.Sx
theorem ok_cAdd : ∀ (ls : List (List At)) (vs : List (Option Addr)), Ok (cAddC ls) → OwesU Try.prog cxCAdd [] [] 100 Try.f12 (mkArgs [.str pCv, .str pPt, .str pPt] ls vs) (cAddG ls) := by
  intro ls vs hc
  unfold cAddC at hc
  split at hc
  · rename_i P A B N X Y F x y f z w g
    have h : OwesU Try.prog cxCAdd [] [] 100 Try.f12 [sCv P A B N X Y F, sPt x y f, sPt z w g] (cAddG [[.u P, .u A, .u B, .u N, .u X, .u Y, .b F], [.u x, .u y, .b f], [.u z, .u w, .b g]]) := by
      rw [vc_cAdd]
      obtain ⟨hg, hp, hq, hs, _⟩ := hc
      exact ⟨rfl, hg, hg.A0, hg.B0, hp, hg.A0, hg.B0, hq, hs, ⟨rfl, rfl, rfl, trivial⟩, rfl⟩
    exact h
  · exact hc.1.elim
theorem ok_cOn : ∀ (ls : List (List At)) (vs : List (Option Addr)), Ok (cOnC ls) → Owes Try.prog cxCOn [] 100 Try.f14 (mkArgs [.str pCv, .str pPt] ls vs) (cOnG ls) := by
  intro ls vs hc
  unfold cOnC at hc
  split at hc
  · rename_i P A B N X Y F x y f
    have h : Owes Try.prog cxCOn [] 100 Try.f14 [sCv P A B N X Y F, sPt x y f] (cOnG [[.u P, .u A, .u B, .u N, .u X, .u Y, .b F], [.u x, .u y, .b f]]) := by
      rw [vc_cOn]
      obtain ⟨hg, hf, hn, _⟩ := hc
      have mM := md_M (lt_pos hg.A0)
      intro x1 x2 x3 x4 x5 x6
      have E6 : x6 = onE x1 x2 x3 (x4, x5, f) := rfl
      refine ⟨rfl, hg, fun h => ?_, fun h => ?_⟩
      · obtain ⟨e1, e2⟩ := hf h
        have e1 : x4 = 0 := e1
        have e2 : x5 = 0 := e2
        have e : onE x1 x2 x3 (x4, x5, f) = 0 := by unfold onE; rw [if_pos h]
        rw [E6, e, e1, e2, h]
        exact ⟨fun h => absurd h (by decide), fun _ => rfl⟩
      · obtain ⟨l1, l2⟩ := hn h
        have m1 : x5 * x5 % x1 % M256 = x5 * x5 % x1 := mM _
        have m2 : rhsN x1 x2 x3 x4 % M256 = rhsN x1 x2 x3 x4 := mM _
        have e : onE x1 x2 x3 (x4, x5, f) = if x5 * x5 % x1 = rhsN x1 x2 x3 x4 then 0 else 16 := by unfold onE; rw [if_neg (by rw [h]; exact Bool.false_ne_true)]
        rw [E6, e, m1, m2]
        refine ⟨l2, l2, hg.A0, hg.B0, l1, fun hb => ?_, fun hb => ?_⟩
        · rw [if_neg]
          intro e
          rw [beq_iff_eq.2 e] at hb
          exact absurd hb (by decide)
        · rw [if_pos]
          rcases Classical.em (x5 * x5 % x1 = rhsN x1 x2 x3 x4) with e | e
          · exact e
          · rw [beq_eq_false_iff_ne.2 e] at hb
            exact absurd hb (by decide)
    exact h
  · exact hc.1.elim
structure inM (p : Pt) : Prop where
  x : p.1 < M256
  y : p.2.1 < M256
theorem red_inM (x y : Nat) (f : Bool) : inM (red x y f) := ⟨Nat.mod_lt _ M_pos, Nat.mod_lt _ M_pos⟩
theorem red_same {p : Pt} (h : inM p) : red p.1 p.2.1 p.2.2 = p := by
  unfold red
  rw [Nat.mod_eq_of_lt h.x, Nat.mod_eq_of_lt h.y]
theorem csum_inM {m A : Nat} {p q : Pt} (h0 : 0 < m) (hm : m < M256) (hp : inM p) (hq : inM q) : inM (csum m A p q) := by
  unfold csum
  split
  · exact hq
  · split
    · exact hp
    · split
      · exact ⟨M_pos, M_pos⟩
      · exact ⟨Nat.lt_trans (Nat.mod_lt _ h0) hm, Nat.lt_trans (Nat.mod_lt _ h0) hm⟩
theorem cmulR_inM {m A k : Nat} {p : Pt} (h0 : 0 < m) (hm : m < M256) (hp : inM p) : ∀ n, inM (cmulR m A k p n)
  | 0 => ⟨M_pos, M_pos⟩
  | n + 1 => by
    have ih := cmulR_inM (A := A) (k := k) h0 hm hp n
    rw [cmulR]
    split
    · exact csum_inM h0 hm (csum_inM h0 hm ih ih) hp
    · exact csum_inM h0 hm ih ih
set_option maxHeartbeats 1000000 in
theorem ok_cMult : ∀ (P A B N X Y : Nat) (F : Bool) (k x y : Nat) (f : Bool), goodP (P % M256) (A % M256) (B % M256) (N % M256) (red X Y F) → onP (P % M256) (A % M256) (B % M256) (red x y f) → mulOK (P % M256) (A % M256) (k % M256) (red x y f) →
    OwesU Try.prog cxCMult [] [(7, .inv (invMult P A B N X Y F k x y f))] 100 Try.f16 [sCv P A B N X Y F, sU k, sPt x y f] (cMultG [[.u P, .u A, .u B, .u N, .u X, .u Y, .b F], [.u k], [.u x, .u y, .b f]]) := by
  intro P A B N X Y F k x y f hg hp hk
  rw [vc_cMult]
  have hbit := fun j hj => limb_bit k j hj
  have h0 := lt_pos hg.A0
  have hm : P % M256 < M256 := Nat.mod_lt _ M_pos
  have RS := fun n => red_same (cmulR_inM (A := A % M256) (k := k % M256) h0 hm (red_inM x y f) n)
  have RC := fun n => red_same (csum_inM (A := A % M256) h0 hm (cmulR_inM (A := A % M256) (k := k % M256) h0 hm (red_inM x y f) n) (cmulR_inM (A := A % M256) (k := k % M256) h0 hm (red_inM x y f) n))
  have kd := hk.dbl
  have ka := hk.add
  have step1 := fun n (h : (k % M256).testBit (255 - n) = true) => (show cmulR (P % M256) (A % M256) (k % M256) (red x y f) (n + 1) = csum (P % M256) (A % M256) (csum (P % M256) (A % M256) (cmulR (P % M256) (A % M256) (k % M256) (red x y f) n) (cmulR (P % M256) (A % M256) (k % M256) (red x y f) n)) (red x y f) by rw [cmulR, if_pos h])
  have step0 := fun n (h : (k % M256).testBit (255 - n) = false) => (show cmulR (P % M256) (A % M256) (k % M256) (red x y f) (n + 1) = csum (P % M256) (A % M256) (cmulR (P % M256) (A % M256) (k % M256) (red x y f) n) (cmulR (P % M256) (A % M256) (k % M256) (red x y f) n) by rw [cmulR, if_neg (by rw [h]; exact Bool.false_ne_true)])
  intro x1 x2 x3 x4 x5 x6 x7 x8 x9
  refine ⟨rfl, hg, hg.A0, hg.B0, hp, fun y => rfl, 0, by decide, rfl, rfl, rfl, rfl, rfl, rfl, rfl, rfl, rfl, rfl, rfl, rfl, rfl, rfl, rfl, rfl, rfl, rfl, rfl, rfl, rfl, rfl, rfl, fun n hn => ⟨id, id, fun hc => ?_, fun hc => ?_⟩⟩
  · rw [Bool.and_eq_true] at hc
    have hn' : n ≤ 255 := by have := of_decide_eq_true hc.1; omega
    obtain ⟨j, hj⟩ : ∃ j : Nat, j = 255 - n := ⟨_, rfl⟩
    have hjI : (255 : Int) - (n : Int) = (j : Int) := by omega
    have t1 : IntKind.i64.wrap ((j : Int).tdiv 64) = ((j / 64 : Nat) : Int) := by
      have e : (j : Int).tdiv 64 = ((j / 64 : Nat) : Int) := tdiv_nat j 64
      rw [e, IntWalk.i64_in _ (by omega)]
    have t2 : (j : Int).tmod 64 = ((j % 64 : Nat) : Int) := by
      rw [Int.tmod_eq_emod_of_nonneg (Int.natCast_nonneg _)]
      exact (Int.natCast_emod j 64).symm
    have t3 : IntKind.i64.wrap ((j : Int) - 1) = 255 - ((n + 1 : Nat) : Int) := by
      rw [IntWalk.i64_in _ (by omega)]
      omega
    have hq : (0 : Int) ≤ ((j / 64 : Nat) : Int) ∧ ((j / 64 : Nat) : Int) < 4 := by omega
    have kd := kd n (by omega)
    have ka := ka n (by omega)
    have s1 := step1 n
    have s0 := step0 n
    rw [← hj] at ka s1 s0
    rw [hjI, t1, t2, t3, two_min _ (by omega), Int.toNat_natCast, hbit j (by omega), RS n, RC n]
    refine ⟨kd, hq, hq, nn _, fun hb => ⟨ka hb, n + 1, by omega, rfl, rfl, rfl, rfl, rfl, rfl, rfl, rfl, rfl, rfl, rfl, rfl, rfl, rfl, rfl, rfl, rfl, rfl, rfl, ?_, ?_, ?_, rfl, (show 256 - (n + 1) < 256 - n by omega)⟩, fun hb => ⟨n + 1, by omega, rfl, rfl, rfl, rfl, rfl, rfl, rfl, rfl, rfl, rfl, rfl, rfl, rfl, rfl, rfl, rfl, rfl, rfl, rfl, ?_, ?_, ?_, rfl, (show 256 - (n + 1) < 256 - n by omega)⟩⟩
    · rw [s1 hb]
    · rw [s1 hb]
    · rw [s1 hb]
    · rw [s0 hb]
    · rw [s0 hb]
    · rw [s0 hb]
  · have hn' : n = 256 := by
      rcases Nat.lt_or_ge n 256 with e | e
      · rw [decide_eq_true (show (255 : Int) - (n : Int) ≥ 0 by omega)] at hc
        exact absurd hc (by decide)
      · omega
    rw [hn']
    exact ⟨⟨rfl, rfl, rfl, trivial⟩, rfl⟩
def cAddS : FSpec := specA [.str pCv, .str pPt, .str pPt] cAddC cAddG
def cMultS : FSpec := specA [.str pCv, .str [.u], .str pPt] cMultC cMultG
def cOnS : FSpec := specA [.str pCv, .str pPt] cOnC cOnG
theorem card_cAdd : FnOK Try.prog 12 cAddS :=
  FnOKU_A (CxOK_cons card_be (CxOK_cons card_have (CxOK_cons card_sumP (CxOK_wcons wcard_told CxOK_wnil)))) (sl := []) (fun p hp => by cases hp) (iv := fun _ => []) (N := 100) Try.func12 (by kernel_rfl) (by kernel_rfl) (fun ls => by
    unfold cAddG
    split
    · exact bnd_two (bnd_pt _) trivial
    · exact bnd_none) ok_cAdd
theorem card_cOn : FnOK Try.prog 14 cOnS :=
  FnOK_A (CxOK_cons card_be (CxOK_cons card_hmul (CxOK_cons card_right (CxOK_cons card_far CxOK_nil)))) (iv := fun _ => []) (N := 100) Try.func14 (by kernel_rfl) (by kernel_rfl) (fun ls => by
    unfold cOnG
    split
    · exact bnd_one (bnd_I _ _)
    · exact bnd_none) ok_cOn
theorem card_cMult : FnOK Try.prog 16 cMultS :=
  FnOKU_A (CxOK_cons card_be (CxOK_cons card_have (CxOK_cons card_sumP (CxOK_cons card_far (CxOK_wcons wcard_told CxOK_wnil))))) (sl := []) (fun p hp => by cases hp) (iv := fun ls => match ls with
    | [[.u P, .u A, .u B, .u N, .u X, .u Y, .b F], [.u k], [.u x, .u y, .b f]] => [(7, .inv (invMult P A B N X Y F k x y f))]
    | _ => []) (N := 100) Try.func16 (by kernel_rfl) (by kernel_rfl) (fun ls => by
    unfold cMultG
    split
    · exact bnd_two (bnd_pt _) trivial
    · exact bnd_none) (fun ls vs hc => by
    unfold cMultC at hc
    split at hc
    · rename_i P A B N X Y F k x y f
      exact ok_cMult P A B N X Y F k x y f hc.1 hc.2.1 hc.2.2.1
    · exact hc.1.elim)
end Go.Proofs.Ytohnkglcabfpjaa
end

section
namespace Go.Proofs.Ytohnkglcabfpjaa
def tab0 : List (Nat × Nat) :=
  [(0, 0), (2, 12), (7, 7), (35, 21), (21, 18), (12, 12), (29, 31), (25, 18), (32, 40), (20, 40), (42, 7), (40, 25), (37, 36), (13, 21), (34, 40), (38, 21), (38, 22), (34, 3), (13, 22), (37, 7), (40, 18), (42, 36), (20, 3), (32, 3), (25, 25), (29, 12), (12, 31), (21, 25), (35, 22), (7, 36), (2, 31)]
def tab1 : List (Nat × Nat) :=
  [(0, 0), (2, 12), (13, 16), (25, 4), (50, 28), (30, 1), (39, 48), (6, 33), (7, 12), (58, 55), (40, 33), (17, 52), (3, 30), (51, 44), (61, 11), (26, 52), (12, 16), (21, 34), (42, 51), (59, 48), (27, 11), (35, 59), (22, 59), (44, 30), (54, 4), (36, 19), (24, 15), (55, 63), (66, 1), (5, 44), (10, 59), (11, 44), (41, 28), (38, 66), (46, 56), (20, 37), (43, 39), (43, 28), (20, 30), (46, 11), (38, 1), (41, 39), (11, 23), (10, 8), (5, 23), (66, 66), (55, 4), (24, 52), (36, 48), (54, 63), (44, 37), (22, 8), (35, 8), (27, 56), (59, 19), (42, 16), (21, 33), (12, 51), (26, 15), (61, 56), (51, 23), (3, 37), (17, 15), (40, 34), (58, 12), (7, 55), (6, 34), (39, 19), (30, 66), (50, 39), (25, 63), (13, 51), (2, 55)]
def tab2 : List (Nat × Nat) :=
  [(0, 0), (5, 17), (63, 27), (75, 69), (8, 53), (52, 51), (58, 64), (68, 27), (57, 55), (27, 52), (51, 75), (11, 51), (60, 40), (37, 40), (45, 53), (78, 20), (16, 28), (59, 8), (26, 26), (24, 20), (66, 69), (30, 64), (67, 75), (17, 10), (14, 8), (61, 39), (6, 8), (70, 15), (54, 55), (36, 17), (38, 62), (47, 55), (40, 4), (56, 20), (56, 59), (40, 75), (47, 24), (38, 17), (36, 62), (54, 24), (70, 64), (6, 71), (61, 40), (14, 71), (17, 69), (67, 4), (30, 15), (66, 10), (24, 59), (26, 53), (59, 71), (16, 51), (78, 59), (45, 26), (37, 39), (60, 39), (11, 28), (51, 4), (27, 27), (57, 24), (68, 52), (58, 15), (52, 28), (8, 26), (75, 10), (63, 52), (5, 62)]
def tab3 : List (Nat × Nat) :=
  [(0, 0), (3, 53), (59, 56), (29, 30), (6, 94), (116, 117), (119, 8), (81, 18), (134, 4), (33, 76), (71, 108), (4, 30), (105, 69), (85, 5), (106, 109), (41, 37), (74, 72), (68, 4), (51, 73), (90, 15), (27, 15), (70, 111), (26, 8), (35, 64), (117, 125), (76, 135), (138, 1), (28, 39), (133, 131), (109, 78), (24, 64), (7, 117), (107, 90), (110, 76), (50, 72), (99, 130), (16, 22), (64, 39), (118, 101), (22, 124), (91, 101), (43, 1), (135, 63), (108, 97), (72, 69), (115, 56), (9, 133), (104, 83), (95, 5), (82, 97), (15, 67), (49, 125), (39, 78), (80, 75), (127, 130), (44, 37), (101, 70), (100, 133), (10, 53), (126, 86), (30, 133), (98, 134), (63, 108), (125, 90), (47, 100), (21, 111), (31, 73), (97, 138), (46, 90), (20, 94), (54, 102), (88, 97), (5, 31), (113, 45), (52, 130), (112, 14), (66, 18), (48, 111), (69, 38), (57, 73), (131, 18), (130, 61), (130, 78), (131, 121), (57, 66), (69, 101), (48, 28), (66, 121), (112, 125), (52, 9), (113, 94), (5, 108), (88, 42), (54, 37), (20, 45), (46, 49), (97, 1), (31, 66), (21, 28), (47, 39), (125, 49), (63, 31), (98, 5), (30, 6), (126, 53), (10, 86), (100, 6), (101, 69), (44, 102), (127, 9), (80, 64), (39, 61), (49, 14), (15, 72), (82, 42), (95, 134), (104, 56), (9, 6), (115, 83), (72, 70), (108, 42), (135, 76), (43, 138), (91, 38), (22, 15), (118, 38), (64, 100), (16, 117), (99, 9), (50, 67), (110, 63), (107, 49), (7, 22), (24, 75), (109, 61), (133, 8), (28, 100), (138, 138), (76, 4), (117, 14), (35, 75), (26, 131), (70, 28), (27, 124), (90, 124), (51, 66), (68, 135), (74, 67), (41, 102), (106, 30), (85, 134), (105, 70), (4, 109), (71, 31), (33, 63), (134, 135), (81, 121), (119, 131), (116, 22), (6, 45), (29, 109), (59, 83), (3, 86)]
def tab4 : List (Nat × Nat) :=
  [(0, 0), (1, 2), (131, 145), (86, 149), (47, 22), (36, 82), (78, 148), (54, 160), (10, 5), (134, 8), (15, 66), (118, 22), (128, 117), (72, 12), (136, 80), (161, 141), (65, 138), (155, 119), (13, 154), (74, 160), (6, 43), (145, 56), (91, 5), (48, 154), (157, 90), (20, 4), (35, 3), (51, 102), (115, 96), (24, 102), (62, 158), (139, 94), (114, 140), (89, 117), (142, 149), (34, 137), (138, 134), (98, 14), (126, 80), (140, 86), (75, 94), (102, 9), (124, 4), (27, 146), (21, 138), (109, 46), (8, 134), (147, 109), (58, 2), (104, 161), (129, 109), (16, 137), (64, 83), (93, 66), (108, 122), (22, 43), (88, 61), (84, 56), (70, 122), (132, 82), (77, 25), (120, 140), (133, 86), (55, 97), (158, 81), (37, 146), (141, 90), (19, 159), (125, 148), (148, 122), (111, 8), (112, 69), (146, 119), (99, 146), (123, 15), (135, 120), (61, 96), (150, 96), (97, 107), (81, 155), (53, 86), (101, 12), (17, 29), (95, 145), (50, 109), (100, 18), (113, 26), (153, 12), (92, 140), (25, 44), (28, 73), (28, 90), (25, 119), (92, 23), (153, 151), (113, 137), (100, 145), (50, 54), (95, 18), (17, 134), (101, 151), (53, 77), (81, 8), (97, 56), (150, 67), (61, 67), (135, 43), (123, 148), (99, 17), (146, 44), (112, 94), (111, 155), (148, 41), (125, 15), (19, 4), (141, 73), (37, 17), (158, 82), (55, 66), (133, 77), (120, 23), (77, 138), (132, 81), (70, 41), (84, 107), (88, 102), (22, 120), (108, 41), (93, 97), (64, 80), (16, 26), (129, 54), (104, 2), (58, 161), (147, 54), (8, 29), (109, 117), (21, 25), (27, 17), (124, 159), (102, 154), (75, 69), (140, 77), (126, 83), (98, 149), (138, 29), (34, 26), (142, 14), (89, 46), (114, 23), (139, 69), (62, 5), (24, 61), (115, 67), (51, 61), (35, 160), (20, 159), (157, 73), (48, 9), (91, 158), (145, 107), (6, 120), (74, 3), (13, 9), (155, 44), (65, 25), (161, 22), (136, 83), (72, 151), (128, 46), (118, 141), (15, 97), (134, 155), (10, 158), (54, 3), (78, 15), (36, 81), (47, 141), (86, 14), (131, 18), (1, 161)]
def tab5 : List (Nat × Nat) :=
  [(0, 0), (1, 2), (170, 135), (9, 164), (44, 24), (131, 10), (40, 80), (174, 74), (205, 118), (60, 192), (112, 84), (118, 191), (187, 152), (59, 135), (66, 180), (193, 76), (31, 26), (129, 191), (160, 55), (97, 177), (156, 188), (47, 196), (176, 159), (89, 77), (92, 177), (78, 207), (194, 24), (179, 28), (175, 20), (32, 53), (184, 187), (71, 144), (155, 192), (113, 90), (103, 159), (35, 16), (108, 16), (25, 196), (117, 45), (138, 80), (181, 125), (207, 19), (23, 115), (22, 34), (42, 36), (33, 131), (69, 14), (133, 74), (161, 45), (192, 188), (191, 77), (204, 90), (127, 118), (20, 14), (115, 137), (72, 186), (143, 52), (49, 97), (139, 15), (164, 186), (90, 93), (2, 125), (145, 10), (37, 207), (132, 55), (91, 84), (201, 144), (146, 201), (3, 36), (74, 23), (109, 97), (68, 195), (53, 97), (142, 134), (111, 115), (8, 127), (185, 28), (76, 164), (86, 152), (168, 26), (126, 47), (153, 53), (130, 156), (77, 115), (105, 121), (186, 186), (144, 166), (166, 36), (96, 4), (26, 53), (149, 59), (80, 180), (196, 2), (14, 209), (65, 180), (12, 185), (58, 28), (150, 67), (28, 125), (122, 197), (122, 14), (28, 86), (150, 144), (58, 183), (12, 26), (65, 31), (14, 2), (196, 209), (80, 31), (149, 152), (26, 158), (96, 207), (166, 175), (144, 45), (186, 25), (105, 90), (77, 96), (130, 55), (153, 158), (126, 164), (168, 185), (86, 59), (76, 47), (185, 183), (8, 84), (111, 96), (142, 77), (53, 114), (68, 16), (109, 114), (74, 188), (3, 175), (146, 10), (201, 67), (91, 127), (132, 156), (37, 4), (145, 201), (2, 86), (90, 118), (164, 25), (139, 196), (49, 114), (143, 159), (72, 25), (115, 74), (20, 197), (127, 93), (204, 121), (191, 134), (192, 23), (161, 166), (133, 137), (69, 197), (33, 80), (42, 175), (22, 177), (23, 96), (207, 192), (181, 86), (138, 131), (117, 166), (25, 15), (108, 195), (35, 195), (103, 52), (113, 121), (155, 19), (71, 67), (184, 24), (32, 158), (175, 191), (179, 183), (194, 187), (78, 4), (92, 34), (89, 134), (176, 52), (47, 15), (156, 23), (97, 34), (160, 156), (129, 20), (31, 185), (193, 135), (66, 31), (59, 76), (187, 59), (118, 20), (112, 127), (60, 19), (205, 93), (174, 137), (40, 131), (131, 201), (44, 187), (9, 47), (170, 76), (1, 209)]
def tab6 : List (Nat × Nat) :=
  [(0, 0), (5, 49), (157, 175), (144, 130), (310, 125), (312, 338), (182, 14), (215, 121), (264, 317), (203, 90), (290, 70), (110, 43), (109, 206), (83, 307), (284, 136), (295, 317), (44, 226), (77, 149), (10, 302), (332, 5), (184, 266), (196, 361), (236, 36), (199, 62), (305, 95), (21, 181), (350, 42), (246, 24), (179, 282), (124, 16), (365, 226), (353, 121), (26, 12), (95, 272), (250, 123), (210, 183), (66, 255), (61, 290), (190, 258), (287, 36), (228, 347), (138, 35), (320, 44), (90, 199), (274, 212), (58, 95), (349, 153), (79, 290), (193, 66), (141, 229), (180, 221), (122, 228), (46, 47), (119, 49), (255, 330), (72, 47), (212, 59), (201, 218), (91, 368), (214, 88), (164, 12), (235, 343), (82, 136), (337, 137), (361, 295), (280, 91), (281, 354), (289, 137), (56, 90), (16, 284), (260, 16), (198, 190), (252, 71), (301, 253), (202, 353), (272, 347), (13, 243), (120, 289), (330, 212), (60, 110), (378, 378), (276, 93), (316, 190), (165, 149), (239, 89), (186, 14), (302, 88), (362, 375), (360, 250), (19, 163), (197, 66), (11, 365), (189, 367), (142, 361), (69, 353), (67, 225), (263, 160), (291, 110), (45, 181), (374, 363), (137, 230), (334, 255), (211, 163), (217, 209), (245, 13), (346, 59), (174, 175), (261, 332), (48, 204), (158, 228), (367, 13), (220, 276), (126, 375), (366, 272), (41, 18), (258, 32), (64, 307), (308, 354), (147, 92), (315, 92), (178, 295), (80, 70), (154, 167), (313, 198), (33, 282), (53, 93), (335, 217), (306, 225), (25, 35), (232, 72), (132, 242), (9, 309), (42, 199), (148, 160), (14, 217), (161, 71), (238, 302), (358, 124), (368, 313), (373, 338), (93, 368), (229, 276), (86, 209), (248, 229), (73, 41), (242, 291), (297, 107), (288, 266), (191, 253), (30, 217), (52, 378), (371, 42), (167, 97), (244, 189), (131, 77), (98, 183), (168, 250), (309, 276), (160, 218), (92, 130), (99, 151), (200, 320), (143, 249), (84, 221), (76, 209), (230, 250), (265, 123), (286, 113), (108, 26), (216, 344), (253, 206), (257, 91), (296, 92), (221, 91), (344, 43), (247, 180), (28, 269), (37, 337), (39, 24), (328, 378), (347, 160), (36, 44), (17, 173), (169, 25), (219, 84), (304, 336), (23, 44), (6, 225), (266, 253), (170, 5), (71, 196), (149, 216), (369, 150), (271, 125), (18, 218), (146, 13), (115, 221), (177, 254), (195, 11), (270, 4), (243, 256), (256, 5), (345, 71), (50, 93), (94, 24), (94, 355), (50, 286), (345, 308), (256, 374), (243, 123), (270, 375), (195, 368), (177, 125), (115, 158), (146, 366), (18, 161), (271, 254), (369, 229), (149, 163), (71, 183), (170, 374), (266, 126), (6, 154), (23, 335), (304, 43), (219, 295), (169, 354), (17, 206), (36, 335), (347, 219), (328, 1), (39, 355), (37, 42), (28, 110), (247, 199), (344, 336), (221, 288), (296, 287), (257, 288), (253, 173), (216, 35), (108, 353), (286, 266), (265, 256), (230, 129), (76, 170), (84, 158), (143, 130), (200, 59), (99, 228), (92, 249), (160, 161), (309, 103), (168, 129), (98, 196), (131, 302), (244, 190), (167, 282), (371, 337), (52, 1), (30, 162), (191, 126), (288, 113), (297, 272), (242, 88), (73, 338), (248, 150), (86, 170), (229, 103), (93, 11), (373, 41), (368, 66), (358, 255), (238, 77), (161, 308), (14, 162), (148, 219), (42, 180), (9, 70), (132, 137), (232, 307), (25, 344), (306, 154), (335, 162), (53, 286), (33, 97), (313, 181), (154, 212), (80, 309), (178, 84), (315, 287), (147, 287), (308, 25), (64, 72), (258, 347), (41, 361), (366, 107), (126, 4), (220, 103), (367, 366), (158, 151), (48, 175), (261, 47), (174, 204), (346, 320), (245, 366), (217, 170), (211, 216), (334, 124), (137, 149), (374, 16), (45, 198), (291, 269), (263, 219), (67, 154), (69, 26), (142, 18), (189, 12), (11, 14), (197, 313), (19, 216), (360, 129), (362, 4), (302, 291), (186, 365), (239, 290), (165, 230), (316, 189), (276, 286), (378, 1), (60, 269), (330, 167), (120, 90), (13, 136), (272, 32), (202, 26), (301, 126), (252, 308), (198, 189), (260, 363), (16, 95), (56, 289), (289, 242), (281, 25), (280, 288), (361, 84), (337, 242), (82, 243), (235, 36), (164, 367), (214, 291), (91, 11), (201, 161), (212, 320), (72, 332), (255, 49), (119, 330), (46, 332), (122, 151), (180, 158), (141, 150), (193, 313), (79, 89), (349, 226), (58, 284), (274, 167), (90, 180), (320, 335), (138, 344), (228, 32), (287, 343), (190, 121), (61, 89), (66, 124), (210, 196), (250, 256), (95, 107), (26, 367), (353, 258), (365, 153), (124, 363), (179, 97), (246, 355), (350, 337), (21, 198), (305, 284), (199, 317), (236, 343), (196, 18), (184, 113), (332, 374), (10, 77), (77, 230), (44, 153), (295, 62), (284, 243), (83, 72), (109, 173), (110, 336), (290, 309), (203, 289), (264, 62), (215, 258), (182, 365), (312, 41), (310, 254), (144, 249), (157, 204), (5, 330)]
def tab7 : List (Nat × Nat) :=
  [(0, 0), (1, 2), (560, 97), (441, 545), (63, 245), (388, 231), (415, 669), (493, 357), (195, 417), (238, 613), (596, 228), (245, 630), (613, 190), (490, 322), (263, 372), (642, 364), (630, 19), (432, 640), (486, 630), (87, 126), (228, 201), (578, 655), (496, 524), (514, 638), (397, 489), (542, 172), (137, 60), (163, 437), (288, 443), (651, 61), (670, 236), (116, 593), (563, 6), (297, 350), (181, 384), (301, 513), (417, 524), (66, 46), (666, 292), (406, 263), (540, 357), (509, 548), (451, 559), (108, 79), (685, 623), (105, 340), (466, 387), (349, 334), (536, 123), (13, 592), (196, 430), (532, 172), (259, 13), (83, 32), (513, 350), (343, 273), (236, 129), (211, 502), (469, 167), (209, 155), (96, 556), (136, 520), (208, 79), (638, 649), (683, 466), (46, 245), (148, 448), (468, 546), (242, 682), (582, 446), (273, 229), (396, 306), (555, 623), (6, 520), (665, 584), (174, 656), (308, 519), (379, 237), (212, 439), (658, 540), (225, 372), (312, 601), (78, 23), (41, 364), (90, 540), (373, 358), (465, 453), (572, 341), (446, 305), (126, 666), (404, 273), (35, 6), (74, 152), (55, 313), (203, 319), (219, 299), (477, 554), (127, 299), (8, 327), (680, 259), (32, 374), (111, 60), (659, 430), (210, 175), (220, 230), (375, 612), (570, 415), (3, 220), (130, 448), (619, 545), (329, 166), (534, 77), (322, 146), (31, 682), (405, 54), (482, 415), (142, 68), (328, 286), (155, 65), (114, 46), (371, 655), (522, 242), (115, 37), (93, 685), (51, 453), (358, 606), (529, 237), (443, 631), (340, 180), (597, 1), (274, 417), (526, 263), (661, 45), (64, 286), (549, 171), (91, 230), (501, 574), (172, 123), (222, 274), (584, 503), (79, 475), (433, 36), (304, 502), (314, 266), (205, 305), (635, 418), (503, 37), (24, 207), (590, 126), (636, 228), (117, 170), (336, 180), (527, 261), (28, 656), (498, 244), (361, 155), (511, 645), (664, 475), (485, 277), (150, 463), (94, 443), (653, 495), (672, 259), (634, 151), (541, 313), (504, 224), (215, 236), (14, 565), (499, 277), (569, 503), (450, 428), (488, 387), (377, 125), (660, 229), (413, 243), (491, 77), (640, 288), (253, 2), (437, 689), (516, 288), (317, 166), (418, 9), (650, 466), (278, 360), (251, 548), (674, 568), (382, 1), (579, 170), (309, 248), (141, 640), (179, 95), (162, 601), (345, 392), (227, 23), (372, 95), (305, 190), (497, 455), (123, 207), (85, 242), (176, 189), (247, 513), (67, 80), (573, 13), (474, 454), (164, 374), (60, 495), (118, 51), (464, 501), (510, 224), (65, 152), (175, 238), (339, 32), (367, 80), (134, 638), (121, 536), (17, 65), (11, 45), (428, 304), (313, 669), (561, 360), (411, 649), (330, 276), (302, 306), (23, 125), (654, 22), (622, 143), (581, 574), (614, 175), (489, 35), (48, 489), (257, 80), (187, 384), (40, 386), (473, 666), (668, 266), (143, 178), (43, 53), (652, 244), (332, 584), (380, 461), (152, 559), (543, 360), (42, 231), (449, 462), (620, 220), (197, 54), (49, 225), (261, 460), (291, 125), (307, 340), (299, 405), (492, 556), (232, 244), (246, 202), (550, 678), (280, 606), (393, 358), (95, 378), (611, 322), (140, 95), (460, 19), (30, 432), (50, 439), (53, 606), (269, 659), (323, 307), (400, 266), (282, 129), (73, 654), (249, 593), (368, 224), (281, 369), (217, 90), (458, 554), (447, 554), (386, 668), (292, 672), (669, 495), (470, 437), (15, 511), (153, 592), (300, 574), (88, 132), (333, 42), (89, 54), (243, 546), (357, 614), (106, 97), (226, 288), (25, 594), (45, 525), (671, 546), (68, 220), (684, 385), (279, 351), (19, 45), (585, 292), (639, 216), (132, 201), (544, 207), (326, 98), (552, 539), (616, 358), (429, 439), (495, 317), (58, 254), (686, 170), (97, 613), (229, 188), (131, 292), (519, 65), (103, 135), (385, 107), (558, 175), (525, 592), (403, 690), (356, 78), (398, 277), (331, 490), (84, 449), (173, 129), (92, 666), (92, 25), (173, 562), (84, 242), (331, 201), (398, 414), (356, 613), (403, 1), (525, 99), (558, 516), (385, 584), (103, 556), (519, 626), (131, 399), (229, 503), (97, 78), (686, 521), (58, 437), (495, 374), (429, 252), (616, 333), (552, 152), (326, 593), (544, 484), (132, 490), (639, 475), (585, 399), (19, 646), (279, 340), (684, 306), (68, 471), (671, 145), (45, 166), (25, 97), (226, 403), (106, 594), (357, 77), (243, 145), (89, 637), (333, 649), (88, 559), (300, 117), (153, 99), (15, 180), (470, 254), (669, 196), (292, 19), (386, 23), (447, 137), (458, 137), (217, 601), (281, 322), (368, 467), (249, 98), (73, 37), (282, 562), (400, 425), (323, 384), (269, 32), (53, 85), (50, 252), (30, 259), (460, 672), (140, 596), (611, 369), (95, 313), (393, 333), (280, 85), (550, 13), (246, 489), (232, 447), (492, 135), (299, 286), (307, 351), (291, 566), (261, 231), (49, 466), (197, 637), (620, 471), (449, 229), (42, 460), (543, 331), (152, 132), (380, 230), (332, 107), (652, 447), (43, 638), (143, 513), (668, 425), (473, 25), (40, 305), (187, 307), (257, 611), (48, 202), (489, 656), (614, 516), (581, 117), (622, 548), (654, 669), (23, 566), (302, 385), (330, 415), (411, 42), (561, 331), (313, 22), (428, 387), (11, 646), (17, 626), (121, 155), (134, 53), (367, 611), (339, 659), (175, 453), (65, 539), (510, 467), (464, 190), (118, 640), (60, 196), (164, 317), (474, 237), (573, 678), (67, 611), (247, 178), (176, 502), (85, 449), (123, 484), (497, 236), (305, 501), (372, 596), (227, 668), (345, 299), (162, 90), (179, 596), (141, 51), (309, 443), (579, 521), (382, 690), (674, 123), (251, 143), (278, 331), (650, 225), (418, 682), (317, 525), (516, 403), (437, 2), (253, 689), (640, 403), (491, 614), (413, 448), (660, 462), (377, 566), (488, 304), (450, 263), (569, 188), (499, 414), (14, 126), (215, 455), (504, 467), (541, 378), (634, 540), (672, 432), (653, 196), (94, 248), (150, 228), (485, 414), (664, 216), (511, 46), (361, 536), (498, 447), (28, 35), (527, 430), (336, 511), (117, 521), (636, 463), (590, 565), (24, 484), (503, 654), (635, 273), (205, 386), (314, 425), (304, 189), (433, 655), (79, 216), (584, 188), (222, 417), (172, 568), (501, 117), (91, 461), (549, 520), (64, 405), (661, 646), (526, 428), (274, 274), (597, 690), (340, 511), (443, 60), (529, 454), (358, 85), (51, 238), (93, 6), (115, 654), (522, 449), (371, 36), (114, 645), (155, 626), (328, 405), (142, 623), (482, 276), (405, 637), (31, 9), (322, 545), (534, 614), (329, 525), (619, 146), (130, 243), (3, 471), (570, 276), (375, 79), (220, 461), (210, 516), (659, 261), (111, 631), (32, 317), (680, 432), (8, 364), (127, 392), (477, 137), (219, 392), (203, 372), (55, 378), (74, 539), (35, 685), (404, 418), (126, 25), (446, 386), (572, 350), (465, 238), (373, 333), (90, 151), (41, 327), (78, 668), (312, 90), (225, 319), (658, 151), (212, 252), (379, 454), (308, 172), (174, 35), (665, 107), (6, 171), (555, 68), (396, 385), (273, 462), (582, 245), (242, 9), (468, 145), (148, 243), (46, 446), (683, 225), (638, 42), (208, 612), (136, 171), (96, 135), (209, 536), (469, 524), (211, 189), (236, 562), (343, 418), (513, 341), (83, 659), (259, 678), (532, 519), (196, 261), (13, 99), (536, 568), (349, 357), (466, 304), (105, 351), (685, 68), (108, 612), (451, 132), (509, 143), (540, 334), (406, 428), (666, 399), (66, 645), (417, 167), (301, 178), (181, 307), (297, 341), (563, 685), (116, 98), (670, 455), (651, 630), (288, 248), (163, 254), (137, 631), (542, 519), (397, 202), (514, 53), (496, 167), (578, 36), (228, 490), (87, 565), (486, 61), (432, 51), (630, 672), (642, 327), (263, 319), (490, 369), (613, 501), (245, 61), (596, 463), (238, 78), (195, 274), (493, 334), (415, 22), (388, 460), (63, 446), (441, 146), (560, 594), (1, 689)]
def tabOf : Nat → List (Nat × Nat)
  | 0 => tab0
  | 1 => tab1
  | 2 => tab2
  | 3 => tab3
  | 4 => tab4
  | 5 => tab5
  | 6 => tab6
  | 7 => tab7
  | _ => []
end Go.Proofs.Ytohnkglcabfpjaa
end

section
namespace Go.Proofs.Ytohnkglcabfpjaa
def pairOK (p x1 y1 : Nat) (q r : Nat × Nat) : Bool :=
  match q, r with
  | (x2, y2), (x3, y3) =>
    Nat.beq y3 0 || (!Nat.beq x1 x2 && (Nat.beq ((x3 + x1 + x2) * ((x2 + p - x1) * (x2 + p - x1)) % p) ((y2 + p - y1) * (y2 + p - y1) % p) && Nat.beq ((y3 + y1) * (x2 + p - x1) % p) ((y2 + p - y1) * (x1 + p - x3) % p)))
noncomputable def rowOK (p x1 y1 : Nat) (l : List (Nat × Nat)) : List (Nat × Nat) → Bool :=
  List.rec (motive := fun _ => List (Nat × Nat) → Bool) (fun _ => true) (fun q _ ih m => match m with
    | [] => true
    | r :: m => pairOK p x1 y1 q r && ih m) l
noncomputable def triN (p n : Nat) : List (Nat × Nat) → List (Nat × Nat) → Bool :=
  Nat.rec (motive := fun _ => List (Nat × Nat) → List (Nat × Nat) → Bool) (fun _ _ => true) (fun _ ih l m => match l with
    | [] => true
    | q :: l => rowOK p q.1 q.2 l (m.drop 1) && ih l (m.drop 2)) n
theorem tri0 : triN 43 31 (tab0.drop 1) ((tab0 ++ tab0).drop 2) = true := by kernel_rfl
theorem tri1 : triN 67 73 (tab1.drop 1) ((tab1 ++ tab1).drop 2) = true := by kernel_rfl
theorem tri2 : triN 79 67 (tab2.drop 1) ((tab2 ++ tab2).drop 2) = true := by kernel_rfl
theorem tri3 : triN 139 163 (tab3.drop 1) ((tab3 ++ tab3).drop 2) = true := by kernel_rfl
theorem tri4 : triN 163 181 (tab4.drop 1) ((tab4 ++ tab4).drop 2) = true := by kernel_rfl
theorem tri5 : triN 211 199 (tab5.drop 1) ((tab5 ++ tab5).drop 2) = true := by kernel_rfl
theorem tri6 : triN 379 409 (tab6.drop 1) ((tab6 ++ tab6).drop 2) = true := by kernel_rfl
end Go.Proofs.Ytohnkglcabfpjaa
end

section
namespace Go.Proofs.Ytohnkglcabfpjaa
theorem tri7a : triN 691 110 (tab7.drop 1) ((tab7 ++ tab7).drop 2) = true := by kernel_rfl
theorem tri7b : triN 691 140 (tab7.drop 111) ((tab7 ++ tab7).drop 222) = true := by kernel_rfl
theorem tri7c : triN 691 400 (tab7.drop 251) ((tab7 ++ tab7).drop 502) = true := by kernel_rfl
end Go.Proofs.Ytohnkglcabfpjaa
end

section
namespace Go.Proofs.Ytohnkglcabfpjaa
theorem rowOK_spec {p x1 y1 : Nat} : ∀ (l m : List (Nat × Nat)), rowOK p x1 y1 l m = true → ∀ (k : Nat) (q r : Nat × Nat), l[k]? = some q → m[k]? = some r → pairOK p x1 y1 q r = true
  | [], _, _, k, q, r, hq, _ => by simp at hq
  | q0 :: l, [], _, k, q, r, _, hr => by simp at hr
  | q0 :: l, r0 :: m, h, k, q, r, hq, hr => by
    have h' : (pairOK p x1 y1 q0 r0 && rowOK p x1 y1 l m) = true := h
    rw [Bool.and_eq_true] at h'
    cases k with
    | zero =>
      simp only [List.getElem?_cons_zero, Option.some.injEq] at hq hr
      subst hq hr
      exact h'.1
    | succ k =>
      simp only [List.getElem?_cons_succ] at hq hr
      exact rowOK_spec l m h'.2 k q r hq hr
theorem triN_spec {p : Nat} : ∀ (n : Nat) (L M : List (Nat × Nat)), triN p n L M = true → ∀ (a k : Nat) (q1 q2 r : Nat × Nat), a < n → L[a]? = some q1 → L[a + 1 + k]? = some q2 → M[2 * a + 1 + k]? = some r → pairOK p q1.1 q1.2 q2 r = true
  | 0, _, _, _, a, k, q1, q2, r, ha, _, _, _ => by omega
  | n + 1, [], _, _, a, k, q1, q2, r, _, h1, _, _ => by simp at h1
  | n + 1, q :: L, M, h, a, k, q1, q2, r, ha, h1, h2, h3 => by
    have h' : (rowOK p q.1 q.2 L (M.drop 1) && triN p n L (M.drop 2)) = true := h
    rw [Bool.and_eq_true] at h'
    cases a with
    | zero =>
      simp only [List.getElem?_cons_zero, Option.some.injEq] at h1
      subst h1
      rw [show 0 + 1 + k = k + 1 by omega, List.getElem?_cons_succ] at h2
      exact rowOK_spec L (M.drop 1) h'.1 k q2 r h2 (by rw [List.getElem?_drop, show 1 + k = 2 * 0 + 1 + k by omega]; exact h3)
    | succ a =>
      simp only [List.getElem?_cons_succ] at h1
      rw [show a + 1 + 1 + k = a + 1 + k + 1 by omega, List.getElem?_cons_succ] at h2
      exact triN_spec n L (M.drop 2) h'.2 a k q1 q2 r (by omega) h1 h2 (by rw [List.getElem?_drop, show 2 + (2 * a + 1 + k) = 2 * (a + 1) + 1 + k by omega]; exact h3)
end Go.Proofs.Ytohnkglcabfpjaa
end
