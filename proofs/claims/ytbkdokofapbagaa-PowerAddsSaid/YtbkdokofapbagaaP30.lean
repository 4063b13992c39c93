/-
  Package field: powers.
-/
import Derived.Test.YtbkdokofapbagaaV10
import Derived.Test.YtbkdokofapbagaaP27
namespace Go.Proofs.Ytbkdokofapbagaa
open Go.Sx

theorem and_one (v : Nat) (h : v < 18446744073709551616) : IntKind.u64.wrap ((BitVec.ofInt 64 (v : Int) &&& BitVec.ofInt 64 (1 : Int)).toNat : Int) = ((v % 2 : Nat) : Int) := by
  have b1 : (BitVec.ofInt 64 (v : Int)).toNat = v := by rw [BitVec.toNat_ofInt]; omega
  have b2 : (BitVec.ofInt 64 (1 : Int)).toNat = 1 := by decide
  rw [BitVec.toNat_and, b1, b2, Nat.and_one_is_mod, wrap_id (word_nat (by omega))]
theorem limb_bit (x j : Nat) (hj : j < 256) : (IntKind.u64.wrap ((BitVec.ofInt 64 ((limb x (j / 64)).fdiv ((2 ^ (j % 64) : Nat) : Int)) &&& BitVec.ofInt 64 (1 : Int)).toNat : Int) == 1) = (x % M256).testBit j := by
  have e : limb x (j / 64) = ((x / 2 ^ (64 * (j / 64)) % 2 ^ 64 : Nat) : Int) := rfl
  have hc : x / 2 ^ (64 * (j / 64)) % 2 ^ 64 < 18446744073709551616 := Nat.mod_lt _ (by decide)
  rw [e, fdiv_nat, and_one _ (Nat.lt_of_le_of_lt (Nat.div_le_self _ _) hc)]
  have h1 : (x / 2 ^ (64 * (j / 64)) % 2 ^ 64).testBit (j % 64) = (x % M256).testBit j := by
    rw [Nat.testBit_mod_two_pow, M_pow, Nat.testBit_mod_two_pow, Nat.testBit_div_two_pow]
    rw [decide_eq_true (Nat.mod_lt j (show 0 < 64 by decide)), decide_eq_true hj, Nat.mod_add_div]
  rw [← h1, Nat.testBit_eq_decide_div_mod_eq, Bool.eq_iff_iff, beq_iff_eq, decide_eq_true_eq]
  generalize x / 2 ^ (64 * (j / 64)) % 2 ^ 64 / 2 ^ (j % 64) = w
  omega
theorem half_step (X j : Nat) : X / 2 ^ j = 2 * (X / 2 ^ (j + 1)) + (X.testBit j).toNat := by
  rw [Nat.toNat_testBit, Nat.pow_succ, ← Nat.div_div_eq_div_mul]
  generalize X / 2 ^ j = w
  omega
theorem pow_zero_bit {a X m j : Nat} (h : X.testBit j = false) : a ^ (X / 2 ^ (j + 1)) % m * (a ^ (X / 2 ^ (j + 1)) % m) % m = a ^ (X / 2 ^ j) % m := by
  rw [half_step X j, h, ← Nat.mul_mod, ← Nat.pow_add]
  exact congrArg (fun v => a ^ v % m) (by simp; omega)
theorem pow_one_bit {a X m j : Nat} (h : X.testBit j = true) : a ^ (X / 2 ^ (j + 1)) % m * (a ^ (X / 2 ^ (j + 1)) % m) % m * a % m = a ^ (X / 2 ^ j) % m := by
  rw [half_step X j, h, ← Nat.mul_mod, ← Nat.pow_add, Nat.mod_mul_mod, ← Nat.pow_succ]
  exact congrArg (fun v => a ^ v % m) (by simp; omega)
theorem ok_power : ∀ a x m : Nat, Ok (powC a x m) → Owes Try.prog cxPow [((69 + 1) * 100000 + 2, .inv (invPow a x m))] 100 Try.f57 [sU a, sU x, sU m] (powG a x m) := by
  intro a x m hc
  obtain ⟨ha, _⟩ := hc
  rw [vc_power]
  have hM : 1 < M256 := by rw [M256_eq]; decide
  have hmM := Nat.mod_lt m (Nat.lt_trans Nat.zero_lt_one hM)
  have hxM := Nat.mod_lt x (Nat.lt_trans Nat.zero_lt_one hM)
  have hbl := bitsN_le (n := x % M256) (k := 256) hxM
  have hb0 : x % M256 / 2 ^ bitsN (x % M256) = 0 := by
    rcases Nat.eq_zero_or_pos (x % M256) with e | e
    · rw [e, Nat.zero_div]
    · exact Nat.div_eq_of_lt (bitsN_two _ (by omega)).1
  have hbit := fun j hj => limb_bit x j hj
  intro x1 x2 x3 x4
  have E1 : x1 = m % M256 := rfl
  have E2 : x2 = a % M256 := rfl
  have E3 : x3 = x % M256 := rfl
  have E4 : x4 = x2 ^ x3 % x1 % M256 := rfl
  clear_value x4 x3 x2 x1
  rw [← E1] at hmM
  rw [← E2, ← E1] at ha
  rw [← E3] at hbl hb0
  simp only [← E3] at hbit
  have hpos : 0 < x1 := by omega
  have hlt : ∀ v : Nat, v % x1 < M256 := fun v => Nat.lt_trans (Nat.mod_lt v hpos) hmM
  have hmm : ∀ v : Nat, v % x1 % M256 = v % x1 := fun v => Nat.mod_eq_of_lt (hlt v)
  refine ⟨fun h => ⟨?_, trivial⟩, fun h => ⟨fun _ => rfl, bitsN x3, hbl, rfl, ⟨rfl, rfl⟩, ?_, rfl, rfl, rfl, rfl, rfl, rfl, rfl, ⟨?_, trivial⟩, rfl, rfl, rfl, fun y hy => ⟨fun hc => ?_, fun hc => ⟨?_, trivial⟩⟩⟩⟩
  · have h : 1 = x1 := beq_iff_eq.1 h
    rw [E4, ← h, Nat.mod_one, Nat.zero_mod]
  · rw [IntWalk.i64_in _ (by omega)]
    omega
  · have h : 1 ≠ x1 := beq_eq_false_iff_ne.1 h
    rw [hb0, Nat.pow_zero, hmm, Nat.mod_eq_of_lt (by omega)]
  · have hy0 : 1 ≤ y := by have := of_decide_eq_true hc; omega
    obtain ⟨j, rfl⟩ : ∃ j, y = j + 1 := ⟨y - 1, by omega⟩
    have hj : j < 256 := by omega
    rw [show ((j + 1 : Nat) : Int) - 1 = (j : Int) by omega]
    have t1 : IntKind.i64.wrap ((j : Int).tdiv 64) = ((j / 64 : Nat) : Int) := by
      have e : (j : Int).tdiv 64 = ((j / 64 : Nat) : Int) := tdiv_nat j 64
      rw [e, IntWalk.i64_in _ (by omega)]
    have t2 : (j : Int).tmod 64 = ((j % 64 : Nat) : Int) := by
      rw [Int.tmod_eq_emod_of_nonneg (Int.natCast_nonneg _)]
      exact (Int.natCast_emod j 64).symm
    have t3 : IntKind.i64.wrap ((j : Int) - 1) = ((j : Nat) : Int) - 1 := IntWalk.i64_in _ (by omega)
    have hq : (0 : Int) ≤ ((j / 64 : Nat) : Int) ∧ ((j / 64 : Nat) : Int) < 4 := by omega
    rw [t1, t2, t3, two_min _ (by omega), Int.toNat_natCast, hbit j hj, hmm, hmm, hmm]
    refine ⟨hq, hq, nn _, Nat.mod_lt _ hpos, Nat.mod_lt _ hpos, fun hb => ⟨Nat.mod_lt _ hpos, ha, j, by omega, rfl, ⟨rfl, rfl⟩, rfl, rfl, rfl, rfl, rfl, rfl, rfl, rfl, ?_, rfl, rfl, rfl, by omega⟩, fun hb => ⟨j, by omega, rfl, ⟨rfl, rfl⟩, rfl, rfl, rfl, rfl, rfl, rfl, rfl, rfl, ?_, rfl, rfl, rfl, by omega⟩⟩
    · rw [pow_one_bit hb, hmm]
    · rw [pow_zero_bit hb, hmm]
  · have hy0 : y = 0 := by have := of_decide_eq_false hc; omega
    rw [hy0, Nat.pow_zero, Nat.div_one, E4]
theorem card_power : FnOK Try.prog 57 (specUUU powC powG) :=
  FnOK_UUU (CxOK_cons card_product (CxOK_cons card_fnoughts CxOK_nil)) (iv := fun a x m => [((69 + 1) * 100000 + 2, .inv (invPow a x m))]) (N := 100) Try.func57 (by kernel_rfl) (by kernel_rfl) (fun _ _ _ => bnd_one (bnd_U _)) ok_power

theorem p_all {a m r : Nat} :
    (m % M256 = 0 → 0 = (if pE a m = 0 then r else 0) % M256 ∧ 7 = pE a m) ∧
    (m % M256 ≠ 0 → m % M256 ≤ a % M256 → 0 = (if pE a m = 0 then r else 0) % M256 ∧ 6 = pE a m) ∧
    (m % M256 ≠ 0 → a % M256 < m % M256 → r % M256 = (if pE a m = 0 then r else 0) % M256 ∧ 0 = pE a m) := by
  refine ⟨fun h => ?_, fun h h' => ?_, fun h h1 => ?_⟩
  · have e : pE a m = 7 := by unfold pE; rw [if_pos h]
    rw [e, if_neg (by decide)]
    exact ⟨(Nat.zero_mod _).symm, rfl⟩
  · have e : pE a m = 6 := by unfold pE; rw [if_neg h, if_neg (by omega)]
    rw [e, if_neg (by decide)]
    exact ⟨(Nat.zero_mod _).symm, rfl⟩
  · have e : pE a m = 0 := by unfold pE; rw [if_neg h, if_pos h1]
    rw [e, if_pos rfl]
    exact ⟨rfl, rfl⟩
theorem ok_fPow : ∀ a x m : Nat, Ok (noC a x m) → Owes Try.prog cxFpow [] 100 Try.f41 [sU a, sU x, sU m] (fpowG a x m) := by
  intro a x m _
  rw [vc_fPow]
  intro x1 x2 x3 x4
  obtain ⟨f1, f2, f3⟩ := p_all (a := a) (m := m) (r := (a % M256) ^ (x % M256) % (m % M256))
  refine ⟨fun h => ?_, fun h => ⟨fun h1 => ?_, fun h1 => ?_⟩⟩
  · obtain ⟨p, q⟩ := f1 (beq_iff_eq.1 h)
    exact ⟨⟨p, trivial⟩, q⟩
  · obtain ⟨p, q⟩ := f2 (beq_eq_false_iff_ne.1 h) (cmp_ge.1 (of_decide_eq_true h1))
    exact ⟨⟨p, trivial⟩, q⟩
  · have l1 : a % M256 < m % M256 := Nat.lt_of_not_le fun c => of_decide_eq_false h1 (cmp_ge.2 c)
    obtain ⟨p, q⟩ := f3 (beq_eq_false_iff_ne.1 h) l1
    exact ⟨l1, ⟨p, trivial⟩, q⟩
theorem card_fPow : FnOK Try.prog 41 (specUUU noC fpowG) :=
  FnOK_UUU (CxOK_cons card_Cmp (CxOK_cons card_power CxOK_nil)) (iv := fun _ _ _ => []) (N := 100) Try.func41 (by kernel_rfl) (by kernel_rfl) (fun _ _ _ => bnd_two (bnd_U _) (bnd_I _ _)) ok_fPow
theorem cxok_PA : CxOK Try.prog cxPA := CxOK_cons card_number (CxOK_cons card_DivMod (CxOK_cons card_Add (CxOK_cons card_fPow (CxOK_cons card_fMul (CxOK_cons card_fTells CxOK_nil)))))
theorem pE_ok {u n m : Nat} (h : n % M256 = m) (hu : u < m) : pE u n = 0 := by
  have hM := Nat.mod_lt n (show 0 < M256 by rw [M256_eq]; decide)
  unfold pE
  rw [h] at hM ⊢
  rw [if_neg (by omega), Nat.mod_eq_of_lt (Nat.lt_trans hu hM), if_pos hu]
theorem pow_mul_mod (u z e m : Nat) : (u * z % m) ^ e % m = u ^ e % m * (z ^ e % m) % m := by
  rw [← Nat.pow_mod, Nat.mul_pow, Nat.mul_mod]
theorem half_word (m : Int) : 0 ≤ (IntKind.u64.wrap m).fdiv 2 ∧ (IntKind.u64.wrap m).fdiv 2 < 9223372036854775808 := by
  rw [Int.fdiv_eq_ediv_of_nonneg _ (by decide), wrap_mod]
  omega
theorem word_wrap (m : Int) : 0 ≤ IntKind.u64.wrap m ∧ IntKind.u64.wrap m < 18446744073709551616 := by
  rw [wrap_mod]
  omega
theorem join_half (n m : Int) : join (IntKind.u64.wrap n) ((IntKind.u64.wrap m).fdiv 2) 0 0 < 2 ^ 127 := by
  have h1 := half_word m
  have h2 := word_wrap n
  obtain ⟨a, ha⟩ := Int.eq_ofNat_of_zero_le h1.1
  obtain ⟨b, hb⟩ := Int.eq_ofNat_of_zero_le h2.1
  rw [ha] at h1
  rw [hb] at h2
  rw [ha, hb]
  unfold join
  simp only [Int.toNat_natCast, Int.toNat_zero]
  omega
set_option maxHeartbeats 1000000 in
theorem ok_PowerAdds : ∀ (k a b : Int) (s : ByteArray) (k' a' b' : Int) (s' : ByteArray) (k2 a2 b2 : Int) (s2 : ByteArray) (n m : Int), i64ok k → i64ok a → i64ok b → i64ok k' → i64ok a' → i64ok b' → i64ok k2 → i64ok a2 → i64ok b2 → i64ok n → i64ok m → Owes Try.prog cxPA [] 100 Try.f17 [sRaw k a b s, sRaw k' a' b' s', sRaw k2 a2 b2 s2, sI .i64 n, sI .i64 m] yes := by
  intro k a b s k' a' b' s' k2 a2 b2 s2 n m hk ha hb hk' ha' hb' hk2 ha2 hb2 _ _
  rw [vc_PowerAdds]
  have hM0 : 0 < M256 := by rw [M256_eq]; decide
  have hM127 : 2 ^ 127 + 2 ^ 127 < M256 := by rw [M256_eq]; decide
  have j1 := join_half n m
  have j2 := join_half m n
  have hw2 := half_word m
  have hw3 := half_word n
  have wn := word_wrap n
  have wm := word_wrap m
  have z := zz64
  intro x1 x2 x3 x4 x5 x6 x7 x8 x9 x10 x11 x12 x13 x14 x15 x16 x17 x18 x19 x20 x21 x22 x23 x24 x25 x26 x27 x28 x29 x30 x31 x32 x33 x34 x35 x36 x37 x38 x39 x40 x41 x42 x43 x44 x45 x46 x47 x48 x49 x50 x51 x52 x53 x54
  have w2 : 0 ≤ x2 ∧ x2 < 18446744073709551616 := ⟨hw2.1, Int.lt_trans hw2.2 (by decide)⟩
  have w3 : 0 ≤ x3 ∧ x3 < 18446744073709551616 := ⟨hw3.1, Int.lt_trans hw3.2 (by decide)⟩
  have J1 : x10 < 2 ^ 127 := j1
  have J2 : x13 < 2 ^ 127 := j2
  have e30 : x30 = x11 + x14 := by
    simp only [x30, x11, x14]
    rw [Nat.mod_eq_of_lt (show x10 + x13 < M256 by omega), Nat.mod_eq_of_lt (show x10 < M256 by omega), Nat.mod_eq_of_lt (show x13 < M256 by omega)]
  clear j1 j2
  refine ⟨hk, ha, hb, fun h => ⟨hk', ha', hb', fun c hc => ⟨hk2, ha2, hb2, ⟨by omega, hc, by omega⟩, fun c' _ => ?_⟩⟩, fun h => ⟨hk', ha', hb', fun c hc => ⟨hk2, ha2, hb2, ⟨by omega, hc, by omega⟩, fun c' _ => ?_⟩⟩⟩
  · have hne : ¬ (1 : Nat) = 0 := by decide
    have hpos : 0 < 1 := by decide
    have hmM : 1 < M256 := by rw [M256_eq]; decide
    have l4 : x4 < 1 := by
      simp only [x4]
      rw [if_neg hne]
      exact Nat.mod_lt _ hpos
    have l19 : x19 < 1 := by
      simp only [x19]
      rw [if_neg hne]
      exact Nat.mod_lt _ hpos
    have m9 : x9 = x4 := Nat.mod_eq_of_lt (Nat.lt_trans l4 hmM)
    have m21 : x21 = x19 := Nat.mod_eq_of_lt (Nat.lt_trans l19 hmM)
    have e5 : x5 = 0 := pE_ok one_mod l4
    have e25 : x25 = 0 := pE_ok one_mod l19
    have e20 : x20 = 0 := fE_ok one_mod l4 l19
    have v12 : x12 = x4 ^ x11 % 1 := by
      simp only [x12]
      rw [if_pos e5, m9]
    have l12 : x12 < 1 := by rw [v12]; exact Nat.mod_lt _ hpos
    have v15 : x15 = x4 ^ x14 % 1 := by
      simp only [x15]
      rw [if_pos e5, m9]
    have l15 : x15 < 1 := by rw [v15]; exact Nat.mod_lt _ hpos
    have v22 : x22 = x4 * x19 % 1 := by
      simp only [x22]
      rw [if_pos e20, m9, m21]
    have l22 : x22 < 1 := by rw [v22]; exact Nat.mod_lt _ hpos
    have v27 : x27 = x19 ^ x11 % 1 := by
      simp only [x27]
      rw [if_pos e25, m21]
    have l27 : x27 < 1 := by rw [v27]; exact Nat.mod_lt _ hpos
    have e16 : x16 = 0 := fE_ok one_mod l12 l15
    have e23 : x23 = 0 := pE_ok one_mod l22
    have e28 : x28 = 0 := fE_ok one_mod l12 l27
    have b6 : x6 = true := by simp only [x6, e5]; rfl
    have b7 : x7 = true := by simp only [x7, b6]; rfl
    have b8 : x8 = true := by simp only [x8, b7, b6]; rfl
    have b17 : x17 = true := by simp only [x17, b8, e16]; rfl
    have b18 : x18 = true := by simp only [x18, b17, b6]; rfl
    have b24 : x24 = true := by simp only [x24, b18, e23]; rfl
    have b26 : x26 = true := by simp only [x26, b24, e25]; rfl
    have b29 : x29 = true := by simp only [x29, b26, e28]; rfl
    have q1 : x12 % M256 * (x15 % M256) % 1 % M256 = x9 ^ x30 % 1 % M256 := by
      rw [m9, Nat.mod_eq_of_lt (Nat.lt_trans l12 hmM), Nat.mod_eq_of_lt (Nat.lt_trans l15 hmM), v12, v15, e30, ← Nat.mul_mod, ← Nat.pow_add]
    have b31 : x31 = true := by
      simp only [x31]
      rw [b29, if_pos e16, if_pos e5]
      exact (beq_iff_eq.2 q1 : (x12 % M256 * (x15 % M256) % 1 % M256 == x9 ^ x30 % 1 % M256) = true)
    have q2 : (x22 % M256) ^ x11 % 1 % M256 = x12 % M256 * (x27 % M256) % 1 % M256 := by
      rw [Nat.mod_eq_of_lt (Nat.lt_trans l22 hmM), Nat.mod_eq_of_lt (Nat.lt_trans l12 hmM), Nat.mod_eq_of_lt (Nat.lt_trans l27 hmM), v22, v12, v27, pow_mul_mod]
    rw [b31, if_pos e23, if_pos e28]
    exact ⟨wn, w2, z, z, wm, w3, z, z, wn, w2, z, z, wm, w3, z, z, wn, w2, z, z, wn, w2, z, z, id, id, id, id, id, id, id, id, id, id, id, id, id, id, id, id, id, id, id, id, (beq_iff_eq.2 q2 : ((x22 % M256) ^ x11 % 1 % M256 == x12 % M256 * (x27 % M256) % 1 % M256) = true)⟩
  · have hne : x1 ≠ 0 := beq_eq_false_iff_ne.1 h
    have hpos : 0 < x1 := Nat.pos_of_ne_zero hne
    have hmM : x1 < M256 := Nat.mod_lt _ hM0
    have l4 : x32 < x1 := by
      simp only [x32]
      rw [if_neg hne]
      exact Nat.mod_lt _ hpos
    have l19 : x43 < x1 := by
      simp only [x43]
      rw [if_neg hne]
      exact Nat.mod_lt _ hpos
    have m9 : x37 = x32 := Nat.mod_eq_of_lt (Nat.lt_trans l4 hmM)
    have m21 : x45 = x43 := Nat.mod_eq_of_lt (Nat.lt_trans l19 hmM)
    have e5 : x33 = 0 := pE_ok rfl l4
    have e25 : x49 = 0 := pE_ok rfl l19
    have e20 : x44 = 0 := fE_ok rfl l4 l19
    have v12 : x38 = x32 ^ x11 % x1 := by
      simp only [x38]
      rw [if_pos e5, m9]
    have l12 : x38 < x1 := by rw [v12]; exact Nat.mod_lt _ hpos
    have v15 : x39 = x32 ^ x14 % x1 := by
      simp only [x39]
      rw [if_pos e5, m9]
    have l15 : x39 < x1 := by rw [v15]; exact Nat.mod_lt _ hpos
    have v22 : x46 = x32 * x43 % x1 := by
      simp only [x46]
      rw [if_pos e20, m9, m21]
    have l22 : x46 < x1 := by rw [v22]; exact Nat.mod_lt _ hpos
    have v27 : x51 = x43 ^ x11 % x1 := by
      simp only [x51]
      rw [if_pos e25, m21]
    have l27 : x51 < x1 := by rw [v27]; exact Nat.mod_lt _ hpos
    have e16 : x40 = 0 := fE_ok rfl l12 l15
    have e23 : x47 = 0 := pE_ok rfl l22
    have e28 : x52 = 0 := fE_ok rfl l12 l27
    have b6 : x34 = true := by simp only [x34, e5]; rfl
    have b7 : x35 = true := by simp only [x35, b6]; rfl
    have b8 : x36 = true := by simp only [x36, b7, b6]; rfl
    have b17 : x41 = true := by simp only [x41, b8, e16]; rfl
    have b18 : x42 = true := by simp only [x42, b17, b6]; rfl
    have b24 : x48 = true := by simp only [x48, b18, e23]; rfl
    have b26 : x50 = true := by simp only [x50, b24, e25]; rfl
    have b29 : x53 = true := by simp only [x53, b26, e28]; rfl
    have q1 : x38 % M256 * (x39 % M256) % x1 % M256 = x37 ^ x30 % x1 % M256 := by
      rw [m9, Nat.mod_eq_of_lt (Nat.lt_trans l12 hmM), Nat.mod_eq_of_lt (Nat.lt_trans l15 hmM), v12, v15, e30, ← Nat.mul_mod, ← Nat.pow_add]
    have b31 : x54 = true := by
      simp only [x54]
      rw [b29, if_pos e16, if_pos e5]
      exact (beq_iff_eq.2 q1 : (x38 % M256 * (x39 % M256) % x1 % M256 == x37 ^ x30 % x1 % M256) = true)
    have q2 : (x46 % M256) ^ x11 % x1 % M256 = x38 % M256 * (x51 % M256) % x1 % M256 := by
      rw [Nat.mod_eq_of_lt (Nat.lt_trans l22 hmM), Nat.mod_eq_of_lt (Nat.lt_trans l12 hmM), Nat.mod_eq_of_lt (Nat.lt_trans l27 hmM), v22, v12, v27, pow_mul_mod]
    rw [b31, if_pos e23, if_pos e28]
    exact ⟨wn, w2, z, z, wm, w3, z, z, wn, w2, z, z, wm, w3, z, z, wn, w2, z, z, wn, w2, z, z, id, id, id, id, id, id, id, id, id, id, id, id, id, id, id, id, id, id, id, id, (beq_iff_eq.2 q2 : ((x46 % M256) ^ x11 % x1 % M256 == x38 % M256 * (x51 % M256) % x1 % M256) = true)⟩
end Go.Proofs.Ytbkdokofapbagaa
