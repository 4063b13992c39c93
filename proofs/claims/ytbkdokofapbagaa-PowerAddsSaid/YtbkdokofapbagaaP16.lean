/-
  Texts of numbers: what the code owes.
-/
import Derived.Test.YtbkdokofapbagaaP15
import Derived.Test.YtbkdokofapbagaaC2
namespace Go.Proofs.Ytbkdokofapbagaa
open Go.Sx

/-! ## split -/
theorem horner64 (r c : Nat) : (r : Int) * 18446744073709551616 + (c : Int) = ((r * 18446744073709551616 + c : Nat) : Int) := by omega
theorem limb_is (a i : Nat) : ∃ c : Nat, limb a i = (c : Int) ∧ c < 18446744073709551616 := by
  refine ⟨(limb a i).toNat, (Int.toNat_of_nonneg (limb_nonneg a i)).symm, ?_⟩
  have := limb_lt a i
  have := limb_nonneg a i
  omega
theorem horner_is (a c0 c1 c2 c3 : Nat) (h0 : limb a 0 = (c0 : Int)) (h1 : limb a 1 = (c1 : Int)) (h2 : limb a 2 = (c2 : Int)) (h3 : limb a 3 = (c3 : Int)) :
    a % M256 = ((c3 * 18446744073709551616 + c2) * 18446744073709551616 + c1) * 18446744073709551616 + c0 := by
  rw [← join_limbs, h0, h1, h2, h3]
  unfold join
  simp only [Int.toNat_natCast]
  omega
theorem join_nat (q0 q1 q2 q3 : Nat) : join (q0 : Int) (q1 : Int) (q2 : Int) (q3 : Int) = ((q3 * 18446744073709551616 + q2) * 18446744073709551616 + q1) * 18446744073709551616 + q0 := by
  unfold join
  simp only [Int.toNat_natCast]
  omega
theorem nat_div (a b : Nat) : (a : Int) / (b : Int) = ((a / b : Nat) : Int) := (Int.natCast_ediv a b).symm
theorem nat_mod (a b : Nat) : (a : Int) % (b : Int) = ((a % b : Nat) : Int) := (Int.natCast_emod a b).symm
theorem word_nat {n : Nat} (h : n < 18446744073709551616) : (0 : Int) ≤ (n : Int) ∧ (n : Int) < 18446744073709551616 := by omega
theorem ok_split : ∀ (a : Nat) (n : Int), Ok (splitC a n) → Owes Try.prog cxSplit [] 100 Try.f49 [sU a, sI .u64 n] (splitG a n) := by
  intro a n hc
  obtain ⟨⟨hn, hn'⟩, _⟩ := hc
  rw [vc_split]
  obtain ⟨N, rfl⟩ := Int.eq_ofNat_of_zero_le (show 0 ≤ n by omega)
  have hN : 0 < N := by omega
  have hN' : N < 18446744073709551616 := by omega
  obtain ⟨c0, h0, b0⟩ := limb_is a 0
  obtain ⟨c1, h1, b1⟩ := limb_is a 1
  obtain ⟨c2, h2, b2⟩ := limb_is a 2
  obtain ⟨c3, h3, b3⟩ := limb_is a 3
  have hA := horner_is a c0 c1 c2 c3 h0 h1 h2 h3
  obtain ⟨d1, d2⟩ := long_div 18446744073709551616 c0 c1 c2 c3 N hN
  rw [← hA] at d1 d2
  have r3 := Nat.mod_lt c3 hN
  have r2 := Nat.mod_lt (c3 % N * 18446744073709551616 + c2) hN
  have r1 := Nat.mod_lt ((c3 % N * 18446744073709551616 + c2) % N * 18446744073709551616 + c1) hN
  have q3 : c3 / N < 18446744073709551616 := Nat.lt_of_le_of_lt (Nat.div_le_self _ _) b3
  have q2 := long_lt hN r3 b2
  have q1 := long_lt hN r2 b1
  have q0 := long_lt hN r1 b0
  intro x1 x2 x3 x4 x5 x6 x7 x8 x9 x10 x11 x12
  have E1 : x1 = (c3 : Int) := by simp only [x1, h3]; exact Int.zero_add _
  have E2 : x2 = ((c3 % N : Nat) : Int) := by simp only [x2, E1]; exact nat_mod _ _
  have E3 : x3 = ((c3 % N * 18446744073709551616 + c2 : Nat) : Int) := by simp only [x3, E2, h2]; exact horner64 _ _
  have E4 : x4 = (((c3 % N * 18446744073709551616 + c2) % N : Nat) : Int) := by simp only [x4, E3]; exact nat_mod _ _
  have E5 : x5 = (((c3 % N * 18446744073709551616 + c2) % N * 18446744073709551616 + c1 : Nat) : Int) := by simp only [x5, E4, h1]; exact horner64 _ _
  have E6 : x6 = ((((c3 % N * 18446744073709551616 + c2) % N * 18446744073709551616 + c1) % N : Nat) : Int) := by simp only [x6, E5]; exact nat_mod _ _
  have E7 : x7 = ((((c3 % N * 18446744073709551616 + c2) % N * 18446744073709551616 + c1) % N * 18446744073709551616 + c0 : Nat) : Int) := by simp only [x7, E6, h0]; exact horner64 _ _
  have E8 : x8 = (((((c3 % N * 18446744073709551616 + c2) % N * 18446744073709551616 + c1) % N * 18446744073709551616 + c0) / N : Nat) : Int) := by simp only [x8, E7]; exact nat_div _ _
  have E9 : x9 = ((((c3 % N * 18446744073709551616 + c2) % N * 18446744073709551616 + c1) / N : Nat) : Int) := by simp only [x9, E5]; exact nat_div _ _
  have E10 : x10 = (((c3 % N * 18446744073709551616 + c2) / N : Nat) : Int) := by simp only [x10, E3]; exact nat_div _ _
  have E11 : x11 = ((c3 / N : Nat) : Int) := by simp only [x11, E1]; exact nat_div _ _
  have J : join x8 x9 x10 x11 = a % M256 / N := by
    rw [E8, E9, E10, E11, join_nat, d1]
  have R : x7 % (N : Int) = ((a % M256 % N : Nat) : Int) := by rw [E7, d2]; exact nat_mod _ _
  have hw : ∀ m : Nat, m < N → (0 : Int) ≤ (m : Int) ∧ (m : Int) < 18446744073709551616 := fun m hm => word_nat (Nat.lt_trans hm hN')
  have hl : ∀ m : Nat, m < N → (m : Int) < (N : Int) := fun m hm => Int.ofNat_lt.2 hm
  refine ⟨⟨by decide, by decide⟩, ?_, word_nat hN', by omega, ?_, ?_, word_nat hN', ?_, ?_, ?_, word_nat hN', ?_, ?_, ?_, word_nat hN', ?_, ⟨?_, ?_, ?_, ?_, ?_, trivial⟩, ?_⟩
  · rw [h3]; exact word_nat b3
  · rw [E2]; exact hw _ r3
  · rw [h2]; exact word_nat b2
  · rw [E2]; exact hl _ r3
  · rw [E4]; exact hw _ r2
  · rw [h1]; exact word_nat b1
  · rw [E4]; exact hl _ r2
  · rw [E6]; exact hw _ r1
  · rw [h0]; exact word_nat b0
  · rw [E6]; exact hl _ r1
  · rw [E8]; exact word_nat q0
  · rw [E9]; exact word_nat q1
  · rw [E10]; exact word_nat q2
  · rw [E11]; exact word_nat q3
  · rw [J]; simp only [x12, Int.toNat_natCast]
  · rw [R]; simp only [x12, Int.toNat_natCast]
theorem card_split : FnOK Try.prog 49 (specUIC splitC splitG) :=
  FnOK_UIC (CxOK_cons card_Div64 CxOK_nil) (iv := fun _ _ => []) (N := 100) Try.func49 (by kernel_rfl) (by kernel_rfl) (fun a n => bnd_two (bnd_U _) (bnd_I _ _)) ok_split

/-! ## Show -/
theorem u8_nat {n : Nat} (h : n < 256) : IntKind.u8.wrap (n : Int) = (n : Int) := by
  unfold IntKind.wrap
  simp [IntKind.signed, IntKind.bits]
  omega
theorem i64_at {y : Nat} (h : y ≤ 77) : IntKind.i64.wrap (((78 - y : Nat) : Int) - 1) = ((77 - y : Nat) : Int) := by
  rw [IntWalk.i64_in _ (by omega)]
  omega
theorem digit_u8 (v : Nat) : IntKind.u8.wrap (48 + IntKind.u8.wrap ((v % 10 : Nat) : Int)) = ((48 + v % 10 : Nat) : Int) := by
  have : v % 10 < 10 := Nat.mod_lt _ (by decide)
  rw [u8_nat (by omega), show (48 : Int) + ((v % 10 : Nat) : Int) = ((48 + v % 10 : Nat) : Int) by omega, u8_nat (by omega)]
theorem div_small {n k : Nat} (h : n < M256) : n / 10 ^ k % M256 = n / 10 ^ k := Nat.mod_eq_of_lt (Nat.lt_of_le_of_lt (Nat.div_le_self _ _) h)
theorem div_small' {n k : Nat} (h : n < M256) : n / 10 ^ k / 10 % M256 = n / 10 ^ (k + 1) := by
  rw [Nat.pow_succ, ← Nat.div_div_eq_div_mul]
  exact Nat.mod_eq_of_lt (Nat.lt_of_le_of_lt (Nat.le_trans (Nat.div_le_self _ _) (Nat.div_le_self _ _)) h)
theorem ok_Show : ∀ a : Nat, Owes Try.prog cxShow [(3, .inv (invShow a))] 400 Try.f28 [sU a] (showG a) := by
  intro a
  rw [vc_Show]
  have hn : a % M256 < M256 := Nat.mod_lt _ (by rw [M256_eq]; decide)
  intro x1
  have hx : x1 < M256 := hn
  clear_value x1
  have z : ∀ j, j < 78 → (0 : Int) = showF x1 0 j := by
    intro j hj
    unfold showF
    rw [if_neg (by omega)]
  refine ⟨fun _ => rfl, 0, ⟨by decide, .inl rfl⟩, rfl, rfl, rfl, ?_, rfl, ⟨z 0 (by decide), z 1 (by decide), z 2 (by decide), z 3 (by decide), z 4 (by decide), z 5 (by decide), z 6 (by decide), z 7 (by decide), z 8 (by decide), z 9 (by decide), z 10 (by decide), z 11 (by decide), z 12 (by decide), z 13 (by decide), z 14 (by decide), z 15 (by decide), z 16 (by decide), z 17 (by decide), z 18 (by decide), z 19 (by decide), z 20 (by decide), z 21 (by decide), z 22 (by decide), z 23 (by decide), z 24 (by decide), z 25 (by decide), z 26 (by decide), z 27 (by decide), z 28 (by decide), z 29 (by decide), z 30 (by decide), z 31 (by decide), z 32 (by decide), z 33 (by decide), z 34 (by decide), z 35 (by decide), z 36 (by decide), z 37 (by decide), z 38 (by decide), z 39 (by decide), z 40 (by decide), z 41 (by decide), z 42 (by decide), z 43 (by decide), z 44 (by decide), z 45 (by decide), z 46 (by decide), z 47 (by decide), z 48 (by decide), z 49 (by decide), z 50 (by decide), z 51 (by decide), z 52 (by decide), z 53 (by decide), z 54 (by decide), z 55 (by decide), z 56 (by decide), z 57 (by decide), z 58 (by decide), z 59 (by decide), z 60 (by decide), z 61 (by decide), z 62 (by decide), z 63 (by decide), z 64 (by decide), z 65 (by decide), z 66 (by decide), z 67 (by decide), z 68 (by decide), z 69 (by decide), z 70 (by decide), z 71 (by decide), z 72 (by decide), z 73 (by decide), z 74 (by decide), z 75 (by decide), z 76 (by decide), z 77 (by decide), trivial⟩, rfl, fun y hy => ?_⟩
  · rw [div_small hx, Nat.pow_zero, Nat.div_one]
  obtain ⟨hy1, hy2⟩ := hy
  rw [i64_at hy1, div_small hx, div_small' hx]
  have hb : (0 : Int) ≤ ((77 - y : Nat) : Int) ∧ ((77 - y : Nat) : Int) < 78 := by omega
  refine ⟨by decide, hb, hb, fun hz => ⟨hb, ?_, ?_⟩, fun hz => ?_⟩
  · rw [Int.toNat_natCast]; omega
  · have h0 : x1 / 10 ^ (y + 1) = 0 := beq_iff_eq.1 hz
    rw [show_is (div_pow_zero.1 h0) (hy2.imp id fun h => Nat.le_of_not_lt fun c => h (div_pow_zero.2 c)) hy1]
    unfold textOf
    rw [Int.toNat_natCast, show 78 - (77 - y) = y + 1 by omega]
    congr 1
    refine List.map_congr_left fun j hj => ?_
    have hj := List.mem_range.1 hj
    rcases Nat.eq_zero_or_pos j with rfl | h
    · rw [if_pos (by omega), digit_u8, Nat.add_sub_cancel, Nat.sub_zero]
    · rw [if_neg (by omega), if_pos (by omega), show 77 - (77 - y + j) = y + 1 - 1 - j by omega]
  · have h0 : x1 / 10 ^ (y + 1) ≠ 0 := beq_eq_false_iff_ne.1 hz
    have hy3 : y + 1 ≤ 77 := by
      refine Nat.le_of_not_lt fun c => h0 (div_pow_zero.2 (Nat.lt_trans hx ?_))
      rw [show y + 1 = 78 by omega]
      exact M256_78
    refine ⟨y + 1, ⟨hy3, .inr h0⟩, rfl, rfl, ?_, (div_small hx).symm, rfl, ⟨fun j hj => ?_, trivial⟩, rfl, by omega⟩
    · omega
    · rw [Int.toNat_natCast]
      unfold showF
      rcases Nat.lt_trichotomy j (77 - y) with h | h | h
      · rw [if_neg (by omega), if_neg (by omega), if_neg (by omega)]
      · rw [if_pos h, if_pos (by omega), digit_u8, show 77 - j = y by omega]
      · rw [if_neg (by omega), if_pos (by omega), if_pos (by omega)]
theorem card_Show : FnOK Try.prog 28 (specU showG) :=
  FnOK_U' (CxOK_cons card_split CxOK_nil) (iv := fun a => [(3, .inv (invShow a))]) (N := 400) Try.func28 (by kernel_rfl) (by kernel_rfl) (fun _ => bnd_one trivial) ok_Show

/-! ## decimal -/
theorem ok_decimal : ∀ s : ByteArray, s.size < 9223372036854775808 → Owes Try.prog [] [(2, .inv (invDec s))] 100 Try.f50 [sStr s] (decG s) := by
  intro s hs
  rw [vc_decimal]
  intro x1 x2 x3
  refine ⟨fun _ => rfl, 0, ⟨Nat.zero_le _, rfl⟩, rfl, rfl, rfl, fun y hy => ⟨fun hc => ?_, fun hc => ?_⟩⟩
  · have hlt : y < s.size := Int.ofNat_lt.1 (of_decide_eq_true hc)
    have nb : ∀ b : Bool, b = false → (!b) = true := by rintro _ rfl; rfl
    have hb : (0 : Int) ≤ (y : Int) ∧ (y : Int).toNat < s.size := ⟨Int.natCast_nonneg _, by rw [Int.toNat_natCast]; exact hlt⟩
    have hB : ((s.data.getD (y : Int).toNat (0 : UInt8)).toNat : Int) = (byteAt s y : Int) := by rw [Int.toNat_natCast]; rfl
    rw [hB]
    refine ⟨hb, id, id, fun _ => hb, id, nb _, fun h => ?_, fun h => ?_⟩
    · rw [Bool.or_eq_true, decide_eq_true_eq, decide_eq_true_eq] at h
      cases e : decB s with
      | false => rfl
      | true =>
        have := ((decB_iff s).1 e).1 y hlt
        omega
    · rw [Bool.or_eq_false_iff, decide_eq_false_iff_not, decide_eq_false_iff_not] at h
      refine ⟨y + 1, ⟨hlt, ?_⟩, rfl, rfl, ?_, by omega⟩
      · rw [allDig_iff]
        have := (allDig_iff s y).1 hy.2
        intro j hj
        rcases Nat.lt_or_ge j y with h1 | h1
        · exact this j h1
        · rw [show j = y by omega]; omega
      · rw [IntWalk.i64_in _ (by omega)]; rfl
  · have hge : y = s.size := by
      have := of_decide_eq_false hc
      have := hy.1
      omega
    subst hge
    refine ⟨id, id, id, id, fun h => ⟨by decide, ?_⟩, id, id, fun h h' => by rw [h, h']; rfl, fun h => ?_, ?_⟩
    · rw [Bool.and_eq_true] at h
      have := of_decide_eq_true h.2
      omega
    · simp only [x2, h]; rfl
    · unfold decB
      rw [hy.2, Bool.true_and]
      have e1 : x1 = decide (s.size = 1) := by
        simp only [x1]
        rw [Bool.eq_iff_iff, beq_iff_eq, decide_eq_true_eq]
        omega
      rw [e1, Bool.eq_iff_iff, Bool.or_eq_true, Bool.or_eq_true, Bool.and_eq_true, bne_iff_ne]
      simp only [x3, decide_eq_true_eq]
      show _ ∨ _ ∧ ((byteAt s 0 : Nat) : Int) ≠ 48 ↔ _
      omega
theorem card_decimal : FnOK Try.prog 50 (specS decG) :=
  FnOK_S CxOK_nil (iv := fun s => [(2, .inv (invDec s))]) (N := 100) Try.func50 (by kernel_rfl) (by kernel_rfl) (fun _ => bnd_one (bnd_B _)) ok_decimal
end Go.Proofs.Ytbkdokofapbagaa
