/-
  Package field: a part brought down.
-/
import Derived.Test.YtbkdokofapbagaaP23
namespace Go.Proofs.Ytbkdokofapbagaa
open Go.Sx

/-- One digit: the guess, and what it leaves. -/
theorem dig_core (r X b : Nat) (bX : X < 18446744073709551616) (hrb : r % M256 < b % M256) (hbt : M256 ≤ 2 * (b % M256)) :
    ∃ g y : Nat, guessN (limb r 3) (limb r 2) (limb b 3) = (g : Int) ∧ g < 18446744073709551616 ∧ y ≤ 2 ∧ 0 < limb b 3 ∧
      IntKind.u64.wrap (limb r 3 - IntKind.u64.wrap (((b % M256 * g / M256 : Nat) : Int) + if join (X : Int) (limb r 0) (limb r 1) (limb r 2) % M256 < b % M256 * g % M256 then 1 else 0)) = ((digAt r (X : Int) b y / M256 % 18446744073709551616 : Nat) : Int) ∧
      (join (X : Int) (limb r 0) (limb r 1) (limb r 2) % M256 + M256 - b % M256 * g % M256) % M256 = digAt r (X : Int) b y % M256 ∧
      (∀ e, e ≤ 2 → e ≠ 0 → IntKind.u64.wrap (((digAt r (X : Int) b e / M256 % 18446744073709551616 : Nat) : Int) + ((digAt r (X : Int) b e % M256 + b % M256) / M256 : Nat)) = ((digAt r (X : Int) b (e - 1) / M256 % 18446744073709551616 : Nat) : Int) ∧ digAt r (X : Int) b e + b % M256 = digAt r (X : Int) b (e - 1) ∧ digAt r (X : Int) b e / M256 % 18446744073709551616 ≠ 0) ∧
      digAt r (X : Int) b 0 / M256 % 18446744073709551616 = 0 ∧ digAt r (X : Int) b 0 % M256 = digR r (X : Int) % (b % M256) := by
  obtain ⟨r0, h0, b0⟩ := limb_is r 0
  obtain ⟨r1, h1, b1⟩ := limb_is r 1
  obtain ⟨r2, h2, b2⟩ := limb_is r 2
  obtain ⟨r3, h3, b3⟩ := limb_is r 3
  obtain ⟨y0, k0, c0⟩ := limb_is b 0
  obtain ⟨y1, k1, c1⟩ := limb_is b 1
  obtain ⟨y2, k2, c2⟩ := limb_is b 2
  obtain ⟨y3, k3, c3⟩ := limb_is b 3
  have hA := horner_is r r0 r1 r2 r3 h0 h1 h2 h3
  have hB := horner_is b y0 y1 y2 y3 k0 k1 k2 k3
  have hBM : b % M256 < M256 := Nat.mod_lt _ (by rw [M256_eq]; decide)
  have hT : ∀ e, digAt r (X : Int) b e = M256 * 18446744073709551616 + digR r (X : Int) % (b % M256) - e * (b % M256) := fun e => rfl
  have hR : digR r (X : Int) = r % M256 * 18446744073709551616 + X := by unfold digR; rw [Int.toNat_natCast]
  have hJ : join (X : Int) (limb r 0) (limb r 1) (limb r 2) % M256 = ((r2 * 18446744073709551616 + r1) * 18446744073709551616 + r0) * 18446744073709551616 + X := by
    rw [h0, h1, h2, join_nat, M_val]
    omega
  rw [h0, h1, h2] at hJ
  rw [h0, h1, h2, h3, k3, guess_nat, hJ]
  rw [M_val] at hA hB hBM hT hR hrb hbt
  rw [M_val]
  generalize digR r (X : Int) = R at *
  rw [hA] at hR hrb
  obtain ⟨n1, n2, n3, n4, n5, n6, n7, n8⟩ := kn_all b0 b1 b2 c0 c1 c2 bX hB hR hrb hbt
  obtain ⟨x2, E2⟩ : ∃ v, v = b % 115792089237316195423570985008687907853269984665640564039457584007913129639936 := ⟨_, rfl⟩
  rw [← E2] at hB hBM hT hrb hbt n1 n5 ⊢
  obtain ⟨q1, q2, q3⟩ := knuth (W := 18446744073709551616) (K := 6277101735386680763835789423207666416102355444464034512896) (r3 := r3) (r2 := r2) (rr := (r1 * 18446744073709551616 + r0) * 18446744073709551616 + X) (b3 := y3) (bl := (y2 * 18446744073709551616 + y1) * 18446744073709551616 + y0) (B := x2) (R := R) (g := gN r3 r2 y3) n1 n2 n3 n4 n5 n6 b2 rfl
  generalize gN r3 r2 y3 = g at *
  have hBp : 0 < x2 := by clear hT; omega
  have dm := Nat.div_add_mod R x2
  have ml := Nat.mod_lt R hBp
  obtain ⟨x3, E3⟩ : ∃ v, v = R / x2 := ⟨_, rfl⟩
  rw [← E3] at dm q1 q2
  have D3 := Nat.div_add_mod (x2 * g) 115792089237316195423570985008687907853269984665640564039457584007913129639936
  have L3 := Nat.mod_lt (x2 * g) (show 0 < 115792089237316195423570985008687907853269984665640564039457584007913129639936 by decide)
  have H6 : x2 * g / 115792089237316195423570985008687907853269984665640564039457584007913129639936 < 18446744073709551616 := by
    rw [Nat.div_lt_iff_lt_mul (by decide), Nat.mul_comm 18446744073709551616]
    exact Nat.mul_lt_mul'' hBM q3
  have hG : x2 * g = x2 * x3 + (g - x3) * x2 := by
    rw [Nat.mul_comm (g - x3), ← Nat.mul_add]
    exact congrArg (x2 * ·) (by clear hT; omega)
  have hY : (g - x3) * x2 ≤ 2 * 115792089237316195423570985008687907853269984665640564039457584007913129639936 := Nat.mul_le_mul (by clear hT; omega) (Nat.le_of_lt hBM)
  obtain ⟨t1, t2⟩ := top_of (r3 := r3) (x6 := ((r2 * 18446744073709551616 + r1) * 18446744073709551616 + r0) * 18446744073709551616 + X) (x7 := x2 * g % 115792089237316195423570985008687907853269984665640564039457584007913129639936) (hi := x2 * g / 115792089237316195423570985008687907853269984665640564039457584007913129639936) (mrem := R % x2) (Y := (g - x3) * x2) (P := x2 * x3) (G := x2 * g) (by rw [dm, n7]) hG D3 L3 n8 H6 hY (Nat.lt_trans ml hBM) b3
  have step : ∀ e, e ≤ 2 → e ≠ 0 → IntKind.u64.wrap (((digAt r (X : Int) b e / 115792089237316195423570985008687907853269984665640564039457584007913129639936 % 18446744073709551616 : Nat) : Int) + ((digAt r (X : Int) b e % 115792089237316195423570985008687907853269984665640564039457584007913129639936 + x2) / 115792089237316195423570985008687907853269984665640564039457584007913129639936 : Nat)) = ((digAt r (X : Int) b (e - 1) / 115792089237316195423570985008687907853269984665640564039457584007913129639936 % 18446744073709551616 : Nat) : Int) ∧ digAt r (X : Int) b e + x2 = digAt r (X : Int) b (e - 1) ∧ digAt r (X : Int) b e / 115792089237316195423570985008687907853269984665640564039457584007913129639936 % 18446744073709551616 ≠ 0 := by
    intro e he h0
    have := top_step (mrem := R % x2) (B := x2) (e := e) ml hBM he h0
    rw [← hT, ← hT] at this
    exact this
  obtain ⟨u1, u2⟩ := top_zero (mrem := R % x2) (B := x2) ml hBM
  rw [← hT] at u1 u2 t1 t2
  have y3p : 0 < y3 := by clear hT; omega
  have g1 : g - x3 ≤ 2 := by clear hT; omega
  exact ⟨g, g - x3, rfl, q3, g1, Int.ofNat_lt.2 y3p, t1, t2, step, u1, u2⟩

theorem wrap_sub (a v : Int) : IntKind.u64.wrap (a - IntKind.u64.wrap v) = IntKind.u64.wrap (a - v) := by
  simp only [wrap_mod]
  omega
theorem carry_one {v x M : Nat} (hv : v < M) (hx : x < M) : (M ≤ v + x → (v + x) / M = 1) ∧ (¬ M ≤ v + x → (v + x) / M = 0) := by
  refine ⟨fun h => ?_, fun h => Nat.div_eq_of_lt (by omega)⟩
  rw [show v + x = (v + x - M) + M by omega, Nat.add_div_right _ (by omega), Nat.div_eq_of_lt (by omega)]
theorem ok_bring : ∀ (r : Nat) (x : Int) (b : Nat), Ok (digC r x b) → Owes Try.prog cxBring [(5, .inv (invBring r x b))] 100 Try.f77 [sU r, sI .u64 x, sU b] (bringG r x b) := by
  intro r x b hc
  obtain ⟨hx, hrb, hbt, _⟩ := hc
  rw [vc_bring]
  obtain ⟨X, rfl⟩ := Int.eq_ofNat_of_zero_le hx.1
  have bX : X < 18446744073709551616 := Int.ofNat_lt.1 hx.2
  have hM : 0 < M256 := by rw [M256_eq]; decide
  have hbM := Nat.mod_lt b hM
  obtain ⟨g, y, eg, gw, hy, hb3, t1, t2, step, u1, u2⟩ := dig_core r X b bX hrb hbt
  rw [eg]
  intro x1 x2 x3 x4 x5 x6
  have E1 : x1 = (g : Int) := rfl
  have T : x1.toNat = g := by rw [E1]; exact Int.toNat_natCast _
  have E4 : x4 = b % M256 * g := by simp only [x4, x3, T]
  have E6 : x6 = b % M256 * g % M256 := by simp only [x6, E4]
  rw [wrap_sub, ← E6, ← E4] at t1
  rw [← E6] at t2
  have hl := fun n i => (⟨limb_nonneg n i, limb_lt n i⟩ : (0 : Int) ≤ limb n i ∧ limb n i < 18446744073709551616)
  have hbB : ∀ v : Nat, (v + b) % M256 = (v + b % M256) % M256 := fun v => by rw [Nat.add_mod v b, Nat.add_mod v (b % M256), Nat.mod_mod]
  have hrem : digR r (X : Int) % (b % M256) < M256 := Nat.lt_trans (Nat.mod_lt _ (by omega)) hbM
  refine ⟨hl r 3, hl r 2, hl b 3, hb3, hx, hl r 0, hl r 1, hl r 2, by rw [E1]; exact word_nat gw, fun _ => rfl, y, hy, rfl, rfl, rfl, t1, t2, rfl, rfl, rfl, rfl, fun e he => ⟨fun c => ?_, fun c => ?_⟩⟩
  · have he0 : e ≠ 0 := by
      rintro rfl
      rw [u1] at c
      exact absurd c (by decide)
    obtain ⟨s1, s2, s3⟩ := step e he he0
    obtain ⟨k1, k2⟩ := carry_one (Nat.mod_lt (digAt r (X : Int) b e) hM) hbM
    have hs : (digAt r (X : Int) b e + b) % M256 = digAt r (X : Int) b (e - 1) % M256 := by rw [hbB, s2]
    refine ⟨fun h => ⟨e - 1, by omega, rfl, rfl, rfl, ?_, hs, rfl, rfl, rfl, rfl, by omega⟩, fun h => ⟨e - 1, by omega, rfl, rfl, rfl, ?_, hs, rfl, rfl, rfl, rfl, by omega⟩⟩
    · rw [k1 (of_decide_eq_true h)] at s1
      exact s1
    · rw [k2 (of_decide_eq_false h), Int.natCast_zero, Int.add_zero, wrap_id (word_nat (Nat.mod_lt _ (by decide)))] at s1
      exact s1
  · have he0 : e = 0 := by
      refine Classical.byContradiction fun h => ?_
      obtain ⟨s1, s2, s3⟩ := step e he h
      rw [bne_eq_false_iff_eq] at c
      exact s3 (Int.ofNat.inj c)
    subst he0
    exact ⟨by rw [u2, Nat.mod_eq_of_lt hrem], trivial⟩
end Go.Proofs.Ytbkdokofapbagaa
