/-
  Package field: products spread, and sums undone.
-/
import Derived.Test.YtbkdokofapbagaaP27
namespace Go.Proofs.Ytbkdokofapbagaa
open Go.Sx

theorem spread_mod (u v z m : Nat) : (u + v) % m * z % m = (u * z % m + v * z % m) % m := by
  rw [Nat.mul_mod, Nat.mod_mod, ← Nat.mul_mod, Nat.add_mul, Nat.add_mod]
theorem back_mod {u v m : Nat} (hu : u < m) (hv : v < m) : ((u + m - v) % m + v) % m = u := by
  rw [Nat.mod_add_mod, show u + m - v + v = u + m by omega, Nat.add_mod_right, Nat.mod_eq_of_lt hu]
set_option maxHeartbeats 1000000 in
theorem ok_FieldSpreads : ∀ (k a b : Int) (s : ByteArray) (k' a' b' : Int) (s' : ByteArray) (k2 a2 b2 : Int) (s2 : ByteArray) (k3 a3 b3 : Int) (s3 : ByteArray), i64ok k → i64ok a → i64ok b → i64ok k' → i64ok a' → i64ok b' → i64ok k2 → i64ok a2 → i64ok b2 → i64ok k3 → i64ok a3 → i64ok b3 → Owes Try.prog cxFT [] 100 Try.f16 [sRaw k a b s, sRaw k' a' b' s', sRaw k2 a2 b2 s2, sRaw k3 a3 b3 s3] yes := by
  intro k a b s k' a' b' s' k2 a2 b2 s2 k3 a3 b3 s3 hk ha hb hk' ha' hb' hk2 ha2 hb2 hk3 ha3 hb3
  rw [vc_FieldSpreads]
  have hM0 : 0 < M256 := by rw [M256_eq]; decide
  intro x1 x2 x3 x4 x5 x6 x7 x8 x9 x10 x11 x12 x13 x14 x15 x16 x17 x18 x19 x20 x21 x22 x23 x24 x25 x26 x27 x28 x29 x30 x31 x32 x33 x34 x35 x36 x37 x38 x39 x40 x41 x42 x43 x44 x45 x46 x47 x48 x49 x50 x51
  refine ⟨hk, ha, hb, fun h => ⟨hk', ha', hb', fun c hc => ⟨hk2, ha2, hb2, ⟨by omega, hc, by omega⟩, fun c' hc' => ⟨hk3, ha3, hb3, ⟨by omega, hc', by omega⟩, fun c2 _ => ?_⟩⟩⟩, fun h => ⟨hk', ha', hb', fun c hc => ⟨hk2, ha2, hb2, ⟨by omega, hc, by omega⟩, fun c' hc' => ⟨hk3, ha3, hb3, ⟨by omega, hc', by omega⟩, fun c2 _ => ?_⟩⟩⟩⟩
  · have hne : ¬ (1 : Nat) = 0 := by decide
    have hpos : 0 < 1 := by decide
    have hmM : 1 < M256 := by rw [M256_eq]; decide
    have l2 : x2 < 1 := by
      simp only [x2]
      rw [if_neg hne]
      exact Nat.mod_lt _ hpos
    have l3 : x3 < 1 := by
      simp only [x3]
      rw [if_neg hne]
      exact Nat.mod_lt _ hpos
    have l10 : x10 < 1 := by
      simp only [x10]
      rw [if_neg hne]
      exact Nat.mod_lt _ hpos
    have m7 : x7 = x2 := Nat.mod_eq_of_lt (Nat.lt_trans l2 hmM)
    have m8 : x8 = x3 := Nat.mod_eq_of_lt (Nat.lt_trans l3 hmM)
    have m17 : x17 = x10 := Nat.mod_eq_of_lt (Nat.lt_trans l10 hmM)
    have e4 : x4 = 0 := fE_ok one_mod l2 l3
    have e13 : x13 = 0 := fE_ok one_mod l2 l10
    have e15 : x15 = 0 := fE_ok one_mod l3 l10
    have v9 : x9 = (x2 + x3) % 1 := by
      simp only [x9]
      rw [if_pos e4, m7, m8]
    have l9 : x9 < 1 := by rw [v9]; exact Nat.mod_lt _ hpos
    have v18 : x18 = x2 * x10 % 1 := by
      simp only [x18]
      rw [if_pos e13, m7, m17]
    have l18 : x18 < 1 := by rw [v18]; exact Nat.mod_lt _ hpos
    have v19 : x19 = x3 * x10 % 1 := by
      simp only [x19]
      rw [if_pos e15, m8, m17]
    have l19 : x19 < 1 := by rw [v19]; exact Nat.mod_lt _ hpos
    have v23 : x23 = (x2 + 1 - x3) % 1 := by
      simp only [x23]
      rw [if_pos e4, m7, m8]
    have l23 : x23 < 1 := by rw [v23]; exact Nat.mod_lt _ hpos
    have e11 : x11 = 0 := fE_ok one_mod l9 l10
    have e20 : x20 = 0 := fE_ok one_mod l18 l19
    have e24 : x24 = 0 := fE_ok one_mod l23 l3
    have b5 : x5 = true := by simp only [x5, e4]; rfl
    have b6 : x6 = true := by simp only [x6, b5]; rfl
    have b12 : x12 = true := by simp only [x12, b6, e11]; rfl
    have b14 : x14 = true := by simp only [x14, b12, e13]; rfl
    have b16 : x16 = true := by simp only [x16, b14, e15]; rfl
    have b21 : x21 = true := by simp only [x21, b16, e20]; rfl
    have b22 : x22 = true := by simp only [x22, b21, b5]; rfl
    have b25 : x25 = true := by simp only [x25, b22, e24]; rfl
    have q1 : x9 % M256 * x17 % 1 % M256 = (x18 % M256 + x19 % M256) % 1 % M256 := by
      rw [m17, Nat.mod_eq_of_lt (Nat.lt_trans l9 hmM), Nat.mod_eq_of_lt (Nat.lt_trans l18 hmM), Nat.mod_eq_of_lt (Nat.lt_trans l19 hmM), v9, v18, v19, spread_mod]
    have b26 : x26 = true := by
      simp only [x26]
      rw [b25, if_pos e11, if_pos e20]
      exact (beq_iff_eq.2 q1 : (x9 % M256 * x17 % 1 % M256 == (x18 % M256 + x19 % M256) % 1 % M256) = true)
    have q2 : (x23 % M256 + x8) % 1 % M256 = x7 := by
      rw [m7, m8, Nat.mod_eq_of_lt (Nat.lt_trans l23 hmM), v23, back_mod l2 l3, Nat.mod_eq_of_lt (Nat.lt_trans l2 hmM)]
    rw [b26, if_pos e24]
    exact ⟨id, id, id, id, id, id, id, id, id, id, id, id, id, id, id, id, id, id, id, id, id, id, (beq_iff_eq.2 q2 : ((x23 % M256 + x8) % 1 % M256 == x7) = true)⟩
  · have hne : x1 ≠ 0 := beq_eq_false_iff_ne.1 h
    have hpos : 0 < x1 := Nat.pos_of_ne_zero hne
    have hmM : x1 < M256 := Nat.mod_lt _ hM0
    have l2 : x27 < x1 := by
      simp only [x27]
      rw [if_neg hne]
      exact Nat.mod_lt _ hpos
    have l3 : x28 < x1 := by
      simp only [x28]
      rw [if_neg hne]
      exact Nat.mod_lt _ hpos
    have l10 : x35 < x1 := by
      simp only [x35]
      rw [if_neg hne]
      exact Nat.mod_lt _ hpos
    have m7 : x32 = x27 := Nat.mod_eq_of_lt (Nat.lt_trans l2 hmM)
    have m8 : x33 = x28 := Nat.mod_eq_of_lt (Nat.lt_trans l3 hmM)
    have m17 : x42 = x35 := Nat.mod_eq_of_lt (Nat.lt_trans l10 hmM)
    have e4 : x29 = 0 := fE_ok rfl l2 l3
    have e13 : x38 = 0 := fE_ok rfl l2 l10
    have e15 : x40 = 0 := fE_ok rfl l3 l10
    have v9 : x34 = (x27 + x28) % x1 := by
      simp only [x34]
      rw [if_pos e4, m7, m8]
    have l9 : x34 < x1 := by rw [v9]; exact Nat.mod_lt _ hpos
    have v18 : x43 = x27 * x35 % x1 := by
      simp only [x43]
      rw [if_pos e13, m7, m17]
    have l18 : x43 < x1 := by rw [v18]; exact Nat.mod_lt _ hpos
    have v19 : x44 = x28 * x35 % x1 := by
      simp only [x44]
      rw [if_pos e15, m8, m17]
    have l19 : x44 < x1 := by rw [v19]; exact Nat.mod_lt _ hpos
    have v23 : x48 = (x27 + x1 - x28) % x1 := by
      simp only [x48]
      rw [if_pos e4, m7, m8]
    have l23 : x48 < x1 := by rw [v23]; exact Nat.mod_lt _ hpos
    have e11 : x36 = 0 := fE_ok rfl l9 l10
    have e20 : x45 = 0 := fE_ok rfl l18 l19
    have e24 : x49 = 0 := fE_ok rfl l23 l3
    have b5 : x30 = true := by simp only [x30, e4]; rfl
    have b6 : x31 = true := by simp only [x31, b5]; rfl
    have b12 : x37 = true := by simp only [x37, b6, e11]; rfl
    have b14 : x39 = true := by simp only [x39, b12, e13]; rfl
    have b16 : x41 = true := by simp only [x41, b14, e15]; rfl
    have b21 : x46 = true := by simp only [x46, b16, e20]; rfl
    have b22 : x47 = true := by simp only [x47, b21, b5]; rfl
    have b25 : x50 = true := by simp only [x50, b22, e24]; rfl
    have q1 : x34 % M256 * x42 % x1 % M256 = (x43 % M256 + x44 % M256) % x1 % M256 := by
      rw [m17, Nat.mod_eq_of_lt (Nat.lt_trans l9 hmM), Nat.mod_eq_of_lt (Nat.lt_trans l18 hmM), Nat.mod_eq_of_lt (Nat.lt_trans l19 hmM), v9, v18, v19, spread_mod]
    have b26 : x51 = true := by
      simp only [x51]
      rw [b25, if_pos e11, if_pos e20]
      exact (beq_iff_eq.2 q1 : (x34 % M256 * x42 % x1 % M256 == (x43 % M256 + x44 % M256) % x1 % M256) = true)
    have q2 : (x48 % M256 + x33) % x1 % M256 = x32 := by
      rw [m7, m8, Nat.mod_eq_of_lt (Nat.lt_trans l23 hmM), v23, back_mod l2 l3, Nat.mod_eq_of_lt (Nat.lt_trans l2 hmM)]
    rw [b26, if_pos e24]
    exact ⟨id, id, id, id, id, id, id, id, id, id, id, id, id, id, id, id, id, id, id, id, id, id, (beq_iff_eq.2 q2 : ((x48 % M256 + x33) % x1 % M256 == x32) = true)⟩
end Go.Proofs.Ytbkdokofapbagaa
