/-
  Package field: sums and products grouped.
-/
import Derived.Test.YtbkdokofapbagaaP27
namespace Go.Proofs.Ytbkdokofapbagaa
open Go.Sx

theorem add_group (u v z m : Nat) : ((u + v) % m + z) % m = (u + (v + z) % m) % m := by
  rw [Nat.mod_add_mod, Nat.add_mod_mod, Nat.add_assoc]
theorem mul_group (u v z m : Nat) : u * v % m * z % m = u * (v * z % m) % m := by
  rw [Nat.mul_mod (u * v % m), Nat.mod_mod, ← Nat.mul_mod, Nat.mul_mod u (v * z % m), Nat.mod_mod, ← Nat.mul_mod, Nat.mul_assoc]
set_option maxHeartbeats 1000000 in
theorem ok_FieldGroups : ∀ (k a b : Int) (s : ByteArray) (k' a' b' : Int) (s' : ByteArray) (k2 a2 b2 : Int) (s2 : ByteArray) (k3 a3 b3 : Int) (s3 : ByteArray), i64ok k → i64ok a → i64ok b → i64ok k' → i64ok a' → i64ok b' → i64ok k2 → i64ok a2 → i64ok b2 → i64ok k3 → i64ok a3 → i64ok b3 → Owes Try.prog cxFT [] 100 Try.f15 [sRaw k a b s, sRaw k' a' b' s', sRaw k2 a2 b2 s2, sRaw k3 a3 b3 s3] yes := by
  intro k a b s k' a' b' s' k2 a2 b2 s2 k3 a3 b3 s3 hk ha hb hk' ha' hb' hk2 ha2 hb2 hk3 ha3 hb3
  rw [vc_FieldGroups]
  have hM0 : 0 < M256 := by rw [M256_eq]; decide
  intro x1 x2 x3 x4 x5 x6 x7 x8 x9 x10 x11 x12 x13 x14 x15 x16 x17 x18 x19 x20 x21 x22 x23 x24 x25 x26 x27 x28 x29 x30 x31 x32 x33 x34 x35 x36 x37 x38 x39 x40 x41 x42 x43 x44 x45 x46 x47 x48 x49 x50 x51
  refine ⟨hk, ha, hb, fun h => ⟨hk', ha', hb', fun c hc => ⟨hk2, ha2, hb2, ⟨by omega, hc, by omega⟩, fun c' hc' => ⟨hk3, ha3, hb3, ⟨by omega, hc', by omega⟩, fun c2 _ => ?_⟩⟩⟩, fun h => ⟨hk', ha', hb', fun c hc => ⟨hk2, ha2, hb2, ⟨by omega, hc, by omega⟩, fun c' hc' => ⟨hk3, ha3, hb3, ⟨by omega, hc', by omega⟩, fun c2 _ => ?_⟩⟩⟩⟩
  · have hne : ¬ (1 : Nat) = 0 := by decide
    have hpos : 0 < 1 := by decide
    have hmM : 1 < M256 := by rw [M256_eq]; decide
    have l2 : x2 < 1 := by
      simp only [x2]
      rw [if_neg hne]
      exact Nat.mod_lt _ hpos
    have l3 : x3 < 1 := by
      simp only [x3]
      rw [if_neg hne]
      exact Nat.mod_lt _ hpos
    have l9 : x9 < 1 := by
      simp only [x9]
      rw [if_neg hne]
      exact Nat.mod_lt _ hpos
    have m6 : x6 = x2 := Nat.mod_eq_of_lt (Nat.lt_trans l2 hmM)
    have m7 : x7 = x3 := Nat.mod_eq_of_lt (Nat.lt_trans l3 hmM)
    have m15 : x15 = x9 := Nat.mod_eq_of_lt (Nat.lt_trans l9 hmM)
    have e4 : x4 = 0 := fE_ok one_mod l2 l3
    have e12 : x12 = 0 := fE_ok one_mod l3 l9
    have v8 : x8 = (x2 + x3) % 1 := by
      simp only [x8]
      rw [if_pos e4, m6, m7]
    have l8 : x8 < 1 := by rw [v8]; exact Nat.mod_lt _ hpos
    have v16 : x16 = (x3 + x9) % 1 := by
      simp only [x16]
      rw [if_pos e12, m7, m15]
    have l16 : x16 < 1 := by rw [v16]; exact Nat.mod_lt _ hpos
    have v20 : x20 = x2 * x3 % 1 := by
      simp only [x20]
      rw [if_pos e4, m6, m7]
    have l20 : x20 < 1 := by rw [v20]; exact Nat.mod_lt _ hpos
    have v24 : x24 = x3 * x9 % 1 := by
      simp only [x24]
      rw [if_pos e12, m7, m15]
    have l24 : x24 < 1 := by rw [v24]; exact Nat.mod_lt _ hpos
    have e10 : x10 = 0 := fE_ok one_mod l8 l9
    have e17 : x17 = 0 := fE_ok one_mod l2 l16
    have e21 : x21 = 0 := fE_ok one_mod l20 l9
    have e25 : x25 = 0 := fE_ok one_mod l2 l24
    have b5 : x5 = true := by simp only [x5, e4]; rfl
    have b11 : x11 = true := by simp only [x11, b5, e10]; rfl
    have b13 : x13 = true := by simp only [x13, e12]; rfl
    have b14 : x14 = true := by simp only [x14, b11, b13]; rfl
    have b18 : x18 = true := by simp only [x18, b14, e17]; rfl
    have b22 : x22 = true := by simp only [x22, b5, e21]; rfl
    have b23 : x23 = true := by simp only [x23, b22, b13]; rfl
    have b26 : x26 = true := by simp only [x26, b23, e25]; rfl
    have q1 : (x8 % M256 + x15) % 1 % M256 = (x6 + x16 % M256) % 1 % M256 := by
      rw [m15, m6, Nat.mod_eq_of_lt (Nat.lt_trans l8 hmM), Nat.mod_eq_of_lt (Nat.lt_trans l16 hmM), v8, v16, add_group]
    have b19 : x19 = true := by
      simp only [x19]
      rw [b18, if_pos e10, if_pos e17]
      exact (beq_iff_eq.2 q1 : ((x8 % M256 + x15) % 1 % M256 == (x6 + x16 % M256) % 1 % M256) = true)
    have q2 : x20 % M256 * x15 % 1 % M256 = x6 * (x24 % M256) % 1 % M256 := by
      rw [m15, m6, Nat.mod_eq_of_lt (Nat.lt_trans l20 hmM), Nat.mod_eq_of_lt (Nat.lt_trans l24 hmM), v20, v24, mul_group]
    rw [b19, b26, if_pos e21, if_pos e25]
    exact ⟨fun _ => ⟨rfl, id, id, id, id, id, id, id, id, id, fun _ => ⟨rfl, id, id, id, id, id, id, id, id, id, (beq_iff_eq.2 q2 : (x20 % M256 * x15 % 1 % M256 == x6 * (x24 % M256) % 1 % M256) = true)⟩, fun hh => Bool.noConfusion hh⟩, fun hh => Bool.noConfusion hh⟩
  · have hne : x1 ≠ 0 := beq_eq_false_iff_ne.1 h
    have hpos : 0 < x1 := Nat.pos_of_ne_zero hne
    have hmM : x1 < M256 := Nat.mod_lt _ hM0
    have l2 : x27 < x1 := by
      simp only [x27]
      rw [if_neg hne]
      exact Nat.mod_lt _ hpos
    have l3 : x28 < x1 := by
      simp only [x28]
      rw [if_neg hne]
      exact Nat.mod_lt _ hpos
    have l9 : x34 < x1 := by
      simp only [x34]
      rw [if_neg hne]
      exact Nat.mod_lt _ hpos
    have m6 : x31 = x27 := Nat.mod_eq_of_lt (Nat.lt_trans l2 hmM)
    have m7 : x32 = x28 := Nat.mod_eq_of_lt (Nat.lt_trans l3 hmM)
    have m15 : x40 = x34 := Nat.mod_eq_of_lt (Nat.lt_trans l9 hmM)
    have e4 : x29 = 0 := fE_ok rfl l2 l3
    have e12 : x37 = 0 := fE_ok rfl l3 l9
    have v8 : x33 = (x27 + x28) % x1 := by
      simp only [x33]
      rw [if_pos e4, m6, m7]
    have l8 : x33 < x1 := by rw [v8]; exact Nat.mod_lt _ hpos
    have v16 : x41 = (x28 + x34) % x1 := by
      simp only [x41]
      rw [if_pos e12, m7, m15]
    have l16 : x41 < x1 := by rw [v16]; exact Nat.mod_lt _ hpos
    have v20 : x45 = x27 * x28 % x1 := by
      simp only [x45]
      rw [if_pos e4, m6, m7]
    have l20 : x45 < x1 := by rw [v20]; exact Nat.mod_lt _ hpos
    have v24 : x49 = x28 * x34 % x1 := by
      simp only [x49]
      rw [if_pos e12, m7, m15]
    have l24 : x49 < x1 := by rw [v24]; exact Nat.mod_lt _ hpos
    have e10 : x35 = 0 := fE_ok rfl l8 l9
    have e17 : x42 = 0 := fE_ok rfl l2 l16
    have e21 : x46 = 0 := fE_ok rfl l20 l9
    have e25 : x50 = 0 := fE_ok rfl l2 l24
    have b5 : x30 = true := by simp only [x30, e4]; rfl
    have b11 : x36 = true := by simp only [x36, b5, e10]; rfl
    have b13 : x38 = true := by simp only [x38, e12]; rfl
    have b14 : x39 = true := by simp only [x39, b11, b13]; rfl
    have b18 : x43 = true := by simp only [x43, b14, e17]; rfl
    have b22 : x47 = true := by simp only [x47, b5, e21]; rfl
    have b23 : x48 = true := by simp only [x48, b22, b13]; rfl
    have b26 : x51 = true := by simp only [x51, b23, e25]; rfl
    have q1 : (x33 % M256 + x40) % x1 % M256 = (x31 + x41 % M256) % x1 % M256 := by
      rw [m15, m6, Nat.mod_eq_of_lt (Nat.lt_trans l8 hmM), Nat.mod_eq_of_lt (Nat.lt_trans l16 hmM), v8, v16, add_group]
    have b19 : x44 = true := by
      simp only [x44]
      rw [b18, if_pos e10, if_pos e17]
      exact (beq_iff_eq.2 q1 : ((x33 % M256 + x40) % x1 % M256 == (x31 + x41 % M256) % x1 % M256) = true)
    have q2 : x45 % M256 * x40 % x1 % M256 = x31 * (x49 % M256) % x1 % M256 := by
      rw [m15, m6, Nat.mod_eq_of_lt (Nat.lt_trans l20 hmM), Nat.mod_eq_of_lt (Nat.lt_trans l24 hmM), v20, v24, mul_group]
    rw [b19, b26, if_pos e21, if_pos e25]
    exact ⟨fun _ => ⟨rfl, id, id, id, id, id, id, id, id, id, fun _ => ⟨rfl, id, id, id, id, id, id, id, id, id, (beq_iff_eq.2 q2 : (x45 % M256 * x40 % x1 % M256 == x31 * (x49 % M256) % x1 % M256) = true)⟩, fun hh => Bool.noConfusion hh⟩, fun hh => Bool.noConfusion hh⟩
end Go.Proofs.Ytbkdokofapbagaa
