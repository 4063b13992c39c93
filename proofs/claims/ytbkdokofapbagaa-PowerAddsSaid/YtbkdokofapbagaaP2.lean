/-
  The laws' drawn numbers, and the laws of sums: the numbers' side.
-/
import Derived.Test.YtbkdokofapbagaaP1
namespace Go.Proofs.Ytbkdokofapbagaa
open Go.Sx

theorem ok_number : ∀ k a b s, i64ok k → i64ok a → i64ok b → Owes Try.prog cxRaw [] 100 Try.f21 [sRaw k a b s] (rawG k a b s) := by
  intro k a b s hk ha hb
  rw [vc_number]
  unfold i64ok at hk ha hb
  have hr : ∀ x, 0 ≤ IntKind.u64.wrap x ∧ IntKind.u64.wrap x < 2 ^ 64 := w64_range
  have hz : (0 : Int) ≤ 0 ∧ (0 : Int) < 2 ^ 64 := ⟨by decide, by decide⟩
  have hm : (0 : Int) ≤ 18446744073709551615 ∧ (18446744073709551615 : Int) < 2 ^ 64 := ⟨by decide, by decide⟩
  refine ⟨hk, by omega, fun h0 => ?_, fun h0 => ⟨fun h1 => ?_, fun h1 => ⟨fun h2 => ?_, fun h2 => ⟨fun h3 => ?_, fun h3 => ?_⟩⟩⟩⟩
  · rw [beq_iff_eq] at h0
    refine ⟨ha, by omega, hr _, hz, hz, hz, ?_, trivial⟩
    rw [rawN, if_pos h0]; rfl
  · rw [beq_iff_eq] at h1
    rw [beq_eq_false_iff_ne] at h0
    refine ⟨hr _, hz, hz, hz, ?_, trivial⟩
    rw [rawN, if_neg h0, if_pos h1]; rfl
  · rw [beq_iff_eq] at h2
    rw [beq_eq_false_iff_ne] at h0 h1
    refine ⟨hr _, hr _, hz, hz, ?_, trivial⟩
    rw [rawN, if_neg h0, if_neg h1, if_pos h2]; rfl
  · rw [beq_iff_eq] at h3
    rw [beq_eq_false_iff_ne] at h0 h1 h2
    refine ⟨hr _, hr _, hr _, hr _, ?_, trivial⟩
    rw [rawN, if_neg h0, if_neg h1, if_neg h2, if_pos h3]; rfl
  · rw [beq_eq_false_iff_ne] at h0 h1 h2 h3
    refine ⟨hr _, hr _, hm, hm, ?_, trivial⟩
    rw [rawN, if_neg h0, if_neg h1, if_neg h2, if_neg h3]; rfl

theorem ok_tells : Owes Try.prog cxTells [] 100 Try.f24 [] yes := by
  rw [vc_tells]
  refine ⟨id, id, ?_⟩
  kernel_rfl

theorem add_back (x y : Nat) : ((x + y) % M256 + M256 - y % M256) % M256 = x % M256 := by
  have : M256 = 115792089237316195423570985008687907853269984665640564039457584007913129639936 := M256_eq
  rw [this]
  omega
theorem add_over (x y : Nat) : (M256 ≤ x % M256 + y % M256) ↔ ((x + y) % M256 < y % M256) := by
  have : M256 = 115792089237316195423570985008687907853269984665640564039457584007913129639936 := M256_eq
  rw [this]
  omega

theorem ok_AddBack : ∀ k a b s k' a' b' s', i64ok k → i64ok a → i64ok b → i64ok k' → i64ok a' → i64ok b' → Owes Try.prog cxAddBack [] 100 Try.f3 [sRaw k a b s, sRaw k' a' b' s'] yes := by
  intro k a b s k' a' b' s' h1 h2 h3 h4 h5 h6
  rw [vc_AddBack]
  refine ⟨h1, h2, h3, h4, h5, h6, id, id, id, id, id, id, id, id, id, id, id, id, ?_⟩
  clear h1 h2 h3 h4 h5 h6
  generalize rawN k a b = x
  generalize rawN k' a' b' = y
  have e1 : (((x + y) % M256 + M256 - y % M256) % M256 == x % M256) = true := beq_iff_eq.2 (add_back x y)
  have e2 : (decide (M256 ≤ x % M256 + y % M256) == decide ((x + y) % M256 < y % M256)) = true := beq_iff_eq.2 (decide_eq_decide.2 (add_over x y))
  have e3 : ((x + y) % M256 == (y + x) % M256) = true := beq_iff_eq.2 (congrArg (· % M256) (Nat.add_comm x y))
  have e4 : (decide (M256 ≤ x % M256 + y % M256) == decide (M256 ≤ y % M256 + x % M256)) = true := beq_iff_eq.2 (decide_eq_decide.2 (by rw [Nat.add_comm]))
  rw [conj, conj, e1, e2, e3, e4]
  rfl

theorem ok_AddGroups : ∀ k a b s k' a' b' s' k2 a2 b2 s2, i64ok k → i64ok a → i64ok b → i64ok k' → i64ok a' → i64ok b' → i64ok k2 → i64ok a2 → i64ok b2 →
    Owes Try.prog cxAddBack [] 100 Try.f4 [sRaw k a b s, sRaw k' a' b' s', sRaw k2 a2 b2 s2] yes := by
  intro k a b s k' a' b' s' k2 a2 b2 s2 h1 h2 h3 h4 h5 h6 h7 h8 h9
  rw [vc_AddGroups]
  refine ⟨h1, h2, h3, h4, h5, h6, h7, h8, h9, id, id, id, ?_⟩
  simp only [Nat.add_assoc, conj, beq_self_eq_true, Bool.and_self]
end Go.Proofs.Ytbkdokofapbagaa
