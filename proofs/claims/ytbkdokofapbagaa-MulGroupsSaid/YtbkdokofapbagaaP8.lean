/-
  The laws of orders and of triple products: the numbers' side.
-/
import Derived.Test.YtbkdokofapbagaaV3
import Derived.Test.YtbkdokofapbagaaP7
namespace Go.Proofs.Ytbkdokofapbagaa
open Go.Sx

theorem cmp_ways (x y : Nat) : (x % M256 < y % M256 ∧ cmpN x y = -1 ∧ cmpN y x = 1) ∨ (x % M256 = y % M256 ∧ cmpN x y = 0 ∧ cmpN y x = 0) ∨ (y % M256 < x % M256 ∧ cmpN x y = 1 ∧ cmpN y x = -1) := by
  unfold cmpN
  generalize x % M256 = X
  generalize y % M256 = Y
  rcases Nat.lt_trichotomy X Y with h | h | h
  · left
    exact ⟨h, if_pos h, by rw [if_neg (by omega), if_pos h]⟩
  · right; left
    exact ⟨h, by rw [if_neg (by omega), if_neg (by omega)], by rw [if_neg (by omega), if_neg (by omega)]⟩
  · right; right
    exact ⟨h, by rw [if_neg (by omega), if_pos h], if_pos h⟩
theorem sub_nought (X Y : Nat) (hX : X < M256) (hY : Y < M256) : ((X + M256 - Y) % M256 = 0) ↔ X = Y := by
  rw [M256_eq] at *; omega
theorem one_is_more : cmpN 1 0 = 1 := by
  unfold cmpN; rw [M256_eq]; rfl

theorem orders_b {c c' d : Int} {z lt : Bool} (h : (lt = true ∧ z = false ∧ c = -1 ∧ c' = 1) ∨ (lt = false ∧ z = true ∧ c = 0 ∧ c' = 0) ∨ (lt = false ∧ z = false ∧ c = 1 ∧ c' = -1)) (hd : d = 1) :
    ((((true && lt == decide (c < 0)) && conj [z] == (c == 0)) && c' == IntKind.i64.wrap (0 - c)) && d == 1) = true := by
  subst hd
  rcases h with ⟨rfl, rfl, rfl, rfl⟩ | ⟨rfl, rfl, rfl, rfl⟩ | ⟨rfl, rfl, rfl, rfl⟩ <;> decide

theorem ok_OrderSubs : ∀ k a b s k' a' b' s', i64ok k → i64ok a → i64ok b → i64ok k' → i64ok a' → i64ok b' → Owes Try.prog cxOrder [] 100 Try.f9 [sRaw k a b s, sRaw k' a' b' s'] yes := by
  intro k a b s k' a' b' s' h1 h2 h3 h4 h5 h6
  rw [vc_OrderSubs]
  generalize rawN k a b = x
  generalize rawN k' a' b' = y
  have j1 : join 1 0 0 0 = 1 := rfl
  have j0 : join 0 0 0 0 = 0 := rfl
  rw [j1, j0]
  intro x1 x2 x3 x4 x5 x6 x7
  have hx : x1 < M256 := Nat.mod_lt _ (by rw [M256_eq]; decide)
  have hy : x2 < M256 := Nat.mod_lt _ (by rw [M256_eq]; decide)
  have hz := sub_nought x1 x2 hx hy
  have hw : (decide (x1 < x2) = true ∧ ((x1 + M256 - x2) % M256 == x5) = false ∧ x3 = -1 ∧ cmpN y x = 1) ∨ (decide (x1 < x2) = false ∧ ((x1 + M256 - x2) % M256 == x5) = true ∧ x3 = 0 ∧ cmpN y x = 0) ∨
      (decide (x1 < x2) = false ∧ ((x1 + M256 - x2) % M256 == x5) = false ∧ x3 = 1 ∧ cmpN y x = -1) := by
    have h50 : x5 = 0 := rfl
    have hc : (x1 < x2 ∧ x3 = -1 ∧ cmpN y x = 1) ∨ (x1 = x2 ∧ x3 = 0 ∧ cmpN y x = 0) ∨ (x2 < x1 ∧ x3 = 1 ∧ cmpN y x = -1) := cmp_ways x y
    clear_value x1 x2 x3 x4 x5 x6 x7
    subst h50
    rcases hc with ⟨w, c1, c2⟩ | ⟨w, c1, c2⟩ | ⟨w, c1, c2⟩
    · exact .inl ⟨decide_eq_true w, beq_eq_false_iff_ne.2 (fun e => Nat.ne_of_lt w (hz.1 e)), c1, c2⟩
    · exact .inr (.inl ⟨decide_eq_false (fun e => Nat.ne_of_lt e w), beq_iff_eq.2 (hz.2 w), c1, c2⟩)
    · exact .inr (.inr ⟨decide_eq_false (fun e => Nat.lt_asymm e w), beq_eq_false_iff_ne.2 (fun e => Nat.ne_of_lt w (hz.1 e).symm), c1, c2⟩)
  have h50 : cmpN 1 x5 = 1 := one_is_more
  have e4 : x4 = (true && decide (x1 < x2) == decide (x3 < 0)) := rfl
  have e6 : x6 = (x4 && conj [(x1 + M256 - x2) % M256 == x5] == (x3 == 0)) := rfl
  have e7 : x7 = (x6 && cmpN y x == IntKind.i64.wrap (0 - x3)) := rfl
  clear_value x1 x2 x3 x4 x5 x6 x7
  refine ⟨h1, h2, h3, h4, h5, h6, id, id, id, id, id, id, id, id, id, id, id, id, id, id, id, id, id, id, id, id, ?_⟩
  rw [e7, e6, e4]
  exact orders_b hw h50

theorem ok_MulGroups : ∀ k a b s k' a' b' s' k2 a2 b2 s2, i64ok k → i64ok a → i64ok b → i64ok k' → i64ok a' → i64ok b' → i64ok k2 → i64ok a2 → i64ok b2 →
    Owes Try.prog cxTurns [] 100 Try.f7 [sRaw k a b s, sRaw k' a' b' s', sRaw k2 a2 b2 s2] yes := by
  intro k a b s k' a' b' s' k2 a2 b2 s2 h1 h2 h3 h4 h5 h6 h7 h8 h9
  rw [vc_MulGroups]
  generalize rawN k a b = x
  generalize rawN k' a' b' = y
  generalize rawN k2 a2 b2 = z
  have e1 : (x * y * z % M256 == x * (y * z) % M256) = true := beq_iff_eq.2 (congrArg (· % M256) (Nat.mul_assoc x y z))
  refine ⟨h1, h2, h3, h4, h5, h6, h7, h8, h9, id, id, id, ?_⟩
  rw [conj, e1]; rfl
end Go.Proofs.Ytbkdokofapbagaa
