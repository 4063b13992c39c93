/-
  Quotients: DivMod, and the law.
-/
import Derived.Test.YtbkdokofapbagaaP21
namespace Go.Proofs.Ytbkdokofapbagaa
open Go.Sx

theorem bnd_three {x y z : SA} (h : x.bnd none0) (h' : y.bnd none0) (h'' : z.bnd none0) : SV.bnd none0 (.tup [x, y, z]) := by
  intro k hk
  simp only [List.mem_cons, List.not_mem_nil, or_false] at hk
  rcases hk with rfl | rfl | rfl <;> assumption
theorem ok_DivMod : ∀ a b : Nat, Owes Try.prog cxDm [] 100 Try.f26 [sU a, sU b] (dmG a b) := by
  intro a b
  rw [vc_DivMod]
  intro x1 x2 x3 x4 x5 x6 x7
  refine ⟨fun h => ?_, fun h => ?_⟩
  · have h : x1 = 0 := beq_iff_eq.1 h
    refine ⟨⟨?_, trivial⟩, ⟨?_, trivial⟩, ?_⟩
    · simp only [x4, if_pos h]; exact (Nat.zero_mod _).symm
    · simp only [x6, if_pos h]; exact (Nat.zero_mod _).symm
    · simp only [x7, if_pos h]
  · have h : x1 ≠ 0 := beq_eq_false_iff_ne.1 h
    refine ⟨Nat.pos_of_ne_zero h, ⟨?_, trivial⟩, ⟨?_, trivial⟩, ?_⟩
    · simp only [x4, if_neg h]
    · simp only [x6, if_neg h]
    · simp only [x7, if_neg h]
theorem card_DivMod : FnOK Try.prog 26 (specUU dmG) :=
  FnOK_UU (CxOK_cons card_divide CxOK_nil) (iv := []) (N := 100) Try.func26 (by kernel_rfl) (by kernel_rfl) (fun _ _ => bnd_three (bnd_U _) (bnd_U _) (bnd_I _ _)) ok_DivMod
theorem back_all {M A n : Nat} (hA : A < M) (hn : n % M ≠ 0) : A / (n % M) % M * (n % M) / M % M = 0 ∧ A / (n % M) * n % M + A % (n % M) % M = A ∧ (A / (n % M) * n + A % (n % M)) % M = A ∧ A % (n % M) % M < n % M := by
  have hM : 0 < M := by omega
  have hB := Nat.mod_lt n hM
  have dm := Nat.div_add_mod A (n % M)
  have ml := Nat.mod_lt A (Nat.pos_of_ne_zero hn)
  have hq := Nat.div_le_self A (n % M)
  have e1 : A / (n % M) * n % M = A / (n % M) * (n % M) := by
    rw [Nat.mul_mod, Nat.mod_eq_of_lt (show A / (n % M) < M by omega), Nat.mod_eq_of_lt]
    rw [Nat.mul_comm]
    omega
  have e2 : A % (n % M) % M = A % (n % M) := Nat.mod_eq_of_lt (by omega)
  have e3 : A / (n % M) * (n % M) + A % (n % M) = A := by rw [Nat.mul_comm]; exact dm
  refine ⟨?_, ?_, ?_, ?_⟩
  · rw [Nat.mod_eq_of_lt (show A / (n % M) < M by omega), Nat.div_eq_of_lt (by omega), Nat.zero_mod]
  · rw [e1, e2, e3]
  · rw [Nat.add_mod, e1, e2, e3, Nat.mod_eq_of_lt hA]
  · rw [e2]; exact ml
theorem ok_DivBack : ∀ (k a b : Int) (s : ByteArray) (k' a' b' : Int) (s' : ByteArray), i64ok k → i64ok a → i64ok b → i64ok k' → i64ok a' → i64ok b' → Owes Try.prog cxDB [] 100 Try.f8 [sRaw k a b s, sRaw k' a' b' s'] yes := by
  intro k a b s k' a' b' s' hk ha hb hk' ha' hb'
  rw [vc_DivBack]
  generalize rawN k a b = A
  generalize rawN k' a' b' = n
  have hM : 0 < M256 := by rw [M256_eq]; decide
  have hA := Nat.mod_lt A hM
  intro x1 x2 x3 x4 x5 x6 x7 x8 x9 x10 x11
  refine ⟨hk, ha, hb, hk', ha', hb', fun h => ?_, fun h => ?_⟩
  · have h : x1 = 0 := beq_iff_eq.1 h
    rw [if_pos h]
    rfl
  · have h : n % M256 ≠ 0 := beq_eq_false_iff_ne.1 h
    obtain ⟨b1, b2, b3, b4⟩ := back_all hA h
    have E4 : x4 = A % M256 / (n % M256) := if_neg h
    have E7 : x7 = A % M256 % (n % M256) := if_neg h
    have e2 : x2 = true := by
      simp only [x2, x1, if_neg h]
      rfl
    have e5 : x5 = true := by
      simp only [x5, e2, E4, x1]
      exact (beq_iff_eq.2 b1 : (_ == 0) = true)
    have E8 : x8 = A % M256 := by simp only [x8, x6, E4, E7]; exact b2
    have e9 : x9 = true := by
      simp only [x9, e5, E8]
      rw [decide_eq_false (by omega)]
      rfl
    have e10 : x10 = true := by
      simp only [x10, e9, x6, E4, E7, x3]
      exact (beq_iff_eq.2 b3 : (_ == _) = true)
    have e11 : x11 = -1 := by
      simp only [x11, E7]
      unfold cmpN
      exact if_pos b4
    clear_value x2 x5 x9 x10 x11
    subst e2 e5 e9 e10 e11
    exact ⟨id, id, id, id, id, id, id, id, id, id, id, id, id, id, rfl⟩
theorem cxok_DB : CxOK Try.prog cxDB := CxOK_cons card_number (CxOK_cons card_DivMod (CxOK_cons card_Mul (CxOK_cons card_Add (CxOK_cons card_Cmp (CxOK_cons card_tells CxOK_nil)))))
end Go.Proofs.Ytbkdokofapbagaa
