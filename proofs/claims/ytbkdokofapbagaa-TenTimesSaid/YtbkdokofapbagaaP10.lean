/-
  A power of ten: the numbers' side.
-/
import Derived.Test.YtbkdokofapbagaaV4
import Derived.Test.YtbkdokofapbagaaC2
namespace Go.Proofs.Ytbkdokofapbagaa
open Go.Sx

theorem ten_small (k : Nat) (h : k ≤ 77) : 10 ^ k < M256 := by
  have : 10 ^ k ≤ 10 ^ 77 := Nat.pow_le_pow_right (by decide) h
  have h2 : 10 ^ 77 < M256 := by rw [M256_eq]; decide
  omega

theorem ok_Ten : ∀ n : Int, i64ok n → Owes Try.prog cxTen [(5, .inv (invTen n))] 100 Try.f34 [sI .i64 n] (tenG n) := by
  intro n hn
  rw [vc_Ten]
  have hM : 1 < M256 := by rw [M256_eq]; decide
  refine ⟨id, fun h => by rw [h]; rfl, fun h => ?_, fun h => ⟨fun _ => rfl, 0, ?_⟩⟩
  · simp only [Bool.or_eq_true, decide_eq_true_eq] at h
    rw [if_neg (by omega), if_neg (by omega)]
    exact ⟨⟨(Nat.zero_mod _).symm, trivial⟩, rfl⟩
  · simp only [Bool.or_eq_false_iff, decide_eq_false_iff_not] at h
    rw [if_pos (by omega), if_pos (by omega)]
    refine ⟨by omega, rfl, rfl, rfl, rfl, ⟨(Nat.mod_eq_of_lt hM).symm, trivial⟩, rfl, fun y hy => ⟨fun hb => ⟨by decide, y + 1, ?_, rfl, rfl, ?_, rfl, ?_, rfl, ?_⟩, fun hb => ⟨⟨?_, trivial⟩, rfl⟩⟩⟩
    · simp only [decide_eq_true_eq] at hb; omega
    · simp only [decide_eq_true_eq] at hb
      rw [IntWalk.i64_in _ (by omega)]; rfl
    · rw [Nat.pow_succ]
    · simp only [decide_eq_true_eq] at hb
      show n.toNat - (y + 1) < n.toNat - y
      omega
    · simp only [decide_eq_false_iff_not] at hb
      have : n.toNat = y := by omega
      rw [this]
theorem card_Ten : FnOK Try.prog 34 (specI (fun n => [i64ok n]) tenG) :=
  FnOK_I (CxOK_cons card_times CxOK_nil) (iv := fun n => [(5, .inv (invTen n))]) (N := 100) Try.func34 (by kernel_rfl) (by kernel_rfl) (fun n => by unfold tenG; exact bnd_two (bnd_U _) (bnd_I _ _)) (fun n h => ok_Ten n h.1)

theorem ok_TenTimes : ∀ n m : Int, i64ok n → i64ok m → Owes Try.prog cxTenT [] 100 Try.f13 [sI .i64 n, sI .i64 m] yes := by
  intro n m hn hm
  rw [vc_TenTimes]
  dsimp only
  have h1 : 0 ≤ n % 78 ∧ n % 78 < 78 := ⟨Int.emod_nonneg _ (by decide), Int.emod_lt_of_pos _ (by decide)⟩
  generalize n % 78 = i at h1
  have w2 : IntKind.i64.wrap (78 - i) = 78 - i := IntWalk.i64_in _ (by omega)
  rw [w2]
  have h3 : 0 ≤ m % (78 - i) ∧ m % (78 - i) < 78 - i := ⟨Int.emod_nonneg _ (by omega), Int.emod_lt_of_pos _ (by omega)⟩
  generalize m % (78 - i) = j at h3
  have w4 : IntKind.i64.wrap (i + j) = i + j := IntWalk.i64_in _ (by omega)
  have w5 : IntKind.i64.wrap (78 + i) = 78 + i := IntWalk.i64_in _ (by omega)
  rw [w4, w5]
  have c1 : 0 ≤ i ∧ i ≤ 77 := by omega
  have c3 : 0 ≤ j ∧ j ≤ 77 := by omega
  have c4 : 0 ≤ i + j ∧ i + j ≤ 77 := by omega
  have c5 : ¬ (0 ≤ 78 + i ∧ 78 + i ≤ 77) := by omega
  simp only [if_pos c1, if_pos c3, if_pos c4, if_neg c5]
  obtain ⟨p, rfl⟩ := Int.eq_ofNat_of_zero_le h1.1
  obtain ⟨q, rfl⟩ := Int.eq_ofNat_of_zero_le h3.1
  have hs : ((p : Int) + q).toNat = p + q := by omega
  rw [hs]
  simp only [Int.toNat_natCast]
  have b1 := ten_small p (by omega)
  have b2 := ten_small q (by omega)
  have b3 := ten_small (p + q) (by omega)
  have e1 : (10 ^ p * 10 ^ q % M256 == 10 ^ (p + q) % M256) = true := beq_iff_eq.2 (by rw [Nat.pow_add])
  have e2 : (10 ^ p % M256 * (10 ^ q % M256) / M256 % M256 == 0) = true := beq_iff_eq.2 (by
    rw [Nat.mod_eq_of_lt b1, Nat.mod_eq_of_lt b2, ← Nat.pow_add, Nat.div_eq_of_lt b3, Nat.zero_mod])
  have e3 : (10 ^ (p + q) % M256 == 0) = false := beq_eq_false_iff_ne.2 (by
    rw [Nat.mod_eq_of_lt b3]
    exact Nat.ne_of_gt (Nat.pow_pos (by decide)))
  refine ⟨hn, by decide, hm, by omega, by omega, by omega, by omega, by omega, id, id, id, id, id, id, id, id, id, id, id, id, id, id, id, ?_⟩
  simp only [conj, e1, e2, e3]
  decide
theorem cxok_TenT : CxOK Try.prog cxTenT := CxOK_cons card_picked (CxOK_cons card_Ten (CxOK_cons card_Mul CxOK_nil))
end Go.Proofs.Ytbkdokofapbagaa
