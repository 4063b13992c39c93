/-
  How many bits a word has.
-/
import Derived.Test.YtbkdokofapbagaaV5
import Derived.Test.YtbkdokofapbagaaP9
namespace Go.Proofs.Ytbkdokofapbagaa
open Go.Sx

theorem table_len : ∀ m : Fin 256, ((lit_650f3990.data.getD m.val 0).toNat : Int) = if m.val = 0 then 0 else ((Nat.log2 m.val + 1 : Nat) : Int) := by decide +kernel
theorem log2_shift (n k : Nat) (h : 1 ≤ n / 2 ^ k) : Nat.log2 n = k + Nat.log2 (n / 2 ^ k) := by
  have hp : 0 < 2 ^ k := Nat.two_pow_pos k
  have hn : n ≠ 0 := by rintro rfl; simp at h
  have hm : n / 2 ^ k ≠ 0 := by omega
  obtain ⟨a, b⟩ := (Nat.log2_eq_iff hm).1 rfl
  rw [Nat.log2_eq_iff hn]
  rw [Nat.le_div_iff_mul_le hp] at a
  rw [Nat.div_lt_iff_lt_mul hp] at b
  refine ⟨by rw [Nat.pow_add, Nat.mul_comm]; exact a, ?_⟩
  have : 2 ^ (k + (n / 2 ^ k).log2 + 1) = 2 ^ ((n / 2 ^ k).log2 + 1) * 2 ^ k := by rw [← Nat.pow_add]; congr 1; omega
  rw [this]; exact b
theorem u8_small (m : Nat) (h : m < 256) : IntKind.u8.wrap (m : Int) = m := by rw [u8_wrap, Nat.mod_eq_of_lt h]
theorem lenN_le (n : Nat) (h : n < 18446744073709551616) : 0 ≤ lenN n ∧ lenN n ≤ 64 := by
  unfold lenN
  rw [Int.toNat_natCast]
  split
  · decide
  · rename_i h0
    have := (Nat.log2_lt h0 (k := 64)).2 (by omega)
    omega
theorem len_leaf (n k : Nat) (c : Int) (m : Nat) (hc : c = k) (hk : k ≤ 56) (hm : m = n / 2 ^ k) (h : m < 256) (h1 : k = 0 ∨ 1 ≤ m) (hn : n < 18446744073709551616) :
    (0 ≤ IntKind.u8.wrap (m : Int) ∧ (IntKind.u8.wrap (m : Int)).toNat < 256) ∧ IntKind.i64.wrap (c + IntKind.i64.wrap ((lit_650f3990.data.getD (IntKind.u8.wrap (m : Int)).toNat 0).toNat : Int)) = lenN n := by
  rw [u8_small m h, Int.toNat_natCast]
  refine ⟨⟨by omega, h⟩, ?_⟩
  have ht := table_len ⟨m, h⟩
  simp only at ht
  rw [ht]
  have hl : lenN n = c + if m = 0 then 0 else ((Nat.log2 m + 1 : Nat) : Int) := by
    unfold lenN
    rw [Int.toNat_natCast, hc]
    rcases h1 with rfl | h1
    · rw [Nat.pow_zero, Nat.div_one] at hm
      subst hm
      simp
    · have hn0 : n ≠ 0 := by rintro rfl; simp at hm; omega
      rw [if_neg hn0, if_neg (by omega), log2_shift n k (by omega), ← hm]
      omega
  have hb := lenN_le n hn
  rw [hl] at hb ⊢
  have hi : 0 ≤ (if m = 0 then 0 else ((Nat.log2 m + 1 : Nat) : Int)) := by split <;> omega
  have e1 := IntWalk.i64_in (if m = 0 then 0 else ((Nat.log2 m + 1 : Nat) : Int)) (by omega)
  rw [e1, IntWalk.i64_in _ (by omega)]
theorem fd32 (n : Nat) : (n : Int).fdiv 4294967296 = ((n / 4294967296 : Nat) : Int) := fdiv_low n
theorem fd16 (n : Nat) : (n : Int).fdiv 65536 = ((n / 65536 : Nat) : Int) := by
  rw [Int.fdiv_eq_ediv_of_nonneg _ (show (0 : Int) ≤ 65536 by decide)]; rfl
theorem fd8 (n : Nat) : (n : Int).fdiv 256 = ((n / 256 : Nat) : Int) := by
  rw [Int.fdiv_eq_ediv_of_nonneg _ (show (0 : Int) ≤ 256 by decide)]; rfl
theorem ok_Len64 : ∀ x, w64ok x → Owes Try.prog [] [] 100 Try.f80 [sI .u64 x] (lenG x) := by
  intro x hx
  rw [vc_Len64]
  obtain ⟨n, rfl⟩ := Int.eq_ofNat_of_zero_le hx.1
  have hn : n < 18446744073709551616 := Int.ofNat_lt.1 hx.2
  dsimp only
  simp only [fd32, fd16, fd8, Nat.div_div_eq_div_mul, Nat.reduceMul, decide_eq_true_eq, decide_eq_false_iff_not]
  refine ⟨fun a => ⟨fun b => ⟨fun c => ?_, fun c => ?_⟩, fun b => ⟨fun c => ?_, fun c => ?_⟩⟩, fun a => ⟨fun b => ⟨fun c => ?_, fun c => ?_⟩, fun b => ⟨fun c => ?_, fun c => ?_⟩⟩⟩
  · exact len_leaf n 56 _ _ rfl (by decide) rfl (by omega) (.inr (by omega)) hn
  · exact len_leaf n 48 _ _ rfl (by decide) rfl (by omega) (.inr (by omega)) hn
  · exact len_leaf n 40 _ _ rfl (by decide) rfl (by omega) (.inr (by omega)) hn
  · exact len_leaf n 32 _ _ rfl (by decide) rfl (by omega) (.inr (by omega)) hn
  · exact len_leaf n 24 _ _ rfl (by decide) rfl (by omega) (.inr (by omega)) hn
  · exact len_leaf n 16 _ _ rfl (by decide) rfl (by omega) (.inr (by omega)) hn
  · exact len_leaf n 8 _ _ rfl (by decide) rfl (by omega) (.inr (by omega)) hn
  · exact len_leaf n 0 _ _ rfl (by decide) (by simp) (by omega) (.inl rfl) hn
theorem ok_LZ64 : ∀ x, w64ok x → Owes Try.prog cxLz [] 100 Try.f75 [sI .u64 x] (lzG x) := by
  intro x hx
  rw [vc_LZ64]
  obtain ⟨n, rfl⟩ := Int.eq_ofNat_of_zero_le hx.1
  have hb := lenN_le n (Int.ofNat_lt.1 hx.2)
  exact ⟨hx, IntWalk.i64_in _ (by omega)⟩
theorem card_Len64 : FnOK Try.prog 80 (specW lenG) :=
  FnOK_W CxOK_nil (iv := fun _ => []) (N := 100) Try.func80 (by kernel_rfl) (by kernel_rfl) (fun a => bnd_one (bnd_I _ _)) ok_Len64
theorem card_LZ64 : FnOK Try.prog 75 (specW lzG) :=
  FnOK_W (CxOK_cons card_Len64 CxOK_nil) (iv := fun _ => []) (N := 100) Try.func75 (by kernel_rfl) (by kernel_rfl) (fun a => bnd_one (bnd_I _ _)) ok_LZ64
end Go.Proofs.Ytbkdokofapbagaa
