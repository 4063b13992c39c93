/-
  Texts of numbers: the numbers' side.
-/
import Derived.Test.YtbkdokofapbagaaV6
import Derived.Test.YtbkdokofapbagaaP14
namespace Go.Proofs.Ytbkdokofapbagaa
open Go.Sx

/-! ## A long division -/
theorem long_step {X H c N : Nat} (hN : 0 < N) : (X * H + c) / N = X / N * H + (X % N * H + c) / N ∧ (X * H + c) % N = (X % N * H + c) % N := by
  have d := Nat.div_add_mod X N
  have e : X * H + c = N * (X / N * H) + (X % N * H + c) := by
    conv => lhs; rw [← d]
    rw [Nat.add_mul, Nat.mul_assoc, Nat.add_assoc]
  rw [e, Nat.mul_add_div hN, Nat.mul_add_mod]
  exact ⟨rfl, rfl⟩
theorem long_lt {r H c N : Nat} (hN : 0 < N) (hr : r < N) (hc : c < H) : (r * H + c) / N < H := by
  rw [Nat.div_lt_iff_lt_mul hN]
  have := Nat.mul_le_mul_right H (show r + 1 ≤ N from hr)
  rw [Nat.add_mul, Nat.one_mul] at this
  rw [Nat.mul_comm H N]
  omega
theorem long_div (H c0 c1 c2 c3 N : Nat) (hN : 0 < N) :
    (((c3 * H + c2) * H + c1) * H + c0) / N = ((c3 / N * H + (c3 % N * H + c2) / N) * H + ((c3 % N * H + c2) % N * H + c1) / N) * H + (((c3 % N * H + c2) % N * H + c1) % N * H + c0) / N ∧
    (((c3 * H + c2) * H + c1) * H + c0) % N = (((c3 % N * H + c2) % N * H + c1) % N * H + c0) % N := by
  have s1 := long_step (X := c3) (H := H) (c := c2) hN
  have s2 := long_step (X := c3 * H + c2) (H := H) (c := c1) hN
  have s3 := long_step (X := (c3 * H + c2) * H + c1) (H := H) (c := c0) hN
  rw [s3.1, s3.2, s2.1, s2.2, s1.1, s1.2]
  exact ⟨rfl, rfl⟩

/-! ## Bytes told by numbers -/
theorem bytesI_data (l : List Int) : (bytesI l).data.toList = l.map fun n => UInt8.ofNat n.toNat := by
  have h : ∀ (l : List Int) (r : ByteArray), (l.foldl (fun r n => r.push (UInt8.ofNat n.toNat)) r).data.toList = r.data.toList ++ l.map fun n => UInt8.ofNat n.toNat := by
    intro l
    induction l with
    | nil => intro r; simp
    | cons a l ih =>
      intro r
      rw [List.foldl_cons, ih, List.map_cons]
      simp [ByteArray.push]
  have := h l ByteArray.empty
  rw [show (ByteArray.empty).data.toList = [] from rfl, List.nil_append] at this
  exact this
theorem size_data (s : ByteArray) : s.size = s.data.toList.length := by rw [Array.length_toList]; rfl
theorem byteAt_list (s : ByteArray) (j : Nat) : byteAt s j = (s.data.toList.getD j 0).toNat := by
  unfold byteAt
  rw [List.getD_eq_getElem?_getD, Array.getElem?_toList, ← Array.getD_eq_getD_getElem?]
theorem text_size (n m : Nat) : (textOf n m).size = m := by
  unfold textOf
  rw [size_data, bytesI_data, List.length_map, List.length_map, List.length_range]
theorem text_at {n m j : Nat} (h : j < m) : byteAt (textOf n m) j = 48 + n / 10 ^ (m - 1 - j) % 10 := by
  unfold textOf
  rw [byteAt_list, bytesI_data, List.map_map, List.getD_eq_getElem?_getD, List.getElem?_map, List.getElem?_range h, Option.map_some, Option.getD_some]
  have : n / 10 ^ (m - 1 - j) % 10 < 10 := Nat.mod_lt _ (by decide)
  show (UInt8.ofNat (Int.toNat ((48 + n / 10 ^ (m - 1 - j) % 10 : Nat) : Int))).toNat = _
  rw [Int.toNat_natCast, UInt8.toNat_ofNat']
  omega
theorem text_ext {s t : ByteArray} (h : s.size = t.size) (h' : ∀ j, j < s.size → byteAt s j = byteAt t j) : s = t := by
  have e : s.data.toList = t.data.toList := by
    rw [size_data, size_data] at h
    refine List.ext_getElem h fun j h1 h2 => ?_
    have := h' j (by rw [size_data]; exact h1)
    rw [byteAt_list, byteAt_list, List.getD_eq_getElem?_getD, List.getD_eq_getElem?_getD, List.getElem?_eq_getElem h1, List.getElem?_eq_getElem h2, Option.getD_some, Option.getD_some] at this
    exact UInt8.toNat_inj.1 this
  cases s; cases t
  simp only at e
  rw [ByteArray.mk.injEq]
  exact Array.toList_inj.1 e

/-! ## How many digits -/
theorem lenD_of : ∀ (f k n : Nat), k ≤ f → n < 10 ^ (k + 1) → (k = 0 ∨ 10 ^ k ≤ n) → lenD f n = k + 1
  | 0, k, n, h, _, _ => by rw [Nat.le_zero.1 h]; rfl
  | f + 1, k, n, h, h1, h2 => by
    unfold lenD
    rcases Nat.eq_zero_or_pos k with rfl | hk
    · rw [if_pos (by rw [Nat.pow_succ, Nat.pow_zero] at h1; omega)]
    · obtain ⟨j, rfl⟩ : ∃ j, k = j + 1 := ⟨k - 1, by omega⟩
      have hp := Nat.pow_pos (n := j) (show 0 < 10 by decide)
      have h3 : 10 ^ j * 10 ≤ n := by rw [← Nat.pow_succ]; omega
      have h4 : 10 ^ j ≤ n / 10 := by rw [Nat.le_div_iff_mul_le (by decide)]; exact h3
      rw [if_neg (by omega), lenD_of f j (n / 10) (by omega) (by rw [Nat.div_lt_iff_lt_mul (by decide), ← Nat.pow_succ]; exact h1) (.inr h4)]
theorem lenD_is {n : Nat} (h : n < 10 ^ 78) : ∃ k, k ≤ 77 ∧ lenD 78 n = k + 1 ∧ n < 10 ^ (k + 1) ∧ (k = 0 ∨ 10 ^ k ≤ n) := by
  have main : ∀ m, n < 10 ^ (m + 1) → ∃ k, k ≤ m ∧ n < 10 ^ (k + 1) ∧ (k = 0 ∨ 10 ^ k ≤ n) := by
    intro m
    induction m with
    | zero => intro h; exact ⟨0, by omega, h, .inl rfl⟩
    | succ m ih =>
      intro h
      rcases Nat.lt_or_ge n (10 ^ (m + 1)) with h1 | h1
      · obtain ⟨k, a, b⟩ := ih h1
        exact ⟨k, by omega, b⟩
      · exact ⟨m + 1, by omega, h, .inr h1⟩
  obtain ⟨k, a, b, c⟩ := main 77 h
  exact ⟨k, a, lenD_of 78 k n (by omega) b c, b, c⟩
theorem M256_78 : M256 < 10 ^ 78 := by rw [M256_eq]; decide
theorem div_pow_zero {n k : Nat} : n / 10 ^ k = 0 ↔ n < 10 ^ k := by
  have := Nat.pow_pos (n := k) (show 0 < 10 by decide)
  rw [Nat.div_eq_zero_iff]
  omega

/-! ## Digits of a text -/
theorem allDig_iff (s : ByteArray) : ∀ i, allDig s i = true ↔ ∀ j, j < i → 48 ≤ byteAt s j ∧ byteAt s j ≤ 57
  | 0 => ⟨fun _ j h => by omega, fun _ => rfl⟩
  | i + 1 => by
    unfold allDig
    rw [Bool.and_eq_true, allDig_iff s i, decide_eq_true_eq]
    constructor
    · rintro ⟨a, b⟩ j hj
      rcases Nat.lt_or_ge j i with h | h
      · exact a j h
      · rw [show j = i by omega]; exact b
    · intro h
      exact ⟨fun j hj => h j (by omega), h i (by omega)⟩
theorem decB_iff (s : ByteArray) : decB s = true ↔ (∀ j, j < s.size → 48 ≤ byteAt s j ∧ byteAt s j ≤ 57) ∧ (s.size = 1 ∨ 1 < s.size ∧ byteAt s 0 ≠ 48) := by
  unfold decB
  rw [Bool.and_eq_true, allDig_iff, Bool.or_eq_true, decide_eq_true_eq, decide_eq_true_eq]
theorem valP_succ (s : ByteArray) (i : Nat) : valP s (i + 1) = 10 * valP s i + (byteAt s i - 48) := rfl
theorem valP_zero (s : ByteArray) : valP s 0 = 0 := rfl
theorem valP_mono (s : ByteArray) : ∀ {i j : Nat}, i ≤ j → valP s i ≤ valP s j := by
  intro i j h
  induction h with
  | refl => exact Nat.le_refl _
  | step _ ih => exact Nat.le_trans ih (by rw [valP_succ]; omega)
/-- A text of digits: what stands ahead of a place is the number without what stands behind. -/
theorem valP_div (s : ByteArray) (h : ∀ j, j < s.size → 48 ≤ byteAt s j ∧ byteAt s j ≤ 57) : ∀ k, k ≤ s.size → valP s s.size / 10 ^ k = valP s (s.size - k)
  | 0, _ => by rw [Nat.pow_zero, Nat.div_one, Nat.sub_zero]
  | k + 1, hk => by
    rw [Nat.pow_succ, ← Nat.div_div_eq_div_mul, valP_div s h k (by omega)]
    obtain ⟨i, hi⟩ : ∃ i, s.size - k = i + 1 := ⟨s.size - k - 1, by omega⟩
    rw [hi, show s.size - (k + 1) = i by omega]
    have := h i (by omega)
    show (10 * valP s i + (byteAt s i - 48)) / 10 = _
    omega
theorem text_val (n m : Nat) (h : n < 10 ^ m) : ∀ i, i ≤ m → valP (textOf n m) i = n / 10 ^ (m - i)
  | 0, _ => by rw [Nat.sub_zero]; exact (div_pow_zero.2 h).symm
  | i + 1, hi => by
    show 10 * valP (textOf n m) i + (byteAt (textOf n m) i - 48) = _
    rw [text_val n m h i (by omega), text_at (by omega), show m - i = m - (i + 1) + 1 by omega, show m - 1 - i = m - (i + 1) by omega, Nat.pow_succ, ← Nat.div_div_eq_div_mul]
    omega
theorem text_digits {n k : Nat} (h : n < 10 ^ (k + 1)) (h' : k = 0 ∨ 10 ^ k ≤ n) : decB (textOf n (k + 1)) = true := by
  rw [decB_iff, text_size]
  refine ⟨fun j hj => ?_, ?_⟩
  · rw [text_at hj]
    have : n / 10 ^ (k + 1 - 1 - j) % 10 < 10 := Nat.mod_lt _ (by decide)
    omega
  · rcases h' with rfl | h'
    · exact .inl rfl
    · rcases Nat.eq_zero_or_pos k with rfl | hk
      · exact .inl rfl
      · refine .inr ⟨by omega, ?_⟩
        rw [text_at (by omega), Nat.add_sub_cancel, Nat.sub_zero]
        have h1 : n / 10 ^ k < 10 := by
          rw [Nat.div_lt_iff_lt_mul (Nat.pow_pos (by decide)), Nat.mul_comm, ← Nat.pow_succ]; exact h
        have h2 : n / 10 ^ k ≠ 0 := fun e => by have := div_pow_zero.1 e; omega
        generalize n / 10 ^ k = q at *
        omega
theorem show_is {n k : Nat} (h : n < 10 ^ (k + 1)) (h' : k = 0 ∨ 10 ^ k ≤ n) (hk : k ≤ 77) : showB n = textOf n (k + 1) := by
  unfold showB
  rw [lenD_of 78 k n (by omega) h h']
theorem show_parses {n : Nat} (h : n < M256) : (showB n).size ≤ 78 ∧ 1 ≤ (showB n).size ∧ decB (showB n) = true ∧ valP (showB n) (showB n).size = n := by
  obtain ⟨k, a, _, b, c⟩ := lenD_is (Nat.lt_trans h M256_78)
  rw [show_is b c a, text_size]
  refine ⟨by omega, by omega, text_digits b c, ?_⟩
  rw [text_val n (k + 1) b _ (Nat.le_refl _), Nat.sub_self, Nat.pow_zero, Nat.div_one]
theorem parse_ok {s : ByteArray} (h1 : s.size ≤ 78) (h2 : decB s = true) (h3 : valP s s.size < M256) : parseE s = 0 ∧ parseV s = valP s s.size := by
  have e : parseE s = 0 := by
    unfold parseE
    rw [if_neg (by omega), if_neg (by rw [h2]; decide), if_neg (by omega)]
  refine ⟨e, ?_⟩
  unfold parseV
  rw [if_pos e]
theorem parse_show {n : Nat} (h : n < M256) : parseE (showB n) = 0 ∧ parseV (showB n) = n := by
  obtain ⟨a, _, b, c⟩ := show_parses h
  have := parse_ok a b (by rw [c]; exact h)
  rw [c] at this
  exact this
theorem show_parse {s : ByteArray} (h : parseE s = 0) : showB (parseV s % M256) = s := by
  have h1 : s.size ≤ 78 := by
    refine Nat.le_of_not_lt fun h1 => ?_
    unfold parseE at h
    rw [if_pos h1] at h
    exact absurd h (by decide)
  have h2 : decB s = true := by
    cases e : decB s with
    | true => rfl
    | false =>
      unfold parseE at h
      rw [if_neg (by omega), if_pos e] at h
      exact absurd h (by decide)
  have h3 : valP s s.size < M256 := by
    refine Nat.lt_of_not_le fun h3 => ?_
    unfold parseE at h
    rw [if_neg (by omega), if_neg (by rw [h2]; decide), if_pos h3] at h
    exact absurd h (by decide)
  rw [(parse_ok h1 h2 h3).2, Nat.mod_eq_of_lt h3]
  obtain ⟨d, l⟩ := (decB_iff s).1 h2
  have hd := valP_div s d
  obtain ⟨k, hk⟩ : ∃ k, s.size = k + 1 := ⟨s.size - 1, by omega⟩
  have b : valP s s.size < 10 ^ (k + 1) := by
    rw [← div_pow_zero, hd (k + 1) (by omega), show s.size - (k + 1) = 0 by omega]; rfl
  have c : k = 0 ∨ 10 ^ k ≤ valP s s.size := by
    rcases l with l | ⟨l1, l2⟩
    · exact .inl (by omega)
    · refine .inr (Nat.le_of_not_lt fun hlt => ?_)
      rw [← div_pow_zero, hd k (by omega), show s.size - k = 0 + 1 by omega] at hlt
      have := d 0 (by omega)
      rw [valP_succ, valP_zero] at hlt
      omega
  rw [show_is b c (by omega)]
  refine text_ext (by rw [text_size, hk]) fun j hj => ?_
  rw [text_size] at hj
  have dj := d j (by omega)
  rw [text_at hj, hd (k + 1 - 1 - j) (by omega), show s.size - (k + 1 - 1 - j) = j + 1 by omega]
  show 48 + (10 * valP s j + (byteAt s j - 48)) % 10 = _
  omega
theorem nought_ahead {t : ByteArray} (h : 1 ≤ t.size) : (ByteArray.mk #[48] ++ t).size = t.size + 1 ∧ decB (ByteArray.mk #[48] ++ t) = false := by
  have e : (ByteArray.mk #[48] ++ t).data.toList = 48 :: t.data.toList := by
    simp
  have hs : (ByteArray.mk #[48] ++ t).size = t.size + 1 := by
    rw [size_data, e, List.length_cons, ← size_data]
  refine ⟨hs, ?_⟩
  cases hd : decB (ByteArray.mk #[48] ++ t) with
  | false => rfl
  | true =>
    obtain ⟨_, b⟩ := (decB_iff _).1 hd
    rw [hs, byteAt_list, e] at b
    exact absurd b (by rintro (h1 | ⟨_, h2⟩); omega; exact h2 rfl)
theorem parse_nought {t : ByteArray} (h : 1 ≤ t.size) (h' : t.size ≤ 78) : parseE (ByteArray.mk #[48] ++ t) = if t.size = 78 then 1 else 3 := by
  obtain ⟨a, b⟩ := nought_ahead h
  unfold parseE
  rw [a, b]
  rcases Nat.lt_or_ge 77 t.size with h1 | h1
  · rw [if_pos (by omega), if_pos (by omega)]
  · rw [if_neg (by omega), if_pos rfl, if_neg (by omega)]
end Go.Proofs.Ytbkdokofapbagaa
