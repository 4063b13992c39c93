/-
  A number is its bytes: the numbers' side.
-/
import Derived.Test.YtbkdokofapbagaaP9
import Derived.Laws.Strings
namespace Go.Proofs.Ytbkdokofapbagaa
open Go.Sx

theorem ok_word : ∀ k a b s, i64ok k → i64ok a → i64ok b → Owes Try.prog [] [] 400 Try.f32 [sRaw k a b s] (wordG k a b s) := by
  intro k a b s _ _ _
  rw [vc_word]
  exact ⟨rfl, rfl, rfl, rfl, rfl, rfl, rfl, rfl, rfl, rfl, rfl, rfl, rfl, rfl, rfl, rfl, rfl, rfl, rfl, rfl, rfl, rfl, rfl, rfl, rfl, rfl, rfl, rfl, rfl, rfl, rfl, rfl, trivial⟩
theorem card_word : FnOK Try.prog 32 (specRaw wordG) :=
  FnOK_Raw CxOK_nil (iv := []) (N := 400) Try.func32 (by kernel_rfl) (by kernel_rfl) (fun k a b s => by unfold wordG; intro k hk; simp only [List.mem_singleton] at hk; subst hk; trivial) ok_word

theorem by8_ok (a i : Nat) : 0 ≤ by8 a i ∧ by8 a i < 256 := by
  unfold by8
  have : a / 2 ^ (8 * i) % 256 < 256 := Nat.mod_lt _ (by decide)
  omega
theorem pow_256 (n : Nat) : 2 ^ (8 * n) = 256 ^ n := by rw [Nat.pow_mul]
theorem fromN_bytes (a : Nat) : ∀ n, n ≤ 32 → fromN (fun j => by8 a (31 - j)) n = a % 256 ^ n
  | 0, _ => by simp [fromN, Nat.mod_one]
  | n + 1, h => by
    rw [fromN, fromN_bytes a n (by omega), Nat.mod_pow_succ]
    have : 31 - (31 - n) = n := by omega
    rw [this, by8, Int.toNat_natCast, pow_256]
theorem M256_pow : M256 = 256 ^ 32 := by rw [M256_eq]
theorem from_bytes (a : Nat) : (fromN (fun j => by8 a (31 - j)) 32 % M256 == a % M256) = true := by
  rw [beq_iff_eq, fromN_bytes a 32 (Nat.le_refl _), ← M256_pow, Nat.mod_mod]

theorem fromN_lt (g : Nat → Int) (h : byteOK 32 g) : ∀ n, n ≤ 32 → fromN g n < 256 ^ n
  | 0, _ => by simp [fromN]
  | n + 1, hn => by
    have ih := fromN_lt g h n (by omega)
    have hb := h (31 - n) (by omega)
    rw [fromN, Nat.pow_succ]
    have : (g (31 - n)).toNat ≤ 255 := by omega
    have h2 := Nat.mul_le_mul_left (256 ^ n) this
    omega
theorem fromN_byte (g : Nat → Int) (h : byteOK 32 g) (k : Nat) : ∀ n, n ≤ 32 → k < n → fromN g n / 256 ^ k % 256 = (g (31 - k)).toNat
  | 0, _, hk => by omega
  | n + 1, hn, hk => by
    rw [fromN]
    have hp : 0 < 256 ^ k := Nat.pow_pos (by decide)
    rcases Nat.lt_or_ge k n with hlt | hge
    · have ih := fromN_byte g h k n (by omega) hlt
      obtain ⟨d, rfl⟩ : ∃ d, n = k + 1 + d := ⟨n - (k + 1), by omega⟩
      have e : 256 ^ (k + 1 + d) * (g (31 - (k + 1 + d))).toNat = 256 ^ k * (256 * (256 ^ d * (g (31 - (k + 1 + d))).toNat)) := by
        rw [Nat.pow_add, Nat.pow_add, Nat.pow_one, Nat.mul_assoc, Nat.mul_assoc]
      rw [e, Nat.add_mul_div_left _ _ hp, Nat.add_mul_mod_self_left]
      exact ih
    · have : k = n := by omega
      subst this
      have hlt := fromN_lt g h k (by omega)
      have hb := h (31 - k) (by omega)
      rw [Nat.add_mul_div_left _ _ hp, Nat.div_eq_of_lt hlt, Nat.zero_add]
      exact Nat.mod_eq_of_lt (by omega)
theorem bytes_from (g : Nat → Int) (h : byteOK 32 g) : ((List.range 32).all fun j => by8 (fromN g 32) (31 - j) == g j) = true := by
  rw [List.all_eq_true]
  intro j hj
  have hj := List.mem_range.1 hj
  rw [beq_iff_eq, by8, pow_256, fromN_byte g h (31 - j) 32 (Nat.le_refl _) (by omega)]
  have : 31 - (31 - j) = j := by omega
  rw [this]
  exact Int.toNat_of_nonneg (h j hj).1

theorem push_all : ∀ (l : List Int) (b : ByteArray), (l.foldl (fun r n => r.push (UInt8.ofNat n.toNat)) b).data.toList = b.data.toList ++ l.map fun n => UInt8.ofNat n.toNat
  | [], b => by simp
  | n :: l, b => by
    rw [List.foldl_cons, push_all l]
    simp
theorem bytesI_toList (l : List Int) : (bytesI l).toList = l.map fun n => UInt8.ofNat n.toNat := by
  rw [ByteArray.toList_eq, bytesI, push_all]
  rfl
def rowB (a n : Nat) : List UInt8 := (List.range n).map fun j => UInt8.ofNat (by8 a (n - 1 - j)).toNat
theorem rowB_succ (a n : Nat) : rowB a (n + 1) = UInt8.ofNat (by8 a n).toNat :: rowB a n := by
  unfold rowB
  rw [List.range_succ_eq_map, List.map_cons, List.map_map]
  congr 1
  apply List.map_congr_left
  intro j _
  simp only [Function.comp_apply]
  rw [show n + 1 - 1 - (j + 1) = n - 1 - j by omega]
theorem less_rows (a b : Nat) : ∀ n, Op.bytesLess (rowB a n) (rowB b n) = decide (a % 256 ^ n < b % 256 ^ n)
  | 0 => by simp [rowB, Op.bytesLess, Nat.mod_one]
  | n + 1 => by
    rw [rowB_succ, rowB_succ, Op.bytesLess, less_rows a b n, Nat.mod_pow_succ, Nat.mod_pow_succ]
    have ha : a / 256 ^ n % 256 < 256 := Nat.mod_lt _ (by decide)
    have hb : b / 256 ^ n % 256 < 256 := Nat.mod_lt _ (by decide)
    have hp : 0 < 256 ^ n := Nat.pow_pos (by decide)
    have la := Nat.mod_lt a hp
    have lb := Nat.mod_lt b hp
    unfold by8
    rw [pow_256, Int.toNat_natCast, Int.toNat_natCast]
    generalize a / 256 ^ n % 256 = x at *
    generalize b / 256 ^ n % 256 = y at *
    generalize a % 256 ^ n = u at *
    generalize b % 256 ^ n = v at *
    generalize 256 ^ n = p at *
    have ex : (UInt8.ofNat x).toNat = x := by rw [UInt8.toNat_ofNat']; exact Nat.mod_eq_of_lt ha
    have ey : (UInt8.ofNat y).toNat = y := by rw [UInt8.toNat_ofNat']; exact Nat.mod_eq_of_lt hb
    rw [Bool.eq_iff_iff]
    simp only [Bool.or_eq_true, Bool.and_eq_true, decide_eq_true_eq, beq_iff_eq, UInt8.lt_iff_toNat_lt, ← UInt8.toNat_inj, ex, ey]
    rcases Nat.lt_trichotomy x y with h | h | h
    · have := Nat.mul_le_mul_left p (show x + 1 ≤ y by omega)
      rw [Nat.mul_add, Nat.mul_one] at this
      exact ⟨fun _ => by omega, fun _ => .inl h⟩
    · subst h
      simp
    · have := Nat.mul_le_mul_left p (show y + 1 ≤ x by omega)
      rw [Nat.mul_add, Nat.mul_one] at this
      exact ⟨fun k => by rcases k with k | k <;> omega, fun k => by omega⟩
theorem cmp_neg (a b : Nat) : decide (cmpN a b < 0) = decide (a % M256 < b % M256) := by
  unfold cmpN
  generalize a % M256 = A
  generalize b % M256 = B
  by_cases h : A < B
  · rw [if_pos h]; simp [h]
  · rw [if_neg h]
    by_cases h' : B < A
    · rw [if_pos h']; simp [h]
    · rw [if_neg h']; simp [h]
theorem row32 (a : Nat) : (bytesI (intsL [SK.f IntKind.u8 32 fun j => by8 a (31 - j)])).toList = rowB a 32 := by
  rw [bytesI_toList]
  simp only [intsL, List.append_nil, List.map_map]
  rfl
theorem less_bytes (a b : Nat) : (Op.bytesLess (bytesI (intsL [SK.f IntKind.u8 32 fun j => by8 a (31 - j)])).toList (bytesI (intsL [SK.f IntKind.u8 32 fun j => by8 b (31 - j)])).toList == decide (cmpN a b < 0)) = true := by
  rw [row32, row32, less_rows, cmp_neg, ← M256_pow, beq_iff_eq]
theorem u8_range (n : Int) : 0 ≤ IntKind.u8.wrap n ∧ IntKind.u8.wrap n < 256 := by
  unfold IntKind.wrap
  simp [IntKind.signed, IntKind.bits]
  omega
theorem word_ok (a b : Int) (s : ByteArray) : byteOK 32 fun j => if j = 31 then IntKind.u8.wrap b else if j = 30 then IntKind.u8.wrap a else if j < s.size then ((s.data.getD j 0).toNat : Int) else 0 := by
  intro j _
  have hb := u8_range b
  have ha := u8_range a
  have hs := (s.data.getD j 0).toNat_lt
  simp only
  split
  · exact hb
  · split
    · exact ha
    · split
      · omega
      · decide

theorem ok_BytesBack : ∀ k a b s k' a' b' s', i64ok k → i64ok a → i64ok b → i64ok k' → i64ok a' → i64ok b' → Owes Try.prog cxBB [] 400 Try.f12 [sRaw k a b s, sRaw k' a' b' s'] yes := by
  intro k a b s k' a' b' s' h1 h2 h3 h4 h5 h6
  rw [vc_BytesBack]
  have hw := word_ok a b s
  have t1 := from_bytes (rawN k a b)
  have t2 := less_bytes (rawN k a b) (rawN k' a' b')
  have t3 : ((List.range 32).all fun j => by8 (fromN (fun j => if j = 31 then IntKind.u8.wrap b else if j = 30 then IntKind.u8.wrap a else if j < s.size then ((s.data.getD j 0).toNat : Int) else 0) 32) (31 - j) == wordF a b s j) = true := bytes_from _ hw
  intro x1 x2 x3
  refine ⟨h1, h2, h3, h4, h5, h6, id, fun _ j _ => by8_ok _ _, id, id, id, id, id, id, id, id, id, id, id, id, fun _ => h1, fun _ => h2, fun _ => h3, id, fun _ => hw, id, id, fun _ => h1, fun _ => h2, fun _ => h3, id, id, id, ?_⟩
  have e3 : x3 = true := by
    simp only [x3, x1, x2, conj, t1, t2, Bool.and_self]
  rw [e3, conj, t3]
  rfl
theorem cxok_BB : CxOK Try.prog cxBB := CxOK_cons card_number (CxOK_cons card_Bytes (CxOK_cons card_From (CxOK_cons card_Cmp (CxOK_cons card_word (CxOK_cons card_tells CxOK_nil)))))
end Go.Proofs.Ytbkdokofapbagaa
