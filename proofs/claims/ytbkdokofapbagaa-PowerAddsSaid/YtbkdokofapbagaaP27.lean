/-
  Package field's calls; turned round.
-/
import Derived.Test.YtbkdokofapbagaaV9
import Derived.Test.YtbkdokofapbagaaP26
namespace Go.Proofs.Ytbkdokofapbagaa
open Go.Sx

theorem cmp_ge {a m : Nat} : cmpN a m ≥ 0 ↔ m % M256 ≤ a % M256 := by
  unfold cmpN
  rcases Nat.lt_or_ge (a % M256) (m % M256) with c | c
  · rw [if_pos c]; omega
  · rw [if_neg (by omega)]
    refine ⟨fun _ => c, fun _ => ?_⟩
    split <;> decide
theorem f_all {a b m r : Nat} :
    (m % M256 = 0 → 0 = (if fE a b m = 0 then r else 0) % M256 ∧ 7 = fE a b m) ∧
    (m % M256 ≠ 0 → (m % M256 ≤ a % M256 ∨ m % M256 ≤ b % M256) → 0 = (if fE a b m = 0 then r else 0) % M256 ∧ 6 = fE a b m) ∧
    (m % M256 ≠ 0 → a % M256 < m % M256 → b % M256 < m % M256 → r % M256 = (if fE a b m = 0 then r else 0) % M256 ∧ 0 = fE a b m) := by
  refine ⟨fun h => ?_, fun h h' => ?_, fun h h1 h2 => ?_⟩
  · have e : fE a b m = 7 := by unfold fE; rw [if_pos h]
    rw [e, if_neg (by decide)]
    exact ⟨(Nat.zero_mod _).symm, rfl⟩
  · have e : fE a b m = 6 := by unfold fE; rw [if_neg h, if_neg (by omega)]
    rw [e, if_neg (by decide)]
    exact ⟨(Nat.zero_mod _).symm, rfl⟩
  · have e : fE a b m = 0 := by unfold fE; rw [if_neg h, if_pos ⟨h1, h2⟩]
    rw [e, if_pos rfl]
    exact ⟨rfl, rfl⟩
theorem ok_fAdd : ∀ a b m : Nat, Ok (noC a b m) → Owes Try.prog cxFadd [] 100 Try.f36 [sU a, sU b, sU m] (faddG a b m) := by
  intro a b m _
  rw [vc_fAdd]
  intro x1 x2 x3 x4 x5
  obtain ⟨f1, f2, f3⟩ := f_all (a := a) (b := b) (m := m) (r := (a % M256 + b % M256) % (m % M256))
  refine ⟨fun h => ?_, fun h => ⟨fun h1 => ?_, fun h1 => ⟨fun h2 => ?_, fun h2 => ?_⟩⟩⟩
  · obtain ⟨p, q⟩ := f1 (beq_iff_eq.1 h)
    exact ⟨⟨p, trivial⟩, q⟩
  · obtain ⟨p, q⟩ := f2 (beq_eq_false_iff_ne.1 h) (.inl (cmp_ge.1 (of_decide_eq_true h1)))
    exact ⟨⟨p, trivial⟩, q⟩
  · obtain ⟨p, q⟩ := f2 (beq_eq_false_iff_ne.1 h) (.inr (cmp_ge.1 (of_decide_eq_true h2)))
    exact ⟨⟨p, trivial⟩, q⟩
  · have l1 : a % M256 < m % M256 := Nat.lt_of_not_le fun c => of_decide_eq_false h1 (cmp_ge.2 c)
    have l2 : b % M256 < m % M256 := Nat.lt_of_not_le fun c => of_decide_eq_false h2 (cmp_ge.2 c)
    obtain ⟨p, q⟩ := f3 (beq_eq_false_iff_ne.1 h) l1 l2
    exact ⟨l1, l2, ⟨p, trivial⟩, q⟩
theorem card_fAdd : FnOK Try.prog 36 (specUUU noC faddG) :=
  FnOK_UUU (CxOK_cons card_Cmp (CxOK_cons card_sum CxOK_nil)) (iv := fun _ _ _ => []) (N := 100) Try.func36 (by kernel_rfl) (by kernel_rfl) (fun _ _ _ => bnd_two (bnd_U _) (bnd_I _ _)) ok_fAdd
theorem ok_fSub : ∀ a b m : Nat, Ok (noC a b m) → Owes Try.prog cxFsub [] 100 Try.f40 [sU a, sU b, sU m] (fsubG a b m) := by
  intro a b m _
  rw [vc_fSub]
  intro x1 x2 x3 x4 x5
  obtain ⟨f1, f2, f3⟩ := f_all (a := a) (b := b) (m := m) (r := (a % M256 + m % M256 - b % M256) % (m % M256))
  refine ⟨fun h => ?_, fun h => ⟨fun h1 => ?_, fun h1 => ⟨fun h2 => ?_, fun h2 => ?_⟩⟩⟩
  · obtain ⟨p, q⟩ := f1 (beq_iff_eq.1 h)
    exact ⟨⟨p, trivial⟩, q⟩
  · obtain ⟨p, q⟩ := f2 (beq_eq_false_iff_ne.1 h) (.inl (cmp_ge.1 (of_decide_eq_true h1)))
    exact ⟨⟨p, trivial⟩, q⟩
  · obtain ⟨p, q⟩ := f2 (beq_eq_false_iff_ne.1 h) (.inr (cmp_ge.1 (of_decide_eq_true h2)))
    exact ⟨⟨p, trivial⟩, q⟩
  · have l1 : a % M256 < m % M256 := Nat.lt_of_not_le fun c => of_decide_eq_false h1 (cmp_ge.2 c)
    have l2 : b % M256 < m % M256 := Nat.lt_of_not_le fun c => of_decide_eq_false h2 (cmp_ge.2 c)
    obtain ⟨p, q⟩ := f3 (beq_eq_false_iff_ne.1 h) l1 l2
    exact ⟨l1, l2, ⟨p, trivial⟩, q⟩
theorem card_fSub : FnOK Try.prog 40 (specUUU noC fsubG) :=
  FnOK_UUU (CxOK_cons card_Cmp (CxOK_cons card_difference CxOK_nil)) (iv := fun _ _ _ => []) (N := 100) Try.func40 (by kernel_rfl) (by kernel_rfl) (fun _ _ _ => bnd_two (bnd_U _) (bnd_I _ _)) ok_fSub
theorem ok_fMul : ∀ a b m : Nat, Ok (noC a b m) → Owes Try.prog cxFmul [] 100 Try.f37 [sU a, sU b, sU m] (fmulG a b m) := by
  intro a b m _
  rw [vc_fMul]
  intro x1 x2 x3 x4 x5
  obtain ⟨f1, f2, f3⟩ := f_all (a := a) (b := b) (m := m) (r := a % M256 * (b % M256) % (m % M256))
  refine ⟨fun h => ?_, fun h => ⟨fun h1 => ?_, fun h1 => ⟨fun h2 => ?_, fun h2 => ?_⟩⟩⟩
  · obtain ⟨p, q⟩ := f1 (beq_iff_eq.1 h)
    exact ⟨⟨p, trivial⟩, q⟩
  · obtain ⟨p, q⟩ := f2 (beq_eq_false_iff_ne.1 h) (.inl (cmp_ge.1 (of_decide_eq_true h1)))
    exact ⟨⟨p, trivial⟩, q⟩
  · obtain ⟨p, q⟩ := f2 (beq_eq_false_iff_ne.1 h) (.inr (cmp_ge.1 (of_decide_eq_true h2)))
    exact ⟨⟨p, trivial⟩, q⟩
  · have l1 : a % M256 < m % M256 := Nat.lt_of_not_le fun c => of_decide_eq_false h1 (cmp_ge.2 c)
    have l2 : b % M256 < m % M256 := Nat.lt_of_not_le fun c => of_decide_eq_false h2 (cmp_ge.2 c)
    obtain ⟨p, q⟩ := f3 (beq_eq_false_iff_ne.1 h) l1 l2
    exact ⟨l1, l2, ⟨p, trivial⟩, q⟩
theorem card_fMul : FnOK Try.prog 37 (specUUU noC fmulG) :=
  FnOK_UUU (CxOK_cons card_Cmp (CxOK_cons card_product CxOK_nil)) (iv := fun _ _ _ => []) (N := 100) Try.func37 (by kernel_rfl) (by kernel_rfl) (fun _ _ _ => bnd_two (bnd_U _) (bnd_I _ _)) ok_fMul
theorem ok_fTells : Owes Try.prog cxFtells [] 100 Try.f38 [] yes := by
  rw [vc_fTells]
  exact ⟨id, id, id, rfl⟩
theorem card_fTells : FnOK Try.prog 38 (spec0 yes) :=
  FnOK_0 (CxOK_cons card_fMul CxOK_nil) (iv := []) (N := 100) Try.func38 (by kernel_rfl) (by kernel_rfl) (bnd_one (bnd_B _)) ok_fTells
theorem cxok_FT : CxOK Try.prog cxFT := CxOK_cons card_number (CxOK_cons card_DivMod (CxOK_cons card_fAdd (CxOK_cons card_fSub (CxOK_cons card_fMul (CxOK_cons card_Cmp (CxOK_cons card_fTells CxOK_nil))))))

/-! ## The laws -/
theorem fE_ok {u v n m : Nat} (h : n % M256 = m) (hu : u < m) (hv : v < m) : fE u v n = 0 := by
  have hM := Nat.mod_lt n (show 0 < M256 by rw [M256_eq]; decide)
  unfold fE
  rw [h] at hM ⊢
  rw [if_neg (by omega), Nat.mod_eq_of_lt (Nat.lt_trans hu hM), Nat.mod_eq_of_lt (Nat.lt_trans hv hM), if_pos ⟨hu, hv⟩]
theorem cmp_less {u n m : Nat} (h : n % M256 = m) (hu : u < m) : cmpN u n = -1 := by
  have hM := Nat.mod_lt n (show 0 < M256 by rw [M256_eq]; decide)
  unfold cmpN
  rw [h] at hM ⊢
  rw [Nat.mod_eq_of_lt (Nat.lt_trans hu hM), if_pos hu]
theorem one_mod : 1 % M256 = 1 := Nat.mod_eq_of_lt (by rw [M256_eq]; decide)
theorem ok_FieldTurns : ∀ (k a b : Int) (s : ByteArray) (k' a' b' : Int) (s' : ByteArray) (k2 a2 b2 : Int) (s2 : ByteArray), i64ok k → i64ok a → i64ok b → i64ok k' → i64ok a' → i64ok b' → i64ok k2 → i64ok a2 → i64ok b2 → Owes Try.prog cxFT [] 100 Try.f14 [sRaw k a b s, sRaw k' a' b' s', sRaw k2 a2 b2 s2] yes := by
  intro k a b s k' a' b' s' k2 a2 b2 s2 hk ha hb hk' ha' hb' hk2 ha2 hb2
  rw [vc_FieldTurns]
  intro x1 x2 x3 x4 x5 x6 x7 x8 x9 x10 x11 x12 x13 x14 x15 x16 x17 x18 x19 x20 x21 x22 x23 x24 x25 x26 x27 x28 x29 x30 x31 x32 x33 x34 x35 x36 x37 x38 x39
  refine ⟨hk, ha, hb, fun h => ⟨hk', ha', hb', fun c hc => ⟨hk2, ha2, hb2, ⟨by omega, hc, by omega⟩, fun c' _ => ?_⟩⟩, fun h => ⟨hk', ha', hb', fun c hc => ⟨hk2, ha2, hb2, ⟨by omega, hc, by omega⟩, fun c' _ => ?_⟩⟩⟩
  · have hne : ¬ (1 : Nat) = 0 := by decide
    have hpos : 0 < 1 := by decide
    have hU : x2 < 1 := by
      simp only [x2]
      rw [if_neg hne]
      exact Nat.mod_lt _ hpos
    have hV : x3 < 1 := by
      simp only [x3]
      rw [if_neg hne]
      exact Nat.mod_lt _ hpos
    have eE : x4 = 0 := fE_ok one_mod hU hV
    have eF : x7 = 0 := fE_ok one_mod hV hU
    have h5 : x5 = true := by simp only [x5, eE]; rfl
    have h8 : x8 = true := by simp only [x8, eF]; rfl
    have h6 : x6 = true := by simp only [x6, h5]; rfl
    have h9 : x9 = true := by simp only [x9, h6, h8]; rfl
    have h10 : x10 = true := by simp only [x10, h9, h5]; rfl
    have h11 : x11 = true := by simp only [x11, h10, h8]; rfl
    have hs : x14 = (x13 + x12) % 1 := by
      simp only [x14]
      rw [if_pos eE, Nat.add_comm]
    have hp : x16 = x13 * x12 % 1 := by
      simp only [x16]
      rw [if_pos eE, Nat.mul_comm]
    have h15 : x15 = true := by
      simp only [x15]
      rw [h11, if_pos eF, hs]
      exact (beq_iff_eq.2 rfl : ((x13 + x12) % 1 % M256 == (x13 + x12) % 1 % M256) = true)
    have h17 : x17 = true := by
      simp only [x17]
      rw [h15, if_pos eF, hp]
      exact (beq_iff_eq.2 rfl : (x13 * x12 % 1 % M256 == x13 * x12 % 1 % M256) = true)
    have hc : x18 = -1 := cmp_less one_mod (by rw [hs]; exact Nat.mod_lt _ hpos)
    have hd : x20 = -1 := cmp_less one_mod (by rw [hp]; exact Nat.mod_lt _ hpos)
    have h19 : x19 = true := by simp only [x19, h17, hc]; rfl
    rw [h19, hd]
    exact ⟨id, id, id, id, id, id, id, id, id, id, id, id, id, id, id, id, id, id, id, id, id, id, rfl⟩
  · have hne : x1 ≠ 0 := beq_eq_false_iff_ne.1 h
    have hpos : 0 < x1 := Nat.pos_of_ne_zero hne
    have hU : x21 < x1 := by
      simp only [x21]
      rw [if_neg hne]
      exact Nat.mod_lt _ hpos
    have hV : x22 < x1 := by
      simp only [x22]
      rw [if_neg hne]
      exact Nat.mod_lt _ hpos
    have eE : x23 = 0 := fE_ok rfl hU hV
    have eF : x26 = 0 := fE_ok rfl hV hU
    have h5 : x24 = true := by simp only [x24, eE]; rfl
    have h8 : x27 = true := by simp only [x27, eF]; rfl
    have h6 : x25 = true := by simp only [x25, h5]; rfl
    have h9 : x28 = true := by simp only [x28, h6, h8]; rfl
    have h10 : x29 = true := by simp only [x29, h9, h5]; rfl
    have h11 : x30 = true := by simp only [x30, h10, h8]; rfl
    have hs : x33 = (x32 + x31) % x1 := by
      simp only [x33]
      rw [if_pos eE, Nat.add_comm]
    have hp : x35 = x32 * x31 % x1 := by
      simp only [x35]
      rw [if_pos eE, Nat.mul_comm]
    have h15 : x34 = true := by
      simp only [x34]
      rw [h11, if_pos eF, hs]
      exact (beq_iff_eq.2 rfl : ((x32 + x31) % x1 % M256 == (x32 + x31) % x1 % M256) = true)
    have h17 : x36 = true := by
      simp only [x36]
      rw [h15, if_pos eF, hp]
      exact (beq_iff_eq.2 rfl : (x32 * x31 % x1 % M256 == x32 * x31 % x1 % M256) = true)
    have hc : x37 = -1 := cmp_less rfl (by rw [hs]; exact Nat.mod_lt _ hpos)
    have hd : x39 = -1 := cmp_less rfl (by rw [hp]; exact Nat.mod_lt _ hpos)
    have h19 : x38 = true := by simp only [x38, h17, hc]; rfl
    rw [h19, hd]
    exact ⟨id, id, id, id, id, id, id, id, id, id, id, id, id, id, id, id, id, id, id, id, id, id, rfl⟩
end Go.Proofs.Ytbkdokofapbagaa
