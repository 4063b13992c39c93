/-
  Texts of numbers: reading, and the laws.
-/
import Derived.Test.YtbkdokofapbagaaP16
namespace Go.Proofs.Ytbkdokofapbagaa
open Go.Sx

theorem over_iff {v d M : Nat} (hv : v < M) (hd : d < M) : (v % M * 10 / M ≠ 0 ∨ (v * 10 % M + d % M) / M ≠ 0) ↔ M ≤ 10 * v + d := by
  rw [Nat.mod_eq_of_lt hv, Nat.mod_eq_of_lt hd]
  have hp : 0 < M := by omega
  rcases Nat.lt_or_ge (v * 10) M with h | h
  · rw [Nat.mod_eq_of_lt h, Nat.div_eq_of_lt h]
    rw [Ne, Ne, Nat.div_eq_zero_iff]
    omega
  · have : v * 10 / M ≠ 0 := by
      rw [Ne, Nat.div_eq_zero_iff]
      omega
    exact ⟨fun _ => by omega, fun _ => .inl this⟩
theorem digit_in {b : Nat} (h : 48 ≤ b) (h' : b ≤ 57) : IntKind.u64.wrap (IntKind.u8.wrap ((b : Int) - 48)) = ((b - 48 : Nat) : Int) := by
  rw [show (b : Int) - 48 = ((b - 48 : Nat) : Int) by omega, u8_nat (by omega), wrap_id ⟨Int.natCast_nonneg _, by omega⟩]
theorem join_one (d : Nat) : join (d : Int) 0 0 0 = d := by
  unfold join
  simp
theorem parse_bad {s : ByteArray} {e : Int} (h : parseE s = e) (he : e ≠ 0) : 0 = parseV s % M256 := by
  unfold parseV
  rw [if_neg (by rw [h]; exact he), Nat.zero_mod]
theorem ok_Parse : ∀ s : ByteArray, s.size < 9223372036854775808 → Owes Try.prog cxParse [(7, .inv (invParse s))] 100 Try.f29 [sStr s] (parseG s) := by
  intro s hs
  rw [vc_Parse]
  intro x1
  have nb : ∀ b : Bool, b = false → (!b) = true := by rintro _ rfl; rfl
  refine ⟨fun h => ?_, fun h => ⟨hs, fun h' => ?_, fun h' => ?_⟩⟩
  · have h := of_decide_eq_true h
    have e : parseE s = 1 := by unfold parseE; rw [if_pos (by omega)]
    exact ⟨⟨parse_bad e (by decide), trivial⟩, e.symm⟩
  · have h := of_decide_eq_false h
    have e : parseE s = 3 := by
      unfold parseE
      rw [if_neg (by omega), if_pos (by rw [Bool.not_eq_true'] at h'; exact h')]
    exact ⟨⟨parse_bad e (by decide), trivial⟩, e.symm⟩
  have h := of_decide_eq_false h
  have h' : decB s = true := by rw [Bool.not_eq_false'] at h'; exact h'
  have hM : 0 < M256 := by rw [M256_eq]; decide
  have hM' : 1000 < M256 := by rw [M256_eq]; decide
  refine ⟨fun _ => rfl, 0, ⟨Nat.zero_le _, by rw [valP_zero]; exact hM⟩, rfl, rfl, rfl, rfl, ⟨(Nat.zero_mod _).symm, trivial⟩, rfl, fun y hy => ⟨fun hc => ?_, fun hc => ?_⟩⟩
  · have hlt : y < s.size := Int.ofNat_lt.1 (of_decide_eq_true hc)
    have hB : ((s.data.getD (y : Int).toNat (0 : UInt8)).toNat : Int) = (byteAt s y : Int) := by rw [Int.toNat_natCast]; rfl
    have hb : (0 : Int) ≤ (y : Int) ∧ (y : Int).toNat < s.size := ⟨Int.natCast_nonneg _, by rw [Int.toNat_natCast]; exact hlt⟩
    obtain ⟨d1, d2⟩ := ((decB_iff s).1 h').1 y hlt
    have hv := valP_succ s y
    have ho := over_iff (v := valP s y) (d := byteAt s y - 48) hy.2 (by omega)
    rw [← hv] at ho
    rw [hB, digit_in d1 d2, join_one]
    refine ⟨by decide, hb, by omega, by decide, by decide, by decide, id, nb _, fun hx => ?_, fun hx => ?_⟩
    · rw [Bool.or_eq_true, bne_iff_ne, bne_iff_ne, Ne, Ne, Int.natCast_eq_zero, Int.natCast_eq_zero] at hx
      have e : parseE s = 6 := by
        unfold parseE
        rw [if_neg (by omega), if_neg (by rw [h']; decide), if_pos (Nat.le_trans (ho.1 hx) (valP_mono s hlt))]
      exact ⟨⟨parse_bad e (by decide), trivial⟩, e.symm⟩
    · have hx : ¬ (M256 ≤ valP s (y + 1)) := by
        intro c
        have := ho.2 c
        rw [Bool.or_eq_false_iff, bne_eq_false_iff_eq, bne_eq_false_iff_eq, Int.natCast_eq_zero, Int.natCast_eq_zero] at hx
        rcases this with t | t
        · exact t hx.1
        · exact t hx.2
      refine ⟨y + 1, ⟨hlt, Nat.lt_of_not_le hx⟩, rfl, rfl, ?_, rfl, ?_, rfl, by omega⟩
      · rw [IntWalk.i64_in _ (by omega)]; rfl
      · rw [hv, Nat.mul_comm]
  · have hge : y = s.size := by
      have := of_decide_eq_false hc
      have := hy.1
      omega
    subst hge
    obtain ⟨p1, p2⟩ := parse_ok (by omega) h' hy.2
    exact ⟨⟨by simp only [x1, p2], trivial⟩, p1.symm⟩
theorem card_Parse : FnOK Try.prog 29 (specS parseG) :=
  FnOK_S (CxOK_cons card_decimal (CxOK_cons card_times (CxOK_cons card_plus CxOK_nil))) (iv := fun s => [(7, .inv (invParse s))]) (N := 100) Try.func29 (by kernel_rfl) (by kernel_rfl) (fun _ => bnd_two (bnd_U _) (bnd_I _ _)) ok_Parse
theorem cxok_TB : CxOK Try.prog cxTB := CxOK_cons card_number (CxOK_cons card_Show (CxOK_cons card_Parse CxOK_nil))

/-! ## The laws -/
theorem ok_TextFixed : ∀ s : ByteArray, s.size ≤ maxLen → Owes Try.prog cxTB [] 100 Try.f11 [sStr s] yes := by
  intro s hs
  have hm : maxLen = 9223372036854775807 := by decide
  rw [vc_TextFixed]
  intro x1 x2
  have e7 : showB 7 = ByteArray.mk #[(55 : UInt8)] := by kernel_rfl
  have h1 : x1 = true := by
    simp only [x1, e7]
    exact beq_self_eq_true _
  have hf : x2 = false → showB (parseV s % M256) = s := by
    intro h
    refine show_parse ?_
    simp only [x2, bne_eq_false_iff_eq] at h
    exact h
  clear_value x1 x2
  subst h1
  refine ⟨by omega, id, id, id, id, id, id, fun _ h => by rw [h]; rfl, id, ?_⟩
  cases x2 with
  | true => rfl
  | false =>
    rw [hf rfl]
    rw [Bool.true_and, Bool.false_or]
    exact beq_self_eq_true _
theorem ok_TextBack : ∀ (k a b : Int) (s : ByteArray), i64ok k → i64ok a → i64ok b → Owes Try.prog cxTB [] 100 Try.f10 [sRaw k a b s] yes := by
  intro k a b s hk ha hb
  rw [vc_TextBack]
  intro x1 x2 x3 x4 x5 x6 x7
  have hn : x1 < M256 := Nat.mod_lt _ (by rw [M256_eq]; decide)
  clear_value x1
  obtain ⟨s1, s2, _, _⟩ := show_parses hn
  obtain ⟨p1, p2⟩ := parse_show hn
  obtain ⟨n1, _⟩ := nought_ahead s2
  have pn := parse_nought s2 s1
  have e3 : x3 = true := by simp only [x3, p1]; rfl
  have e4 : x4 = true := by
    simp only [x4, e3, p2]
    rw [Nat.mod_eq_of_lt hn]
    exact (beq_self_eq_true x1 : (x1 == x1) = true)
  have e57 : x5 = !x7 := by
    simp only [x5, x7, x2, pn]
    rcases Nat.lt_or_ge 77 (showB x1).size with h | h
    · rw [if_pos (by omega), show (showB x1).size = 78 by omega]; rfl
    · rw [if_neg (by omega)]
      have : (((showB x1).size : Int) == 78) = false := beq_eq_false_iff_ne.2 (by omega)
      rw [this]; rfl
  have last : x7 = true → (parseE (ByteArray.mk #[(48 : UInt8)] ++ showB x1) == (1 : Int)) = true := by
    intro h
    simp only [x7, x2, beq_iff_eq] at h
    rw [pn, if_pos (by omega)]; rfl
  have hx2 : x2 ≤ 78 := s1
  have hn1 : (ByteArray.mk #[(48 : UInt8)] ++ showB x1).size < 9223372036854775808 := by rw [n1]; omega
  generalize hq : (parseE (ByteArray.mk #[(48 : UInt8)] ++ showB x1) == (1 : Int)) = q at *
  have e6 : x6 = (x4 && !x5) := rfl
  clear_value x2 x3 x4 x5 x6 x7
  subst e3 e4 e57 e6
  refine ⟨hk, ha, hb, by omega, by omega, hn1, id, id, id, id, id, id, id, id, id, id, fun h h' => by rw [h, h']; rfl, id, fun _ h => by rw [h]; rfl, id, ?_⟩
  cases x7 with
  | true => rw [last rfl]; rfl
  | false => rfl
end Go.Proofs.Ytbkdokofapbagaa
