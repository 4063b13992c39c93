/-
  Texts: P179, P180, P190, P181, P191, V122, P182, P183, V121.
-/
import Derived.Test.YtgjjpffaofdpiaaM1
import Derived.Test.YtgjjpffaofdpiaaM2
import Derived.Test.YtgjjpffaofdpiaaM3
import Derived.Test.YtgjjpffaofdpiaaM4
import Derived.Test.YtgjjpffaofdpiaaM5
import Derived.Test.YtgjjpffaofdpiaaM6
import Derived.Test.YtgjjpffaofdpiaaM7
import Derived.Test.YtgjjpffaofdpiaaM8
import Derived.Test.YtgjjpffaofdpiaaM9
import Derived.Test.YtgjjpffaofdpiaaM10
import Derived.Test.YtgjjpffaofdpiaaM11
import Derived.Test.YtgjjpffaofdpiaaM12
section
namespace Go.Proofs.Ytgjjpffaofdpiaa
open Go.Sx
theorem or_add (X b : Int) (hX : 0 ≤ X ∧ X < 72057594037927936) (hb : 0 ≤ b ∧ b < 256) : IntKind.u64.wrap ((BitVec.ofInt 64 (IntKind.u64.wrap (X * 256)) ||| BitVec.ofInt 64 (IntKind.u64.wrap b)).toNat : Int) = X * 256 + b := by
  rw [wrap_id (by omega : 0 ≤ X * 256 ∧ X * 256 < 18446744073709551616), wrap_id (by omega : 0 ≤ b ∧ b < 18446744073709551616)]
  obtain ⟨x, rfl⟩ := Int.eq_ofNat_of_zero_le hX.1
  obtain ⟨c, rfl⟩ := Int.eq_ofNat_of_zero_le hb.1
  have e : (BitVec.ofInt 64 ((x : Int) * 256) ||| BitVec.ofInt 64 (c : Int)).toNat = x * 256 + c := by
    rw [BitVec.toNat_or, show ((x : Int) * 256) = ((x * 256 : Nat) : Int) by rw [Int.natCast_mul]; rfl, BitVec.ofInt_natCast, BitVec.ofInt_natCast, BitVec.toNat_ofNat, BitVec.toNat_ofNat, Nat.mod_eq_of_lt (by omega), Nat.mod_eq_of_lt (by omega)]
    have := Nat.shiftLeft_add_eq_or_of_lt (b := c) (i := 8) (by omega) x
    rw [Nat.shiftLeft_eq] at this
    exact this.symm
  rw [e]
  exact wrap_id (by omega)
theorem or_nil (b : Int) (hb : 0 ≤ b ∧ b < 256) : IntKind.u64.wrap ((BitVec.ofInt 64 0 ||| BitVec.ofInt 64 (IntKind.u64.wrap b)).toNat : Int) = b := by
  have := or_add 0 b (by decide) hb
  rw [show IntKind.u64.wrap (0 * 256) = 0 by decide] at this
  omega
theorem i64_in {x : Int} (h : -9223372036854775808 ≤ x ∧ x ≤ 9223372036854775807) : IntKind.i64.wrap x = x := by rw [IntKind.wrap_i64]; omega
theorem num_1 {a : Int} (ha : 0 ≤ a ∧ a < 256) : IntKind.i64.wrap (IntKind.u64.wrap ((BitVec.ofInt 64 0 ||| BitVec.ofInt 64 (IntKind.u64.wrap a)).toNat : Int)) = a := by
  rw [or_nil a ha]; exact i64_in (by omega)
theorem num_2 {a b : Int} (ha : 0 ≤ a ∧ a < 256) (hb : 0 ≤ b ∧ b < 256) :
    IntKind.i64.wrap (IntKind.u64.wrap ((BitVec.ofInt 64 (IntKind.u64.wrap (IntKind.u64.wrap ((BitVec.ofInt 64 0 ||| BitVec.ofInt 64 (IntKind.u64.wrap a)).toNat : Int) * 256)) ||| BitVec.ofInt 64 (IntKind.u64.wrap b)).toNat : Int)) = a * 256 + b := by
  rw [or_nil a ha, or_add a b (by omega) hb]; exact i64_in (by omega)
theorem num_4 {a b c d : Int} (ha : 0 ≤ a ∧ a < 256) (hb : 0 ≤ b ∧ b < 256) (hc : 0 ≤ c ∧ c < 256) (hd : 0 ≤ d ∧ d < 256) :
    IntKind.i64.wrap (IntKind.u64.wrap ((BitVec.ofInt 64 (IntKind.u64.wrap (IntKind.u64.wrap ((BitVec.ofInt 64 (IntKind.u64.wrap (IntKind.u64.wrap ((BitVec.ofInt 64 (IntKind.u64.wrap (IntKind.u64.wrap ((BitVec.ofInt 64 0 ||| BitVec.ofInt 64 (IntKind.u64.wrap a)).toNat : Int) * 256)) ||| BitVec.ofInt 64 (IntKind.u64.wrap b)).toNat : Int) * 256)) ||| BitVec.ofInt 64 (IntKind.u64.wrap c)).toNat : Int) * 256)) ||| BitVec.ofInt 64 (IntKind.u64.wrap d)).toNat : Int)) = ((a * 256 + b) * 256 + c) * 256 + d := by
  rw [or_nil a ha, or_add a b (by omega) hb, or_add _ c (by omega) hc, or_add _ d (by omega) hd]; exact i64_in (by omega)
end Go.Proofs.Ytgjjpffaofdpiaa
end

section
namespace Go.Proofs.Ytgjjpffaofdpiaa
open Go.Sx
set_option maxRecDepth 100000
theorem trimN_le (s : ByteArray) : ∀ n, trimN s n ≤ n
  | 0 => Nat.le_refl _
  | n + 1 => by
    unfold trimN
    split
    · have := trimN_le s n; omega
    · exact Nat.le_refl _
theorem ext_size (s : ByteArray) (m : Nat) (h : m ≤ s.size) : (s.extract 0 m).size = m := by
  rw [ByteArray.size_extract]; omega
theorem ext_get (s : ByteArray) (m i : Nat) (h : m ≤ s.size) (hi : i < m) : (s.extract 0 m).data.getD i 0 = s.data.getD i 0 := by
  rw [ByteArray.data_extract, Array.getD_eq_getD_getElem?, Array.getD_eq_getD_getElem?, Array.getElem?_extract]
  have : s.size = s.data.size := rfl
  rw [if_pos (by omega), Nat.zero_add]
theorem ext_ext (s : ByteArray) (m j : Nat) (hj : j ≤ m) : (s.extract 0 m).extract 0 j = s.extract 0 j := by
  apply ByteArray.ext
  simp only [ByteArray.data_extract, Array.extract_extract, Nat.zero_add]
  rw [Nat.min_eq_left hj]
theorem ext_all (s : ByteArray) : s.extract 0 s.size = s := by
  apply ByteArray.ext
  have : s.size = s.data.size := rfl
  rw [ByteArray.data_extract, this, Array.extract_size]
theorem ok_trim (s : ByteArray) (hs : (s.size : Int) ≤ 9223372036854775807) :
    Owes Try.prog Cx.none [(1, .inv (invTrim s))] 12 Try.f94 [sStr s, .sc (.num .u8 0)] (.one (sStr (trimT s))) := by
  rw [vc_trim]
  refine ⟨fun _ => rfl, s.size, ⟨Nat.le_refl _, rfl⟩, (ext_all s).symm, fun m hm => ?_⟩
  obtain ⟨hm, ht⟩ := hm
  rw [ext_size s m hm]
  have hw : 0 < m → IntKind.i64.wrap ((m : Int) - 1) = ((m - 1 : Nat) : Int) := fun h => by rw [IntKind.wrap_i64]; omega
  refine ⟨id, id, id, id, fun h => ?_, id, id, id, fun h => ?_, fun h => ?_⟩
  · have h := of_decide_eq_true h
    rw [hw (by omega)]
    exact ⟨by omega, by omega⟩
  · obtain ⟨h1, h2⟩ := Bool.and_eq_true_iff.1 h
    have h1 := of_decide_eq_true h1
    have h0 : 0 < m := by omega
    rw [hw h0] at h2 ⊢
    rw [Int.toNat_natCast] at h2 ⊢
    rw [ext_get s m (m - 1) hm (by omega)] at h2
    have h2 := eq_of_beq h2
    refine ⟨⟨by omega, by omega, by omega⟩, m - 1, ⟨by omega, ?_⟩, ext_ext s m (m - 1) (by omega), by show m - 1 + 1 ≤ m; omega⟩
    rw [← ht]
    obtain ⟨j, rfl⟩ : ∃ j, m = j + 1 := ⟨m - 1, by omega⟩
    show trimN s j = trimN s (j + 1)
    have e : trimN s (j + 1) = if ((s.data.getD j 0).toNat : Int) = 0 then trimN s j else j + 1 := rfl
    rw [Nat.add_sub_cancel] at h2
    rw [e, if_pos h2]
  · unfold trimT
    rw [← ht]
    by_cases h0 : m = 0
    · subst h0; rfl
    · obtain ⟨j, rfl⟩ : ∃ j, m = j + 1 := ⟨m - 1, by omega⟩
      rw [hw (by omega), Int.toNat_natCast] at h
      have e : trimN s (j + 1) = if ((s.data.getD j 0).toNat : Int) = 0 then trimN s j else j + 1 := rfl
      rcases Bool.and_eq_false_iff.1 h with h | h
      · exact absurd (of_decide_eq_false h) (by omega)
      · rw [show j + 1 - 1 = j by omega, ext_get s (j + 1) j hm (by omega)] at h
        have h : ((s.data.getD j 0).toNat : Int) ≠ 0 := fun x => by rw [x] at h; exact absurd h (by decide)
        rw [e, if_neg h]
theorem card_trim : FnOK Try.prog 94 specTrim := by
  refine FnOK_owesG (cx := Cx.none) pcx_none Try.func94 (by kernel_rfl) (by kernel_rfl) fun args ps sv hs hp => ?_
  unfold specTrim at hs
  split at hs
  · rename_i s y
    split at hs
    · rename_i hc
      simp only [Option.some.injEq, Prod.mk.injEq] at hs
      obtain ⟨rfl, rfl⟩ := hs
      refine ⟨_, _, [.sc (.val (.string s)), .sc (.num .u8 0)], fun ρ => ?_, ?_, trivial, ok_trim s hp.1⟩
      · show [SA.conc ρ _, SA.conc ρ y] = [_, _]
        rw [asI_sound hc ρ]; rfl
      · intro fz _ x hx
        rcases List.mem_cons.1 hx with rfl | hx
        · exact trivial
        · rw [List.mem_singleton.1 hx]; exact trivial
    · cases hs
  · cases hs
theorem kdF_1 (z : Int) (k : Nat → Nat → Int) (p c : Nat) : kdF z k (1 + p) c = .val (.int .u8 (k (1 + p) c)) := by
  unfold kdF
  rw [show Nat.ble 1 (1 + p) = true from Nat.ble_eq_true_of_le (by omega)]
theorem intsC_u8 (v : Int) : intsC (.val (.int .u8 v)) = v := rfl
end Go.Proofs.Ytgjjpffaofdpiaa
end

section
namespace Go.Proofs.Ytgjjpffaofdpiaa
open Go.Sx
set_option maxRecDepth 100000
theorem ok_rwd2 (s : ByteArray) (_ : (s.size : Int) ≤ 9223372036854775807) : Owes Try.prog Cx.none [(3, .inv (invWd2 s))] 12 Try.f36 [sStr s] (.one (.agg [.f .u8 32 (wdF s)])) := by
  rw [vc_rwd2]
  have z : ∀ j, wdG 0 s j = 0 := fun j => if_neg (by omega)
  refine ⟨fun _ => rfl, 0, ⟨Nat.zero_le _, by decide⟩, rfl, rfl, ?_, rfl, ?_, rfl, fun i hi => ⟨fun h => h, fun h => h, fun h => ?_, fun h => ?_⟩⟩
  · simp only [and_self]
  · simp only [z, and_self]
  · obtain ⟨h1, h2⟩ := Bool.and_eq_true_iff.1 h
    have h1 := of_decide_eq_true h1
    have h2 := of_decide_eq_true h2
    refine ⟨⟨by omega, by omega⟩, ⟨by omega, by omega⟩, ⟨by omega, by omega⟩, i + 1, ⟨by omega, by omega⟩, rfl, by rw [IntKind.wrap_i64]; omega, ⟨fun _ _ => rfl, trivial⟩, rfl, ⟨fun j _ => ?_, trivial⟩, rfl, by show s.size - (i + 1) + 1 ≤ s.size - i; omega⟩
    unfold wdG chr
    rw [Int.toNat_natCast]
    by_cases e : j = i
    · subst e; rw [if_pos rfl, if_pos (by omega)]
    · rw [if_neg e]
      by_cases e' : j < i
      · rw [if_pos e', if_pos (by omega)]
      · rw [if_neg e', if_neg (by omega)]
  · refine ⟨fun j hj => ?_, trivial⟩
    have hx : s.size ≤ i ∨ 32 ≤ i := by
      rcases Bool.and_eq_false_iff.1 h with h | h
      · have := of_decide_eq_false h; omega
      · have := of_decide_eq_false h; omega
    unfold wdG wdF
    by_cases e : j < i
    · rw [if_pos e, if_pos (by omega)]
    · rw [if_neg e, if_neg (by omega)]
theorem card_rwd2 : FnOK Try.prog 36 specWd2 := by
  refine FnOK_owesG (cx := Cx.none) pcx_none Try.func36 (by kernel_rfl) (by kernel_rfl) fun args ps sv hs hp => ?_
  unfold specWd2 at hs
  split at hs
  · rename_i s
    simp only [Option.some.injEq, Prod.mk.injEq] at hs
    obtain ⟨rfl, rfl⟩ := hs
    refine ⟨_, _, [.sc (.val (.string s))], fun ρ => rfl, ?_, fun k hk => ?_, ok_rwd2 s hp.1⟩
    · intro fz _ x hx
      rw [List.mem_singleton.1 hx]; exact trivial
    · rw [List.mem_singleton.1 hk]; exact trivial
  · cases hs
theorem chr_in (s : ByteArray) (i : Nat) : 0 ≤ chr s i ∧ chr s i < 256 := by
  unfold chr
  have := (s.data.getD i 0).toNat_lt
  omega
theorem txN_in (s : ByteArray) : ∀ i, 0 ≤ txN s i ∧ txN s i < 256 ^ i
  | 0 => ⟨Int.le_refl _, by rw [Int.pow_zero]; exact (by decide : (0 : Int) < 1)⟩
  | i + 1 => by
    have ih := txN_in s i
    have := chr_in s i
    rw [txN, Int.pow_succ]
    omega
theorem txN_64 (s : ByteArray) {i : Nat} (h : i ≤ 8) : txN s i < 18446744073709551616 := by
  have h1 := (txN_in s i).2
  have h2 : (256 : Int) ^ i ≤ 256 ^ 8 := by
    have : (256 : Nat) ^ i ≤ 256 ^ 8 := Nat.pow_le_pow_right (by decide) h
    exact_mod_cast this
  have h3 : (256 : Int) ^ 8 = 18446744073709551616 := by decide
  omega
theorem w64 {x : Int} (h : 0 ≤ x ∧ x < 18446744073709551616) : IntKind.u64.wrap x = x := by rw [IntKind.wrap_u64]; omega
theorem wi64 {x : Int} (h : -9223372036854775808 ≤ x ∧ x < 9223372036854775808) : IntKind.i64.wrap x = x := by rw [IntKind.wrap_i64]; omega
theorem ok_rnum (s : ByteArray) (hs : s.size ≤ 8) : Owes Try.prog Cx.none [(3, .inv (invNum s))] 12 Try.f34 [sStr s] (.one (sI .i64 (IntKind.i64.wrap (txN s s.size)))) := by
  rw [vc_rnum]
  refine ⟨fun _ => rfl, 0, Nat.zero_le _, rfl, rfl, rfl, fun i hi => ⟨fun h => ?_, fun h => ?_⟩⟩
  · have h := of_decide_eq_true h
    refine ⟨⟨by omega, by omega⟩, i + 1, by omega, rfl, ?_, by rw [IntKind.wrap_i64]; omega, by show s.size - (i + 1) + 1 ≤ s.size - i; omega⟩
    rw [Int.toNat_natCast]
    show IntKind.u64.wrap (IntKind.u64.wrap (txN s i * 256) + IntKind.u64.wrap (chr s i)) = txN s (i + 1)
    have h1 := txN_64 s (i := i + 1) (by omega)
    have h2 := (txN_in s (i + 1)).1
    have h3 := (txN_in s i).1
    have h4 := chr_in s i
    rw [txN] at h1 h2 ⊢
    rw [w64 (x := txN s i * 256) (by omega), w64 (x := chr s i) (by omega), w64 (by omega)]
  · have h := of_decide_eq_false h
    rw [show i = s.size by omega]
theorem card_rnum : FnOK Try.prog 34 specNum := by
  refine FnOK_owesG (cx := Cx.none) pcx_none Try.func34 (by kernel_rfl) (by kernel_rfl) fun args ps sv hs hp => ?_
  unfold specNum at hs
  split at hs
  · rename_i s
    simp only [Option.some.injEq, Prod.mk.injEq] at hs
    obtain ⟨rfl, rfl⟩ := hs
    refine ⟨_, _, [.sc (.val (.string s))], fun ρ => rfl, ?_, trivial, ok_rnum s hp.1⟩
    intro fz _ x hx
    rw [List.mem_singleton.1 hx]; exact trivial
  · cases hs
def prt (g : Nat → Int) (o : Nat) : Nat → Nat
  | 0 => 0
  | n + 1 => prt g o n * 256 + (g (o + n)).toNat
theorem prt_lt (g : Nat → Int) (h : byteOK 32 g) (o : Nat) : ∀ n, o + n ≤ 32 → prt g o n < 256 ^ n
  | 0, _ => Nat.one_pos
  | n + 1, hn => by
    have ih := prt_lt g h o n (by omega)
    have := h (o + n) (by omega)
    rw [prt, Nat.pow_succ]
    omega
def prtA (g : Nat → Int) (y q : Nat) : Int := (prt g (8 * (3 - q)) (min 8 (y - 8 * (3 - q))) : Nat)
theorem prtA_range (g : Nat → Int) (h : byteOK 32 g) (y q : Nat) : 0 ≤ prtA g y q ∧ prtA g y q < 18446744073709551616 := by
  have h1 := prt_lt g h (8 * (3 - q)) (min 8 (y - 8 * (3 - q))) (by omega)
  have h2 : 256 ^ (min 8 (y - 8 * (3 - q))) ≤ 256 ^ 8 := Nat.pow_le_pow_right (by decide) (Nat.min_le_left _ _)
  have h3 : (256 : Nat) ^ 8 = 18446744073709551616 := by decide
  unfold prtA
  omega
theorem prt_step (g : Nat → Int) (h : byteOK 32 g) (y j : Nat) (hy : y < 32) (hj : j < 4) (e : j = 3 - y / 8) : IntKind.u64.wrap (IntKind.u64.wrap (prtA g y j * 256) + IntKind.u64.wrap (g y)) = prtA g (y + 1) j := by
  subst e
  have b := h y hy
  have e1 : min 8 (y - 8 * (3 - (3 - y / 8))) = y % 8 := by omega
  have e2 : min 8 (y + 1 - 8 * (3 - (3 - y / 8))) = y % 8 + 1 := by omega
  have e3 : 8 * (3 - (3 - y / 8)) + y % 8 = y := by omega
  unfold prtA
  rw [e1, e2, prt, e3]
  have l := prt_lt g h (8 * (3 - (3 - y / 8))) (y % 8) (by omega)
  have l2 : 256 ^ (y % 8) ≤ 256 ^ 7 := Nat.pow_le_pow_right (by decide) (by omega)
  have l3 : (256 : Nat) ^ 7 = 72057594037927936 := by decide
  generalize prt g (8 * (3 - (3 - y / 8))) (y % 8) = p at *
  rw [w64 (x := (p : Int) * 256) (by omega), w64 (x := g y) (by omega), w64 (by omega)]
  omega
theorem prt_rest (g : Nat → Int) (y j : Nat) (hy : y < 32) (hj : j < 4) (e : j ≠ 3 - y / 8) : prtA g y j = prtA g (y + 1) j := by
  unfold prtA
  rw [show min 8 (y + 1 - 8 * (3 - j)) = min 8 (y - 8 * (3 - j)) by omega]
theorem prt_join (g : Nat → Int) : join (prtA g 32 0) (prtA g 32 1) (prtA g 32 2) (prtA g 32 3) = fromN g 32 := by
  unfold join prtA
  simp only [Int.toNat_natCast, Nat.reduceMul, Nat.reduceSub, Nat.reduceLeDiff, Nat.min_eq_left, prt, fromN, Nat.reduceAdd, Nat.reducePow, Nat.min_self, Nat.zero_add, Nat.add_zero]
  omega
theorem ok_rfb2 (g : Nat → Int) (h : byteOK 32 g) : Owes Try.prog Cx.none [(3, .inv (invFB2 g (prtA g)))] 40 Try.f48 [.agg [.f .u8 32 g]] (fromG g) := by
  have hv := vc_rfb2 g (prtA g) (fromN g 32)
  unfold fromG
  rw [hv]
  refine ⟨fun y => rfl, 0, Nat.zero_le _, ⟨fun _ _ => rfl, trivial⟩, rfl, rfl, ⟨?_, ?_, ?_, ?_, trivial⟩, rfl, fun y hy => ⟨fun hl => ?_, fun hl => ?_⟩⟩
  · rfl
  · rfl
  · rfl
  · rfl
  · have hl : (y : Int) < 32 := of_decide_eq_true hl
    have e1 : IntKind.i64.wrap (3 - IntKind.i64.wrap ((y : Int).tdiv 8)) = ((3 - y / 8 : Nat) : Int) := by
      rw [Int.tdiv_eq_ediv_of_nonneg (by omega), wi64 (x := (y : Int) / 8) (by omega), wi64 (by omega)]
      omega
    rw [e1, Int.toNat_natCast, Int.toNat_natCast]
    have b : (0 : Int) ≤ ((3 - y / 8 : Nat) : Int) ∧ ((3 - y / 8 : Nat) : Int) < 4 := by omega
    refine ⟨⟨by omega, hl⟩, b, b, b, b, y + 1, by omega, ⟨fun _ _ => rfl, trivial⟩, ?_, rfl, ⟨fun j hj => ?_, trivial⟩, rfl, by show 32 - (y + 1) + 1 ≤ 32 - y; omega⟩
    · rw [wi64 (by omega)]; rfl
    · by_cases e : j = 3 - y / 8
      · rw [if_pos e, ← e]
        exact prt_step g h y j (by omega) hj e
      · rw [if_neg e]
        exact prt_rest g y j (by omega) hj e
  · have hl : ¬ (y : Int) < 32 := of_decide_eq_false hl
    have e : y = 32 := by omega
    subst e
    refine ⟨prtA_range g h _ _, prtA_range g h _ _, prtA_range g h _ _, prtA_range g h _ _, ?_, trivial⟩
    rw [prt_join]
theorem card_rfb2 : FnOK Try.prog 48 (specB fromG) := by
  refine FnOK_owesG (cx := Cx.none) pcx_none Try.func48 (by kernel_rfl) (by kernel_rfl) fun args ps sv hs hp => ?_
  unfold specB at hs
  split at hs
  case h_2 => cases hs
  rename_i x
  split at hs
  case h_2 => cases hs
  rename_i g hx
  simp only [Option.some.injEq, Prod.mk.injEq] at hs
  obtain ⟨rfl, rfl⟩ := hs
  refine ⟨_, _, [.agg [.f .u8 32 g]], fun ρ => ?_, ?_, bnd_one (bnd_U _), ok_rfb2 g hp.1⟩
  · simp only [List.map_cons, List.map_nil]
    rw [asBy_sound hx ρ]
  · intro fz _ x hx
    rw [List.mem_singleton.1 hx]
    intro k hk
    rw [List.mem_singleton.1 hk]; exact trivial
theorem wdF_in (s : ByteArray) (i : Nat) : 0 ≤ wdF s i ∧ wdF s i < 256 := by
  unfold wdF
  split
  · exact chr_in s i
  · exact ⟨by omega, by omega⟩
theorem ok_rwo (s : ByteArray) (hs : (s.size : Int) ≤ 9223372036854775807) : Owes Try.prog cxWo [] 12 Try.f35 [sStr s] (.one (sU (fromN (wdF s) 32))) := by
  rw [vc_rwo]
  exact ⟨hs, fun j _ => wdF_in s j, rfl, trivial⟩
theorem card_rwo : FnOK Try.prog 35 specWo := by
  refine FnOK_owesG (cx := cxWo) (okx_cons card_rwd2 (okx_cons card_rfb2 okx_nil)) Try.func35 (by kernel_rfl) (by kernel_rfl) fun args ps sv hs hp => ?_
  unfold specWo at hs
  split at hs
  · rename_i s
    simp only [Option.some.injEq, Prod.mk.injEq] at hs
    obtain ⟨rfl, rfl⟩ := hs
    refine ⟨_, _, [.sc (.val (.string s))], fun ρ => rfl, ?_, bnd_one (bnd_U _), ok_rwo s hp.1⟩
    intro fz _ x hx
    rw [List.mem_singleton.1 hx]; exact trivial
  · cases hs
end Go.Proofs.Ytgjjpffaofdpiaa
end

section
namespace Go.Proofs.Ytgjjpffaofdpiaa
open Go.Sx
set_option maxRecDepth 100000
def n2 (F : Nat → Int) (o : Nat) : Int := F o * 256 + F (o + 1)
def n4 (F : Nat → Int) (o : Nat) : Int := ((F o * 256 + F (o + 1)) * 256 + F (o + 2)) * 256 + F (o + 3)
def zI (e x : Int) : Int := if e = 0 then x else 0
def zN (e : Int) (x : Nat) : Nat := if e = 0 then x else 0
def zT (e : Int) (t : ByteArray) : ByteArray := if e = 0 then t else ⟨#[]⟩
theorem zI_4 (v : Int) : zI 4 v = 0 := if_neg (by decide)
theorem zN_4 (v : Nat) : zN 4 v = 0 := if_neg (by decide)
theorem zT_4 (v : ByteArray) : zT 4 v = ⟨#[]⟩ := if_neg (by decide)
theorem zI_3 (v : Int) : zI 3 v = 0 := if_neg (by decide)
theorem zN_3 (v : Nat) : zN 3 v = 0 := if_neg (by decide)
theorem zT_3 (v : ByteArray) : zT 3 v = ⟨#[]⟩ := if_neg (by decide)
theorem zI_0 (v : Int) : zI 0 v = v := if_pos rfl
theorem zN_0 (v : Nat) : zN 0 v = v := if_pos rfl
theorem zT_0 (v : ByteArray) : zT 0 v = v := if_pos rfl
def dAm (F : Nat → Int) : Nat := fromN (fun j => F (1 + j)) 32
def dFe (F : Nat → Int) : Nat := fromN (fun j => F (101 + j)) 32
def rdE1 (n : Nat) (F : Nat → Int) : Int := if n < 133 then 4 else if n = 133 ∧ cmpN (dFe F) (dAm F) ≤ 0 then 0 else 3
theorem fromN_congr {g g' : Nat → Int} (h : ∀ j, j < 32 → g j = g' j) : ∀ n, fromN g n = fromN g' n
  | 0 => rfl
  | n + 1 => by
    unfold fromN
    rw [fromN_congr h n, h (31 - n) (by omega)]
theorem kdF_u8 (z : Int) (k : Nat → Nat → Int) (p : Nat) : asI (SA.sc (kdF z k (1 + p) 0)) = some (.u8, k (1 + p) 0) := by
  rw [kdF_1]; rfl
theorem two_in {F : Nat → Int} {o : Nat} (h0 : 0 ≤ F o ∧ F o < 256) (h1 : 0 ≤ F (o + 1) ∧ F (o + 1) < 256) : (decide (0 ≤ n2 F o) && decide (n2 F o ≤ 65535)) = true := by
  unfold n2
  rw [Bool.and_eq_true_iff]
  exact ⟨decide_eq_true (by omega), decide_eq_true (by omega)⟩
theorem kd_if {z : Int} {k : Nat → Nat → Int} {F : Nat → Int} (hF : ∀ i, k i 0 = F i) {p j m q : Nat} (hj : j < m) (hq : 1 + p = q) : (if j < m then intsC (kdF z k (1 + p) 0) else 0) = F q := by
  rw [if_pos hj, kdF_1, hq]
  exact hF q
theorem kd_if' {k : Nat → Nat → Int} {F : Nat → Int} (hF : ∀ i, k i 0 = F i) {p j m q : Nat} (hj : j < m) (hq : p = q) : (if j < m then k p 0 else 0) = F q := by
  rw [if_pos hj, hq]
  exact hF q
theorem kd_byte {z : Int} {k : Nat → Nat → Int} {n : Nat} (hk : ∀ i, i < n → 0 ≤ k i 0 ∧ k i 0 < 256) {p j m : Nat} (hj : j < m → 1 + p < n) : 0 ≤ (if j < m then intsC (kdF z k (1 + p) 0) else 0) ∧ (if j < m then intsC (kdF z k (1 + p) 0) else 0) < 256 := by
  by_cases h : j < m
  · rw [if_pos h, kdF_1]
    exact hk _ (hj h)
  · rw [if_neg h]
    exact ⟨by omega, by omega⟩
set_option maxHeartbeats 400000 in
theorem ok_ldc1 (a : Option Addr) (n cap : Nat) (k : Nat → Nat → Int) (hk : ∀ i, i < n → 0 ≤ k i 0 ∧ k i 0 < 256) (F : Nat → Int) (hF : ∀ i, k i 0 = F i) (dk kk : Nat → Nat → Int) (h0 : 0 < n) :
    OwesQ Try.prog cxLd [] [] [] 30 Try.f22 [.sc (.xs a n cap 1 (kdF 1 k))] false
      [.st [.k (.c (.val (.int .i64 (zI (rdE1 n F) 1)))), .k (.u (zN (rdE1 n F) (dAm F))), .k (.u (zN (rdE1 n F) (dFe F))), .k (.f .u8 32 (fun j => zI (rdE1 n F) (F (33 + j)))), .k (.c (.val (.int .i64 (zI (rdE1 n F) (n2 F 65))))), .k (.f .u8 32 (fun j => zI (rdE1 n F) (F (67 + j)))), .k (.c (.val (.int .i64 (zI (rdE1 n F) (n2 F 99))))), .k (.c (.val (.int .i64 0))), .k (.c (.val (.string ⟨#[]⟩))), .s 0 1 (u8F dk), .k (.c (.val (.int .i64 0))), .s 0 20 (u8F kk)], .v (sI .i64 (rdE1 n F))] := by
  rw [vc_ldc1]
  intro x1 x2 x3 x4 x5 x6 x7 x8 x9 x10 x11 x12 x13 x14 x15 x16 x17 x18 x19 x20 x21 x22 x23 x24 x25 x26 x27 x28 x29 x30 x31 x32 x33 x34 x35 x36 x37 x38
  have hx1 : x1 = zN (rdE1 n F) (dAm F) % M256 := rfl
  have hx2 : x2 = zN (rdE1 n F) (dFe F) % M256 := rfl
  have e3 : x3 = n - 1 := rfl
  have l4 : x4 ≤ x3 := Nat.min_le_left _ _
  have f4 : 32 ≤ x3 → x4 = 32 := fun h => Nat.min_eq_right h
  have i4 : x5 = (x4 : Int) := rfl
  have j4 : x6 = (x3 : Int) := rfl
  have t4 : x7 = x4 := Int.toNat_natCast _
  have d4 : x7 + x8 = x3 := Nat.add_sub_cancel' (by rw [t4]; exact l4)
  have l9 : x9 ≤ x8 := Nat.min_le_left _ _
  have f9 : 32 ≤ x8 → x9 = 32 := fun h => Nat.min_eq_right h
  have i9 : x10 = (x9 : Int) := rfl
  have j9 : x11 = (x8 : Int) := rfl
  have t9 : x12 = x9 := Int.toNat_natCast _
  have d9 : x12 + x13 = x8 := Nat.add_sub_cancel' (by rw [t9]; exact l9)
  have l14 : x14 ≤ x13 := Nat.min_le_left _ _
  have f14 : 2 ≤ x13 → x14 = 2 := fun h => Nat.min_eq_right h
  have i14 : x15 = (x14 : Int) := rfl
  have j14 : x16 = (x13 : Int) := rfl
  have t14 : x17 = x14 := Int.toNat_natCast _
  have d14 : x17 + x18 = x13 := Nat.add_sub_cancel' (by rw [t14]; exact l14)
  have l19 : x19 ≤ x18 := Nat.min_le_left _ _
  have f19 : 32 ≤ x18 → x19 = 32 := fun h => Nat.min_eq_right h
  have i19 : x20 = (x19 : Int) := rfl
  have j19 : x21 = (x18 : Int) := rfl
  have t19 : x22 = x19 := Int.toNat_natCast _
  have d19 : x22 + x23 = x18 := Nat.add_sub_cancel' (by rw [t19]; exact l19)
  have l24 : x24 ≤ x23 := Nat.min_le_left _ _
  have f24 : 2 ≤ x23 → x24 = 2 := fun h => Nat.min_eq_right h
  have i24 : x25 = (x24 : Int) := rfl
  have j24 : x26 = (x23 : Int) := rfl
  have t24 : x27 = x24 := Int.toNat_natCast _
  have d24 : x27 + x28 = x23 := Nat.add_sub_cancel' (by rw [t24]; exact l24)
  have l29 : x29 ≤ x28 := Nat.min_le_left _ _
  have f29 : 32 ≤ x28 → x29 = 32 := fun h => Nat.min_eq_right h
  have i29 : x30 = (x29 : Int) := rfl
  have j29 : x31 = (x28 : Int) := rfl
  have G : ∀ _ : Unit, 133 ≤ n → x4 = 32 ∧ x7 = 32 ∧ x8 = n - 33 ∧ x9 = 32 ∧ x12 = 32 ∧ x13 = n - 65 ∧ x14 = 2 ∧ x17 = 2 ∧ x18 = n - 67 ∧ x19 = 32 ∧ x22 = 32 ∧ x23 = n - 99 ∧ x24 = 2 ∧ x27 = 2 ∧ x28 = n - 101 ∧ x29 = 32 := fun _ h => by
    have q3 : x3 = n - 1 := e3
    have q4 := f4 (by omega)
    have q8 : x8 = n - 33 := by omega
    have q9 := f9 (by omega)
    have q13 : x13 = n - 65 := by omega
    have q14 := f14 (by omega)
    have q18 : x18 = n - 67 := by omega
    have q19 := f19 (by omega)
    have q23 : x23 = n - 99 := by omega
    have q24 := f24 (by omega)
    have q28 : x28 = n - 101 := by omega
    have q29 := f29 (by omega)
    exact ⟨q4, t4.trans q4, q8, q9, t9.trans q9, q13, q14, t14.trans q14, q18, q19, t19.trans q19, q23, q24, t24.trans q24, q28, q29⟩
  clear f4 f9 f14 f19 f24 f29
  have B : ∀ i, i < n → 0 ≤ F i ∧ F i < 256 := fun i hi => by rw [← hF]; exact hk i hi
  have c32 : ∀ _ : Unit, 133 ≤ n → x32 = n2 F 65 := fun _ h => by
    obtain ⟨q4, q7, q8, q9, q12, q13, q14, q17, q18, q19, q22, q23, q24, q27, q28, q29⟩ := G () h
    show IntKind.i64.wrap (IntKind.u64.wrap _) = _
    rw [kd_if hF (q := 65) (by omega) (by omega), kd_if' hF (q := 66) (by omega) (by omega)]
    exact num_2 (B 65 (by omega)) (B 66 (by omega))
  have c34 : ∀ _ : Unit, 133 ≤ n → x34 = n2 F 99 := fun _ h => by
    obtain ⟨q4, q7, q8, q9, q12, q13, q14, q17, q18, q19, q22, q23, q24, q27, q28, q29⟩ := G () h
    show IntKind.i64.wrap (IntKind.u64.wrap _) = _
    rw [kd_if hF (q := 99) (by omega) (by omega), kd_if' hF (q := 100) (by omega) (by omega)]
    exact num_2 (B 99 (by omega)) (B 100 (by omega))
  have c36 : ∀ _ : Unit, 133 ≤ n → x36 = dFe F := fun _ h => by
    obtain ⟨q4, q7, q8, q9, q12, q13, q14, q17, q18, q19, q22, q23, q24, q27, q28, q29⟩ := G () h
    exact fromN_congr (fun j hj => kd_if hF (by omega) (by omega)) 32
  have c37 : ∀ _ : Unit, 133 ≤ n → x37 = dAm F := fun _ h => by
    obtain ⟨q4, q7, q8, q9, q12, q13, q14, q17, q18, q19, q22, q23, q24, q27, q28, q29⟩ := G () h
    exact fromN_congr (fun j hj => kd_if hF (by omega) (by omega)) 32
  have c35 : ∀ _ : Unit, 133 ≤ n → x35 = true := fun _ h => by
    show (decide (0 ≤ x32) && decide (x32 ≤ 65535) && (decide (0 ≤ x34) && decide (x34 ≤ 65535))) = true
    rw [c32 () h, c34 () h, two_in (B 65 (by omega)) (B 66 (by omega)), two_in (B 99 (by omega)) (B 100 (by omega))]; rfl
  have c38 : ∀ _ : Unit, 133 ≤ n → x38 = cmpN (dFe F) (dAm F) := fun _ h => by
    show cmpN x36 x37 = _
    rw [c36 () h, c37 () h]
  clear_value x1 x2 x3 x4 x5 x6 x7 x8 x9 x10 x11 x12 x13 x14 x15 x16 x17 x18 x19 x20 x21 x22 x23 x24 x25 x26 x27 x28 x29 x30 x31 x32 x33 x34 x35 x36 x37 x38
  refine ⟨fun h => ?_, fun h => ⟨⟨by omega, by omega⟩, ⟨by omega, by omega, by omega⟩, fun j => ?_, ⟨by omega, by omega, by omega⟩, fun j hj => kd_byte hk (by omega), fun j => ?_, ⟨by omega, by omega, by omega⟩, fun j => ?_, ⟨by omega, by omega, by omega⟩, fun j => ?_, ⟨by omega, by omega, by omega⟩, fun j => ?_, ⟨by omega, by omega, by omega⟩, fun j => ?_, ⟨by omega, by omega, by omega⟩, fun j hj => kd_byte hk (by omega), fun hs => ?_, fun hs => ⟨fun hg => ⟨hg, id, id, id, id, id, id, id, id, id, id, id, id, id, id, id, fun hb => ?_, fun hb => ?_⟩, fun hg => ?_⟩⟩⟩
  · have := eq_of_beq h; omega
  · rw [kdF_u8]; exact trivial
  · rw [kdF_u8]; exact trivial
  · rw [kdF_u8]; exact trivial
  · rw [kdF_u8]; exact trivial
  · rw [kdF_u8]; exact trivial
  · rw [kdF_u8]; exact trivial
  · have hs := of_decide_eq_true hs
    have he : rdE1 n F = 4 := if_pos (by omega)
    rw [hx1, hx2, he]
    simp only [zI_4, zN_4, Nat.zero_mod, and_self]
  · have hs := of_decide_eq_false hs
    have hg : ¬ (x6 > 132) := by simpa using hg
    rw [c35 () (by omega), c38 () (by omega)] at hb
    have he : rdE1 n F = 3 := by
      unfold rdE1
      rw [if_neg (by omega), if_neg (fun h => by rw [decide_eq_true h.2] at hb; exact absurd hb (by decide))]
    rw [hx1, hx2, he]
    simp only [zI_3, zN_3, Nat.zero_mod, and_self]
  · have hs := of_decide_eq_false hs
    have hg : ¬ (x6 > 132) := by simpa using hg
    rw [c35 () (by omega), c38 () (by omega)] at hb
    have he : rdE1 n F = 0 := by
      unfold rdE1
      rw [if_neg (by omega), if_pos ⟨by omega, by simpa using hb⟩]
    rw [hx1, hx2, he, c32 () (by omega), c34 () (by omega), c36 () (by omega), c37 () (by omega)]
    simp only [zI_0, zN_0, and_self, and_true, true_and]
    obtain ⟨q4, q7, q8, q9, q12, q13, q14, q17, q18, q19, q22, q23, q24, q27, q28, q29⟩ := G () (by omega)
    exact ⟨fun j hj => kd_if hF (by omega) (by omega), fun j hj => kd_if hF (by omega) (by omega)⟩
  · have hs := of_decide_eq_false hs
    have hg : x6 > 132 := by simpa using hg
    have he : rdE1 n F = 3 := by
      unfold rdE1
      rw [if_neg (by omega), if_neg (fun h => by omega)]
    rw [hx1, hx2, he]
    simp only [zI_3, zN_3, Nat.zero_mod, and_self]
theorem ok_ldc0 (a : Option Addr) (n cap : Nat) (k : Nat → Nat → Int) (F : Nat → Int) (hF : ∀ i, k i 0 = F i) (tk to : Nat → Int) (dk kk : Nat → Nat → Int) (hk : 0 < n → 0 ≤ F 0 ∧ F 0 < 256) (ht : ∀ i, i < 32 → tk i = 0) (ho : ∀ i, i < 32 → to i = 0)
    (h : n = 0 ∨ ¬ (F 0 = 1 ∨ F 0 = 2 ∨ F 0 = 3 ∨ F 0 = 4)) :
    OwesQ Try.prog cxLd8 [] [] [] 30 Try.f22 [.sc (.xs a n cap 1 (u8F k))] false
      [.st [.k (.c (.val (.int .i64 0))), .k (.u 0), .k (.u 0), .k (.f .u8 32 tk), .k (.c (.val (.int .i64 0))), .k (.f .u8 32 to), .k (.c (.val (.int .i64 0))), .k (.c (.val (.int .i64 0))), .k (.c (.val (.string ⟨#[]⟩))), .s 0 1 (u8F dk), .k (.c (.val (.int .i64 0))), .s 0 20 (u8F kk)], .v (sI .i64 (if n = 0 then 4 else 2))] := by
  rw [vc_ldc0]
  refine ⟨fun h1 => ?_, fun h1 => ?_⟩
  · have h1 : n = 0 := by have := eq_of_beq h1; omega
    rw [if_pos h1]
    simp [ht, ho]
  · have h1 : n ≠ 0 := fun e => by subst e; exact absurd h1 (by decide)
    have b := hk (by omega)
    have w : IntKind.i64.wrap (k 0 0) = F 0 := by rw [hF, IntKind.wrap_i64]; omega
    rw [w, if_neg h1]
    have h : ¬ (F 0 = 1 ∨ F 0 = 2 ∨ F 0 = 3 ∨ F 0 = 4) := h.resolve_left h1
    have m1 : F 0 ≠ 1 := by omega
    have m2 : F 0 ≠ 2 := by omega
    have m3 : F 0 ≠ 3 := by omega
    have m4 : F 0 ≠ 4 := by omega
    simp [m1, m2, m3, m4, ht, ho]
    omega
end Go.Proofs.Ytgjjpffaofdpiaa
end

section
namespace Go.Proofs.Ytgjjpffaofdpiaa
open Go.Sx
theorem ss_size {n : Nat} {F : Nat → Int} : (bytesI ((List.range n).map F)).size = n := by rw [byI_size, List.length_map, List.length_range]
theorem chr_ss {n : Nat} {F : Nat → Int} (hb : ∀ i, i < n → 0 ≤ F i ∧ F i < 256) {i : Nat} (hi : i < n) : chr (bytesI ((List.range n).map F)) i = F i :=
  byI_cell (by rw [List.getElem?_map, List.getElem?_range hi]; rfl) (hb i hi)
theorem sub_size (s : ByteArray) {a b : Nat} (h : b ≤ s.size) : (s.extract a b).size = b - a := by
  rw [ByteArray.size_extract]; omega
theorem chr_sub (s : ByteArray) {a b i : Nat} (hb : b ≤ s.size) (h : a + i < b) : chr (s.extract a b) i = chr s (a + i) := by
  unfold chr
  congr 1
  rw [ByteArray.data_extract, Array.getD_eq_getD_getElem?, Array.getD_eq_getD_getElem?, Array.getElem?_extract]
  have : s.size = s.data.size := rfl
  rw [if_pos (by omega)]
theorem sub_sub (s : ByteArray) {a b c d : Nat} (_ : b ≤ s.size) (hd : a + d ≤ b) : (s.extract a b).extract c d = s.extract (a + c) (a + d) := by
  apply ByteArray.ext
  simp only [ByteArray.data_extract, Array.extract_extract]
  rw [Nat.min_eq_left hd]
structure told1 (S : ByteArray) (z : Nat) (G : Nat → Int) : Prop where
  sz : S.size = z
  ch : ∀ i, i < z → chr S i = G i
theorem told1.sub {S : ByteArray} {z : Nat} {G : Nat → Int} (h : told1 S z G) {a b : Nat} (hb : b ≤ z) : told1 (S.extract a b) (b - a) (fun i => G (a + i)) :=
  ⟨sub_size S (by rw [h.sz]; exact hb), fun i hi => by rw [chr_sub S (by rw [h.sz]; exact hb) (by omega)]; exact h.ch _ (by omega)⟩
theorem told1.wd {S : ByteArray} {z : Nat} {G : Nat → Int} (h : told1 S z G) {j : Nat} (hj : j < z) : wdF S j = G j := by
  unfold wdF
  rw [if_pos (by rw [h.sz]; exact hj), h.ch j hj]
theorem told1.two {S : ByteArray} {G : Nat → Int} (h : told1 S 2 G) : IntKind.i64.wrap (txN S S.size) = n2 G 0 := by
  rw [h.sz]
  show IntKind.i64.wrap ((0 * 256 + chr S 0) * 256 + chr S 1) = G 0 * 256 + G (0 + 1)
  rw [h.ch 0 (by omega), h.ch 1 (by omega)]
  have h0 := chr_in S 0
  have h1 := chr_in S 1
  rw [h.ch 0 (by omega)] at h0
  rw [h.ch 1 (by omega)] at h1
  rw [Int.zero_mul, Int.zero_add]
  exact wi64 (by omega)
theorem told1.four {S : ByteArray} {G : Nat → Int} (h : told1 S 4 G) : IntKind.i64.wrap (txN S S.size) = n4 G 0 := by
  rw [h.sz]
  show IntKind.i64.wrap ((((0 * 256 + chr S 0) * 256 + chr S 1) * 256 + chr S 2) * 256 + chr S 3) = ((G 0 * 256 + G (0 + 1)) * 256 + G (0 + 2)) * 256 + G (0 + 3)
  rw [h.ch 0 (by omega), h.ch 1 (by omega), h.ch 2 (by omega), h.ch 3 (by omega)]
  have h0 := chr_in S 0
  have h1 := chr_in S 1
  have h2 := chr_in S 2
  have h3 := chr_in S 3
  rw [h.ch 0 (by omega)] at h0
  rw [h.ch 1 (by omega)] at h1
  rw [h.ch 2 (by omega)] at h2
  rw [h.ch 3 (by omega)] at h3
  rw [Int.zero_mul, Int.zero_add]
  exact wi64 (by omega)
theorem told1.all {S S' : ByteArray} {z : Nat} {G : Nat → Int} (h : told1 S z G) (h' : told1 S' z G) : S = S' := by
  have q : ∀ i, i < z → S.data.getD i 0 = S'.data.getD i 0 := fun i hi => by
    have e := (h.ch i hi).trans (h'.ch i hi).symm
    unfold chr at e
    exact UInt8.toNat_inj.1 (by exact_mod_cast e)
  apply ByteArray.ext
  have s1 : S.data.size = z := h.sz
  have s2 : S'.data.size = z := h'.sz
  apply Array.ext (by rw [s1, s2])
  intro i h1 h2
  have := q i (by omega)
  rw [Array.getD_eq_getD_getElem?, Array.getD_eq_getD_getElem?, Array.getElem?_eq_getElem h1, Array.getElem?_eq_getElem h2] at this
  exact this
end Go.Proofs.Ytgjjpffaofdpiaa
end

section
namespace Go.Proofs.Ytgjjpffaofdpiaa
open Go.Sx
set_option maxRecDepth 100000
theorem vc_ldc2 (a : Option Addr) (n cap : Nat) (k : Nat → Nat → Int) (am fe : Nat) (tk : Nat → Int) (hm : Int) (to : Nat → Int) (tc dc : Int) (sy : ByteArray) (m : Nat) (dk : Nat → Nat → Int) (ix : Int) (y : Nat) (kk : Nat → Nat → Int) (z e : Int) :
    OwesQ Try.prog cxLd2 [] [] [] 30 Try.f22 [.sc (.xs a n cap 1 (kdF 2 k))] false [.st [.k (.c (.val (.int .i64 z))), .k (.u am), .k (.u fe), .k (.f .u8 32 tk), .k (.c (.val (.int .i64 hm))), .k (.f .u8 32 to), .k (.c (.val (.int .i64 tc))), .k (.c (.val (.int .i64 dc))), .k (.c (.val (.string sy))), .s m 1 (u8F dk), .k (.c (.val (.int .i64 ix))), .s y 20 (u8F kk)], .v (sI .i64 e)] =
    (let x1 : Nat := n - 1; let x2 : Nat := x1.min 32; let x3 : Int := (↑x2 : Int); let x4 : Int := (↑x1 : Int); let x5 : Nat := x3.toNat; let x6 : Nat := x1 - x5; let x7 : Nat := x6.min 2; let x8 : Int := (↑x7 : Int); let x9 : Int := (↑x6 : Int); let x10 : Nat := x8.toNat; let x11 : Nat := x6 - x10; let x12 : Nat := x11.min 1; let x13 : Int := (↑x12 : Int); let x14 : Int := (↑x11 : Int); let x15 : Nat := x13.toNat; let x16 : Nat := x11 - x15; let x17 : Nat := x16.min 32; let x18 : Int := (↑x17 : Int); let x19 : Int := (↑x16 : Int); let x20 : Int := Go.IntKind.i64.wrap (Go.IntKind.u64.wrap (↑(BitVec.ofInt 64 (Go.IntKind.u64.wrap (Go.IntKind.u64.wrap (↑(BitVec.ofInt 64 (0 : Int) ||| BitVec.ofInt 64 (Go.IntKind.u64.wrap (if 0 < x7 then intsC (kdF (2 : Int) k (1 + (x5 + 0)) 0) else (0 : Int)))).toNat : Int) * (256 : Int))) ||| BitVec.ofInt 64 (Go.IntKind.u64.wrap (if 1 < x7 then k (1 + (x5 + 1)) 0 else (0 : Int)))).toNat : Int)); let x21 : Bool := Decidable.decide ((0 : Int) ≤ x20) && Decidable.decide (x20 ≤ (65535 : Int)); let x22 : Int := Go.IntKind.i64.wrap (Go.IntKind.u64.wrap (↑(BitVec.ofInt 64 (0 : Int) ||| BitVec.ofInt 64 (Go.IntKind.u64.wrap (if 0 < x12 then intsC (kdF (2 : Int) k (1 + (x5 + (x10 + 0))) 0) else (0 : Int)))).toNat : Int)); let x23 : Bool := x21 && (Decidable.decide ((0 : Int) ≤ x22) && Decidable.decide (x22 ≤ (77 : Int))); let x24 : Int := (↑(trimT (bytesI (intsL [SK.f Go.IntKind.u8 32 fun (j : Nat) => if j < x17 then intsC (kdF (2 : Int) k (1 + (x5 + (x10 + (x15 + j)))) 0) else (0 : Int)]))).size : Int); let x25 : Bool := x23 && Decidable.decide (x24 ≤ (32 : Int)); (((↑n : Int) == (0 : Int)) = Bool.true → (((0 : Int) = z ∧ True) ∧ (0 = am % M256 ∧ True) ∧ (0 = fe % M256 ∧ True) ∧ ((0 : Int) = tk 0 ∧ (0 : Int) = tk 1 ∧ (0 : Int) = tk 2 ∧ (0 : Int) = tk 3 ∧ (0 : Int) = tk 4 ∧ (0 : Int) = tk 5 ∧ (0 : Int) = tk 6 ∧ (0 : Int) = tk 7 ∧ (0 : Int) = tk 8 ∧ (0 : Int) = tk 9 ∧ (0 : Int) = tk 10 ∧ (0 : Int) = tk 11 ∧ (0 : Int) = tk 12 ∧ (0 : Int) = tk 13 ∧ (0 : Int) = tk 14 ∧ (0 : Int) = tk 15 ∧ (0 : Int) = tk 16 ∧ (0 : Int) = tk 17 ∧ (0 : Int) = tk 18 ∧ (0 : Int) = tk 19 ∧ (0 : Int) = tk 20 ∧ (0 : Int) = tk 21 ∧ (0 : Int) = tk 22 ∧ (0 : Int) = tk 23 ∧ (0 : Int) = tk 24 ∧ (0 : Int) = tk 25 ∧ (0 : Int) = tk 26 ∧ (0 : Int) = tk 27 ∧ (0 : Int) = tk 28 ∧ (0 : Int) = tk 29 ∧ (0 : Int) = tk 30 ∧ (0 : Int) = tk 31 ∧ True) ∧ ((0 : Int) = hm ∧ True) ∧ ((0 : Int) = to 0 ∧ (0 : Int) = to 1 ∧ (0 : Int) = to 2 ∧ (0 : Int) = to 3 ∧ (0 : Int) = to 4 ∧ (0 : Int) = to 5 ∧ (0 : Int) = to 6 ∧ (0 : Int) = to 7 ∧ (0 : Int) = to 8 ∧ (0 : Int) = to 9 ∧ (0 : Int) = to 10 ∧ (0 : Int) = to 11 ∧ (0 : Int) = to 12 ∧ (0 : Int) = to 13 ∧ (0 : Int) = to 14 ∧ (0 : Int) = to 15 ∧ (0 : Int) = to 16 ∧ (0 : Int) = to 17 ∧ (0 : Int) = to 18 ∧ (0 : Int) = to 19 ∧ (0 : Int) = to 20 ∧ (0 : Int) = to 21 ∧ (0 : Int) = to 22 ∧ (0 : Int) = to 23 ∧ (0 : Int) = to 24 ∧ (0 : Int) = to 25 ∧ (0 : Int) = to 26 ∧ (0 : Int) = to 27 ∧ (0 : Int) = to 28 ∧ (0 : Int) = to 29 ∧ (0 : Int) = to 30 ∧ (0 : Int) = to 31 ∧ True) ∧ ((0 : Int) = tc ∧ True) ∧ ((0 : Int) = dc ∧ True) ∧ ((ByteArray.mk #[]) = sy ∧ True) ∧ m = 0 ∧ ((0 : Int) = ix ∧ True) ∧ y = 0 ∧ True) ∧ (4 : Int) = e) ∧ (((↑n : Int) == (0 : Int)) = Bool.false → ((0 : Int) ≤ (0 : Int) ∧ (0 : Int) < (↑n : Int)) ∧ ((0 : Int) ≤ (1 : Int) ∧ (1 : Int) ≤ (↑n : Int) ∧ (↑n : Int) ≤ (↑n : Int)) ∧ (∀ (j : Nat), Option.rec False (fun (val : Go.IntKind × Int) => Prod.casesOn val fun (fst : Go.IntKind) (_ : Int) => if Go.IntKind.u8 = fst then True else False) (asI (SA.sc (kdF (2 : Int) k (1 + j) 0)))) ∧ ((0 : Int) ≤ x3 ∧ x3 ≤ x4 ∧ x4 ≤ x4) ∧ (∀ (j : Nat), Option.rec False (fun (val : Go.IntKind × Int) => Prod.casesOn val fun (fst : Go.IntKind) (_ : Int) => if Go.IntKind.u8 = fst then True else False) (asI (SA.sc (kdF (2 : Int) k (1 + (x5 + j)) 0)))) ∧ ((0 : Int) ≤ x8 ∧ x8 ≤ x9 ∧ x9 ≤ x9) ∧ (∀ (j : Nat), Option.rec False (fun (val : Go.IntKind × Int) => Prod.casesOn val fun (fst : Go.IntKind) (_ : Int) => if Go.IntKind.u8 = fst then True else False) (asI (SA.sc (kdF (2 : Int) k (1 + (x5 + (x10 + j))) 0)))) ∧ ((0 : Int) ≤ x13 ∧ x13 ≤ x14 ∧ x14 ≤ x14) ∧ (∀ (j : Nat), Option.rec False (fun (val : Go.IntKind × Int) => Prod.casesOn val fun (fst : Go.IntKind) (_ : Int) => if Go.IntKind.u8 = fst then True else False) (asI (SA.sc (kdF (2 : Int) k (1 + (x5 + (x10 + (x15 + j)))) 0)))) ∧ ((0 : Int) ≤ x18 ∧ x18 ≤ x19 ∧ x19 ≤ x19) ∧ (↑(bytesI (intsL [SK.f Go.IntKind.u8 32 fun (j : Nat) => if j < x17 then intsC (kdF (2 : Int) k (1 + (x5 + (x10 + (x15 + j)))) 0) else (0 : Int)])).size : Int) ≤ (9223372036854775807 : Int) ∧ (ByteArray.mk #[(0 : UInt8)]) = (ByteArray.mk #[(0 : UInt8)]) ∧ (Decidable.decide (x4 < (67 : Int)) = Bool.true → (((0 : Int) = z ∧ True) ∧ (0 = am % M256 ∧ True) ∧ (0 = fe % M256 ∧ True) ∧ ((0 : Int) = tk 0 ∧ (0 : Int) = tk 1 ∧ (0 : Int) = tk 2 ∧ (0 : Int) = tk 3 ∧ (0 : Int) = tk 4 ∧ (0 : Int) = tk 5 ∧ (0 : Int) = tk 6 ∧ (0 : Int) = tk 7 ∧ (0 : Int) = tk 8 ∧ (0 : Int) = tk 9 ∧ (0 : Int) = tk 10 ∧ (0 : Int) = tk 11 ∧ (0 : Int) = tk 12 ∧ (0 : Int) = tk 13 ∧ (0 : Int) = tk 14 ∧ (0 : Int) = tk 15 ∧ (0 : Int) = tk 16 ∧ (0 : Int) = tk 17 ∧ (0 : Int) = tk 18 ∧ (0 : Int) = tk 19 ∧ (0 : Int) = tk 20 ∧ (0 : Int) = tk 21 ∧ (0 : Int) = tk 22 ∧ (0 : Int) = tk 23 ∧ (0 : Int) = tk 24 ∧ (0 : Int) = tk 25 ∧ (0 : Int) = tk 26 ∧ (0 : Int) = tk 27 ∧ (0 : Int) = tk 28 ∧ (0 : Int) = tk 29 ∧ (0 : Int) = tk 30 ∧ (0 : Int) = tk 31 ∧ True) ∧ ((0 : Int) = hm ∧ True) ∧ ((0 : Int) = to 0 ∧ (0 : Int) = to 1 ∧ (0 : Int) = to 2 ∧ (0 : Int) = to 3 ∧ (0 : Int) = to 4 ∧ (0 : Int) = to 5 ∧ (0 : Int) = to 6 ∧ (0 : Int) = to 7 ∧ (0 : Int) = to 8 ∧ (0 : Int) = to 9 ∧ (0 : Int) = to 10 ∧ (0 : Int) = to 11 ∧ (0 : Int) = to 12 ∧ (0 : Int) = to 13 ∧ (0 : Int) = to 14 ∧ (0 : Int) = to 15 ∧ (0 : Int) = to 16 ∧ (0 : Int) = to 17 ∧ (0 : Int) = to 18 ∧ (0 : Int) = to 19 ∧ (0 : Int) = to 20 ∧ (0 : Int) = to 21 ∧ (0 : Int) = to 22 ∧ (0 : Int) = to 23 ∧ (0 : Int) = to 24 ∧ (0 : Int) = to 25 ∧ (0 : Int) = to 26 ∧ (0 : Int) = to 27 ∧ (0 : Int) = to 28 ∧ (0 : Int) = to 29 ∧ (0 : Int) = to 30 ∧ (0 : Int) = to 31 ∧ True) ∧ ((0 : Int) = tc ∧ True) ∧ ((0 : Int) = dc ∧ True) ∧ ((ByteArray.mk #[]) = sy ∧ True) ∧ m = 0 ∧ ((0 : Int) = ix ∧ True) ∧ y = 0 ∧ True) ∧ (4 : Int) = e) ∧ (Decidable.decide (x4 < (67 : Int)) = Bool.false → ((!Decidable.decide (x4 > (67 : Int))) = Bool.true → (!Decidable.decide (x4 > (67 : Int))) = Bool.true ∧ (x21 = Bool.true → x21 = Bool.true) ∧ (x21 = Bool.true → x21 = Bool.true) ∧ (x21 = Bool.true → x21 = Bool.true) ∧ (x21 = Bool.true → x21 = Bool.true) ∧ (x21 = Bool.true → x21 = Bool.true) ∧ (x23 = Bool.true → x23 = Bool.true) ∧ (x23 = Bool.true → x23 = Bool.true) ∧ (x23 = Bool.true → x23 = Bool.true) ∧ (x23 = Bool.true → x23 = Bool.true) ∧ (x23 = Bool.true → x23 = Bool.true) ∧ (x23 = Bool.true → x23 = Bool.true) ∧ (x25 = Bool.true → x25 = Bool.true) ∧ (x25 = Bool.true → x25 = Bool.true) ∧ (x25 = Bool.true → x25 = Bool.true) ∧ (x25 = Bool.true → x25 = Bool.true) ∧ (x25 = Bool.true → (ByteArray.mk #[(0 : UInt8)]) = (ByteArray.mk #[(0 : UInt8)])) ∧ (x25 = Bool.true → x25 = Bool.true) ∧ (x25 = Bool.true → x25 = Bool.true) ∧ ((!(x25 && !hasNul (trimT (bytesI (intsL [SK.f Go.IntKind.u8 32 fun (j : Nat) => if j < x17 then intsC (kdF (2 : Int) k (1 + (x5 + (x10 + (x15 + j)))) 0) else (0 : Int)]))))) = Bool.true → (((0 : Int) = z ∧ True) ∧ (0 = am % M256 ∧ True) ∧ (0 = fe % M256 ∧ True) ∧ ((0 : Int) = tk 0 ∧ (0 : Int) = tk 1 ∧ (0 : Int) = tk 2 ∧ (0 : Int) = tk 3 ∧ (0 : Int) = tk 4 ∧ (0 : Int) = tk 5 ∧ (0 : Int) = tk 6 ∧ (0 : Int) = tk 7 ∧ (0 : Int) = tk 8 ∧ (0 : Int) = tk 9 ∧ (0 : Int) = tk 10 ∧ (0 : Int) = tk 11 ∧ (0 : Int) = tk 12 ∧ (0 : Int) = tk 13 ∧ (0 : Int) = tk 14 ∧ (0 : Int) = tk 15 ∧ (0 : Int) = tk 16 ∧ (0 : Int) = tk 17 ∧ (0 : Int) = tk 18 ∧ (0 : Int) = tk 19 ∧ (0 : Int) = tk 20 ∧ (0 : Int) = tk 21 ∧ (0 : Int) = tk 22 ∧ (0 : Int) = tk 23 ∧ (0 : Int) = tk 24 ∧ (0 : Int) = tk 25 ∧ (0 : Int) = tk 26 ∧ (0 : Int) = tk 27 ∧ (0 : Int) = tk 28 ∧ (0 : Int) = tk 29 ∧ (0 : Int) = tk 30 ∧ (0 : Int) = tk 31 ∧ True) ∧ ((0 : Int) = hm ∧ True) ∧ ((0 : Int) = to 0 ∧ (0 : Int) = to 1 ∧ (0 : Int) = to 2 ∧ (0 : Int) = to 3 ∧ (0 : Int) = to 4 ∧ (0 : Int) = to 5 ∧ (0 : Int) = to 6 ∧ (0 : Int) = to 7 ∧ (0 : Int) = to 8 ∧ (0 : Int) = to 9 ∧ (0 : Int) = to 10 ∧ (0 : Int) = to 11 ∧ (0 : Int) = to 12 ∧ (0 : Int) = to 13 ∧ (0 : Int) = to 14 ∧ (0 : Int) = to 15 ∧ (0 : Int) = to 16 ∧ (0 : Int) = to 17 ∧ (0 : Int) = to 18 ∧ (0 : Int) = to 19 ∧ (0 : Int) = to 20 ∧ (0 : Int) = to 21 ∧ (0 : Int) = to 22 ∧ (0 : Int) = to 23 ∧ (0 : Int) = to 24 ∧ (0 : Int) = to 25 ∧ (0 : Int) = to 26 ∧ (0 : Int) = to 27 ∧ (0 : Int) = to 28 ∧ (0 : Int) = to 29 ∧ (0 : Int) = to 30 ∧ (0 : Int) = to 31 ∧ True) ∧ ((0 : Int) = tc ∧ True) ∧ ((0 : Int) = dc ∧ True) ∧ ((ByteArray.mk #[]) = sy ∧ True) ∧ m = 0 ∧ ((0 : Int) = ix ∧ True) ∧ y = 0 ∧ True) ∧ (3 : Int) = e) ∧ ((!(x25 && !hasNul (trimT (bytesI (intsL [SK.f Go.IntKind.u8 32 fun (j : Nat) => if j < x17 then intsC (kdF (2 : Int) k (1 + (x5 + (x10 + (x15 + j)))) 0) else (0 : Int)]))))) = Bool.false → (((2 : Int) = z ∧ True) ∧ (0 = am % M256 ∧ True) ∧ (0 = fe % M256 ∧ True) ∧ ((∀ (j : Nat), j < 32 → (if j < x2 then intsC (kdF (2 : Int) k (1 + j) 0) else (0 : Int)) = tk j) ∧ True) ∧ (x20 = hm ∧ True) ∧ ((0 : Int) = to 0 ∧ (0 : Int) = to 1 ∧ (0 : Int) = to 2 ∧ (0 : Int) = to 3 ∧ (0 : Int) = to 4 ∧ (0 : Int) = to 5 ∧ (0 : Int) = to 6 ∧ (0 : Int) = to 7 ∧ (0 : Int) = to 8 ∧ (0 : Int) = to 9 ∧ (0 : Int) = to 10 ∧ (0 : Int) = to 11 ∧ (0 : Int) = to 12 ∧ (0 : Int) = to 13 ∧ (0 : Int) = to 14 ∧ (0 : Int) = to 15 ∧ (0 : Int) = to 16 ∧ (0 : Int) = to 17 ∧ (0 : Int) = to 18 ∧ (0 : Int) = to 19 ∧ (0 : Int) = to 20 ∧ (0 : Int) = to 21 ∧ (0 : Int) = to 22 ∧ (0 : Int) = to 23 ∧ (0 : Int) = to 24 ∧ (0 : Int) = to 25 ∧ (0 : Int) = to 26 ∧ (0 : Int) = to 27 ∧ (0 : Int) = to 28 ∧ (0 : Int) = to 29 ∧ (0 : Int) = to 30 ∧ (0 : Int) = to 31 ∧ True) ∧ ((0 : Int) = tc ∧ True) ∧ (x22 = dc ∧ True) ∧ (trimT (bytesI (intsL [SK.f Go.IntKind.u8 32 fun (j : Nat) => if j < x17 then intsC (kdF (2 : Int) k (1 + (x5 + (x10 + (x15 + j)))) 0) else (0 : Int)])) = sy ∧ True) ∧ m = 0 ∧ ((0 : Int) = ix ∧ True) ∧ y = 0 ∧ True) ∧ (0 : Int) = e)) ∧ ((!Decidable.decide (x4 > (67 : Int))) = Bool.false → (((0 : Int) = z ∧ True) ∧ (0 = am % M256 ∧ True) ∧ (0 = fe % M256 ∧ True) ∧ ((0 : Int) = tk 0 ∧ (0 : Int) = tk 1 ∧ (0 : Int) = tk 2 ∧ (0 : Int) = tk 3 ∧ (0 : Int) = tk 4 ∧ (0 : Int) = tk 5 ∧ (0 : Int) = tk 6 ∧ (0 : Int) = tk 7 ∧ (0 : Int) = tk 8 ∧ (0 : Int) = tk 9 ∧ (0 : Int) = tk 10 ∧ (0 : Int) = tk 11 ∧ (0 : Int) = tk 12 ∧ (0 : Int) = tk 13 ∧ (0 : Int) = tk 14 ∧ (0 : Int) = tk 15 ∧ (0 : Int) = tk 16 ∧ (0 : Int) = tk 17 ∧ (0 : Int) = tk 18 ∧ (0 : Int) = tk 19 ∧ (0 : Int) = tk 20 ∧ (0 : Int) = tk 21 ∧ (0 : Int) = tk 22 ∧ (0 : Int) = tk 23 ∧ (0 : Int) = tk 24 ∧ (0 : Int) = tk 25 ∧ (0 : Int) = tk 26 ∧ (0 : Int) = tk 27 ∧ (0 : Int) = tk 28 ∧ (0 : Int) = tk 29 ∧ (0 : Int) = tk 30 ∧ (0 : Int) = tk 31 ∧ True) ∧ ((0 : Int) = hm ∧ True) ∧ ((0 : Int) = to 0 ∧ (0 : Int) = to 1 ∧ (0 : Int) = to 2 ∧ (0 : Int) = to 3 ∧ (0 : Int) = to 4 ∧ (0 : Int) = to 5 ∧ (0 : Int) = to 6 ∧ (0 : Int) = to 7 ∧ (0 : Int) = to 8 ∧ (0 : Int) = to 9 ∧ (0 : Int) = to 10 ∧ (0 : Int) = to 11 ∧ (0 : Int) = to 12 ∧ (0 : Int) = to 13 ∧ (0 : Int) = to 14 ∧ (0 : Int) = to 15 ∧ (0 : Int) = to 16 ∧ (0 : Int) = to 17 ∧ (0 : Int) = to 18 ∧ (0 : Int) = to 19 ∧ (0 : Int) = to 20 ∧ (0 : Int) = to 21 ∧ (0 : Int) = to 22 ∧ (0 : Int) = to 23 ∧ (0 : Int) = to 24 ∧ (0 : Int) = to 25 ∧ (0 : Int) = to 26 ∧ (0 : Int) = to 27 ∧ (0 : Int) = to 28 ∧ (0 : Int) = to 29 ∧ (0 : Int) = to 30 ∧ (0 : Int) = to 31 ∧ True) ∧ ((0 : Int) = tc ∧ True) ∧ ((0 : Int) = dc ∧ True) ∧ ((ByteArray.mk #[]) = sy ∧ True) ∧ m = 0 ∧ ((0 : Int) = ix ∧ True) ∧ y = 0 ∧ True) ∧ (3 : Int) = e)))) := by kernel_rfl
theorem vc_ldc3 (a : Option Addr) (n cap : Nat) (k : Nat → Nat → Int) (am fe : Nat) (tk : Nat → Int) (hm : Int) (to : Nat → Int) (tc dc : Int) (sy : ByteArray) (m : Nat) (dk : Nat → Nat → Int) (ix : Int) (y : Nat) (kk : Nat → Nat → Int) (z e : Int) :
    OwesQ Try.prog cxLd3 [] [] [] 30 Try.f22 [.sc (.xs a n cap 1 (kdF 3 k))] false [.st [.k (.c (.val (.int .i64 z))), .k (.u am), .k (.u fe), .k (.f .u8 32 tk), .k (.c (.val (.int .i64 hm))), .k (.f .u8 32 to), .k (.c (.val (.int .i64 tc))), .k (.c (.val (.int .i64 dc))), .k (.c (.val (.string sy))), .s m 1 (u8F dk), .k (.c (.val (.int .i64 ix))), .s y 20 (u8F kk)], .v (sI .i64 e)] =
    (let x1 : Nat := am % M256; let x2 : Nat := fe % M256; let x3 : Nat := n - 1; let x4 : Nat := x3.min 32; let x5 : Int := (↑x4 : Int); let x6 : Int := (↑x3 : Int); let x7 : Nat := x5.toNat; let x8 : Nat := x3 - x7; let x9 : Nat := x8.min 32; let x10 : Int := (↑x9 : Int); let x11 : Int := (↑x8 : Int); let x12 : Nat := x10.toNat; let x13 : Nat := x8 - x12; let x14 : Nat := x13.min 2; let x15 : Int := (↑x14 : Int); let x16 : Int := (↑x13 : Int); let x17 : Nat := x15.toNat; let x18 : Nat := x13 - x17; let x19 : Nat := x18.min 32; let x20 : Int := (↑x19 : Int); let x21 : Int := (↑x18 : Int); let x22 : Nat := x20.toNat; let x23 : Nat := x18 - x22; let x24 : Nat := x23.min 2; let x25 : Int := (↑x24 : Int); let x26 : Int := (↑x23 : Int); let x27 : Nat := x25.toNat; let x28 : Nat := x23 - x27; let x29 : Nat := x28.min 32; let x30 : Int := (↑x29 : Int); let x31 : Int := (↑x28 : Int); let x32 : Int := if x6 < (132 : Int) then x6 else (132 : Int); let x33 : Nat := x32.toNat; let x34 : Nat := x3 - x33; let x35 : Int := (↑x34 : Int); let x36 : Int := Go.IntKind.i64.wrap ((132 : Int) + x35); let x37 : Int := Go.IntKind.i64.wrap (Go.IntKind.u64.wrap (↑(BitVec.ofInt 64 (Go.IntKind.u64.wrap (Go.IntKind.u64.wrap (↑(BitVec.ofInt 64 (0 : Int) ||| BitVec.ofInt 64 (Go.IntKind.u64.wrap (if 0 < x14 then intsC (kdF (3 : Int) k (1 + (x7 + (x12 + 0))) 0) else (0 : Int)))).toNat : Int) * (256 : Int))) ||| BitVec.ofInt 64 (Go.IntKind.u64.wrap (if 1 < x14 then k (1 + (x7 + (x12 + 1))) 0 else (0 : Int)))).toNat : Int)); let x38 : Bool := Decidable.decide ((0 : Int) ≤ x37) && Decidable.decide (x37 ≤ (65535 : Int)); let x39 : Int := Go.IntKind.i64.wrap (Go.IntKind.u64.wrap (↑(BitVec.ofInt 64 (Go.IntKind.u64.wrap (Go.IntKind.u64.wrap (↑(BitVec.ofInt 64 (0 : Int) ||| BitVec.ofInt 64 (Go.IntKind.u64.wrap (if 0 < x24 then intsC (kdF (3 : Int) k (1 + (x7 + (x12 + (x17 + (x22 + 0))))) 0) else (0 : Int)))).toNat : Int) * (256 : Int))) ||| BitVec.ofInt 64 (Go.IntKind.u64.wrap (if 1 < x24 then k (1 + (x7 + (x12 + (x17 + (x22 + 1))))) 0 else (0 : Int)))).toNat : Int)); let x40 : Bool := x38 && (Decidable.decide ((0 : Int) ≤ x39) && Decidable.decide (x39 ≤ (65535 : Int))); let x41 : Nat := fromN (fun (j : Nat) => if j < x29 then intsC (kdF (3 : Int) k (1 + (x7 + (x12 + (x17 + (x22 + (x27 + j)))))) 0) else (0 : Int)) 32; let x42 : Nat := fromN (fun (j : Nat) => if j < x4 then intsC (kdF (3 : Int) k (1 + j) 0) else (0 : Int)) 32; let x43 : Int := cmpN x41 x42; let x44 : Bool := x40 && Decidable.decide (x43 ≤ (0 : Int)); let x45 : Nat := 0 + x34; (((↑n : Int) == (0 : Int)) = Bool.true → (((0 : Int) = z ∧ True) ∧ (0 = x1 ∧ True) ∧ (0 = x2 ∧ True) ∧ ((0 : Int) = tk 0 ∧ (0 : Int) = tk 1 ∧ (0 : Int) = tk 2 ∧ (0 : Int) = tk 3 ∧ (0 : Int) = tk 4 ∧ (0 : Int) = tk 5 ∧ (0 : Int) = tk 6 ∧ (0 : Int) = tk 7 ∧ (0 : Int) = tk 8 ∧ (0 : Int) = tk 9 ∧ (0 : Int) = tk 10 ∧ (0 : Int) = tk 11 ∧ (0 : Int) = tk 12 ∧ (0 : Int) = tk 13 ∧ (0 : Int) = tk 14 ∧ (0 : Int) = tk 15 ∧ (0 : Int) = tk 16 ∧ (0 : Int) = tk 17 ∧ (0 : Int) = tk 18 ∧ (0 : Int) = tk 19 ∧ (0 : Int) = tk 20 ∧ (0 : Int) = tk 21 ∧ (0 : Int) = tk 22 ∧ (0 : Int) = tk 23 ∧ (0 : Int) = tk 24 ∧ (0 : Int) = tk 25 ∧ (0 : Int) = tk 26 ∧ (0 : Int) = tk 27 ∧ (0 : Int) = tk 28 ∧ (0 : Int) = tk 29 ∧ (0 : Int) = tk 30 ∧ (0 : Int) = tk 31 ∧ True) ∧ ((0 : Int) = hm ∧ True) ∧ ((0 : Int) = to 0 ∧ (0 : Int) = to 1 ∧ (0 : Int) = to 2 ∧ (0 : Int) = to 3 ∧ (0 : Int) = to 4 ∧ (0 : Int) = to 5 ∧ (0 : Int) = to 6 ∧ (0 : Int) = to 7 ∧ (0 : Int) = to 8 ∧ (0 : Int) = to 9 ∧ (0 : Int) = to 10 ∧ (0 : Int) = to 11 ∧ (0 : Int) = to 12 ∧ (0 : Int) = to 13 ∧ (0 : Int) = to 14 ∧ (0 : Int) = to 15 ∧ (0 : Int) = to 16 ∧ (0 : Int) = to 17 ∧ (0 : Int) = to 18 ∧ (0 : Int) = to 19 ∧ (0 : Int) = to 20 ∧ (0 : Int) = to 21 ∧ (0 : Int) = to 22 ∧ (0 : Int) = to 23 ∧ (0 : Int) = to 24 ∧ (0 : Int) = to 25 ∧ (0 : Int) = to 26 ∧ (0 : Int) = to 27 ∧ (0 : Int) = to 28 ∧ (0 : Int) = to 29 ∧ (0 : Int) = to 30 ∧ (0 : Int) = to 31 ∧ True) ∧ ((0 : Int) = tc ∧ True) ∧ ((0 : Int) = dc ∧ True) ∧ ((ByteArray.mk #[]) = sy ∧ True) ∧ m = 0 ∧ ((0 : Int) = ix ∧ True) ∧ y = 0 ∧ True) ∧ (4 : Int) = e) ∧ (((↑n : Int) == (0 : Int)) = Bool.false → ((0 : Int) ≤ (0 : Int) ∧ (0 : Int) < (↑n : Int)) ∧ ((0 : Int) ≤ (1 : Int) ∧ (1 : Int) ≤ (↑n : Int) ∧ (↑n : Int) ≤ (↑n : Int)) ∧ (∀ (j : Nat), Option.rec False (fun (val : Go.IntKind × Int) => Prod.casesOn val fun (fst : Go.IntKind) (_ : Int) => if Go.IntKind.u8 = fst then True else False) (asI (SA.sc (kdF (3 : Int) k (1 + j) 0)))) ∧ ((0 : Int) ≤ x5 ∧ x5 ≤ x6 ∧ x6 ≤ x6) ∧ (∀ (j : Nat), j < 32 → ((0 : Int) ≤ if j < x4 then intsC (kdF (3 : Int) k (1 + j) 0) else (0 : Int)) ∧ (if j < x4 then intsC (kdF (3 : Int) k (1 + j) 0) else (0 : Int)) < (256 : Int)) ∧ (∀ (j : Nat), Option.rec False (fun (val : Go.IntKind × Int) => Prod.casesOn val fun (fst : Go.IntKind) (_ : Int) => if Go.IntKind.u8 = fst then True else False) (asI (SA.sc (kdF (3 : Int) k (1 + (x7 + j)) 0)))) ∧ ((0 : Int) ≤ x10 ∧ x10 ≤ x11 ∧ x11 ≤ x11) ∧ (∀ (j : Nat), Option.rec False (fun (val : Go.IntKind × Int) => Prod.casesOn val fun (fst : Go.IntKind) (_ : Int) => if Go.IntKind.u8 = fst then True else False) (asI (SA.sc (kdF (3 : Int) k (1 + (x7 + (x12 + j))) 0)))) ∧ ((0 : Int) ≤ x15 ∧ x15 ≤ x16 ∧ x16 ≤ x16) ∧ (∀ (j : Nat), Option.rec False (fun (val : Go.IntKind × Int) => Prod.casesOn val fun (fst : Go.IntKind) (_ : Int) => if Go.IntKind.u8 = fst then True else False) (asI (SA.sc (kdF (3 : Int) k (1 + (x7 + (x12 + (x17 + j)))) 0)))) ∧ ((0 : Int) ≤ x20 ∧ x20 ≤ x21 ∧ x21 ≤ x21) ∧ (∀ (j : Nat), Option.rec False (fun (val : Go.IntKind × Int) => Prod.casesOn val fun (fst : Go.IntKind) (_ : Int) => if Go.IntKind.u8 = fst then True else False) (asI (SA.sc (kdF (3 : Int) k (1 + (x7 + (x12 + (x17 + (x22 + j))))) 0)))) ∧ ((0 : Int) ≤ x25 ∧ x25 ≤ x26 ∧ x26 ≤ x26) ∧ (∀ (j : Nat), Option.rec False (fun (val : Go.IntKind × Int) => Prod.casesOn val fun (fst : Go.IntKind) (_ : Int) => if Go.IntKind.u8 = fst then True else False) (asI (SA.sc (kdF (3 : Int) k (1 + (x7 + (x12 + (x17 + (x22 + (x27 + j)))))) 0)))) ∧ ((0 : Int) ≤ x30 ∧ x30 ≤ x31 ∧ x31 ≤ x31) ∧ (∀ (j : Nat), j < 32 → ((0 : Int) ≤ if j < x29 then intsC (kdF (3 : Int) k (1 + (x7 + (x12 + (x17 + (x22 + (x27 + j)))))) 0) else (0 : Int)) ∧ (if j < x29 then intsC (kdF (3 : Int) k (1 + (x7 + (x12 + (x17 + (x22 + (x27 + j)))))) 0) else (0 : Int)) < (256 : Int)) ∧ ((0 : Int) ≤ x32 ∧ x32 ≤ x6 ∧ x6 ≤ x6) ∧ (Decidable.decide (x6 < x36) = Bool.true → (((0 : Int) = z ∧ True) ∧ (0 = x1 ∧ True) ∧ (0 = x2 ∧ True) ∧ ((0 : Int) = tk 0 ∧ (0 : Int) = tk 1 ∧ (0 : Int) = tk 2 ∧ (0 : Int) = tk 3 ∧ (0 : Int) = tk 4 ∧ (0 : Int) = tk 5 ∧ (0 : Int) = tk 6 ∧ (0 : Int) = tk 7 ∧ (0 : Int) = tk 8 ∧ (0 : Int) = tk 9 ∧ (0 : Int) = tk 10 ∧ (0 : Int) = tk 11 ∧ (0 : Int) = tk 12 ∧ (0 : Int) = tk 13 ∧ (0 : Int) = tk 14 ∧ (0 : Int) = tk 15 ∧ (0 : Int) = tk 16 ∧ (0 : Int) = tk 17 ∧ (0 : Int) = tk 18 ∧ (0 : Int) = tk 19 ∧ (0 : Int) = tk 20 ∧ (0 : Int) = tk 21 ∧ (0 : Int) = tk 22 ∧ (0 : Int) = tk 23 ∧ (0 : Int) = tk 24 ∧ (0 : Int) = tk 25 ∧ (0 : Int) = tk 26 ∧ (0 : Int) = tk 27 ∧ (0 : Int) = tk 28 ∧ (0 : Int) = tk 29 ∧ (0 : Int) = tk 30 ∧ (0 : Int) = tk 31 ∧ True) ∧ ((0 : Int) = hm ∧ True) ∧ ((0 : Int) = to 0 ∧ (0 : Int) = to 1 ∧ (0 : Int) = to 2 ∧ (0 : Int) = to 3 ∧ (0 : Int) = to 4 ∧ (0 : Int) = to 5 ∧ (0 : Int) = to 6 ∧ (0 : Int) = to 7 ∧ (0 : Int) = to 8 ∧ (0 : Int) = to 9 ∧ (0 : Int) = to 10 ∧ (0 : Int) = to 11 ∧ (0 : Int) = to 12 ∧ (0 : Int) = to 13 ∧ (0 : Int) = to 14 ∧ (0 : Int) = to 15 ∧ (0 : Int) = to 16 ∧ (0 : Int) = to 17 ∧ (0 : Int) = to 18 ∧ (0 : Int) = to 19 ∧ (0 : Int) = to 20 ∧ (0 : Int) = to 21 ∧ (0 : Int) = to 22 ∧ (0 : Int) = to 23 ∧ (0 : Int) = to 24 ∧ (0 : Int) = to 25 ∧ (0 : Int) = to 26 ∧ (0 : Int) = to 27 ∧ (0 : Int) = to 28 ∧ (0 : Int) = to 29 ∧ (0 : Int) = to 30 ∧ (0 : Int) = to 31 ∧ True) ∧ ((0 : Int) = tc ∧ True) ∧ ((0 : Int) = dc ∧ True) ∧ ((ByteArray.mk #[]) = sy ∧ True) ∧ m = 0 ∧ ((0 : Int) = ix ∧ True) ∧ y = 0 ∧ True) ∧ (4 : Int) = e) ∧ (Decidable.decide (x6 < x36) = Bool.false → ((!Decidable.decide (x6 > x36)) = Bool.true → (!Decidable.decide (x6 > x36)) = Bool.true ∧ (x38 = Bool.true → x38 = Bool.true) ∧ (x38 = Bool.true → x38 = Bool.true) ∧ (x38 = Bool.true → x38 = Bool.true) ∧ (x38 = Bool.true → x38 = Bool.true) ∧ (x38 = Bool.true → x38 = Bool.true) ∧ (x40 = Bool.true → x40 = Bool.true) ∧ (x40 = Bool.true → x40 = Bool.true) ∧ (x40 = Bool.true → x40 = Bool.true) ∧ (x40 = Bool.true → x40 = Bool.true) ∧ (x40 = Bool.true → x40 = Bool.true) ∧ (x40 = Bool.true → x40 = Bool.true) ∧ (x40 = Bool.true → x40 = Bool.true) ∧ (x40 = Bool.true → x40 = Bool.true) ∧ (x40 = Bool.true → x40 = Bool.true) ∧ (x40 = Bool.true → x40 = Bool.true) ∧ (x44 = Bool.true → x44 = Bool.true) ∧ (x44 = Bool.true → x44 = Bool.true) ∧ (x44 = Bool.true → x44 = Bool.true) ∧ (x44 = Bool.true → x44 = Bool.true) ∧ (x44 = Bool.true → x44 = Bool.true) ∧ (x44 = Bool.true → x44 = Bool.true) ∧ ((!(x44 && Decidable.decide (x35 ≤ (100 : Int)))) = Bool.true → (((0 : Int) = z ∧ True) ∧ (0 = x1 ∧ True) ∧ (0 = x2 ∧ True) ∧ ((0 : Int) = tk 0 ∧ (0 : Int) = tk 1 ∧ (0 : Int) = tk 2 ∧ (0 : Int) = tk 3 ∧ (0 : Int) = tk 4 ∧ (0 : Int) = tk 5 ∧ (0 : Int) = tk 6 ∧ (0 : Int) = tk 7 ∧ (0 : Int) = tk 8 ∧ (0 : Int) = tk 9 ∧ (0 : Int) = tk 10 ∧ (0 : Int) = tk 11 ∧ (0 : Int) = tk 12 ∧ (0 : Int) = tk 13 ∧ (0 : Int) = tk 14 ∧ (0 : Int) = tk 15 ∧ (0 : Int) = tk 16 ∧ (0 : Int) = tk 17 ∧ (0 : Int) = tk 18 ∧ (0 : Int) = tk 19 ∧ (0 : Int) = tk 20 ∧ (0 : Int) = tk 21 ∧ (0 : Int) = tk 22 ∧ (0 : Int) = tk 23 ∧ (0 : Int) = tk 24 ∧ (0 : Int) = tk 25 ∧ (0 : Int) = tk 26 ∧ (0 : Int) = tk 27 ∧ (0 : Int) = tk 28 ∧ (0 : Int) = tk 29 ∧ (0 : Int) = tk 30 ∧ (0 : Int) = tk 31 ∧ True) ∧ ((0 : Int) = hm ∧ True) ∧ ((0 : Int) = to 0 ∧ (0 : Int) = to 1 ∧ (0 : Int) = to 2 ∧ (0 : Int) = to 3 ∧ (0 : Int) = to 4 ∧ (0 : Int) = to 5 ∧ (0 : Int) = to 6 ∧ (0 : Int) = to 7 ∧ (0 : Int) = to 8 ∧ (0 : Int) = to 9 ∧ (0 : Int) = to 10 ∧ (0 : Int) = to 11 ∧ (0 : Int) = to 12 ∧ (0 : Int) = to 13 ∧ (0 : Int) = to 14 ∧ (0 : Int) = to 15 ∧ (0 : Int) = to 16 ∧ (0 : Int) = to 17 ∧ (0 : Int) = to 18 ∧ (0 : Int) = to 19 ∧ (0 : Int) = to 20 ∧ (0 : Int) = to 21 ∧ (0 : Int) = to 22 ∧ (0 : Int) = to 23 ∧ (0 : Int) = to 24 ∧ (0 : Int) = to 25 ∧ (0 : Int) = to 26 ∧ (0 : Int) = to 27 ∧ (0 : Int) = to 28 ∧ (0 : Int) = to 29 ∧ (0 : Int) = to 30 ∧ (0 : Int) = to 31 ∧ True) ∧ ((0 : Int) = tc ∧ True) ∧ ((0 : Int) = dc ∧ True) ∧ ((ByteArray.mk #[]) = sy ∧ True) ∧ m = 0 ∧ ((0 : Int) = ix ∧ True) ∧ y = 0 ∧ True) ∧ (3 : Int) = e) ∧ ((!(x44 && Decidable.decide (x35 ≤ (100 : Int)))) = Bool.false → ((adS (cap - 1) x33 1 (adS cap 1 1 a)).isNone = Bool.true → (((3 : Int) = z ∧ True) ∧ (x42 % M256 = x1 ∧ True) ∧ (x41 % M256 = x2 ∧ True) ∧ ((∀ (j : Nat), j < 32 → (if j < x9 then intsC (kdF (3 : Int) k (1 + (x7 + j)) 0) else (0 : Int)) = tk j) ∧ True) ∧ (x37 = hm ∧ True) ∧ ((∀ (j : Nat), j < 32 → (if j < x19 then intsC (kdF (3 : Int) k (1 + (x7 + (x12 + (x17 + j)))) 0) else (0 : Int)) = to j) ∧ True) ∧ (x39 = tc ∧ True) ∧ ((0 : Int) = dc ∧ True) ∧ ((ByteArray.mk #[]) = sy ∧ True) ∧ m = 0 ∧ ((0 : Int) = ix ∧ True) ∧ y = 0 ∧ True) ∧ (0 : Int) = e) ∧ ((adS (cap - 1) x33 1 (adS cap 1 1 a)).isNone = Bool.false → (0 ≤ 0 ∧ 0 ≤ Go.maxLen ∧ 0 = 0) ∧ (x45 ≤ Go.maxLen ∧ x45 * 1 ≤ 140737488355328) ∧ ∀ (c : Nat), x45 + c ≤ Go.maxLen → (((3 : Int) = z ∧ True) ∧ (x42 % M256 = x1 ∧ True) ∧ (x41 % M256 = x2 ∧ True) ∧ ((∀ (j : Nat), j < 32 → (if j < x9 then intsC (kdF (3 : Int) k (1 + (x7 + j)) 0) else (0 : Int)) = tk j) ∧ True) ∧ (x37 = hm ∧ True) ∧ ((∀ (j : Nat), j < 32 → (if j < x19 then intsC (kdF (3 : Int) k (1 + (x7 + (x12 + (x17 + j)))) 0) else (0 : Int)) = to j) ∧ True) ∧ (x39 = tc ∧ True) ∧ ((0 : Int) = dc ∧ True) ∧ ((ByteArray.mk #[]) = sy ∧ True) ∧ (0 + x45 ≤ x45 ∧ x45 = m ∧ x45 ≤ x45 + c ∧ ∀ (i : Nat), i < m → (SC.brecOn.go (motive := fun (_ : SC) => SC → Prop) (selC (Decidable.decide (0 + i < 0)) (fixAt (flat []) 1 0 0 (0 + i) 0) (kdF (3 : Int) k (1 + (x33 + (0 + i - 0))) 0)) simC._f).1 (u8F dk i 0)) ∧ ((0 : Int) = ix ∧ True) ∧ y = 0 ∧ True) ∧ (0 : Int) = e))) ∧ ((!Decidable.decide (x6 > x36)) = Bool.false → (((0 : Int) = z ∧ True) ∧ (0 = x1 ∧ True) ∧ (0 = x2 ∧ True) ∧ ((0 : Int) = tk 0 ∧ (0 : Int) = tk 1 ∧ (0 : Int) = tk 2 ∧ (0 : Int) = tk 3 ∧ (0 : Int) = tk 4 ∧ (0 : Int) = tk 5 ∧ (0 : Int) = tk 6 ∧ (0 : Int) = tk 7 ∧ (0 : Int) = tk 8 ∧ (0 : Int) = tk 9 ∧ (0 : Int) = tk 10 ∧ (0 : Int) = tk 11 ∧ (0 : Int) = tk 12 ∧ (0 : Int) = tk 13 ∧ (0 : Int) = tk 14 ∧ (0 : Int) = tk 15 ∧ (0 : Int) = tk 16 ∧ (0 : Int) = tk 17 ∧ (0 : Int) = tk 18 ∧ (0 : Int) = tk 19 ∧ (0 : Int) = tk 20 ∧ (0 : Int) = tk 21 ∧ (0 : Int) = tk 22 ∧ (0 : Int) = tk 23 ∧ (0 : Int) = tk 24 ∧ (0 : Int) = tk 25 ∧ (0 : Int) = tk 26 ∧ (0 : Int) = tk 27 ∧ (0 : Int) = tk 28 ∧ (0 : Int) = tk 29 ∧ (0 : Int) = tk 30 ∧ (0 : Int) = tk 31 ∧ True) ∧ ((0 : Int) = hm ∧ True) ∧ ((0 : Int) = to 0 ∧ (0 : Int) = to 1 ∧ (0 : Int) = to 2 ∧ (0 : Int) = to 3 ∧ (0 : Int) = to 4 ∧ (0 : Int) = to 5 ∧ (0 : Int) = to 6 ∧ (0 : Int) = to 7 ∧ (0 : Int) = to 8 ∧ (0 : Int) = to 9 ∧ (0 : Int) = to 10 ∧ (0 : Int) = to 11 ∧ (0 : Int) = to 12 ∧ (0 : Int) = to 13 ∧ (0 : Int) = to 14 ∧ (0 : Int) = to 15 ∧ (0 : Int) = to 16 ∧ (0 : Int) = to 17 ∧ (0 : Int) = to 18 ∧ (0 : Int) = to 19 ∧ (0 : Int) = to 20 ∧ (0 : Int) = to 21 ∧ (0 : Int) = to 22 ∧ (0 : Int) = to 23 ∧ (0 : Int) = to 24 ∧ (0 : Int) = to 25 ∧ (0 : Int) = to 26 ∧ (0 : Int) = to 27 ∧ (0 : Int) = to 28 ∧ (0 : Int) = to 29 ∧ (0 : Int) = to 30 ∧ (0 : Int) = to 31 ∧ True) ∧ ((0 : Int) = tc ∧ True) ∧ ((0 : Int) = dc ∧ True) ∧ ((ByteArray.mk #[]) = sy ∧ True) ∧ m = 0 ∧ ((0 : Int) = ix ∧ True) ∧ y = 0 ∧ True) ∧ (3 : Int) = e)))) := by kernel_rfl
end Go.Proofs.Ytgjjpffaofdpiaa
end

section
namespace Go.Proofs.Ytgjjpffaofdpiaa
open Go.Sx
set_option maxRecDepth 100000
def rdE3 (n : Nat) (F : Nat → Int) : Int := if n < 133 then 4 else if n ≤ 233 ∧ cmpN (dFe F) (dAm F) ≤ 0 then 0 else 3
set_option maxHeartbeats 400000 in
theorem ok_ldc3 (a : Option Addr) (n cap : Nat) (k : Nat → Nat → Int) (hk : ∀ i, i < n → 0 ≤ k i 0 ∧ k i 0 < 256) (F : Nat → Int) (hF : ∀ i, k i 0 = F i) (kk : Nat → Nat → Int) (h0 : 0 < n) (ha : a = none → n = 0) (hn : (n : Int) ≤ 9223372036854775807) :
    OwesQ Try.prog cxLd3 [] [] [] 30 Try.f22 [.sc (.xs a n cap 1 (kdF 3 k))] false
      [.st [.k (.c (.val (.int .i64 (zI (rdE3 n F) 3)))), .k (.u (zN (rdE3 n F) (dAm F))), .k (.u (zN (rdE3 n F) (dFe F))), .k (.f .u8 32 (fun j => zI (rdE3 n F) (F (33 + j)))), .k (.c (.val (.int .i64 (zI (rdE3 n F) (n2 F 65))))), .k (.f .u8 32 (fun j => zI (rdE3 n F) (F (67 + j)))), .k (.c (.val (.int .i64 (zI (rdE3 n F) (n2 F 99))))), .k (.c (.val (.int .i64 0))), .k (.c (.val (.string ⟨#[]⟩))), .s (zN (rdE3 n F) (n - 133)) 1 (u8F (fun i _ => F (133 + i))), .k (.c (.val (.int .i64 0))), .s 0 20 (u8F kk)], .v (sI .i64 (rdE3 n F))] := by
  rw [vc_ldc3]
  intro x1 x2 x3 x4 x5 x6 x7 x8 x9 x10 x11 x12 x13 x14 x15 x16 x17 x18 x19 x20 x21 x22 x23 x24 x25 x26 x27 x28 x29 x30 x31 x32 x33 x34 x35 x36 x37 x38 x39 x40 x41 x42 x43 x44 x45
  have hx1 : x1 = zN (rdE3 n F) (dAm F) % M256 := rfl
  have hx2 : x2 = zN (rdE3 n F) (dFe F) % M256 := rfl
  have e3 : x3 = n - 1 := rfl
  have l4 : x4 ≤ x3 := Nat.min_le_left _ _
  have f4 : 32 ≤ x3 → x4 = 32 := fun h => Nat.min_eq_right h
  have i4 : x5 = (x4 : Int) := rfl
  have j4 : x6 = (x3 : Int) := rfl
  have t4 : x7 = x4 := Int.toNat_natCast _
  have d4 : x7 + x8 = x3 := Nat.add_sub_cancel' (by rw [t4]; exact l4)
  have l9 : x9 ≤ x8 := Nat.min_le_left _ _
  have f9 : 32 ≤ x8 → x9 = 32 := fun h => Nat.min_eq_right h
  have i9 : x10 = (x9 : Int) := rfl
  have j9 : x11 = (x8 : Int) := rfl
  have t9 : x12 = x9 := Int.toNat_natCast _
  have d9 : x12 + x13 = x8 := Nat.add_sub_cancel' (by rw [t9]; exact l9)
  have l14 : x14 ≤ x13 := Nat.min_le_left _ _
  have f14 : 2 ≤ x13 → x14 = 2 := fun h => Nat.min_eq_right h
  have i14 : x15 = (x14 : Int) := rfl
  have j14 : x16 = (x13 : Int) := rfl
  have t14 : x17 = x14 := Int.toNat_natCast _
  have d14 : x17 + x18 = x13 := Nat.add_sub_cancel' (by rw [t14]; exact l14)
  have l19 : x19 ≤ x18 := Nat.min_le_left _ _
  have f19 : 32 ≤ x18 → x19 = 32 := fun h => Nat.min_eq_right h
  have i19 : x20 = (x19 : Int) := rfl
  have j19 : x21 = (x18 : Int) := rfl
  have t19 : x22 = x19 := Int.toNat_natCast _
  have d19 : x22 + x23 = x18 := Nat.add_sub_cancel' (by rw [t19]; exact l19)
  have l24 : x24 ≤ x23 := Nat.min_le_left _ _
  have f24 : 2 ≤ x23 → x24 = 2 := fun h => Nat.min_eq_right h
  have i24 : x25 = (x24 : Int) := rfl
  have j24 : x26 = (x23 : Int) := rfl
  have t24 : x27 = x24 := Int.toNat_natCast _
  have d24 : x27 + x28 = x23 := Nat.add_sub_cancel' (by rw [t24]; exact l24)
  have l29 : x29 ≤ x28 := Nat.min_le_left _ _
  have f29 : 32 ≤ x28 → x29 = 32 := fun h => Nat.min_eq_right h
  have i29 : x30 = (x29 : Int) := rfl
  have j29 : x31 = (x28 : Int) := rfl
  have G : ∀ _ : Unit, 133 ≤ n → x4 = 32 ∧ x7 = 32 ∧ x8 = n - 33 ∧ x9 = 32 ∧ x12 = 32 ∧ x13 = n - 65 ∧ x14 = 2 ∧ x17 = 2 ∧ x18 = n - 67 ∧ x19 = 32 ∧ x22 = 32 ∧ x23 = n - 99 ∧ x24 = 2 ∧ x27 = 2 ∧ x28 = n - 101 ∧ x29 = 32 := fun _ h => by
    have q3 : x3 = n - 1 := e3
    have q4 := f4 (by omega)
    have q8 : x8 = n - 33 := by omega
    have q9 := f9 (by omega)
    have q13 : x13 = n - 65 := by omega
    have q14 := f14 (by omega)
    have q18 : x18 = n - 67 := by omega
    have q19 := f19 (by omega)
    have q23 : x23 = n - 99 := by omega
    have q24 := f24 (by omega)
    have q28 : x28 = n - 101 := by omega
    have q29 := f29 (by omega)
    exact ⟨q4, t4.trans q4, q8, q9, t9.trans q9, q13, q14, t14.trans q14, q18, q19, t19.trans q19, q23, q24, t24.trans q24, q28, q29⟩
  clear f4 f9 f14 f19 f24 f29
  have B : ∀ i, i < n → 0 ≤ F i ∧ F i < 256 := fun i hi => by rw [← hF]; exact hk i hi
  have c37 : ∀ _ : Unit, 133 ≤ n → x37 = n2 F 65 := fun _ h => by
    obtain ⟨q4, q7, q8, q9, q12, q13, q14, q17, q18, q19, q22, q23, q24, q27, q28, q29⟩ := G () h
    show IntKind.i64.wrap (IntKind.u64.wrap _) = _
    rw [kd_if hF (q := 65) (by omega) (by omega), kd_if' hF (q := 66) (by omega) (by omega)]
    exact num_2 (B 65 (by omega)) (B 66 (by omega))
  have c39 : ∀ _ : Unit, 133 ≤ n → x39 = n2 F 99 := fun _ h => by
    obtain ⟨q4, q7, q8, q9, q12, q13, q14, q17, q18, q19, q22, q23, q24, q27, q28, q29⟩ := G () h
    show IntKind.i64.wrap (IntKind.u64.wrap _) = _
    rw [kd_if hF (q := 99) (by omega) (by omega), kd_if' hF (q := 100) (by omega) (by omega)]
    exact num_2 (B 99 (by omega)) (B 100 (by omega))
  have c41 : ∀ _ : Unit, 133 ≤ n → x41 = dFe F := fun _ h => by
    obtain ⟨q4, q7, q8, q9, q12, q13, q14, q17, q18, q19, q22, q23, q24, q27, q28, q29⟩ := G () h
    exact fromN_congr (fun j hj => kd_if hF (by omega) (by omega)) 32
  have c42 : ∀ _ : Unit, 133 ≤ n → x42 = dAm F := fun _ h => by
    obtain ⟨q4, q7, q8, q9, q12, q13, q14, q17, q18, q19, q22, q23, q24, q27, q28, q29⟩ := G () h
    exact fromN_congr (fun j hj => kd_if hF (by omega) (by omega)) 32
  have c40 : ∀ _ : Unit, 133 ≤ n → x40 = true := fun _ h => by
    show (decide (0 ≤ x37) && decide (x37 ≤ 65535) && (decide (0 ≤ x39) && decide (x39 ≤ 65535))) = true
    rw [c37 () h, c39 () h, two_in (B 65 (by omega)) (B 66 (by omega)), two_in (B 99 (by omega)) (B 100 (by omega))]; rfl
  have c44 : ∀ _ : Unit, 133 ≤ n → x44 = decide (cmpN (dFe F) (dAm F) ≤ 0) := fun _ h => by
    show (x40 && decide (cmpN x41 x42 ≤ 0)) = _
    rw [c40 () h, c41 () h, c42 () h]; rfl
  have e32 : 0 ≤ x32 ∧ x32 ≤ x6 ∧ (x6 < 132 → x33 = x3) ∧ (¬ x6 < 132 → x33 = 132) := by
    show 0 ≤ (if x6 < 132 then x6 else 132) ∧ (if x6 < 132 then x6 else 132) ≤ x6 ∧ (x6 < 132 → (if x6 < 132 then x6 else 132).toNat = x3) ∧ (¬ x6 < 132 → (if x6 < 132 then x6 else 132).toNat = 132)
    have j : x6 = (x3 : Int) := rfl
    split
    · exact ⟨by omega, by omega, fun _ => by omega, fun h => by omega⟩
    · exact ⟨by omega, by omega, fun h => by omega, fun _ => by omega⟩
  have e36 : x36 = IntKind.i64.wrap (132 + ((x3 - x33 : Nat) : Int)) := rfl
  have e36' : ∀ _ : Unit, x36 = 132 + ((x3 - x33 : Nat) : Int) := fun _ => by
    have : x3 = n - 1 := e3
    rw [e36, IntKind.wrap_i64]
    clear G
    omega
  have s36 : ∀ _ : Unit, x6 < 132 → x36 = 132 := fun _ h => by
    have := e32.2.2.1 h
    rw [e36' (), this]; omega
  have b36 : ∀ _ : Unit, ¬ x6 < 132 → x36 = x6 := fun _ h => by
    have h1 := e32.2.2.2 h
    have : x6 = (x3 : Int) := rfl
    rw [e36' (), h1]; omega
  have e33 : ∀ _ : Unit, ¬ x6 < 132 → x33 = 132 := fun _ => e32.2.2.2
  have e35 : x35 = ((x3 - x33 : Nat) : Int) := rfl
  have e45 : x45 = 0 + (x3 - x33) := rfl
  have r32 : 0 ≤ x32 ∧ x32 ≤ x6 := ⟨e32.1, e32.2.1⟩
  have hN : (adS (cap - 1) x33 1 (adS cap 1 1 a)).isNone = false := by
    have q : ∀ (c l : Nat) (b : Option Addr), (adS c l 1 b).isNone = b.isNone := fun c l b => by
      unfold adS
      split
      · rfl
      · cases b <;> rfl
    rw [q, q]
    cases h : a with
    | none => have := ha h; omega
    | some _ => rfl
  clear e32 e36 e36'
  clear_value x1 x2 x3 x4 x5 x6 x7 x8 x9 x10 x11 x12 x13 x14 x15 x16 x17 x18 x19 x20 x21 x22 x23 x24 x25 x26 x27 x28 x29 x30 x31 x32 x33 x34 x35 x36 x37 x38 x39 x40 x41 x42 x43 x44 x45
  refine ⟨fun h => ?_, fun h => ⟨⟨by omega, by omega⟩, ⟨by omega, by omega, by omega⟩, fun j => ?_, ⟨by omega, by omega, by omega⟩, fun j hj => kd_byte hk (by omega), fun j => ?_, ⟨by omega, by omega, by omega⟩, fun j => ?_, ⟨by omega, by omega, by omega⟩, fun j => ?_, ⟨by omega, by omega, by omega⟩, fun j => ?_, ⟨by omega, by omega, by omega⟩, fun j => ?_, ⟨by omega, by omega, by omega⟩, fun j hj => kd_byte hk (by omega), ⟨r32.1, r32.2, by omega⟩, fun hs => ?_, fun hs => ⟨fun hg => ⟨hg, id, id, id, id, id, id, id, id, id, id, id, id, id, id, id, id, id, id, id, id, id, fun hb => ?_, fun hb => ⟨fun hx => ?_, fun _ => ?_⟩⟩, fun hg => ?_⟩⟩⟩
  · have := eq_of_beq h; omega
  · rw [kdF_u8]; exact trivial
  · rw [kdF_u8]; exact trivial
  · rw [kdF_u8]; exact trivial
  · rw [kdF_u8]; exact trivial
  · rw [kdF_u8]; exact trivial
  · rw [kdF_u8]; exact trivial
  · have hs := of_decide_eq_true hs
    have hl : x6 < 132 := by
      by_cases q : x6 < 132
      · exact q
      · have := b36 () q; omega
    have he : rdE3 n F = 4 := if_pos (by omega)
    rw [hx1, hx2, he]
    simp only [zI_4, zN_4, Nat.zero_mod, and_self]
  · have hs := of_decide_eq_false hs
    have hl : ¬ x6 < 132 := fun q => by have := s36 () q; omega
    have h33 := e33 () hl
    rw [c44 () (by omega), e35, h33] at hb
    have he : rdE3 n F = 3 := by
      unfold rdE3
      rw [if_neg (by omega), if_neg (fun h => by rw [decide_eq_true h.2, decide_eq_true (by omega)] at hb; exact absurd hb (by decide))]
    rw [hx1, hx2, he]
    simp only [zI_3, zN_3, Nat.zero_mod, and_self]
  · rw [hN] at hx; exact absurd hx (by decide)
  · have hs := of_decide_eq_false hs
    have hl : ¬ x6 < 132 := fun q => by have := s36 () q; omega
    have h33 := e33 () hl
    rw [c44 () (by omega), e35, h33] at hb
    have hb : cmpN (dFe F) (dAm F) ≤ 0 ∧ ((x3 - 132 : Nat) : Int) ≤ 100 := by simpa using hb
    have hb1 := hb.1
    have hb2 := hb.2
    have he : rdE3 n F = 0 := by
      unfold rdE3
      rw [if_neg (by omega), if_pos ⟨by omega, hb1⟩]
    have hML : maxLen = 9223372036854775807 := rfl
    have hn1 : n - 1 - 132 = n - 133 := by omega
    refine ⟨⟨by omega, by omega, rfl⟩, ⟨by omega, by omega⟩, fun c hc => ?_⟩
    rw [hx1, hx2, he, c37 () (by omega), c39 () (by omega), c41 () (by omega), c42 () (by omega)]
    simp only [zI_0, zN_0, and_self, and_true, true_and]
    obtain ⟨q4, q7, q8, q9, q12, q13, q14, q17, q18, q19, q22, q23, q24, q27, q28, q29⟩ := G () (by omega)
    refine ⟨fun j hj => kd_if hF (by omega) (by omega), fun j hj => kd_if hF (by omega) (by omega), by omega, by omega, by omega, fun i hi => ?_⟩
    rw [kdF_1, show decide (0 + i < 0) = false from decide_eq_false (by omega)]
    show k (1 + (x33 + (0 + i - 0))) 0 = F (133 + i)
    rw [hF]
    exact congrArg F (by omega)
  · have hs := of_decide_eq_false hs
    have hg : x6 > x36 := by simpa using hg
    have hl : ¬ x6 < 132 := fun q => by have := s36 () q; omega
    have := b36 () hl
    omega
end Go.Proofs.Ytgjjpffaofdpiaa
end

section
namespace Go.Proofs.Ytgjjpffaofdpiaa
open Go.Sx
set_option maxRecDepth 100000
def dSy (F : Nat → Int) : ByteArray := trimT (bytesI (intsL [SK.f .u8 32 fun j => F (36 + j)]))
def rdE2 (n : Nat) (F : Nat → Int) : Int := if n < 68 then 4 else if n = 68 ∧ F 35 ≤ 77 ∧ hasNul (dSy F) = false then 0 else 3
theorem trimT_le (s : ByteArray) : (trimT s).size ≤ s.size := by
  unfold trimT
  have := trimN_le s s.size
  rw [ext_size s _ this]
  exact this
theorem f32_sz (g : Nat → Int) : (bytesI (intsL [SK.f IntKind.u8 32 g])).size = 32 := by rw [byI_size]; rfl
theorem f32_congr {g g' : Nat → Int} (h : ∀ j, j < 32 → g j = g' j) : intsL [SK.f IntKind.u8 32 g] = intsL [SK.f IntKind.u8 32 g'] := by
  have e : ∀ g : Nat → Int, intsL [SK.f IntKind.u8 32 g] = (List.range 32).map g := fun _ => rfl
  rw [e, e]
  exact row_congr h
set_option maxHeartbeats 400000 in
theorem ok_ldc2 (a : Option Addr) (n cap : Nat) (k : Nat → Nat → Int) (hk : ∀ i, i < n → 0 ≤ k i 0 ∧ k i 0 < 256) (F : Nat → Int) (hF : ∀ i, k i 0 = F i) (to : Nat → Int) (ho : ∀ i, i < 32 → to i = 0) (dk kk : Nat → Nat → Int) (h0 : 0 < n) :
    OwesQ Try.prog cxLd2 [] [] [] 30 Try.f22 [.sc (.xs a n cap 1 (kdF 2 k))] false
      [.st [.k (.c (.val (.int .i64 (zI (rdE2 n F) 2)))), .k (.u 0), .k (.u 0), .k (.f .u8 32 (fun j => zI (rdE2 n F) (F (1 + j)))), .k (.c (.val (.int .i64 (zI (rdE2 n F) (n2 F 33))))), .k (.f .u8 32 to), .k (.c (.val (.int .i64 0))), .k (.c (.val (.int .i64 (zI (rdE2 n F) (F 35))))), .k (.c (.val (.string (zT (rdE2 n F) (dSy F))))), .s 0 1 (u8F dk), .k (.c (.val (.int .i64 0))), .s 0 20 (u8F kk)], .v (sI .i64 (rdE2 n F))] := by
  rw [vc_ldc2]
  intro x1 x2 x3 x4 x5 x6 x7 x8 x9 x10 x11 x12 x13 x14 x15 x16 x17 x18 x19 x20 x21 x22 x23 x24 x25
  have e1 : x1 = n - 1 := rfl
  have l2 : x2 ≤ x1 := Nat.min_le_left _ _
  have f2 : 32 ≤ x1 → x2 = 32 := fun h => Nat.min_eq_right h
  have i2 : x3 = (x2 : Int) := rfl
  have j2 : x4 = (x1 : Int) := rfl
  have t2 : x5 = x2 := Int.toNat_natCast _
  have d2 : x5 + x6 = x1 := Nat.add_sub_cancel' (by rw [t2]; exact l2)
  have l7 : x7 ≤ x6 := Nat.min_le_left _ _
  have f7 : 2 ≤ x6 → x7 = 2 := fun h => Nat.min_eq_right h
  have i7 : x8 = (x7 : Int) := rfl
  have j7 : x9 = (x6 : Int) := rfl
  have t7 : x10 = x7 := Int.toNat_natCast _
  have d7 : x10 + x11 = x6 := Nat.add_sub_cancel' (by rw [t7]; exact l7)
  have l12 : x12 ≤ x11 := Nat.min_le_left _ _
  have f12 : 1 ≤ x11 → x12 = 1 := fun h => Nat.min_eq_right h
  have i12 : x13 = (x12 : Int) := rfl
  have j12 : x14 = (x11 : Int) := rfl
  have t12 : x15 = x12 := Int.toNat_natCast _
  have d12 : x15 + x16 = x11 := Nat.add_sub_cancel' (by rw [t12]; exact l12)
  have l17 : x17 ≤ x16 := Nat.min_le_left _ _
  have f17 : 32 ≤ x16 → x17 = 32 := fun h => Nat.min_eq_right h
  have i17 : x18 = (x17 : Int) := rfl
  have j17 : x19 = (x16 : Int) := rfl
  have G : ∀ _ : Unit, 68 ≤ n → x2 = 32 ∧ x5 = 32 ∧ x6 = n - 33 ∧ x7 = 2 ∧ x10 = 2 ∧ x11 = n - 35 ∧ x12 = 1 ∧ x15 = 1 ∧ x16 = n - 36 ∧ x17 = 32 := fun _ h => by
    have q3 : x1 = n - 1 := e1
    have q4 := f2 (by omega)
    have q8 : x6 = n - 33 := by omega
    have q9 := f7 (by omega)
    have q13 : x11 = n - 35 := by omega
    have q14 := f12 (by omega)
    have q18 : x16 = n - 36 := by omega
    have q19 := f17 (by omega)
    exact ⟨q4, t2.trans q4, q8, q9, t7.trans q9, q13, q14, t12.trans q14, q18, q19⟩
  clear f2 f7 f12 f17
  have B : ∀ i, i < n → 0 ≤ F i ∧ F i < 256 := fun i hi => by rw [← hF]; exact hk i hi
  have c20 : ∀ _ : Unit, 68 ≤ n → x20 = n2 F 33 := fun _ h => by
    obtain ⟨q2, q5, q6, q7, q10, q11, q12, q15, q16, q17⟩ := G () h
    show IntKind.i64.wrap (IntKind.u64.wrap _) = _
    rw [kd_if hF (q := 33) (by omega) (by omega), kd_if' hF (q := 34) (by omega) (by omega)]
    exact num_2 (B 33 (by omega)) (B 34 (by omega))
  have c22 : ∀ _ : Unit, 68 ≤ n → x22 = F 35 := fun _ h => by
    obtain ⟨q2, q5, q6, q7, q10, q11, q12, q15, q16, q17⟩ := G () h
    show IntKind.i64.wrap (IntKind.u64.wrap _) = _
    rw [kd_if hF (q := 35) (by omega) (by omega)]
    exact num_1 (B 35 (by omega))
  have cT : ∀ _ : Unit, 68 ≤ n → intsL [SK.f IntKind.u8 32 fun j => if j < x17 then intsC (kdF 2 k (1 + (x5 + (x10 + (x15 + j)))) 0) else 0] = intsL [SK.f IntKind.u8 32 fun j => F (36 + j)] := fun _ h => by
    obtain ⟨q2, q5, q6, q7, q10, q11, q12, q15, q16, q17⟩ := G () h
    exact f32_congr fun j hj => kd_if hF (by omega) (by omega)
  have c25 : ∀ _ : Unit, 68 ≤ n → x25 = decide (F 35 ≤ 77) := fun _ h => by
    show (decide (0 ≤ x20) && decide (x20 ≤ 65535) && (decide (0 ≤ x22) && decide (x22 ≤ 77)) && decide (((trimT (bytesI (intsL [SK.f IntKind.u8 32 fun j => if j < x17 then intsC (kdF 2 k (1 + (x5 + (x10 + (x15 + j)))) 0) else 0]))).size : Int) ≤ 32)) = _
    have hz : ((trimT (bytesI (intsL [SK.f IntKind.u8 32 fun j => if j < x17 then intsC (kdF 2 k (1 + (x5 + (x10 + (x15 + j)))) 0) else 0]))).size : Int) ≤ 32 := by
      have := trimT_le (bytesI (intsL [SK.f IntKind.u8 32 fun j => if j < x17 then intsC (kdF 2 k (1 + (x5 + (x10 + (x15 + j)))) 0) else 0]))
      rw [f32_sz] at this
      exact Int.ofNat_le.2 this
    rw [decide_eq_true hz, c20 () h, c22 () h, two_in (B 33 (by omega)) (B 34 (by omega)), decide_eq_true (B 35 (by omega)).1, Bool.true_and, Bool.true_and, Bool.and_true]
  clear_value x1 x2 x3 x4 x5 x6 x7 x8 x9 x10 x11 x12 x13 x14 x15 x16 x17 x18 x19 x20 x21 x22 x23 x24 x25
  refine ⟨fun h => ?_, fun h => ⟨⟨by omega, by omega⟩, ⟨by omega, by omega, by omega⟩, fun j => ?_, ⟨by omega, by omega, by omega⟩, fun j => ?_, ⟨by omega, by omega, by omega⟩, fun j => ?_, ⟨by omega, by omega, by omega⟩, fun j => ?_, ⟨by omega, by omega, by omega⟩, ?_, rfl, fun hs => ?_, fun hs => ⟨fun hg => ⟨hg, id, id, id, id, id, id, id, id, id, id, id, id, id, id, id, fun _ => rfl, id, id, fun hb => ?_, fun hb => ?_⟩, fun hg => ?_⟩⟩⟩
  · have := eq_of_beq h; omega
  · rw [kdF_u8]; exact trivial
  · rw [kdF_u8]; exact trivial
  · rw [kdF_u8]; exact trivial
  · rw [kdF_u8]; exact trivial
  · rw [f32_sz]; decide
  · have hs := of_decide_eq_true hs
    have he : rdE2 n F = 4 := if_pos (by omega)
    rw [he]
    simp only [zI_4, zT_4, ho 0 (by omega), Nat.zero_mod, and_self]
    simp [ho]
  · have hs := of_decide_eq_false hs
    have hg : ¬ (x4 > 67) := by simpa using hg
    rw [c25 () (by omega), cT () (by omega)] at hb
    have he : rdE2 n F = 3 := by
      unfold rdE2
      rw [if_neg (by omega), if_neg (fun h => ?_)]
      have hb' : (!(decide (F 35 ≤ 77) && !hasNul (dSy F))) = true := hb
      rw [decide_eq_true h.2.1, h.2.2] at hb'
      exact absurd hb' (by decide)
    rw [he]
    simp only [zI_3, zT_3, Nat.zero_mod, and_self]
    simp [ho]
  · have hs := of_decide_eq_false hs
    have hg : ¬ (x4 > 67) := by simpa using hg
    rw [c25 () (by omega), cT () (by omega)] at hb
    have hb' : (!(decide (F 35 ≤ 77) && !hasNul (dSy F))) = false := hb
    have hb : F 35 ≤ 77 ∧ hasNul (dSy F) = false := by simpa using hb'
    have he : rdE2 n F = 0 := by
      unfold rdE2
      rw [if_neg (by omega), if_pos ⟨by omega, hb.1, hb.2⟩]
    rw [he, c20 () (by omega), c22 () (by omega), cT () (by omega)]
    simp only [zI_0, zT_0, Nat.zero_mod, and_self, and_true, true_and]
    obtain ⟨q2, q5, q6, q7, q10, q11, q12, q15, q16, q17⟩ := G () (by omega)
    refine ⟨fun j hj => kd_if hF (by omega) (by omega), ?_, rfl⟩
    simp [ho]
  · have hs := of_decide_eq_false hs
    have hg : x4 > 67 := by simpa using hg
    have he : rdE2 n F = 3 := by
      unfold rdE2
      rw [if_neg (by omega), if_neg (fun h => by omega)]
    rw [he]
    simp only [zI_3, zT_3, Nat.zero_mod, and_self]
    simp [ho]
end Go.Proofs.Ytgjjpffaofdpiaa
end

section
namespace Go.Proofs.Ytgjjpffaofdpiaa
open Go.Sx
set_option maxRecDepth 100000
def invTu (n : Nat) (k : Nat → Nat → Int) (ix : Int) (y : Nat) : Inv where
  X := Nat × Option Addr × Nat
  tm x := slotsAt 34 [(0, .one (.sc (.ptr 1 0))), (4, .one (.sc (.fn 55 [.p 2 0]))), (5, .one (.sc (.slw 5 20 0 y y))), (18, .one (sI .i64 (y : Int))), (19, .one (sI .i64 (x.1 : Int)))]
  ob x := [.cells 54 zLoad 0, .cells 107 [.c (.val (.int .i64 ix)), .c (.val (.slice none 0 0))] 0, .cells 39 [.c (.xs x.2.1 (n - (6 + 20 * x.1)) x.2.2 1 (u8F fun j c => k (6 + 20 * x.1 + j) c))] 0, .dead, .dead, .row 83 20 y (u8F (keyG n k x.1)) 0]
  holds x := x.1 ≤ y
  less x := y - x.1
set_option maxHeartbeats 4000000 in
theorem vc_ldc4 (a : Option Addr) (n cap : Nat) (k : Nat → Nat → Int) (Y : Nat) (IX : Int) (am fe : Nat) (tk : Nat → Int) (hm : Int) (to : Nat → Int) (tc dc : Int) (sy : ByteArray) (m : Nat) (dk : Nat → Nat → Int) (ix : Int) (y : Nat) (kk : Nat → Nat → Int) (z e : Int) :
    OwesQ Try.prog cxLd [] [] [((124 + 1) * 100000 + 4, .inv (invTu n k IX Y))] 30 Try.f22 [.sc (.xs a n cap 1 (kdF 4 k))] false [.st [.k (.c (.val (.int .i64 z))), .k (.u am), .k (.u fe), .k (.f .u8 32 tk), .k (.c (.val (.int .i64 hm))), .k (.f .u8 32 to), .k (.c (.val (.int .i64 tc))), .k (.c (.val (.int .i64 dc))), .k (.c (.val (.string sy))), .s m 1 (u8F dk), .k (.c (.val (.int .i64 ix))), .s y 20 (u8F kk)], .v (sI .i64 e)] =
    (let x1 : Nat := n - 1; let x2 : Nat := x1.min 4; let x3 : Int := (↑x2 : Int); let x4 : Int := (↑x1 : Int); let x5 : Nat := x3.toNat; let x6 : Nat := x1 - x5; let x7 : Nat := x6.min 1; let x8 : Int := (↑x7 : Int); let x9 : Int := (↑x6 : Int); let x10 : Int := Go.IntKind.i64.wrap (Go.IntKind.u64.wrap (↑(BitVec.ofInt 64 (0 : Int) ||| BitVec.ofInt 64 (Go.IntKind.u64.wrap (if 0 < x7 then intsC (kdF (4 : Int) k (1 + (x5 + 0)) 0) else (0 : Int)))).toNat : Int)); let x11 : Nat := x10.toNat; let x12 : Nat := cap - 1; let x13 : Nat := x12 - x5; let x14 : Nat := x8.toNat; let x15 : Nat := x6 - x14; let x16 : Int := Go.IntKind.i64.wrap ((5 : Int) + Go.IntKind.i64.wrap ((20 : Int) * (↑Y : Int))); let x17 : Bool := Decidable.decide ((0 : Int) ≤ IX) && Decidable.decide (IX ≤ (4294967295 : Int)); let x18 : Bool := x17 && Decidable.decide ((↑Y : Int) > (0 : Int)); let x19 : Nat := 0 + Y; (((↑n : Int) == (0 : Int)) = Bool.true → (((0 : Int) = z ∧ True) ∧ (0 = am % M256 ∧ True) ∧ (0 = fe % M256 ∧ True) ∧ ((0 : Int) = tk 0 ∧ (0 : Int) = tk 1 ∧ (0 : Int) = tk 2 ∧ (0 : Int) = tk 3 ∧ (0 : Int) = tk 4 ∧ (0 : Int) = tk 5 ∧ (0 : Int) = tk 6 ∧ (0 : Int) = tk 7 ∧ (0 : Int) = tk 8 ∧ (0 : Int) = tk 9 ∧ (0 : Int) = tk 10 ∧ (0 : Int) = tk 11 ∧ (0 : Int) = tk 12 ∧ (0 : Int) = tk 13 ∧ (0 : Int) = tk 14 ∧ (0 : Int) = tk 15 ∧ (0 : Int) = tk 16 ∧ (0 : Int) = tk 17 ∧ (0 : Int) = tk 18 ∧ (0 : Int) = tk 19 ∧ (0 : Int) = tk 20 ∧ (0 : Int) = tk 21 ∧ (0 : Int) = tk 22 ∧ (0 : Int) = tk 23 ∧ (0 : Int) = tk 24 ∧ (0 : Int) = tk 25 ∧ (0 : Int) = tk 26 ∧ (0 : Int) = tk 27 ∧ (0 : Int) = tk 28 ∧ (0 : Int) = tk 29 ∧ (0 : Int) = tk 30 ∧ (0 : Int) = tk 31 ∧ True) ∧ ((0 : Int) = hm ∧ True) ∧ ((0 : Int) = to 0 ∧ (0 : Int) = to 1 ∧ (0 : Int) = to 2 ∧ (0 : Int) = to 3 ∧ (0 : Int) = to 4 ∧ (0 : Int) = to 5 ∧ (0 : Int) = to 6 ∧ (0 : Int) = to 7 ∧ (0 : Int) = to 8 ∧ (0 : Int) = to 9 ∧ (0 : Int) = to 10 ∧ (0 : Int) = to 11 ∧ (0 : Int) = to 12 ∧ (0 : Int) = to 13 ∧ (0 : Int) = to 14 ∧ (0 : Int) = to 15 ∧ (0 : Int) = to 16 ∧ (0 : Int) = to 17 ∧ (0 : Int) = to 18 ∧ (0 : Int) = to 19 ∧ (0 : Int) = to 20 ∧ (0 : Int) = to 21 ∧ (0 : Int) = to 22 ∧ (0 : Int) = to 23 ∧ (0 : Int) = to 24 ∧ (0 : Int) = to 25 ∧ (0 : Int) = to 26 ∧ (0 : Int) = to 27 ∧ (0 : Int) = to 28 ∧ (0 : Int) = to 29 ∧ (0 : Int) = to 30 ∧ (0 : Int) = to 31 ∧ True) ∧ ((0 : Int) = tc ∧ True) ∧ ((0 : Int) = dc ∧ True) ∧ ((ByteArray.mk #[]) = sy ∧ True) ∧ m = 0 ∧ ((0 : Int) = ix ∧ True) ∧ y = 0 ∧ True) ∧ (4 : Int) = e) ∧ (((↑n : Int) == (0 : Int)) = Bool.false → ((0 : Int) ≤ (0 : Int) ∧ (0 : Int) < (↑n : Int)) ∧ ((0 : Int) ≤ (1 : Int) ∧ (1 : Int) ≤ (↑n : Int) ∧ (↑n : Int) ≤ (↑n : Int)) ∧ (∀ (j : Nat), Option.rec False (fun (val : Go.IntKind × Int) => Prod.casesOn val fun (fst : Go.IntKind) (_ : Int) => if Go.IntKind.u8 = fst then True else False) (asI (SA.sc (kdF (4 : Int) k (1 + j) 0)))) ∧ ((0 : Int) ≤ x3 ∧ x3 ≤ x4 ∧ x4 ≤ x4) ∧ (∀ (j : Nat), Option.rec False (fun (val : Go.IntKind × Int) => Prod.casesOn val fun (fst : Go.IntKind) (_ : Int) => if Go.IntKind.u8 = fst then True else False) (asI (SA.sc (kdF (4 : Int) k (1 + (x5 + j)) 0)))) ∧ ((0 : Int) ≤ x8 ∧ x8 ≤ x9 ∧ x9 ≤ x9) ∧ ((0 : Int) ≤ x10 ∧ x10 ≤ x10 ∧ (20 : Int) * x10 ≤ (281474976710656 : Int) ∧ x10 ≤ (9223372036854775807 : Int)) ∧ (∀ (y : Nat × Option Go.Addr × Nat), closedB (slotsAt 34 [(0, SV.one (SA.sc (SC.ptr 1 0))), (4, SV.one (SA.sc (SC.fn 55 [PV.p 2 0]))), (5, SV.one (SA.sc (SC.slw 5 20 0 Y Y))), (18, SV.one (sI Go.IntKind.i64 (↑Y : Int))), (19, SV.one (sI Go.IntKind.i64 (↑y.fst : Int)))]) [SO.cells (54 : Go.TypeId) zLoad 0, SO.cells (107 : Go.TypeId) [SK.c (SC.val (Go.Value.int Go.IntKind.i64 IX)), SK.c (SC.val (Go.Value.slice Option.none 0 0))] 0, SO.cells (39 : Go.TypeId) [SK.c (SC.xs y.snd.fst (n - (6 + 20 * y.fst)) y.snd.snd 1 (u8F fun (j c : Nat) => k (6 + 20 * y.fst + j) c))] 0, SO.dead, SO.dead, SO.row (83 : Go.TypeId) 20 Y (u8F (keyG n k y.fst)) 0] = Bool.true) ∧ ∃ (y_1 : Nat × Option Go.Addr × Nat), y_1.fst ≤ Y ∧ (55 = 55 ∧ [PV.p 2 0] = [PV.p 2 0]) ∧ (5 = 5 ∧ 20 = 20 ∧ 0 = 0 ∧ x11 = Y ∧ x11 = Y) ∧ (↑x11 : Int) = (↑Y : Int) ∧ (0 : Int) = (↑y_1.fst : Int) ∧ (ByteArray.mk #[]) = (ByteArray.mk #[]) ∧ Go.Value.slice Option.none 0 0 = Go.Value.slice Option.none 0 0 ∧ Go.Value.slice Option.none 0 0 = Go.Value.slice Option.none 0 0 ∧ 0 = 0 ∧ Go.IntKind.i64.wrap (Go.IntKind.u64.wrap (↑(BitVec.ofInt 64 (Go.IntKind.u64.wrap (Go.IntKind.u64.wrap (↑(BitVec.ofInt 64 (Go.IntKind.u64.wrap (Go.IntKind.u64.wrap (↑(BitVec.ofInt 64 (Go.IntKind.u64.wrap (Go.IntKind.u64.wrap (↑(BitVec.ofInt 64 (0 : Int) ||| BitVec.ofInt 64 (Go.IntKind.u64.wrap (if 0 < x2 then k 1 0 else (0 : Int)))).toNat : Int) * (256 : Int))) ||| BitVec.ofInt 64 (Go.IntKind.u64.wrap (if 1 < x2 then k 2 0 else (0 : Int)))).toNat : Int) * (256 : Int))) ||| BitVec.ofInt 64 (Go.IntKind.u64.wrap (if 2 < x2 then k 3 0 else (0 : Int)))).toNat : Int) * (256 : Int))) ||| BitVec.ofInt 64 (Go.IntKind.u64.wrap (if 3 < x2 then k 4 0 else (0 : Int)))).toNat : Int)) = IX ∧ Go.Value.slice Option.none 0 0 = Go.Value.slice Option.none 0 0 ∧ 0 = 0 ∧ (adS x13 x14 1 (adS x12 x5 1 (adS cap 1 1 a)) = y_1.snd.fst ∧ x15 = n - (6 + 20 * y_1.fst) ∧ x13 - x14 = y_1.snd.snd ∧ ∀ (i : Nat), i < x15 → simC (kdF (4 : Int) k (1 + (x5 + (x14 + i))) 0) (u8F (fun (j c : Nat) => k (6 + 20 * y_1.fst + j) c) i 0)) ∧ 0 = 0 ∧ x11 = Y ∧ (x11 - x11) * 20 = 0 ∧ (∀ (i : Nat), i < x11 → (0 : Int) = keyG n k y_1.fst i 0 ∧ (0 : Int) = keyG n k y_1.fst i 1 ∧ (0 : Int) = keyG n k y_1.fst i 2 ∧ (0 : Int) = keyG n k y_1.fst i 3 ∧ (0 : Int) = keyG n k y_1.fst i 4 ∧ (0 : Int) = keyG n k y_1.fst i 5 ∧ (0 : Int) = keyG n k y_1.fst i 6 ∧ (0 : Int) = keyG n k y_1.fst i 7 ∧ (0 : Int) = keyG n k y_1.fst i 8 ∧ (0 : Int) = keyG n k y_1.fst i 9 ∧ (0 : Int) = keyG n k y_1.fst i 10 ∧ (0 : Int) = keyG n k y_1.fst i 11 ∧ (0 : Int) = keyG n k y_1.fst i 12 ∧ (0 : Int) = keyG n k y_1.fst i 13 ∧ (0 : Int) = keyG n k y_1.fst i 14 ∧ (0 : Int) = keyG n k y_1.fst i 15 ∧ (0 : Int) = keyG n k y_1.fst i 16 ∧ (0 : Int) = keyG n k y_1.fst i 17 ∧ (0 : Int) = keyG n k y_1.fst i 18 ∧ (0 : Int) = keyG n k y_1.fst i 19) ∧ ∀ (y_2 : Nat × Option Go.Addr × Nat), y_2.fst ≤ Y → (Decidable.decide ((↑y_2.fst : Int) < (↑Y : Int)) = Bool.true → (∀ (_ : Nat), True) ∧ ((0 : Int) ≤ (↑((n - (6 + 20 * y_2.fst)).min 20) : Int) ∧ (↑((n - (6 + 20 * y_2.fst)).min 20) : Int) ≤ (↑(n - (6 + 20 * y_2.fst)) : Int) ∧ (↑(n - (6 + 20 * y_2.fst)) : Int) ≤ (↑(n - (6 + 20 * y_2.fst)) : Int)) ∧ ((0 : Int) ≤ (↑y_2.fst : Int) ∧ (↑y_2.fst : Int) < (↑Y : Int)) ∧ 0 + (↑y_2.fst : Int).toNat < Y ∧ ∃ (y' : Nat × Option Go.Addr × Nat), y'.fst ≤ Y ∧ (55 = 55 ∧ [PV.p 2 0] = [PV.p 2 0]) ∧ (5 = 5 ∧ 20 = 20 ∧ 0 = 0 ∧ Y = Y ∧ Y = Y) ∧ (↑Y : Int) = (↑Y : Int) ∧ Go.IntKind.i64.wrap ((↑y_2.fst : Int) + (1 : Int)) = (↑y'.fst : Int) ∧ (ByteArray.mk #[]) = (ByteArray.mk #[]) ∧ Go.Value.slice Option.none 0 0 = Go.Value.slice Option.none 0 0 ∧ Go.Value.slice Option.none 0 0 = Go.Value.slice Option.none 0 0 ∧ 0 = 0 ∧ IX = IX ∧ Go.Value.slice Option.none 0 0 = Go.Value.slice Option.none 0 0 ∧ 0 = 0 ∧ (adS y_2.snd.snd (↑((n - (6 + 20 * y_2.fst)).min 20) : Int).toNat 1 y_2.snd.fst = y'.snd.fst ∧ n - (6 + 20 * y_2.fst) - (↑((n - (6 + 20 * y_2.fst)).min 20) : Int).toNat = n - (6 + 20 * y'.fst) ∧ y_2.snd.snd - (↑((n - (6 + 20 * y_2.fst)).min 20) : Int).toNat = y'.snd.snd ∧ ∀ (i : Nat), i < n - (6 + 20 * y_2.fst) - (↑((n - (6 + 20 * y_2.fst)).min 20) : Int).toNat → k (6 + 20 * y_2.fst + ((↑((n - (6 + 20 * y_2.fst)).min 20) : Int).toNat + i)) 0 = k (6 + 20 * y'.fst + i) 0) ∧ 0 = 0 ∧ Y = Y ∧ 0 = 0 ∧ (∀ (i : Nat), i < Y → (bif Decidable.decide (i = 0 + (↑y_2.fst : Int).toNat) then if 0 < (n - (6 + 20 * y_2.fst)).min 20 then (fun (j c : Nat) => k (6 + 20 * y_2.fst + j) c) 0 0 else (0 : Int) else keyG n k y_2.fst i 0) = keyG n k y'.fst i 0 ∧ (bif Decidable.decide (i = 0 + (↑y_2.fst : Int).toNat) then if 1 < (n - (6 + 20 * y_2.fst)).min 20 then (fun (j c : Nat) => k (6 + 20 * y_2.fst + j) c) 1 0 else (0 : Int) else keyG n k y_2.fst i 1) = keyG n k y'.fst i 1 ∧ (bif Decidable.decide (i = 0 + (↑y_2.fst : Int).toNat) then if 2 < (n - (6 + 20 * y_2.fst)).min 20 then (fun (j c : Nat) => k (6 + 20 * y_2.fst + j) c) 2 0 else (0 : Int) else keyG n k y_2.fst i 2) = keyG n k y'.fst i 2 ∧ (bif Decidable.decide (i = 0 + (↑y_2.fst : Int).toNat) then if 3 < (n - (6 + 20 * y_2.fst)).min 20 then (fun (j c : Nat) => k (6 + 20 * y_2.fst + j) c) 3 0 else (0 : Int) else keyG n k y_2.fst i 3) = keyG n k y'.fst i 3 ∧ (bif Decidable.decide (i = 0 + (↑y_2.fst : Int).toNat) then if 4 < (n - (6 + 20 * y_2.fst)).min 20 then (fun (j c : Nat) => k (6 + 20 * y_2.fst + j) c) 4 0 else (0 : Int) else keyG n k y_2.fst i 4) = keyG n k y'.fst i 4 ∧ (bif Decidable.decide (i = 0 + (↑y_2.fst : Int).toNat) then if 5 < (n - (6 + 20 * y_2.fst)).min 20 then (fun (j c : Nat) => k (6 + 20 * y_2.fst + j) c) 5 0 else (0 : Int) else keyG n k y_2.fst i 5) = keyG n k y'.fst i 5 ∧ (bif Decidable.decide (i = 0 + (↑y_2.fst : Int).toNat) then if 6 < (n - (6 + 20 * y_2.fst)).min 20 then (fun (j c : Nat) => k (6 + 20 * y_2.fst + j) c) 6 0 else (0 : Int) else keyG n k y_2.fst i 6) = keyG n k y'.fst i 6 ∧ (bif Decidable.decide (i = 0 + (↑y_2.fst : Int).toNat) then if 7 < (n - (6 + 20 * y_2.fst)).min 20 then (fun (j c : Nat) => k (6 + 20 * y_2.fst + j) c) 7 0 else (0 : Int) else keyG n k y_2.fst i 7) = keyG n k y'.fst i 7 ∧ (bif Decidable.decide (i = 0 + (↑y_2.fst : Int).toNat) then if 8 < (n - (6 + 20 * y_2.fst)).min 20 then (fun (j c : Nat) => k (6 + 20 * y_2.fst + j) c) 8 0 else (0 : Int) else keyG n k y_2.fst i 8) = keyG n k y'.fst i 8 ∧ (bif Decidable.decide (i = 0 + (↑y_2.fst : Int).toNat) then if 9 < (n - (6 + 20 * y_2.fst)).min 20 then (fun (j c : Nat) => k (6 + 20 * y_2.fst + j) c) 9 0 else (0 : Int) else keyG n k y_2.fst i 9) = keyG n k y'.fst i 9 ∧ (bif Decidable.decide (i = 0 + (↑y_2.fst : Int).toNat) then if 10 < (n - (6 + 20 * y_2.fst)).min 20 then (fun (j c : Nat) => k (6 + 20 * y_2.fst + j) c) 10 0 else (0 : Int) else keyG n k y_2.fst i 10) = keyG n k y'.fst i 10 ∧ (bif Decidable.decide (i = 0 + (↑y_2.fst : Int).toNat) then if 11 < (n - (6 + 20 * y_2.fst)).min 20 then (fun (j c : Nat) => k (6 + 20 * y_2.fst + j) c) 11 0 else (0 : Int) else keyG n k y_2.fst i 11) = keyG n k y'.fst i 11 ∧ (bif Decidable.decide (i = 0 + (↑y_2.fst : Int).toNat) then if 12 < (n - (6 + 20 * y_2.fst)).min 20 then (fun (j c : Nat) => k (6 + 20 * y_2.fst + j) c) 12 0 else (0 : Int) else keyG n k y_2.fst i 12) = keyG n k y'.fst i 12 ∧ (bif Decidable.decide (i = 0 + (↑y_2.fst : Int).toNat) then if 13 < (n - (6 + 20 * y_2.fst)).min 20 then (fun (j c : Nat) => k (6 + 20 * y_2.fst + j) c) 13 0 else (0 : Int) else keyG n k y_2.fst i 13) = keyG n k y'.fst i 13 ∧ (bif Decidable.decide (i = 0 + (↑y_2.fst : Int).toNat) then if 14 < (n - (6 + 20 * y_2.fst)).min 20 then (fun (j c : Nat) => k (6 + 20 * y_2.fst + j) c) 14 0 else (0 : Int) else keyG n k y_2.fst i 14) = keyG n k y'.fst i 14 ∧ (bif Decidable.decide (i = 0 + (↑y_2.fst : Int).toNat) then if 15 < (n - (6 + 20 * y_2.fst)).min 20 then (fun (j c : Nat) => k (6 + 20 * y_2.fst + j) c) 15 0 else (0 : Int) else keyG n k y_2.fst i 15) = keyG n k y'.fst i 15 ∧ (bif Decidable.decide (i = 0 + (↑y_2.fst : Int).toNat) then if 16 < (n - (6 + 20 * y_2.fst)).min 20 then (fun (j c : Nat) => k (6 + 20 * y_2.fst + j) c) 16 0 else (0 : Int) else keyG n k y_2.fst i 16) = keyG n k y'.fst i 16 ∧ (bif Decidable.decide (i = 0 + (↑y_2.fst : Int).toNat) then if 17 < (n - (6 + 20 * y_2.fst)).min 20 then (fun (j c : Nat) => k (6 + 20 * y_2.fst + j) c) 17 0 else (0 : Int) else keyG n k y_2.fst i 17) = keyG n k y'.fst i 17 ∧ (bif Decidable.decide (i = 0 + (↑y_2.fst : Int).toNat) then if 18 < (n - (6 + 20 * y_2.fst)).min 20 then (fun (j c : Nat) => k (6 + 20 * y_2.fst + j) c) 18 0 else (0 : Int) else keyG n k y_2.fst i 18) = keyG n k y'.fst i 18 ∧ (bif Decidable.decide (i = 0 + (↑y_2.fst : Int).toNat) then if 19 < (n - (6 + 20 * y_2.fst)).min 20 then (fun (j c : Nat) => k (6 + 20 * y_2.fst + j) c) 19 0 else (0 : Int) else keyG n k y_2.fst i 19) = keyG n k y'.fst i 19) ∧ (Y - y'.fst).succ.le (Y - y_2.fst)) ∧ (Decidable.decide ((↑y_2.fst : Int) < (↑Y : Int)) = Bool.false → (Decidable.decide (x4 < x16) = Bool.true → (((0 : Int) = z ∧ True) ∧ (0 = am % M256 ∧ True) ∧ (0 = fe % M256 ∧ True) ∧ ((0 : Int) = tk 0 ∧ (0 : Int) = tk 1 ∧ (0 : Int) = tk 2 ∧ (0 : Int) = tk 3 ∧ (0 : Int) = tk 4 ∧ (0 : Int) = tk 5 ∧ (0 : Int) = tk 6 ∧ (0 : Int) = tk 7 ∧ (0 : Int) = tk 8 ∧ (0 : Int) = tk 9 ∧ (0 : Int) = tk 10 ∧ (0 : Int) = tk 11 ∧ (0 : Int) = tk 12 ∧ (0 : Int) = tk 13 ∧ (0 : Int) = tk 14 ∧ (0 : Int) = tk 15 ∧ (0 : Int) = tk 16 ∧ (0 : Int) = tk 17 ∧ (0 : Int) = tk 18 ∧ (0 : Int) = tk 19 ∧ (0 : Int) = tk 20 ∧ (0 : Int) = tk 21 ∧ (0 : Int) = tk 22 ∧ (0 : Int) = tk 23 ∧ (0 : Int) = tk 24 ∧ (0 : Int) = tk 25 ∧ (0 : Int) = tk 26 ∧ (0 : Int) = tk 27 ∧ (0 : Int) = tk 28 ∧ (0 : Int) = tk 29 ∧ (0 : Int) = tk 30 ∧ (0 : Int) = tk 31 ∧ True) ∧ ((0 : Int) = hm ∧ True) ∧ ((0 : Int) = to 0 ∧ (0 : Int) = to 1 ∧ (0 : Int) = to 2 ∧ (0 : Int) = to 3 ∧ (0 : Int) = to 4 ∧ (0 : Int) = to 5 ∧ (0 : Int) = to 6 ∧ (0 : Int) = to 7 ∧ (0 : Int) = to 8 ∧ (0 : Int) = to 9 ∧ (0 : Int) = to 10 ∧ (0 : Int) = to 11 ∧ (0 : Int) = to 12 ∧ (0 : Int) = to 13 ∧ (0 : Int) = to 14 ∧ (0 : Int) = to 15 ∧ (0 : Int) = to 16 ∧ (0 : Int) = to 17 ∧ (0 : Int) = to 18 ∧ (0 : Int) = to 19 ∧ (0 : Int) = to 20 ∧ (0 : Int) = to 21 ∧ (0 : Int) = to 22 ∧ (0 : Int) = to 23 ∧ (0 : Int) = to 24 ∧ (0 : Int) = to 25 ∧ (0 : Int) = to 26 ∧ (0 : Int) = to 27 ∧ (0 : Int) = to 28 ∧ (0 : Int) = to 29 ∧ (0 : Int) = to 30 ∧ (0 : Int) = to 31 ∧ True) ∧ ((0 : Int) = tc ∧ True) ∧ ((0 : Int) = dc ∧ True) ∧ ((ByteArray.mk #[]) = sy ∧ True) ∧ m = 0 ∧ ((0 : Int) = ix ∧ True) ∧ y = 0 ∧ True) ∧ (4 : Int) = e) ∧ (Decidable.decide (x4 < x16) = Bool.false → ((!Decidable.decide (x4 > x16)) = Bool.true → (!Decidable.decide (x4 > x16)) = Bool.true ∧ (x17 = Bool.true → x17 = Bool.true) ∧ (x17 = Bool.true → x17 = Bool.true) ∧ (x17 = Bool.true → x17 = Bool.true) ∧ (x17 = Bool.true → x17 = Bool.true) ∧ (x17 = Bool.true → x17 = Bool.true) ∧ (x17 = Bool.true → x17 = Bool.true) ∧ (x18 = Bool.true → x18 = Bool.true) ∧ (x18 = Bool.true → x18 = Bool.true) ∧ (x18 = Bool.true → x18 = Bool.true) ∧ (x18 = Bool.true → x18 = Bool.true) ∧ (x18 = Bool.true → x18 = Bool.true) ∧ (x18 = Bool.true → x18 = Bool.true) ∧ ((!(x18 && Decidable.decide ((↑Y : Int) ≤ (19 : Int)))) = Bool.true → (((0 : Int) = z ∧ True) ∧ (0 = am % M256 ∧ True) ∧ (0 = fe % M256 ∧ True) ∧ ((0 : Int) = tk 0 ∧ (0 : Int) = tk 1 ∧ (0 : Int) = tk 2 ∧ (0 : Int) = tk 3 ∧ (0 : Int) = tk 4 ∧ (0 : Int) = tk 5 ∧ (0 : Int) = tk 6 ∧ (0 : Int) = tk 7 ∧ (0 : Int) = tk 8 ∧ (0 : Int) = tk 9 ∧ (0 : Int) = tk 10 ∧ (0 : Int) = tk 11 ∧ (0 : Int) = tk 12 ∧ (0 : Int) = tk 13 ∧ (0 : Int) = tk 14 ∧ (0 : Int) = tk 15 ∧ (0 : Int) = tk 16 ∧ (0 : Int) = tk 17 ∧ (0 : Int) = tk 18 ∧ (0 : Int) = tk 19 ∧ (0 : Int) = tk 20 ∧ (0 : Int) = tk 21 ∧ (0 : Int) = tk 22 ∧ (0 : Int) = tk 23 ∧ (0 : Int) = tk 24 ∧ (0 : Int) = tk 25 ∧ (0 : Int) = tk 26 ∧ (0 : Int) = tk 27 ∧ (0 : Int) = tk 28 ∧ (0 : Int) = tk 29 ∧ (0 : Int) = tk 30 ∧ (0 : Int) = tk 31 ∧ True) ∧ ((0 : Int) = hm ∧ True) ∧ ((0 : Int) = to 0 ∧ (0 : Int) = to 1 ∧ (0 : Int) = to 2 ∧ (0 : Int) = to 3 ∧ (0 : Int) = to 4 ∧ (0 : Int) = to 5 ∧ (0 : Int) = to 6 ∧ (0 : Int) = to 7 ∧ (0 : Int) = to 8 ∧ (0 : Int) = to 9 ∧ (0 : Int) = to 10 ∧ (0 : Int) = to 11 ∧ (0 : Int) = to 12 ∧ (0 : Int) = to 13 ∧ (0 : Int) = to 14 ∧ (0 : Int) = to 15 ∧ (0 : Int) = to 16 ∧ (0 : Int) = to 17 ∧ (0 : Int) = to 18 ∧ (0 : Int) = to 19 ∧ (0 : Int) = to 20 ∧ (0 : Int) = to 21 ∧ (0 : Int) = to 22 ∧ (0 : Int) = to 23 ∧ (0 : Int) = to 24 ∧ (0 : Int) = to 25 ∧ (0 : Int) = to 26 ∧ (0 : Int) = to 27 ∧ (0 : Int) = to 28 ∧ (0 : Int) = to 29 ∧ (0 : Int) = to 30 ∧ (0 : Int) = to 31 ∧ True) ∧ ((0 : Int) = tc ∧ True) ∧ ((0 : Int) = dc ∧ True) ∧ ((ByteArray.mk #[]) = sy ∧ True) ∧ m = 0 ∧ ((0 : Int) = ix ∧ True) ∧ y = 0 ∧ True) ∧ (3 : Int) = e) ∧ ((!(x18 && Decidable.decide ((↑Y : Int) ≤ (19 : Int)))) = Bool.false → x19 ≤ Y ∧ (0 ≤ 0 ∧ 0 ≤ Go.maxLen ∧ 0 = 0) ∧ (x19 ≤ Go.maxLen ∧ x19 * 20 ≤ 140737488355328) ∧ ∀ (c : Nat), x19 + c ≤ Go.maxLen → (((4 : Int) = z ∧ True) ∧ (0 = am % M256 ∧ True) ∧ (0 = fe % M256 ∧ True) ∧ ((0 : Int) = tk 0 ∧ (0 : Int) = tk 1 ∧ (0 : Int) = tk 2 ∧ (0 : Int) = tk 3 ∧ (0 : Int) = tk 4 ∧ (0 : Int) = tk 5 ∧ (0 : Int) = tk 6 ∧ (0 : Int) = tk 7 ∧ (0 : Int) = tk 8 ∧ (0 : Int) = tk 9 ∧ (0 : Int) = tk 10 ∧ (0 : Int) = tk 11 ∧ (0 : Int) = tk 12 ∧ (0 : Int) = tk 13 ∧ (0 : Int) = tk 14 ∧ (0 : Int) = tk 15 ∧ (0 : Int) = tk 16 ∧ (0 : Int) = tk 17 ∧ (0 : Int) = tk 18 ∧ (0 : Int) = tk 19 ∧ (0 : Int) = tk 20 ∧ (0 : Int) = tk 21 ∧ (0 : Int) = tk 22 ∧ (0 : Int) = tk 23 ∧ (0 : Int) = tk 24 ∧ (0 : Int) = tk 25 ∧ (0 : Int) = tk 26 ∧ (0 : Int) = tk 27 ∧ (0 : Int) = tk 28 ∧ (0 : Int) = tk 29 ∧ (0 : Int) = tk 30 ∧ (0 : Int) = tk 31 ∧ True) ∧ ((0 : Int) = hm ∧ True) ∧ ((0 : Int) = to 0 ∧ (0 : Int) = to 1 ∧ (0 : Int) = to 2 ∧ (0 : Int) = to 3 ∧ (0 : Int) = to 4 ∧ (0 : Int) = to 5 ∧ (0 : Int) = to 6 ∧ (0 : Int) = to 7 ∧ (0 : Int) = to 8 ∧ (0 : Int) = to 9 ∧ (0 : Int) = to 10 ∧ (0 : Int) = to 11 ∧ (0 : Int) = to 12 ∧ (0 : Int) = to 13 ∧ (0 : Int) = to 14 ∧ (0 : Int) = to 15 ∧ (0 : Int) = to 16 ∧ (0 : Int) = to 17 ∧ (0 : Int) = to 18 ∧ (0 : Int) = to 19 ∧ (0 : Int) = to 20 ∧ (0 : Int) = to 21 ∧ (0 : Int) = to 22 ∧ (0 : Int) = to 23 ∧ (0 : Int) = to 24 ∧ (0 : Int) = to 25 ∧ (0 : Int) = to 26 ∧ (0 : Int) = to 27 ∧ (0 : Int) = to 28 ∧ (0 : Int) = to 29 ∧ (0 : Int) = to 30 ∧ (0 : Int) = to 31 ∧ True) ∧ ((0 : Int) = tc ∧ True) ∧ ((0 : Int) = dc ∧ True) ∧ ((ByteArray.mk #[]) = sy ∧ True) ∧ m = 0 ∧ (IX = ix ∧ True) ∧ (0 + x19 ≤ x19 ∧ x19 = y ∧ x19 ≤ x19 + c ∧ ∀ (i : Nat), i < y → keyG n k y_2.fst (0 + (0 + i - 0)) 0 = kk i 0 ∧ keyG n k y_2.fst (0 + (0 + i - 0)) 1 = kk i 1 ∧ keyG n k y_2.fst (0 + (0 + i - 0)) 2 = kk i 2 ∧ keyG n k y_2.fst (0 + (0 + i - 0)) 3 = kk i 3 ∧ keyG n k y_2.fst (0 + (0 + i - 0)) 4 = kk i 4 ∧ keyG n k y_2.fst (0 + (0 + i - 0)) 5 = kk i 5 ∧ keyG n k y_2.fst (0 + (0 + i - 0)) 6 = kk i 6 ∧ keyG n k y_2.fst (0 + (0 + i - 0)) 7 = kk i 7 ∧ keyG n k y_2.fst (0 + (0 + i - 0)) 8 = kk i 8 ∧ keyG n k y_2.fst (0 + (0 + i - 0)) 9 = kk i 9 ∧ keyG n k y_2.fst (0 + (0 + i - 0)) 10 = kk i 10 ∧ keyG n k y_2.fst (0 + (0 + i - 0)) 11 = kk i 11 ∧ keyG n k y_2.fst (0 + (0 + i - 0)) 12 = kk i 12 ∧ keyG n k y_2.fst (0 + (0 + i - 0)) 13 = kk i 13 ∧ keyG n k y_2.fst (0 + (0 + i - 0)) 14 = kk i 14 ∧ keyG n k y_2.fst (0 + (0 + i - 0)) 15 = kk i 15 ∧ keyG n k y_2.fst (0 + (0 + i - 0)) 16 = kk i 16 ∧ keyG n k y_2.fst (0 + (0 + i - 0)) 17 = kk i 17 ∧ keyG n k y_2.fst (0 + (0 + i - 0)) 18 = kk i 18 ∧ keyG n k y_2.fst (0 + (0 + i - 0)) 19 = kk i 19) ∧ True) ∧ (0 : Int) = e)) ∧ ((!Decidable.decide (x4 > x16)) = Bool.false → (((0 : Int) = z ∧ True) ∧ (0 = am % M256 ∧ True) ∧ (0 = fe % M256 ∧ True) ∧ ((0 : Int) = tk 0 ∧ (0 : Int) = tk 1 ∧ (0 : Int) = tk 2 ∧ (0 : Int) = tk 3 ∧ (0 : Int) = tk 4 ∧ (0 : Int) = tk 5 ∧ (0 : Int) = tk 6 ∧ (0 : Int) = tk 7 ∧ (0 : Int) = tk 8 ∧ (0 : Int) = tk 9 ∧ (0 : Int) = tk 10 ∧ (0 : Int) = tk 11 ∧ (0 : Int) = tk 12 ∧ (0 : Int) = tk 13 ∧ (0 : Int) = tk 14 ∧ (0 : Int) = tk 15 ∧ (0 : Int) = tk 16 ∧ (0 : Int) = tk 17 ∧ (0 : Int) = tk 18 ∧ (0 : Int) = tk 19 ∧ (0 : Int) = tk 20 ∧ (0 : Int) = tk 21 ∧ (0 : Int) = tk 22 ∧ (0 : Int) = tk 23 ∧ (0 : Int) = tk 24 ∧ (0 : Int) = tk 25 ∧ (0 : Int) = tk 26 ∧ (0 : Int) = tk 27 ∧ (0 : Int) = tk 28 ∧ (0 : Int) = tk 29 ∧ (0 : Int) = tk 30 ∧ (0 : Int) = tk 31 ∧ True) ∧ ((0 : Int) = hm ∧ True) ∧ ((0 : Int) = to 0 ∧ (0 : Int) = to 1 ∧ (0 : Int) = to 2 ∧ (0 : Int) = to 3 ∧ (0 : Int) = to 4 ∧ (0 : Int) = to 5 ∧ (0 : Int) = to 6 ∧ (0 : Int) = to 7 ∧ (0 : Int) = to 8 ∧ (0 : Int) = to 9 ∧ (0 : Int) = to 10 ∧ (0 : Int) = to 11 ∧ (0 : Int) = to 12 ∧ (0 : Int) = to 13 ∧ (0 : Int) = to 14 ∧ (0 : Int) = to 15 ∧ (0 : Int) = to 16 ∧ (0 : Int) = to 17 ∧ (0 : Int) = to 18 ∧ (0 : Int) = to 19 ∧ (0 : Int) = to 20 ∧ (0 : Int) = to 21 ∧ (0 : Int) = to 22 ∧ (0 : Int) = to 23 ∧ (0 : Int) = to 24 ∧ (0 : Int) = to 25 ∧ (0 : Int) = to 26 ∧ (0 : Int) = to 27 ∧ (0 : Int) = to 28 ∧ (0 : Int) = to 29 ∧ (0 : Int) = to 30 ∧ (0 : Int) = to 31 ∧ True) ∧ ((0 : Int) = tc ∧ True) ∧ ((0 : Int) = dc ∧ True) ∧ ((ByteArray.mk #[]) = sy ∧ True) ∧ m = 0 ∧ ((0 : Int) = ix ∧ True) ∧ y = 0 ∧ True) ∧ (3 : Int) = e))))) := by kernel_rfl
end Go.Proofs.Ytgjjpffaofdpiaa
end
