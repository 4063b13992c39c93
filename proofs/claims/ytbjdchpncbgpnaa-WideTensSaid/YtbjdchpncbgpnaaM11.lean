/-
  Texts: P111, P10, V68, P112.
-/
import Derived.Test.YtbjdchpncbgpnaaM1
import Derived.Test.YtbjdchpncbgpnaaM2
import Derived.Test.YtbjdchpncbgpnaaM3
import Derived.Test.YtbjdchpncbgpnaaM4
import Derived.Test.YtbjdchpncbgpnaaM5
import Derived.Test.YtbjdchpncbgpnaaM6
import Derived.Test.YtbjdchpncbgpnaaM7
import Derived.Test.YtbjdchpncbgpnaaM8
import Derived.Test.YtbjdchpncbgpnaaM9
import Derived.Test.YtbjdchpncbgpnaaM10
section
/-
  The reference's texts of numbers; the law of what is parsed.
-/
namespace Go.Proofs.Ytbjdchpncbgpnaa
open Go Go.Sx Go.RowKit

theorem valP_lt (s : ByteArray) : ∀ i, valP s i < 257 * 256 ^ i
  | 0 => by simp [valP]
  | i + 1 => by
    have h := valP_lt s i
    have hb : byteAt s i < 256 := (s.data.getD i 0).toNat_lt
    simp only [valP]
    rw [Nat.pow_succ]
    omega
theorem lenV_le (s : ByteArray) {i : Nat} (hi : i ≤ 78) : lenDg (valP s i) ≤ 22 := by
  refine lenDg_le (Nat.lt_of_lt_of_le (valP_lt s i) ?_)
  have : 256 ^ i ≤ 256 ^ 78 := Nat.pow_le_pow_right (by decide) hi
  have e : 257 * 256 ^ 78 ≤ 4294967296 ^ 22 := by decide
  omega
theorem list_nil (s : ByteArray) : (s.toList == (ByteArray.mk #[]).toList) = decide (s.size = 0) := by
  rw [ByteArray.toList_eq, ByteArray.toList_eq, Bool.eq_iff_iff, beq_iff_eq, decide_eq_true_iff]
  constructor
  · intro h
    have := congrArg List.length h
    simpa using this
  · intro h
    apply List.eq_nil_of_length_eq_zero
    simpa using h
theorem list_one (s : ByteArray) : (s.toList == (ByteArray.mk #[(48 : UInt8)]).toList) = decide (s.size = 1 ∧ byteAt s 0 = 48) := by
  rw [ByteArray.toList_eq, ByteArray.toList_eq, Bool.eq_iff_iff, beq_iff_eq, decide_eq_true_iff]
  have hs : s.size = s.data.toList.length := Array.length_toList.symm
  have hb : byteAt s 0 = (s.data.toList.getD 0 0).toNat := by
    unfold byteAt
    rw [Array.getD_eq_getD_getElem?, List.getD_eq_getElem?_getD, Array.getElem?_toList]
  rw [hs, hb]
  generalize s.data.toList = l
  constructor
  · rintro rfl; exact ⟨rfl, rfl⟩
  · rintro ⟨h1, h2⟩
    match l, h1 with
    | [x], _ =>
      have : x = 48 := UInt8.toNat_inj.1 h2
      rw [this]
theorem ok_refNum (s : ByteArray) : OwesV Try.prog .none slAll [(7, .inv (invNum s))] 4 Try.f22 [sStr s] (parseG s) := by
  unfold parseG
  obtain ⟨r, hr⟩ : ∃ r, r = parseV s := ⟨_, rfl⟩
  obtain ⟨e, he⟩ : ∃ e, e = parseE s := ⟨_, rfl⟩
  rw [← hr, ← he, vc_refNum]
  intro x1 x2 x3 x4
  have E1 : x1 = r % M256 := rfl
  have E2 : x2 = decide (s.size = 0) := list_nil s
  have E3 : x3 = !x2 := rfl
  have E4 : x4 = decide (byteAt s 0 = 48) := by
    show (((s.data.getD 0 0).toNat : Int) == 48) = _
    rw [Bool.eq_iff_iff, beq_iff_eq, decide_eq_true_iff]
    unfold byteAt
    omega
  have z : parseE s ≠ 0 → 0 = x1 := fun h => by
    rw [E1, hr]
    unfold parseV
    rw [if_neg h, Nat.zero_mod]
  rw [list_one]
  clear_value x1 x2 x3 x4
  subst E3
  refine ⟨fun h0 => ?_, fun h0 => ?_⟩
  · have h0 : (s.size : Int) > 78 := of_decide_eq_true h0
    have f : parseE s = 1 := by unfold parseE; rw [if_pos (by omega)]
    exact ⟨⟨z (by rw [f]; decide), trivial⟩, by rw [he, f]⟩
  have h0 : ¬ (s.size : Int) > 78 := of_decide_eq_false h0
  have hs : ¬ 78 < s.size := by omega
  have f3 : decB s = false → parseE s = 3 := fun h => by unfold parseE; rw [if_neg hs, if_pos h]
  refine ⟨id, fun h => ?_, id, id, id, id, fun h1 h2 => ?_, fun h => by rw [h]; rfl, fun h => ?_, fun h => ?_⟩
  · rw [E2] at h
    simp only [Bool.not_eq_true', decide_eq_false_iff_not] at h
    omega
  · rw [h1, h2]; rfl
  · have f := f3 (by
      rw [E2, E4] at h
      simp only [Bool.or_eq_true, Bool.and_eq_true, decide_eq_true_eq, Bool.not_eq_true', decide_eq_false_iff_not] at h
      unfold decB
      rw [Bool.and_eq_false_iff, Bool.or_eq_false_iff, decide_eq_false_iff_not, decide_eq_false_iff_not]
      right
      omega)
    exact ⟨⟨z (by rw [f]; decide), trivial⟩, by rw [he, f]⟩
  have hgood : decB s = allDig s s.size := by
    rw [E2, E4] at h
    simp only [Bool.or_eq_false_iff, Bool.and_eq_false_iff, decide_eq_false_iff_not, Bool.not_eq_false', decide_eq_true_eq] at h
    unfold decB
    have : (decide (s.size = 1) || decide (1 < s.size ∧ byteAt s 0 ≠ 48)) = true := by
      simp only [Bool.or_eq_true, decide_eq_true_eq]
      omega
    rw [this, Bool.and_true]
  refine ⟨fun y => rfl, (0, none, 0), ⟨Nat.zero_le _, rfl⟩, rfl, rfl, rfl, rfl, rfl, rfl, fun ⟨i, a0, c0⟩ ⟨hi, hd⟩ => ?_⟩
  have hi : i ≤ s.size := hi
  have hd : allDig s i = true := hd
  have hl := lenV_le s (i := i) (by omega)
  have T : ∀ i : Nat, True := fun _ => trivial
  have EV : vn (lenDg (valP s i)) (fun j => dg (valP s i) j) = valP s i := vnk (lenDg_lt _)
  have L0 : lenDg (valP s i) ≤ 1000 := by omega
  refine ⟨fun h1 => ?_, fun h1 => ?_⟩
  · have h1 : (i : Int) < (s.size : Int) := of_decide_eq_true h1
    have A : (0 : Int) ≤ (i : Int) ∧ ((i : Int)).toNat < s.size := by omega
    have EB : (((s.data.getD ((i : Int)).toNat 0).toNat : Nat) : Int) = (byteAt s i : Int) := by rw [Int.toNat_natCast]; rfl
    refine ⟨A, id, id, fun _ => A, id, fun h => by rw [h]; rfl, fun h2 => ?_, fun h2 => ?_⟩
    · have h2 : (decide ((((s.data.getD ((i : Int)).toNat 0).toNat : Nat) : Int) < 48) || decide ((((s.data.getD ((i : Int)).toNat 0).toNat : Nat) : Int) > 57)) = true := h2
      rw [EB, Bool.or_eq_true, decide_eq_true_eq, decide_eq_true_eq] at h2
      have f := f3 (by
        rw [hgood]
        cases hx : allDig s s.size with
        | false => rfl
        | true =>
          have := (allDig_iff s s.size).1 hx i (by omega)
          omega)
      exact ⟨⟨z (by rw [f]; decide), trivial⟩, by rw [he, f]⟩
    · have h2 : (decide ((((s.data.getD ((i : Int)).toNat 0).toNat : Nat) : Int) < 48) || decide ((((s.data.getD ((i : Int)).toNat 0).toNat : Nat) : Int) > 57)) = false := h2
      rw [EB, Bool.or_eq_false_iff, decide_eq_false_iff_not, decide_eq_false_iff_not] at h2
      have hb : 48 ≤ byteAt s i ∧ byteAt s i ≤ 57 := by omega
      have EZ : IntKind.u64.wrap (IntKind.u8.wrap ((((s.data.getD ((i : Int)).toNat 0).toNat : Nat) : Int) - 48)) = ((byteAt s i - 48 : Nat) : Int) := by
        rw [EB]; exact digit_in hb.1 hb.2
      have E10 : vn (lenDg (valP s i) + 1) (fun j => dg (valP s i * 10) j) = valP s i * 10 := vn_prod (lenDg_lt _) (by decide)
      have EW : vn (max (lenDg (valP s i) + 1) 1 + 1) (fun j => dg ((vn (lenDg (valP s i) + 1) fun j => dg ((vn (lenDg (valP s i)) fun j => dg (valP s i) j) * 10) j) + vn 1 fun j => (intsL [SK.c (SC.val (Value.int IntKind.u64 (IntKind.u64.wrap (IntKind.u8.wrap ((((s.data.getD ((i : Int)).toNat 0).toNat : Nat) : Int) - 48)))))]).getD j 0) j) = valP s (i + 1) := by
        rw [EV, E10, EZ, vn_one, Int.toNat_natCast, show max (lenDg (valP s i) + 1) 1 = lenDg (valP s i) + 1 by omega]
        have hv : valP s (i + 1) = valP s i * 10 + (byteAt s i - 48) := by show 10 * valP s i + _ = _; omega
        rw [hv]
        refine vnk ?_
        have := lenDg_lt (valP s i)
        rw [Nat.pow_succ, Nat.pow_succ]
        omega
      have D1 : dgs 1 fun j => intsC (SC.val (Value.int IntKind.u64 (selG [SK.c (SC.num IntKind.u64 10)] j))) := ⟨fun j hj => by
        have : j = 0 := by omega
        subst this
        exact ⟨by decide, by decide⟩⟩
      have D2 : dgs 1 fun j => intsC (SC.val (Value.int IntKind.u64 (selG [SK.c (SC.val (Value.int IntKind.u64 (IntKind.u64.wrap (IntKind.u8.wrap ((((s.data.getD ((i : Int)).toNat 0).toNat : Nat) : Int) - 48)))))] j))) := dgs_one (by rw [EZ]; omega)
      have L1 : lenDg (valP s i) + 1 ≤ 1000 := by omega
      have L2 : max (lenDg (valP s i) + 1) 1 + 1 ≤ 1000 := by omega
      have hd2 : allDig s (i + 1) = true := by
        rw [allDig_iff] at hd ⊢
        intro j hj
        by_cases e : j = i
        · subst e; exact hb
        · exact hd j (by omega)
      have hi2 : i + 1 ≤ s.size := by omega
      have W : IntKind.i64.wrap ((i : Int) + 1) = ((i + 1 : Nat) : Int) := by rw [wrapi (by omega)]; rfl
      have ms : s.size - (i + 1) < s.size - i := by omega
      have fin : ∀ (a : Option Addr) (cap : Nat), ∃ y' : Nat × Option Addr × Nat, (y'.1 ≤ s.size ∧ allDig s y'.1 = true) ∧ s = s ∧ (a = y'.2.1 ∧ lenDg (vn (max (lenDg (valP s i) + 1) 1 + 1) (fun j => dg ((vn (lenDg (valP s i) + 1) fun j => dg ((vn (lenDg (valP s i)) fun j => dg (valP s i) j) * 10) j) + vn 1 fun j => (intsL [SK.c (SC.val (Value.int IntKind.u64 (IntKind.u64.wrap (IntKind.u8.wrap ((((s.data.getD ((i : Int)).toNat 0).toNat : Nat) : Int) - 48)))))]).getD j 0) j)) = lenDg (valP s y'.1) ∧ cap = y'.2.2 ∧ ∀ k, k < lenDg (vn (max (lenDg (valP s i) + 1) 1 + 1) (fun j => dg ((vn (lenDg (valP s i) + 1) fun j => dg ((vn (lenDg (valP s i)) fun j => dg (valP s i) j) * 10) j) + vn 1 fun j => (intsL [SK.c (SC.val (Value.int IntKind.u64 (IntKind.u64.wrap (IntKind.u8.wrap ((((s.data.getD ((i : Int)).toNat 0).toNat : Nat) : Int) - 48)))))]).getD j 0) j)) → dg (vn (max (lenDg (valP s i) + 1) 1 + 1) (fun j => dg ((vn (lenDg (valP s i) + 1) fun j => dg ((vn (lenDg (valP s i)) fun j => dg (valP s i) j) * 10) j) + vn 1 fun j => (intsL [SK.c (SC.val (Value.int IntKind.u64 (IntKind.u64.wrap (IntKind.u8.wrap ((((s.data.getD ((i : Int)).toNat 0).toNat : Nat) : Int) - 48)))))]).getD j 0) j)) k = dg (valP s y'.1) k) ∧ IntKind.i64.wrap ((i : Int) + 1) = (y'.1 : Int) ∧ 0 = 0 ∧ s.size - y'.1 < s.size - i := fun a cap => by
        rw [EW]
        exact ⟨(i + 1, a, cap), ⟨hi2, hd2⟩, rfl, ⟨rfl, rfl, rfl, fun _ _ => rfl⟩, W, rfl, ms⟩
      have O1 : (1 : Nat) ≤ 1 := Nat.le_refl _
      have O2 : (1 : Nat) ≤ 1000 := by decide
      clear EW E10 EV EZ hgood f3 z he hr
      repeat' (first | exact T | exact A | exact O1 | exact O2 | exact L0 | exact L1 | exact L2 | exact D1 | exact D2 | exact dgs_dg _ _ | exact fin _ _ | (intro _ _ _ _) | (refine And.intro ?_ ?_) | (intro _))
  · have h1 : ¬ (i : Int) < (s.size : Int) := of_decide_eq_false h1
    have : i = s.size := by omega
    subst this
    have hdec : decB s = true := by rw [hgood]; exact hd
    refine ⟨T, dgs_dg _ _, L0, fun h2 => ?_, fun h2 => ?_⟩
    · have h2 : M256 ≤ valP s s.size := by rw [← EV]; exact of_decide_eq_true h2
      have f : parseE s = 6 := by unfold parseE; rw [if_neg hs, if_neg (by rw [hdec]; exact Bool.noConfusion), if_pos h2]
      exact ⟨⟨z (by rw [f]; decide), trivial⟩, by rw [he, f]⟩
    · have h2 : ¬ M256 ≤ valP s s.size := by rw [← EV]; exact of_decide_eq_false h2
      have f : parseE s = 0 := by unfold parseE; rw [if_neg hs, if_neg (by rw [hdec]; exact Bool.noConfusion), if_neg h2]
      refine ⟨⟨?_, trivial⟩, by rw [he, f]⟩
      show (vn (lenDg (valP s s.size)) fun j => dg (valP s s.size) j) % M256 % M256 = x1
      rw [EV, E1, hr, Nat.mod_mod]
      unfold parseV
      rw [if_pos f]
theorem card_refNum : FnOK Try.prog 22 (specS parseG) := by
  refine FnOK_owesV (sl := slAll) cx_none sl_all Try.func22 (by kernel_rfl) (by kernel_rfl) fun args ps sv hs _ => ?_
  unfold specS at hs
  split at hs
  case h_2 => cases hs
  rename_i s
  simp only [Option.some.injEq, Prod.mk.injEq] at hs
  obtain ⟨rfl, rfl⟩ := hs
  refine ⟨[(7, .inv (invNum s))], 4, [sStr s], fun _ => rfl, fun fz _ z hz => ?_, fun x hx => ?_, ok_refNum s⟩
  · simp only [List.mem_singleton] at hz
    subst hz
    exact trivial
  · simp only [List.mem_cons, List.not_mem_nil, or_false] at hx
    rcases hx with rfl | rfl
    · exact bnd_Un _
    · trivial
end Go.Proofs.Ytbjdchpncbgpnaa
end

section
/-
  A power of ten: the numbers' side.
-/
namespace Go.Proofs.Ytbjdchpncbgpnaa
open Go.Sx

theorem ok_Ten : ∀ n : Int, i64ok n → Owes Try.prog cxTen [(5, .inv (invTen n))] 100 Try.f27 [sI .i64 n] (tenG n) := by
  intro n hn
  rw [vc_Ten]
  have hM : 1 < M256 := by rw [M256_eq]; decide
  refine ⟨id, fun h => by rw [h]; rfl, fun h => ?_, fun h => ⟨fun _ => rfl, 0, ?_⟩⟩
  · simp only [Bool.or_eq_true, decide_eq_true_eq] at h
    rw [if_neg (by omega), if_neg (by omega)]
    exact ⟨⟨(Nat.zero_mod _).symm, trivial⟩, rfl⟩
  · simp only [Bool.or_eq_false_iff, decide_eq_false_iff_not] at h
    rw [if_pos (by omega), if_pos (by omega)]
    refine ⟨by omega, rfl, rfl, rfl, rfl, ⟨(Nat.mod_eq_of_lt hM).symm, trivial⟩, rfl, fun y hy => ⟨fun hb => ⟨by decide, y + 1, ?_, rfl, rfl, ?_, rfl, ?_, rfl, ?_⟩, fun hb => ⟨⟨?_, trivial⟩, rfl⟩⟩⟩
    · simp only [decide_eq_true_eq] at hb; omega
    · simp only [decide_eq_true_eq] at hb
      rw [IntWalk.i64_in _ (by omega)]; rfl
    · rw [Nat.pow_succ]
    · simp only [decide_eq_true_eq] at hb
      show n.toNat - (y + 1) < n.toNat - y
      omega
    · simp only [decide_eq_false_iff_not] at hb
      have : n.toNat = y := by omega
      rw [this]
theorem card_Ten : FnOK Try.prog 27 (specI (fun n => [i64ok n]) tenG) :=
  FnOK_I (CxOK_cons card_times CxOK_nil) (iv := fun n => [(5, .inv (invTen n))]) (N := 100) Try.func27 (by kernel_rfl) (by kernel_rfl) (fun n => by unfold tenG; exact bnd_two (bnd_U _) (bnd_I _ _)) (fun n h => ok_Ten n h.1)

end Go.Proofs.Ytbjdchpncbgpnaa
end

section
/-
  The reference's decimal digits; laws of texts: reckoned by the kernel. (Laid by program.)
-/
namespace Go.Proofs.Ytbjdchpncbgpnaa
open Go Go.Sx Go.RowKit
set_option maxRecDepth 100000
def cxWT2 : Cx := [(27, specI (fun n => [i64ok n]) tenG), (28, specI (fun n => [i64ok n]) tenG)]
-- VC vc_WideTens HASH 3890080c581c489e
theorem vc_WideTens (n : Int) :
    Owes Try.prog cxWT2 [] 10 Try.f8 [sI .i64 n] yes =
    (let x1 : Nat := (if (0 : Int) ≤ n ∧ n ≤ (77 : Int) then (10 : Nat) ^ n.toNat else (0 : Nat)) % Go.Sx.M256; let x2 : Bool := Go.Sx.conj [x1 == x1]; let x3 : Int := if (0 : Int) ≤ n ∧ n ≤ (77 : Int) then (0 : Int) else (6 : Int); ((-9223372036854775808 : Int) ≤ n ∧ n ≤ (9223372036854775807 : Int)) ∧ ((-9223372036854775808 : Int) ≤ n ∧ n ≤ (9223372036854775807 : Int)) ∧ (x2 = Bool.true → x2 = Bool.true) ∧ (x2 = Bool.true → x2 = Bool.true) ∧ (x2 = Bool.true → x2 = Bool.true) ∧ (x2 && x3 == x3) = Bool.true) := by kernel_rfl
-- END VC
end Go.Proofs.Ytbjdchpncbgpnaa
end

section
/-
  The reference's powers of ten and decimal digits; laws of texts.
-/
namespace Go.Proofs.Ytbjdchpncbgpnaa
open Go Go.Sx Go.RowKit

theorem byteAt_app (s t : ByteArray) (j : Nat) : byteAt (s ++ t) j = if j < s.size then byteAt s j else byteAt t (j - s.size) := by
  unfold byteAt
  rw [ByteArray.data_append, Array.getD_eq_getD_getElem?, Array.getD_eq_getD_getElem?, Array.getD_eq_getD_getElem?, Array.getElem?_append]
  have : s.data.size = s.size := rfl
  rw [this]
  split <;> rfl
theorem ten_val {s : ByteArray} {k : Nat} (h0 : byteAt s 0 = 49) (h : ∀ j, 0 < j → j ≤ k → byteAt s j = 48) : ∀ j, j ≤ k → valP s (j + 1) = 10 ^ j
  | 0, _ => by simp [valP, h0]
  | j + 1, hj => by
    have ih := ten_val h0 h j (by omega)
    have e : valP s (j + 1 + 1) = 10 * valP s (j + 1) + (byteAt s (j + 1) - 48) := rfl
    rw [e, ih, h (j + 1) (by omega) hj, Nat.pow_succ]
    omega
theorem ten_parse {s : ByteArray} {k : Nat} (hk : k ≤ 77) (hs : s.size = k + 1) (h0 : byteAt s 0 = 49) (h : ∀ j, 0 < j → j ≤ k → byteAt s j = 48) : parseE s = 0 ∧ parseV s = 10 ^ k := by
  have hv : valP s s.size = 10 ^ k := by rw [hs]; exact ten_val h0 h k (Nat.le_refl _)
  have hd : decB s = true := by
    unfold decB
    have a : allDig s s.size = true := by
      rw [allDig_iff]
      intro j hj
      rcases Nat.eq_zero_or_pos j with e | e
      · subst e; omega
      · have := h j e (by omega)
        omega
    rw [a, Bool.true_and, Bool.or_eq_true, decide_eq_true_eq, decide_eq_true_eq]
    omega
  have hM : 10 ^ k < M256 := Nat.lt_of_le_of_lt (Nat.pow_le_pow_right (by decide) hk) (by decide)
  have f : parseE s = 0 := by
    unfold parseE
    rw [if_neg (by omega), if_neg (by rw [hd]; exact Bool.noConfusion), if_neg (by omega)]
  exact ⟨f, by unfold parseV; rw [if_pos f, hv]⟩
theorem ok_refTens (n : Int) : OwesV Try.prog cxNum2 [] [(5, .inv (invTens n))] 4 Try.f28 [sI .i64 n] (tenG n) := by
  unfold tenG
  obtain ⟨r, hr⟩ : ∃ r, r = (if 0 ≤ n ∧ n ≤ 77 then 10 ^ n.toNat else 0) := ⟨_, rfl⟩
  obtain ⟨e, he⟩ : ∃ e : Int, e = (if 0 ≤ n ∧ n ≤ 77 then 0 else 6) := ⟨_, rfl⟩
  rw [← hr, ← he, vc_refTens]
  intro x1 x2
  have E1 : x1 = decide (n < 0) := rfl
  have E2 : x2 = r % M256 := rfl
  refine ⟨id, fun h => by rw [h]; rfl, fun h => ?_, fun h => ⟨fun y => rfl, (0, ByteArray.mk #[49]), ⟨?_, rfl, rfl, fun j h1 h2 => ?_⟩, rfl, rfl, rfl, rfl, rfl, fun ⟨k, s⟩ ⟨hk, hs, h0, hj⟩ => ⟨fun h1 => ?_, fun h1 => ?_⟩⟩⟩
  · rw [E1, Bool.or_eq_true, decide_eq_true_eq, decide_eq_true_eq] at h
    rw [if_neg (by omega)] at hr he
    exact ⟨⟨by rw [E2, hr, Nat.zero_mod], trivial⟩, he.symm⟩
  all_goals
    rw [E1, Bool.or_eq_false_iff, decide_eq_false_iff_not, decide_eq_false_iff_not] at h
    rw [if_pos (by omega)] at hr he
  · show ((0 : Nat) : Int) ≤ n
    omega
  · have h2 : j ≤ 0 := h2
    omega
  · have h1 : (k : Int) < n := of_decide_eq_true h1
    have hk : (k : Int) ≤ n := hk
    have hs : s.size = k + 1 := hs
    have h0 : byteAt s 0 = 49 := h0
    have hj : ∀ j, 0 < j → j ≤ k → byteAt s j = 48 := hj
    refine ⟨by show s.size + 1 ≤ 9223372036854775807; omega, (k + 1, s ++ ByteArray.mk #[48]), ⟨?_, ?_, ?_, fun j h1 h2 => ?_⟩, rfl, rfl, rfl, ?_, rfl, ?_⟩
    · show ((k + 1 : Nat) : Int) ≤ n
      omega
    · show (s ++ ByteArray.mk #[48]).size = k + 1 + 1
      rw [ByteArray.size_append, hs]; rfl
    · show byteAt (s ++ ByteArray.mk #[48]) 0 = 49
      rw [byteAt_app, if_pos (by omega), h0]
    · have h2 : j ≤ k + 1 := h2
      show byteAt (s ++ ByteArray.mk #[48]) j = 48
      rw [byteAt_app]
      by_cases e : j < s.size
      · rw [if_pos e]; exact hj j h1 (by omega)
      · rw [if_neg e, show j - s.size = 0 by omega]; rfl
    · show IntKind.i64.wrap ((k : Int) + 1) = ((k + 1 : Nat) : Int)
      rw [wrapi (by omega)]; rfl
    · show n.toNat - (k + 1) < n.toNat - k
      omega
  · have h1 : ¬ (k : Int) < n := of_decide_eq_false h1
    have hk : (k : Int) ≤ n := hk
    have hs : s.size = k + 1 := hs
    obtain ⟨p1, p2⟩ := ten_parse (s := s) (k := k) (by omega) hs h0 hj
    have hkn : n.toNat = k := by omega
    refine ⟨by show s.size < 9223372036854775808; omega, ⟨?_, trivial⟩, ?_⟩
    · show parseV s % M256 = x2
      rw [p2, E2, hr, hkn]
    · show parseE s = e
      rw [p1, he]
theorem card_refTens : FnOK Try.prog 28 (specI (fun n => [i64ok n]) tenG) := by
  refine FnOK_owesV (sl := []) (CxOK_cons card_refNum CxOK_nil) sl_nil Try.func28 (by kernel_rfl) (by kernel_rfl) fun args ps sv hs _ => ?_
  unfold specI at hs
  split at hs
  case h_2 => cases hs
  rename_i x
  split at hs
  case h_2 => cases hs
  rename_i n hx
  simp only [Option.some.injEq, Prod.mk.injEq] at hs
  obtain ⟨rfl, rfl⟩ := hs
  refine ⟨[(5, .inv (invTens n))], 4, [sI .i64 n], fun ρ => by simp only [List.map_cons, List.map_nil, asI_sound hx ρ]; rfl, fun fz _ z hz => ?_, fun x hx => ?_, ok_refTens n⟩
  · simp only [List.mem_singleton] at hz
    subst hz
    exact trivial
  · simp only [List.mem_cons, List.not_mem_nil, or_false] at hx
    rcases hx with rfl | rfl
    · exact bnd_Un _
    · trivial
theorem ok_WideTens : ∀ n : Int, i64ok n → Owes Try.prog cxWT2 [] 10 Try.f8 [sI .i64 n] yes := by
  intro n hn
  rw [vc_WideTens]
  intro x1 x2 x3
  have e2 : x2 = true := conj_self x1
  refine ⟨hn, hn, id, id, id, ?_⟩
  rw [e2, beq_self_eq_true]; rfl
theorem cxok_WT2 : CxOK Try.prog cxWT2 := CxOK_cons card_Ten (CxOK_cons card_refTens CxOK_nil)
end Go.Proofs.Ytbjdchpncbgpnaa
end
