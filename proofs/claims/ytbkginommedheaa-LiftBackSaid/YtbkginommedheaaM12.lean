/-
  Texts: P46.
-/
import Derived.Test.YtbkginommedheaaM1
import Derived.Test.YtbkginommedheaaM2
import Derived.Test.YtbkginommedheaaM3
import Derived.Test.YtbkginommedheaaM4
import Derived.Test.YtbkginommedheaaM5
import Derived.Test.YtbkginommedheaaM6
import Derived.Test.YtbkginommedheaaM7
import Derived.Test.YtbkginommedheaaM8
import Derived.Test.YtbkginommedheaaM9
import Derived.Test.YtbkginommedheaaM10
import Derived.Test.YtbkginommedheaaM11
section
/-
  Laws of small curves: opposites, the order, lifting.
-/
namespace Go.Proofs.Ytbkginommedheaa
open Go.Sx

theorem far_conj (I : Nat) : conj [(ptOf I 0).1 % M256 == 0, (ptOf I 0).2.1 % M256 == 0, (ptOf I 0).2.2 == true] = true := by
  rw [pt_zero]
  simp [conj_all]
theorem neg_pt {I a : Nat} (hi : I < 8) (h1 : 1 ≤ a) (ha : a < cN I) : (ptOf I (cN I - a)).1 = (ptOf I a).1 ∧ (ptOf I (cN I - a)).2.1 = cP I - (ptOf I a).2.1 ∧ (ptOf I (cN I - a)).2.2 = false ∧ (ptOf I a).2.2 = false ∧ 0 < (ptOf I a).2.1 ∧ (ptOf I a).2.1 < cP I ∧ (ptOf I a).1 < cP I := by
  have F := one_of hi h1 ha
  rw [pt_pos I h1, pt_pos I (show 1 ≤ cN I - a by omega)]
  exact ⟨F.nx, F.ny, rfl, rfl, F.y0, F.ly, F.lx⟩
theorem wrap_N {I : Nat} (hi : I < 8) : IntKind.u64.wrap (limb (cN I) 0 - 1) = ((cN I - 1 : Nat) : Int) ∧ join ((cN I - 1 : Nat) : Int) 0 0 0 % M256 = cN I - 1 := by
  obtain ⟨n1, n2⟩ := cN_range hi
  have e : IntKind.u64.wrap (limb (cN I) 0 - 1) = ((cN I - 1 : Nat) : Int) := by
    rw [limb_small (by omega), wrap_id (by omega)]
    omega
  refine ⟨e, ?_⟩
  rw [join_one (by omega), Int.toNat_natCast]
theorem ok_CurveBack : ∀ n i : Int, i64ok n → i64ok i → Owes Try.prog cxCB [] 100 Try.f7 [sI .i64 n, sI .i64 i] yes := by
  intro n i hn hi'
  rw [vc_CurveBack]
  have hI := ixN_lt n
  generalize ixN n = I at *
  obtain ⟨fP, fB, fN, fb, fx, fcv, fg⟩ := cx_facts hI
  obtain ⟨n1, n2⟩ := cN_range hI
  obtain ⟨p1, p2⟩ := cP_range hI
  obtain ⟨w1, w2⟩ := wrap_N hI
  have ha := rest_nat I hI i
  generalize hA : (i % ((cN I : Nat) : Int)).toNat = a at *
  have hr : (0 : Int) ≤ ((cN I - 1 : Nat) : Int) ∧ ((cN I - 1 : Nat) : Int) < 18446744073709551616 := by omega
  have ra := red_pt hI ha
  have oa := onP_pt hI ha
  have h0 : 0 < cN I := by omega
  have o0 := onP_pt hI h0
  have r0 : red 0 0 true = ptOf I 0 := by
    unfold red
    rw [Nat.zero_mod, pt_zero]
  obtain ⟨s2, c2⟩ := csum_pt hI ha h0
  rw [Nat.add_zero, Nat.mod_eq_of_lt ha] at c2
  obtain ⟨k1, k2⟩ := cmul_pt hI ha (show cN I - 1 < M256 by have := M256_eq; omega)
  rcases Nat.eq_zero_or_pos a with e | e
  · subst e
    obtain ⟨s1, c1⟩ := csum_pt hI h0 h0
    rw [Nat.add_zero, Nat.zero_mod] at c1
    rw [Nat.mul_zero, Nat.zero_mod] at k2
    have hf : (ptOf I 0).2.2 = true := rfl
    have fc := far_conj I
    simp only [fP, fx, fB, fN, fb, hA, ra, r0, w1, w2, c1, k2, same_pt, fc]
    refine ⟨hn, fcv, hi', fun h => ?_, fun _ => ⟨fg, oa, oa, s1, fg, oa, o0, s2, hr, by decide, by decide, by decide, fg, oa, k1, id, id, id, id, id, id, id, id, id, id, id, id, id, id, id, rfl⟩⟩
    rw [hf] at h
    cases h
  · obtain ⟨g1, g2, g3, g4, g5, g6, g7⟩ := neg_pt hI e ha
    have hb : cN I - a < cN I := by omega
    have ob := onP_pt hI hb
    have mX : (ptOf I a).1 % M256 = (ptOf I a).1 := small_mod (by omega)
    have mY : (ptOf I a).2.1 % M256 = (ptOf I a).2.1 := small_mod (by omega)
    have fe : fE 0 (ptOf I a).2.1 (cP I) = 0 := fE_zero (by rw [fP, Nat.zero_mod]; omega) (by rw [fP, mY]; exact g6)
    have v9 : (if fE 0 (ptOf I a).2.1 (cP I) = 0 then (0 + cP I - (ptOf I a).2.1 % M256) % cP I else 0) = cP I - (ptOf I a).2.1 := by
      rw [if_pos fe, mY, Nat.zero_add, Nat.mod_eq_of_lt (by omega)]
    have rneg : red (ptOf I a).1 (if fE 0 (ptOf I a).2.1 (cP I) = 0 then (0 + cP I - (ptOf I a).2.1 % M256) % cP I else 0) (ptOf I a).2.2 = ptOf I (cN I - a) := by
      rw [v9]
      unfold red
      rw [mX, small_mod (v := cP I - (ptOf I a).2.1) (by omega), g4, ← g1, ← g2, ← g3]
    obtain ⟨s1, c1⟩ := csum_pt hI ha hb
    rw [Nat.add_sub_cancel' (Nat.le_of_lt ha), Nat.mod_self] at c1
    have e2 : (cN I - 1) * a % cN I = cN I - a := by
      have : (cN I - 1) * a = cN I * (a - 1) + (cN I - a) := by
        rw [Nat.sub_mul, Nat.mul_sub, Nat.one_mul, Nat.mul_one]
        have := Nat.mul_le_mul_left (cN I) e
        omega
      rw [this, Nat.mul_add_mod, Nat.mod_eq_of_lt hb]
    rw [e2] at k2
    have fc := far_conj I
    have lc : conj [(ptOf I (cN I - a)).1 % M256 == (ptOf I a).1 % M256, (ptOf I (cN I - a)).2.1 % M256 == (if fE 0 (ptOf I a).2.1 (cP I) = 0 then (0 + cP I - (ptOf I a).2.1 % M256) % cP I else 0) % M256, (ptOf I (cN I - a)).2.2 == (ptOf I a).2.2] = true := by
      rw [v9, g1, g2, g3, g4]
      simp [conj_all]
    simp only [fP, fx, fB, fN, fb, hA, ra, r0, w1, w2, rneg, c1, c2, k2, same_pt, fc, lc]
    refine ⟨hn, fcv, hi', fun _ => ⟨fg, oa, ob, s1, fg, oa, o0, s2, hr, by decide, by decide, by decide, fg, oa, k1, id, id, id, id, id, id, id, id, id, id, id, id, id, id, id, rfl⟩, fun h => ?_⟩
    rw [g4] at h
    cases h
theorem cxok_CB : CxOK Try.prog cxCB := CxOK_cons card_Curve (CxOK_cons card_point (CxOK_cons card_fSub (CxOK_cons card_cAdd (CxOK_cons card_cMult (CxOK_cons card_cTells CxOK_nil)))))

/-- A number picked from one on. -/
theorem pick_one {I : Nat} (hi : I < 8) (i : Int) : IntKind.i64.wrap (IntKind.i64.wrap (limb (cN I) 0) - 1) = ((cN I : Nat) : Int) - 1 ∧ ∃ a : Nat, 1 ≤ a ∧ a < cN I ∧ IntKind.i64.wrap (1 + i % (((cN I : Nat) : Int) - 1)) = (a : Int) ∧ ((a : Int) % ((cN I : Nat) : Int)).toNat = a ∧ 1 + (i % (((cN I : Nat) : Int) - 1)).toNat = a := by
  obtain ⟨n1, n2⟩ := cN_range hi
  have m1 := Int.emod_nonneg i (show ((cN I : Nat) : Int) - 1 ≠ 0 by omega)
  have m2 := Int.emod_lt_of_pos i (show (0 : Int) < ((cN I : Nat) : Int) - 1 by omega)
  refine ⟨?_, (1 + i % (((cN I : Nat) : Int) - 1)).toNat, by omega, by omega, ?_, ?_, by omega⟩
  · rw [limb_small (by omega), IntWalk.i64_in ((cN I : Nat) : Int) (by omega), IntWalk.i64_in _ (by omega)]
  · rw [IntWalk.i64_in _ (by omega)]
    omega
  · rw [Int.emod_eq_of_lt (by omega) (by omega), Int.toNat_natCast]
theorem ok_CurveOrder : ∀ n i k : Int, i64ok n → i64ok i → i64ok k → Owes Try.prog cxCO [] 100 Try.f9 [sI .i64 n, sI .i64 i, sI .i64 k] yes := by
  intro n i k hn hi' hk
  rw [vc_CurveOrder]
  have hI := ixN_lt n
  generalize ixN n = I at *
  obtain ⟨fP, fB, fN, fb, fx, fcv, fg⟩ := cx_facts hI
  obtain ⟨n1, n2⟩ := cN_range hI
  obtain ⟨q1, a, a1, a2, a3, a4, _⟩ := pick_one hI i
  obtain ⟨_, b, b1, b2, _, _, b5⟩ := pick_one hI k
  have mb : b % M256 = b := small_mod (by omega)
  have ra := red_pt hI a2
  have oa := onP_pt hI a2
  obtain ⟨k1, k2⟩ := cmul_pt hI a2 (show cN I < M256 by have := M256_eq; omega)
  obtain ⟨k3, k4⟩ := cmul_pt hI a2 (show b < M256 by have := M256_eq; omega)
  rw [Nat.mul_mod_right] at k2
  have gc := (one_of hI a1 a2).gc
  have hne : 1 ≤ b * a % cN I := by
    rcases Nat.eq_zero_or_pos (b * a % cN I) with e | e
    · have d : cN I ∣ b * a := Nat.dvd_of_mod_eq_zero e
      have d2 : cN I ∣ b := Nat.Coprime.dvd_of_dvd_mul_right (Nat.Coprime.symm gc) d
      have := Nat.le_of_dvd (by omega) d2
      omega
    · exact e
  have hf : (ptOf I (b * a % cN I)).2.2 = false := by rw [pt_pos I hne]
  have fc := far_conj I
  have h1 : (0 : Int) < ((cN I : Nat) : Int) - 1 ∧ ((cN I : Nat) : Int) - 1 ≤ 1048576 := by omega
  have h2 : (-9223372036854775808 : Int) ≤ (a : Int) ∧ (a : Int) ≤ 9223372036854775807 := by omega
  simp only [fP, fx, fB, fN, fb, q1, a3, a4, b5, mb, ra, k2, k4, fc, hf]
  exact ⟨hn, hi', h1, fcv, h2, fg, oa, k1, fcv, hk, fg, oa, k3, id, id, id, id, id, id, id, id, id, id, rfl⟩
theorem cxok_CO : CxOK Try.prog cxCO := CxOK_cons card_Curve (CxOK_cons card_pickBig (CxOK_cons card_point (CxOK_cons card_Secret (CxOK_cons card_cMult (CxOK_cons card_cTells CxOK_nil)))))
theorem lift_pt {I a : Nat} (hi : I < 8) (h1 : 1 ≤ a) (ha : a < cN I) : liftY (cP I) 0 (cB I) (ptOf I a).1 ((ptOf I a).2.1 % 2 == 1) = (ptOf I a).2.1 := by
  have F := one_of hi h1 ha
  obtain ⟨p1, p2⟩ := cP_range hi
  have h4 := (good_all hi).P4
  rw [pt_pos I h1]
  have rt := F.rt
  have ly := F.ly
  have y0 := F.y0
  generalize (tabOf I).getD a (0, 0) = q at *
  obtain ⟨x, y⟩ := q
  dsimp only at *
  unfold liftY
  rcases rt with e | e
  · rw [e, if_neg (by simp)]
  · rw [e, if_pos]
    · rw [Nat.zero_add, Nat.sub_sub_self (Nat.le_of_lt ly), Nat.mod_eq_of_lt ly]
    · rw [bne_iff_ne]
      intro h
      rw [Bool.eq_iff_iff, beq_iff_eq, beq_iff_eq] at h
      omega
theorem ok_LiftBack : ∀ n i : Int, i64ok n → i64ok i → Owes Try.prog cxLB [] 100 Try.f10 [sI .i64 n, sI .i64 i] yes := by
  intro n i hn hi'
  rw [vc_LiftBack]
  have hI := ixN_lt n
  generalize ixN n = I at *
  obtain ⟨fP, fB, fN, fb, fx, fcv, fg⟩ := cx_facts hI
  obtain ⟨n1, n2⟩ := cN_range hI
  obtain ⟨p1, p2⟩ := cP_range hI
  obtain ⟨q1, a, a1, a2, a3, a4, _⟩ := pick_one hI i
  obtain ⟨_, _, _, g4, g5, g6, g7⟩ := neg_pt hI a1 a2
  have mX : (ptOf I a).1 % M256 = (ptOf I a).1 := small_mod (by omega)
  have mY : (ptOf I a).2.1 % M256 = (ptOf I a).2.1 := small_mod (by omega)
  have par : ((limb (ptOf I a).2.1 0).tmod 2 == (1 : Int)) = ((ptOf I a).2.1 % 2 == 1) := by
    rw [limb_small (by omega), Int.tmod_eq_emod_of_nonneg (Int.natCast_nonneg _), Bool.eq_iff_iff, beq_iff_eq, beq_iff_eq]
    omega
  have ly := lift_pt hI a1 a2
  have on := (onP_pt hI a2).near g4
  have lk : liftOK (cP I) 0 (cB I) (ptOf I a).1 ((ptOf I a).2.1 % 2 == 1) := ⟨by rw [ly], by rw [ly]; exact on.2.2⟩
  have i1 : ¬ cP I ≤ (ptOf I a).1 := by omega
  have h1 : (0 : Int) < ((cN I : Nat) : Int) - 1 ∧ ((cN I : Nat) : Int) - 1 ≤ 1048576 := by omega
  have h2 : (-9223372036854775808 : Int) ≤ (a : Int) ∧ (a : Int) ≤ 9223372036854775807 := by omega
  have hc : conj [(ptOf I a).1 == (ptOf I a).1, (ptOf I a).2.1 == (ptOf I a).2.1, false == false] = true := by simp [conj_all]
  simp only [fP, fx, fB, fN, fb, q1, a3, a4, mX, mY, par, if_neg i1, if_pos (Nat.le_refl (cP I)), ly, g4, hc]
  exact ⟨hn, hi', h1, fcv, h2, fg, fun _ => lk, fg, fun h => absurd h (Nat.lt_irrefl _), id, id, id, id, id, id, id, rfl⟩
theorem cxok_LB : CxOK Try.prog cxLB := CxOK_cons card_Curve (CxOK_cons card_pickBig (CxOK_cons card_point (CxOK_cons card_Lift (CxOK_cons card_cTells CxOK_nil))))
end Go.Proofs.Ytbkginommedheaa
end
