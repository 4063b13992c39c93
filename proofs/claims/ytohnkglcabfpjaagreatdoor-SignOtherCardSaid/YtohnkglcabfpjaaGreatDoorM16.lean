/-
  Texts: P88.
-/
import Derived.Test.YtohnkglcabfpjaaGreatDoorM1
import Derived.Test.YtohnkglcabfpjaaGreatDoorM2
import Derived.Test.YtohnkglcabfpjaaGreatDoorM3
import Derived.Test.YtohnkglcabfpjaaGreatDoorM4
import Derived.Test.YtohnkglcabfpjaaGreatDoorM5
import Derived.Test.YtohnkglcabfpjaaGreatDoorM6
import Derived.Test.YtohnkglcabfpjaaGreatDoorM7
import Derived.Test.YtohnkglcabfpjaaGreatDoorM8
import Derived.Test.YtohnkglcabfpjaaGreatDoorM9
import Derived.Test.YtohnkglcabfpjaaGreatDoorM10
import Derived.Test.YtohnkglcabfpjaaGreatDoorM11
import Derived.Test.YtohnkglcabfpjaaGreatDoorM12
import Derived.Test.YtohnkglcabfpjaaGreatDoorM13
import Derived.Test.YtohnkglcabfpjaaGreatDoorM14
import Derived.Test.YtohnkglcabfpjaaGreatDoorM15
section
namespace Go.Proofs.YtohnkglcabfpjaaGreatDoor
open Go.Sx
theorem may_high {I R S : Nat} {o : Int} (hi : I < 8) (h1 : 1 ≤ S) (h2 : 2 * S ≤ cN I) : mayB (cN I) R (cN I + M256 - S) o = false := by
  have hr := cN_range hi
  have hM := M256_eq
  have hodd : cN I % 2 = 1 := by
    have : ∀ i : Fin 8, cN i.val % 2 = 1 := by decide
    exact this ⟨I, hi⟩
  have e : (cN I + M256 - S) % M256 = cN I - S := by
    rw [show cN I + M256 - S = (cN I - S) + M256 by omega, Nat.add_mod_right]
    exact lt_M hi (by omega)
  have hb : highB (cN I) (cN I + M256 - S) = true := by
    unfold highB minN
    rw [e, cN_M hi, if_pos (fE_zero (by rw [Nat.zero_mod, cN_M hi]; omega) (by rw [e, cN_M hi]; omega)), Nat.zero_add, Nat.mod_eq_of_lt (show cN I - (cN I - S) < cN I by omega), lt_M hi (show cN I - (cN I - S) < cN I by omega)]
    exact decide_eq_true (by omega)
  unfold mayB
  rw [hb]
  simp
theorem cmp_high {I S : Nat} (hi : I < 8) (h1 : 1 ≤ S) (h2 : 2 * S ≤ cN I) : cmpN S (cN I + M256 - S) = -1 := by
  have hr := cN_range hi
  have hM := M256_eq
  have hodd : cN I % 2 = 1 := by
    have : ∀ i : Fin 8, cN i.val % 2 = 1 := by decide
    exact this ⟨I, hi⟩
  have e : (cN I + M256 - S) % M256 = cN I - S := by
    rw [show cN I + M256 - S = (cN I - S) + M256 by omega, Nat.add_mod_right]
    exact lt_M hi (by omega)
  unfold cmpN
  rw [e, lt_M hi (show S < cN I by omega), if_pos (by omega)]
theorem ok_SignOne : ∀ (n d k a b : Int) (s : ByteArray), i64ok n → i64ok d → i64ok k → i64ok a → i64ok b → Owes Tryz.prog (cxSig sumF (mkA numN) (mkE numN)) [] 100 Tryz.f4 [sI .i64 n, sI .i64 d, sRaw k a b s] yes := by
  intro n d k a b s hn hd hk ha hb
  rw [vc_SignOne]
  have hI := ixN_lt n
  generalize ixN n = I at *
  obtain ⟨fP, fB, fN, fb, fx, fcv, fg⟩ := cx_facts hI
  obtain ⟨n1, n2⟩ := cN_range hI
  have hM := M256_eq
  obtain ⟨_, D, D1, D2, _, _, D5⟩ := pick_one hI d
  rw [sel_self]
  have hgb := sumF_ok a b s
  generalize sumF a b s = g at *
  obtain ⟨m0, m⟩ := made_all (g := g) hI D1 D2
  have hmk := mkOK_all hI D1 D2 hgb
  generalize mkA numN = ma at *
  generalize mkE numN = me at *
  obtain ⟨R, S, o, hA⟩ : ∃ R S o, ma (cP I) 0 (cN I) (ptOf I 1) D g = (R, S, o) := ⟨_, _, _, rfl⟩
  rw [hA] at m
  have m : Made I D g R S o := m
  have S1 := m.S1
  have S2 := m.S2
  have hmay := fun o => may_high (R := R) (o := o) hI S1 S2
  have hcmp := cmp_high hI S1 S2
  have mS : S % M256 = S := lt_M hI (show S < cN I by omega)
  obtain ⟨c1, c2⟩ := cmul_pt hI (show 1 < cN I by omega) (show D < M256 by omega)
  rw [Nat.mul_one, Nat.mod_eq_of_lt D2] at c2
  rw [fb]
  intro x1 x2 x3 x4 x5 x6 x7 x8 x9 x10 x11 x12 x13 x14 x15 x16 x17
  have E1 : x1 = cP I := fP
  have E2 : x2 = I := by simp only [x2]; rw [E1]; exact fx
  have E3 : x3 = cB I := fB
  have E4 : x4 = cN I := fN
  have E5 : x5 = D := by simp only [x5]; rw [E2]; exact D5
  have E6 : x6 = D := by simp only [x6]; rw [E5]; exact lt_M hI D2
  have E7 : x7 = R := by simp only [x7]; rw [E1, E5, hA]
  have E8 : x8 = cN I + M256 - S := by simp only [x8]; rw [E1, E5, hA, E4, mS]
  have E10 : x10 = true := by simp only [x10]; rw [E1, E5, m0]; rfl
  have E11 : x11 = S := by simp only [x11]; rw [E1, E5, hA]
  have E12 : x12 = cN I + M256 - S := by simp only [x12]; rw [E11, E4, mS]
  have E13 : x13 = -1 := by simp only [x13]; rw [E11, E12]; exact hcmp
  have E14 : x14 = true := by simp only [x14]; rw [E10, E13]; rfl
  have E15 : x15 = R := E7
  have er : red (ptOf I D).1 (ptOf I D).2.1 (ptOf I D).2.2 = ptOf I D := red_pt hI D2
  have hrE : ∀ o, recE (cP I) 0 (cB I) (cN I) (ptOf I 1) g R (cN I + M256 - S) o = 10 := by
    intro o
    unfold recE
    rw [if_neg (by rw [hmay o]; exact Bool.false_ne_true)]
  have hcE : ∀ o, chkE (cP I) 0 (cN I) (ptOf I 1) (ptOf I D) g R (cN I + M256 - S) o = 10 := by
    intro o
    unfold chkE
    rw [hmay o, if_pos (by simp)]
  have hrO : ∀ o, recOK (cP I) 0 (cB I) (cN I) (ptOf I 1) g R (cN I + M256 - S) o := fun o => ⟨by rw [fN]; exact fg, hgb, fun h => by rw [hmay o] at h; cases h⟩
  have hcO : ∀ o, chkOK (cP I) 0 (cB I) (cN I) (ptOf I 1) (ptOf I D) g R (cN I + M256 - S) o := fun o => ⟨by rw [fN]; exact fg, onP_pt hI D2, hgb, fun _ h => by rw [hmay o] at h; cases h⟩
  have E17 : x17 = true := by simp only [x17]; rw [E14, E1, E6, c2, er, E15, E12, hcE]; rfl
  rw [E1, E2, E3, E4, E5, E6, E7, E8, c2, er, E15, E12, hrE, E17]
  exact ⟨hn, fcv, hd, fg, sec_of hI D1 D2, c1, hk, ha, hb, hmk, hk, ha, hb, hrO _, id, id, id, id, id, id, id, id, id, fun _ => hk, fun _ => ha, fun _ => hb, id, id, id, id, fun _ => hcO _, id, id, id, id, rfl⟩
theorem ok_SignOther : ∀ (n d k a b : Int) (s : ByteArray) (k' a' b' : Int) (s' : ByteArray), i64ok n → i64ok d → i64ok k → i64ok a → i64ok b → i64ok k' → i64ok a' → i64ok b' → Owes Tryz.prog (cxSig sumF (mkA numN) (mkE numN)) [] 100 Tryz.f5 [sI .i64 n, sI .i64 d, sRaw k a b s, sRaw k' a' b' s'] yes := by
  intro n d k a b s k' a' b' s' hn hd hk ha hb hk' ha' hb'
  rw [vc_SignOther]
  have hI := ixN_lt n
  generalize ixN n = I at *
  obtain ⟨fP, fB, fN, fb, fx, fcv, fg⟩ := cx_facts hI
  obtain ⟨n1, n2⟩ := cN_range hI
  have hM := M256_eq
  obtain ⟨_, D, D1, D2, _, _, D5⟩ := pick_one hI d
  have hgb := sumF_ok a b s
  have hgb' := sumF_ok a' b' s'
  rw [sel_self (sumF a b s), sel_self (sumF a' b' s')]
  generalize sumF a b s = g at *
  generalize sumF a' b' s' = g' at *
  obtain ⟨m0, m⟩ := made_all (g := g) hI D1 D2
  have hmk := mkOK_all hI D1 D2 hgb
  generalize mkA numN = ma at *
  generalize mkE numN = me at *
  obtain ⟨R, S, o, hA⟩ : ∃ R S o, ma (cP I) 0 (cN I) (ptOf I 1) D g = (R, S, o) := ⟨_, _, _, rfl⟩
  rw [hA] at m
  have m : Made I D g R S o := m
  have hrec := recOK_all (g := g') (o := o) hI (show R < M256 by have := m.R2; omega) (show S < M256 by have := m.S2; omega) hgb'
  obtain ⟨d', l', rE, rA, rd, dr⟩ := rec_made (g' := g') hI D2 m
  obtain ⟨c1, c2⟩ := cmul_pt hI (show 1 < cN I by omega) (show D < M256 by omega)
  rw [Nat.mul_one, Nat.mod_eq_of_lt D2] at c2
  have h1 := hS_lt hI g
  have h2 := hS_lt hI g'
  rw [fb]
  intro x1 x2 x3 x4 x5 x6 x7 x8 x9 x10 x11 x12 x13 x14 x15 x16 x17 x18
  have E1 : x1 = cP I := fP
  have E2 : x2 = I := by simp only [x2]; rw [E1]; exact fx
  have E3 : x3 = cB I := fB
  have E4 : x4 = cN I := fN
  have E5 : x5 = D := by simp only [x5]; rw [E2]; exact D5
  have E6 : x6 = D := by simp only [x6]; rw [E5]; exact lt_M hI D2
  have E7 : x7 = true := by simp only [x7]; rw [E1, E5, m0]; rfl
  have E8 : x8 = (hS I g == hS I g') := by
    simp only [x8]
    rw [E4, beq_conj1, if_neg (by omega), if_neg (by omega)]
    rw [show fromN g 32 % M256 % cN I = hS I g from rfl, show fromN g' 32 % M256 % cN I = hS I g' from rfl, lt_M hI h1, lt_M hI h2]
  have E11 : x11 = R := by simp only [x11]; rw [E1, E5, hA]
  have E12 : x12 = S := by simp only [x12]; rw [E1, E5, hA]
  have E13 : x13 = o := by simp only [x13]; rw [E1, E5, hA]
  have E14 : x14 = if d' = 0 then 10 else 0 := by simp only [x14]; rw [E1, E3, E11, E12, E13, rE]
  have E15 : x15 = decide (d' ≠ 0) := by
    simp only [x15]
    rw [E14]
    by_cases e : d' = 0
    · rw [if_pos e, decide_eq_false (by omega)]; rfl
    · rw [if_neg e, decide_eq_true e]; rfl
  have E16 : d' ≠ 0 → x16 = decide (d' = D) := by
    intro e
    simp only [x16]
    rw [E1, E3, E11, E12, E13, rA e, E6, c2, conj_all]
    by_cases ed : d' = D
    · rw [decide_eq_true ed, ed]
      simp
    · rw [decide_eq_false ed]
      rw [Bool.eq_false_iff]
      intro hh
      simp only [List.all_cons, List.all_nil, id_eq, Bool.and_true, Bool.and_eq_true, beq_iff_eq] at hh
      obtain ⟨q1, q2, q3⟩ := hh
      rw [(ptx_small hI l').1, (ptx_small hI D2).1] at q1
      rw [(ptx_small hI l').2, (ptx_small hI D2).2] at q2
      exact ed (pt_inj hI l' D2 (Prod.ext q1 (Prod.ext q2 q3)))
  have fin : (x17 && (x18 || !x16)) = true := by
    simp only [x17, x18, x9]
    rw [E7, E15, E14]
    by_cases e : hS I g = hS I g'
    · have e8 : x8 = true := by rw [E8, e]; exact beq_self_eq_true _
      have ed := rd e
      have e0 : d' ≠ 0 := by omega
      rw [e8, E16 e0, decide_eq_true ed, decide_eq_true e0]
      rfl
    · have e8 : x8 = false := by rw [E8]; exact beq_eq_false_iff_ne.2 e
      rw [e8]
      by_cases e0 : d' = 0
      · rw [if_pos e0]
        rfl
      · have ed : ¬ d' = D := fun c => e (dr c)
        rw [if_neg e0, E16 e0, decide_eq_false ed]
        rfl
  have F9 : x9 = !x8 := rfl
  have F10 : x10 = (x7 && !x9) := rfl
  have F17 : x17 = (x7 && (x9 || x15 && x16)) := rfl
  have F18 : x18 = (x8 || x14 != 0) := rfl
  rw [E1, E2, E3, E4, E5, E6, hA, fin]
  refine ⟨hn, fcv, hd, fg, sec_of hI D1 D2, c1, hk, ha, hb, hmk, hk, ha, hb, hgb, hk', ha', hb', hgb', hk', ha', hb', hrec, id, id, id, id, id, id, id, id, id, id, fun p q => by rw [p, q]; rfl, id, fun p q => by rw [F10, p, q]; rfl, id, id, id, id, id, id, fun p q => by rw [p, F9, q]; rfl, id, id, id, id, fun p q => by rw [p, q]; rfl, id, rfl⟩
end Go.Proofs.YtohnkglcabfpjaaGreatDoor
end
