/-
  Texts: P83, P84.
-/
import Derived.Test.YtohnkglcabfpjaaM1
import Derived.Test.YtohnkglcabfpjaaM2
import Derived.Test.YtohnkglcabfpjaaM3
import Derived.Test.YtohnkglcabfpjaaM4
import Derived.Test.YtohnkglcabfpjaaM5
import Derived.Test.YtohnkglcabfpjaaM6
import Derived.Test.YtohnkglcabfpjaaM7
import Derived.Test.YtohnkglcabfpjaaM8
import Derived.Test.YtohnkglcabfpjaaM9
import Derived.Test.YtohnkglcabfpjaaM10
import Derived.Test.YtohnkglcabfpjaaM11
import Derived.Test.YtohnkglcabfpjaaM12
import Derived.Test.YtohnkglcabfpjaaM13
section
namespace Go.Proofs.Ytohnkglcabfpjaa
open Go.Sx
theorem ring_K {h R S u v K d N : Int} (a : N ∣ R * u - 1) (b : N ∣ S * v - 1) (c : N ∣ (0 - h * u + S * u * K) - d) : N ∣ (h * v + R * v * d) - K := by
  obtain ⟨x, hx⟩ := a
  obtain ⟨y, hy⟩ := b
  obtain ⟨z, hz⟩ := c
  refine ⟨-(R * v * z) - h * v * x + S * v * x * K + y * K, ?_⟩
  have e1 : d = (0 - h * u + S * u * K) - N * z := by omega
  have e2 : R * u = 1 + N * x := by omega
  have e3 : S * v = 1 + N * y := by omega
  have e4 : R * v * d = -(h * v * (R * u)) + S * v * (R * u) * K - N * (R * v * z) := by rw [e1]; grind
  rw [e4, e2]
  have e5 : S * v * (1 + N * x) * K = S * v * K + N * (S * v * x * K) := by grind
  rw [e5]
  have e6 : S * v * K = K + N * (y * K) := by rw [e3]; grind
  rw [e6]
  grind
def hS (I : Nat) (g : Nat → Int) : Nat := fromN g 32 % M256 % cN I
theorem hS_lt {I : Nat} (hi : I < 8) (g : Nat → Int) : hS I g < cN I := Nat.mod_lt _ (by have := (cN_range hi).1; omega)
theorem rec_at {I R S K : Nat} {o : Int} {g : Nat → Int} (hi : I < 8) (r1 : 1 ≤ R) (r2 : R < cN I) (s2 : S < cN I) (k1 : 1 ≤ K) (k2 : K < cN I) (hp : pofP (cP I) 0 (cB I) (cN I) R o = ptOf I K) :
    oinvE (cN I) R = 0 ∧ bothOK (cP I) 0 (cB I) (cN I) (ptOf I 1) (minN (cN I) (mulN (cN I) (restN (cN I) (fromN g 32)) (oinvN (cN I) R)) % M256) (red (pofP (cP I) 0 (cB I) (cN I) R o).1 (pofP (cP I) 0 (cB I) (cN I) R o).2.1 (pofP (cP I) 0 (cB I) (cN I) R o).2.2) (mulN (cN I) S (oinvN (cN I) R) % M256) ∧
    ∃ d, d < cN I ∧ recQ (cP I) 0 (cB I) (cN I) (ptOf I 1) g R S o = ptOf I d ∧ Cg (cN I) d (0 - (hS I g : Int) * ((oinvN (cN I) R : Nat) : Int) + (S : Int) * ((oinvN (cN I) R : Nat) : Int) * K) := by
  have hr := (cN_range hi).1
  have lt : ∀ v, v % cN I < cN I := fun v => Nat.mod_lt v (by omega)
  have hM := M256_eq
  have hr2 := (cN_range hi).2
  obtain ⟨i1, i2, _⟩ := inv_sec hi r1 r2
  have hh := hS_lt hi g
  have e1 : restN (cN I) (fromN g 32) = hS I g := rest_is hi _
  have e2 : mulN (cN I) (hS I g) (oinvN (cN I) R) = hS I g * oinvN (cN I) R % cN I := mul_is hi hh i2
  have e3 := min_is hi (lt (hS I g * oinvN (cN I) R))
  have e4 : mulN (cN I) S (oinvN (cN I) R) = S * oinvN (cN I) R % cN I := mul_is hi s2 i2
  have e5 : red (pofP (cP I) 0 (cB I) (cN I) R o).1 (pofP (cP I) 0 (cB I) (cN I) R o).2.1 (pofP (cP I) 0 (cB I) (cN I) R o).2.2 = ptOf I K := by
    rw [hp]
    exact red_pt hi k2
  obtain ⟨b1, b2⟩ := both_pt (j := K) (k := (0 + cN I - hS I g * oinvN (cN I) R % cN I) % cN I) (l := S * oinvN (cN I) R % cN I) hi k2 (by have := lt (0 + cN I - hS I g * oinvN (cN I) R % cN I); omega) (by have := lt (S * oinvN (cN I) R); omega)
  refine ⟨i1, ?_, _, lt ((0 + cN I - hS I g * oinvN (cN I) R % cN I) % cN I + S * oinvN (cN I) R % cN I * K), ?_, ?_⟩
  · rw [e1, e2, e3, e4, e5, lt_M hi (lt _), lt_M hi (lt _)]
    exact b1
  · unfold recQ
    rw [e1, e2, e3, e4, e5, lt_M hi (lt _), lt_M hi (lt _)]
    exact b2
  · have c1 : Cg (cN I) ((0 + cN I - hS I g * oinvN (cN I) R % cN I) % cN I) (0 - (hS I g : Int) * ((oinvN (cN I) R : Nat) : Int)) :=
      ((Cg.self (cN I) 0).sub ((Cg.self (cN I) (hS I g)).mul (Cg.self _ _)).md (Nat.le_of_lt (lt _))).md
    exact (c1.add ((((Cg.self (cN I) S).mul (Cg.self (cN I) (oinvN (cN I) R))).md).mul (Cg.self (cN I) K))).md
theorem chk_at {I R S d : Nat} {g : Nat → Int} (hi : I < 8) (r2 : R < cN I) (s1 : 1 ≤ S) (s2 : S < cN I) (d2 : d < cN I) :
    oinvE (cN I) S = 0 ∧ bothOK (cP I) 0 (cB I) (cN I) (ptOf I 1) (mulN (cN I) (restN (cN I) (fromN g 32)) (oinvN (cN I) S) % M256) (ptOf I d) (mulN (cN I) R (oinvN (cN I) S) % M256) ∧
    ∃ K, K < cN I ∧ chkQ (cP I) 0 (cN I) (ptOf I 1) (ptOf I d) g R S = ptOf I K ∧ Cg (cN I) K ((hS I g : Int) * ((oinvN (cN I) S : Nat) : Int) + (R : Int) * ((oinvN (cN I) S : Nat) : Int) * d) := by
  have hr := (cN_range hi).1
  have lt : ∀ v, v % cN I < cN I := fun v => Nat.mod_lt v (by omega)
  have hM := M256_eq
  have hr2 := (cN_range hi).2
  obtain ⟨i1, i2, _⟩ := inv_sec hi s1 s2
  have hh := hS_lt hi g
  have e1 : restN (cN I) (fromN g 32) = hS I g := rest_is hi _
  have e2 : mulN (cN I) (hS I g) (oinvN (cN I) S) = hS I g * oinvN (cN I) S % cN I := mul_is hi hh i2
  have e4 : mulN (cN I) R (oinvN (cN I) S) = R * oinvN (cN I) S % cN I := mul_is hi r2 i2
  obtain ⟨b1, b2⟩ := both_pt (j := d) (k := hS I g * oinvN (cN I) S % cN I) (l := R * oinvN (cN I) S % cN I) hi d2 (by have := lt (hS I g * oinvN (cN I) S); omega) (by have := lt (R * oinvN (cN I) S); omega)
  refine ⟨i1, ?_, _, lt (hS I g * oinvN (cN I) S % cN I + R * oinvN (cN I) S % cN I * d), ?_, ?_⟩
  · rw [e1, e2, e4, lt_M hi (lt _), lt_M hi (lt _)]
    exact b1
  · unfold chkQ
    rw [e1, e2, e4, lt_M hi (lt _), lt_M hi (lt _)]
    exact b2
  · exact ((((Cg.self (cN I) (hS I g)).mul (Cg.self (cN I) (oinvN (cN I) S))).md).add ((((Cg.self (cN I) R).mul (Cg.self (cN I) (oinvN (cN I) S))).md).mul (Cg.self (cN I) d))).md
theorem recOK_all {I R S : Nat} {o : Int} {g : Nat → Int} (hi : I < 8) (hR : R < M256) (hS' : S < M256) (hg : byteOK 32 g) : recOK (cP I) 0 (cB I) (cN I) (ptOf I 1) g R S o := by
  obtain ⟨_, _, _, _, _, _, fg⟩ := cx_facts hi
  refine ⟨by rw [cN_M hi]; exact fg, hg, fun hm hp => ?_⟩
  obtain ⟨a1, a2, b1, b2, _, _⟩ := may_is hi hm
  rw [Nat.mod_eq_of_lt hR] at a1 a2
  rw [Nat.mod_eq_of_lt hS'] at b1 b2
  obtain ⟨K, k1, k2, hk, _⟩ := pof_ok hi a2 hp
  obtain ⟨r1, r2, _⟩ := rec_at (g := g) hi a1 a2 b2 k1 k2 hk
  rw [cN_M hi]
  exact ⟨r1, r2⟩
theorem chkOK_all {I R S d : Nat} {o : Int} {g : Nat → Int} (hi : I < 8) (hR : R < M256) (hS' : S < M256) (hg : byteOK 32 g) (hd : d < cN I) : chkOK (cP I) 0 (cB I) (cN I) (ptOf I 1) (ptOf I d) g R S o := by
  obtain ⟨_, _, _, _, _, _, fg⟩ := cx_facts hi
  refine ⟨by rw [cN_M hi]; exact fg, onP_pt hi hd, hg, fun _ hm => ?_⟩
  obtain ⟨a1, a2, b1, b2, _, _⟩ := may_is hi hm
  rw [Nat.mod_eq_of_lt hR] at a1 a2
  rw [Nat.mod_eq_of_lt hS'] at b1 b2
  obtain ⟨r1, r2, _⟩ := chk_at (g := g) (d := d) hi a2 b1 b2 hd
  rw [cN_M hi]
  exact ⟨r1, r2⟩
theorem recE_cases {I R S : Nat} {o : Int} {g : Nat → Int} (hi : I < 8) (hR : R < M256) (hS' : S < M256) :
    recE (cP I) 0 (cB I) (cN I) (ptOf I 1) g R S o = 10 ∨
    (recE (cP I) 0 (cB I) (cN I) (ptOf I 1) g R S o = 0 ∧ mayB (cN I) R S o = true ∧ ∃ K d, 1 ≤ K ∧ K < cN I ∧ 1 ≤ d ∧ d < cN I ∧ (ptOf I K).1 % cN I = R ∧ recA (cP I) 0 (cB I) (cN I) (ptOf I 1) g R S o = ptOf I d ∧ Cg (cN I) d (0 - (hS I g : Int) * ((oinvN (cN I) R : Nat) : Int) + (S : Int) * ((oinvN (cN I) R : Nat) : Int) * K)) := by
  by_cases hm : mayB (cN I) R S o = true
  · by_cases hp : pofE (cP I) 0 (cB I) (cN I) R o = 0
    · obtain ⟨a1, a2, b1, b2, _, _⟩ := may_is hi hm
      rw [Nat.mod_eq_of_lt hR] at a1 a2
      rw [Nat.mod_eq_of_lt hS'] at b1 b2
      obtain ⟨K, k1, k2, hk, hx⟩ := pof_ok hi a2 hp
      obtain ⟨i1, _, d, d2, hq, hc⟩ := rec_at (g := g) hi a1 a2 b2 k1 k2 hk
      by_cases hf : (recQ (cP I) 0 (cB I) (cN I) (ptOf I 1) g R S o).2.2 = true
      · refine .inl ?_
        unfold recE
        rw [if_pos hm, if_pos hp, if_pos i1, if_pos hf]
      · have e : recE (cP I) 0 (cB I) (cN I) (ptOf I 1) g R S o = 0 := by
          unfold recE
          rw [if_pos hm, if_pos hp, if_pos i1, if_neg hf]
        refine .inr ⟨e, hm, K, d, k1, k2, ?_, d2, hx, ?_, hc⟩
        · rw [hq] at hf
          exact near_pt (by simpa using hf)
        · unfold recA
          rw [if_pos e, hq]
    · refine .inl ?_
      unfold recE
      rw [if_pos hm, if_neg hp]
  · refine .inl ?_
    unfold recE
    rw [if_neg hm]
theorem chkE_ok {I R S d K : Nat} {o : Int} {g : Nat → Int} (hi : I < 8) (hm : mayB (cN I) R S o = true) (r2 : R < cN I) (s1 : 1 ≤ S) (s2 : S < cN I) (d1 : 1 ≤ d) (d2 : d < cN I) (k1 : 1 ≤ K) (k2 : K < cN I) (hx : (ptOf I K).1 % cN I = R)
    (hc : ((cN I : Nat) : Int) ∣ ((hS I g : Int) * ((oinvN (cN I) S : Nat) : Int) + (R : Int) * ((oinvN (cN I) S : Nat) : Int) * d) - K) : chkE (cP I) 0 (cN I) (ptOf I 1) (ptOf I d) g R S o = 0 := by
  obtain ⟨i1, _, K', kk, hq, hcg⟩ := chk_at (g := g) (R := R) (d := d) hi r2 s1 s2 d2
  have e : K' = K := (hcg.to hc).eq (Cg.self _ _) kk k2
  subst e
  have hP := (cP_range hi).2
  obtain ⟨_, _, _, g4, _, _, g7⟩ := neg_pt hi k1 k2
  have hr := (cN_range hi)
  unfold chkE
  rw [hq, hm, i1, if_pos rfl, g4, rest_is hi, small_mod (show (ptOf I K').1 < 18446744073709551616 by omega), hx, pt_pos I d1]
  simp
end Go.Proofs.Ytohnkglcabfpjaa
end

section
namespace Go.Proofs.Ytohnkglcabfpjaa
open Go.Sx
theorem cxok_RR : CxOK Try.prog (cxRR sumF) := CxOK_cons card_Curve (CxOK_cons card_pickBig (CxOK_cons card_Secret (CxOK_cons card_sumR (CxOK_cons card_sTells (CxOK_cons card_Recover (CxOK_cons card_Check CxOK_nil))))))
theorem ok_RecoverRight : ∀ (n k a b : Int) (s : ByteArray) (i j o : Int), i64ok n → i64ok k → i64ok a → i64ok b → i64ok i → i64ok j → i64ok o → Owes Try.prog (cxRR sumF) [] 100 Try.f9 [sI .i64 n, sRaw k a b s, sI .i64 i, sI .i64 j, sI .i64 o] yes := by
  intro n k a b s i j o hn hk ha hb hi hj ho
  rw [vc_RecoverRight]
  have hI := ixN_lt n
  generalize ixN n = I at *
  obtain ⟨fP, fB, fN, fb, fx, fcv, fg⟩ := cx_facts hI
  obtain ⟨n1, n2⟩ := cN_range hI
  have hM := M256_eq
  obtain ⟨_, R, R1, R2, _, _, R5⟩ := pick_one hI i
  have m1 := Int.emod_nonneg j (show (((cN I / 2 : Nat) : Int)) ≠ 0 by omega)
  have m2 := Int.emod_lt_of_pos j (show (0 : Int) < ((cN I / 2 : Nat) : Int) by omega)
  obtain ⟨t, ht⟩ := Int.eq_ofNat_of_zero_le m1
  obtain ⟨S, hS⟩ : ∃ S, S = 1 + t := ⟨_, rfl⟩
  have S1 : 1 ≤ S := by omega
  have S2 : 2 * S ≤ cN I := by omega
  have hsel : ∀ g : Nat → Int, selG [SK.f .u8 32 g] = g := fun _ => rfl
  rw [hsel]
  have hgb := sumF_ok a b s
  generalize sumF a b s = g at *
  have o1 := Int.emod_nonneg o (show (5 : Int) ≠ 0 by decide)
  intro x1 x2 x3 x4 x5 x6 x7 x8 x9
  have E1 : x1 = cP I := fP
  have E2 : x2 = I := by simp only [x2]; rw [E1]; exact fx
  have E3 : x3 = ((cN I / 2 : Nat) : Int) := by
    simp only [x3]
    rw [limb_small (by omega), IntWalk.i64_in ((cN I : Nat) : Int) (by omega), Int.tdiv_eq_ediv_of_nonneg (by omega), IntWalk.i64_in _ (by omega)]
    omega
  have E4 : x4 = ((S : Nat) : Int) := by
    simp only [x4]
    rw [E3, ht, wrap_id (n := (t : Int)) (by omega), wrap_id (by omega)]
    omega
  have E5 : x5 = cB I := fB
  have E6 : x6 = R := by
    simp only [x6]
    rw [E2]
    exact R5
  have E7 : x7 = S := by
    simp only [x7]
    rw [E4]
    unfold join
    simp
  have E8 : x8 = o % 5 := rfl
  have E9 : x9 = recE (cP I) 0 (cB I) (cN I) (ptOf I 1) g R S x8 := by
    simp only [x9]
    rw [E1, E5, E6, E7, fb]
  clear_value x9 x8 x7 x6 x5 x4 x3 x2 x1
  subst E1 E2 E3 E4 E5 E6 E7
  rw [fb]
  have hz : (0 : Int) ≤ 0 ∧ (0 : Int) < 18446744073709551616 := by decide
  have hs4 : (0 : Int) ≤ ((x7 : Nat) : Int) ∧ ((x7 : Nat) : Int) < 18446744073709551616 := by omega
  have h3 : (0 : Int) < ((cN x2 / 2 : Nat) : Int) ∧ ((cN x2 / 2 : Nat) : Int) ≤ 1048576 := by omega
  have rM : x6 < M256 := by omega
  have sM : x7 < M256 := by omega
  have hrec := recOK_all (o := x8) hI rM sM hgb
  refine ⟨hn, fcv, hi, hj, h3, ho, by decide, hk, ha, hb, hs4, hz, hz, hz, hrec, fun h => ?_, fun h => ?_⟩
  · rcases recE_cases (o := x8) (g := g) hI rM sM with e | ⟨e, _⟩
    · rw [E9, e]
      exact ⟨id, id, rfl⟩
    · rw [E9, e] at h
      cases h
  · rcases recE_cases (o := x8) (g := g) hI rM sM with e | ⟨e, hm, K, d, k1, k2, d1, d2, hx, hA, hc⟩
    · rw [E9, e] at h
      cases h
    · obtain ⟨_, _, iu⟩ := inv_sec hI R1 R2
      obtain ⟨_, _, iv⟩ := inv_sec hI S1 (show x7 < cN x2 by omega)
      have hck := chkE_ok (g := g) hI hm R2 S1 (show x7 < cN x2 by omega) d1 d2 k1 k2 hx (ring_K iu iv (by
        obtain ⟨z, hz⟩ := hc.d
        exact ⟨-z, by rw [Int.mul_neg, ← hz]; omega⟩))
      have hco := chkOK_all (o := x8) hI rM sM hgb d2
      rw [hA, red_pt hI d2, hck]
      exact ⟨id, fun _ => hk, fun _ => ha, fun _ => hb, id, id, id, id, fun _ => hs4, fun _ => hz, fun _ => hz, fun _ => hz, fun _ => hco, id, id, rfl⟩
end Go.Proofs.Ytohnkglcabfpjaa
end
