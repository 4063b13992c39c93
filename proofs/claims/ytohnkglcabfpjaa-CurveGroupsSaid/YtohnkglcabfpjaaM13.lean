/-
  Texts: P44, P45.
-/
import Derived.Test.YtohnkglcabfpjaaM1
import Derived.Test.YtohnkglcabfpjaaM2
import Derived.Test.YtohnkglcabfpjaaM3
import Derived.Test.YtohnkglcabfpjaaM4
import Derived.Test.YtohnkglcabfpjaaM5
import Derived.Test.YtohnkglcabfpjaaM6
import Derived.Test.YtohnkglcabfpjaaM7
import Derived.Test.YtohnkglcabfpjaaM8
import Derived.Test.YtohnkglcabfpjaaM9
import Derived.Test.YtohnkglcabfpjaaM10
import Derived.Test.YtohnkglcabfpjaaM11
import Derived.Test.YtohnkglcabfpjaaM12
section
namespace Go.Proofs.Ytohnkglcabfpjaa
open Go.Sx
theorem good_all {i : Nat} (hi : i < 8) : goodP (cP i) 0 (cB i) (cN i) (cX i, cY i, false) := by
  match i, hi with
  | 0, _ | 1, _ | 2, _ | 3, _ | 4, _ | 5, _ | 6, _ | 7, _ => exact ⟨by decide, by decide, by decide, by decide, by decide, by decide +kernel, rfl, ⟨fun h => (by cases h), fun _ => by decide +kernel⟩⟩
  | k + 8, h => omega
theorem base_pt {i : Nat} (hi : i < 8) : (cX i, cY i, false) = ptOf i 1 := by
  match i, hi with
  | 0, _ | 1, _ | 2, _ | 3, _ | 4, _ | 5, _ | 6, _ | 7, _ => rfl
  | k + 8, h => omega
theorem cN_range {i : Nat} (h : i < 8) : 31 ≤ cN i ∧ cN i ≤ 643 := by
  have : ∀ i : Fin 8, 31 ≤ cN i.val ∧ cN i.val ≤ 643 := by decide
  exact this ⟨i, h⟩
theorem ixP_of {i : Nat} (hi : i < 8) : ixP (cP i) = i := by
  have : ∀ i : Fin 8, ixP (cP i.val) = i.val := by decide
  exact this ⟨i, hi⟩
theorem onP_pt {i j : Nat} (hi : i < 8) (hj : j < cN i) : onP (cP i) 0 (cB i) (ptOf i j) := by
  rcases Nat.eq_zero_or_pos j with e | e
  · subst e
    exact ⟨fun _ => ⟨rfl, rfl⟩, fun h => by cases h⟩
  · have F := one_of hi e hj
    rw [pt_pos i e]
    exact ⟨fun h => (by cases h), fun _ => ⟨F.lx, F.ly, F.on⟩⟩
theorem inM_pt {i j : Nat} (hi : i < 8) (hj : j < cN i) : inM (ptOf i j) := by
  have hM := M256_eq
  obtain ⟨_, r2⟩ := cP_range hi
  rcases Nat.eq_zero_or_pos j with e | e
  · subst e
    exact ⟨M_pos, M_pos⟩
  · have F := one_of hi e hj
    have h1 := F.lx
    have h2 := F.ly
    rw [pt_pos i e]
    exact ⟨by dsimp only; omega, by dsimp only; omega⟩
theorem cmul_at {i j k : Nat} (hi : i < 8) (hj : j < cN i) (hk : k < M256) : ∀ n, n ≤ 256 → cmulR (cP i) 0 k (ptOf i j) n = ptOf i (k / 2 ^ (256 - n) * j % cN i)
  | 0, _ => by
    rw [show k / 2 ^ (256 - 0) = 0 from Nat.div_eq_of_lt hk, Nat.zero_mul, Nat.zero_mod]
    rfl
  | n + 1, hn => by
    obtain ⟨r1, _⟩ := cN_range hi
    have ih := cmul_at hi hj hk n (by omega)
    obtain ⟨t, ht⟩ : ∃ t, t = 255 - n := ⟨_, rfl⟩
    rw [show 256 - n = t + 1 by omega] at ih
    have hs := half_step k t
    have lt : ∀ v, v % cN i < cN i := fun v => Nat.mod_lt v (by omega)
    have h1 := (csum_pt hi (lt (k / 2 ^ (t + 1) * j)) (lt (k / 2 ^ (t + 1) * j))).2
    have h2 := (csum_pt hi (lt (k / 2 ^ (t + 1) * j % cN i + k / 2 ^ (t + 1) * j % cN i)) hj).2
    rw [cmulR, ih, h1, h2, show 256 - (n + 1) = t by omega, show 255 - n = t by omega]
    have e1 : (k / 2 ^ (t + 1) * j % cN i + k / 2 ^ (t + 1) * j % cN i) % cN i = 2 * (k / 2 ^ (t + 1)) * j % cN i := by
      rw [← Nat.add_mod, ← Nat.two_mul, Nat.mul_assoc]
    by_cases hb : k.testBit t = true
    · rw [if_pos hb, e1, Nat.mod_add_mod, hs, hb, Bool.toNat_true, Nat.add_mul, Nat.one_mul]
    · rw [if_neg hb, e1, hs, Bool.eq_false_iff.2 hb, Bool.toNat_false]
      simp only [Nat.add_zero]
theorem cmul_pt {i j k : Nat} (hi : i < 8) (hj : j < cN i) (hk : k < M256) : mulOK (cP i) 0 k (ptOf i j) ∧ cmulR (cP i) 0 k (ptOf i j) 256 = ptOf i (k * j % cN i) := by
  obtain ⟨r1, _⟩ := cN_range hi
  have lt : ∀ v, v % cN i < cN i := fun v => Nat.mod_lt v (by omega)
  refine ⟨⟨fun n hn => ?_, fun n hn _ => ?_⟩, ?_⟩
  · rw [cmul_at hi hj hk n (by omega)]
    exact (csum_pt hi (lt _) (lt _)).1
  · rw [cmul_at hi hj hk n (by omega), (csum_pt hi (lt _) (lt _)).2]
    exact (csum_pt hi (lt _) hj).1
  · rw [cmul_at hi hj hk 256 (Nat.le_refl _), Nat.sub_self, Nat.pow_zero, Nat.div_one]
theorem isCv.good {i P A B N X Y : Nat} {F : Bool} (h : isCv i P A B N X Y F) : P % M256 = cP i ∧ A % M256 = 0 ∧ B % M256 = cB i ∧ N % M256 = cN i ∧ red X Y F = ptOf i 1 ∧ goodP (P % M256) (A % M256) (B % M256) (N % M256) (red X Y F) := by
  have e : red X Y F = (cX i, cY i, false) := by
    unfold red
    rw [h.x, h.y, h.f]
  refine ⟨h.p, h.a, h.b, h.n, by rw [e, base_pt h.lt], ?_⟩
  rw [h.p, h.a, h.b, h.n, e]
  exact good_all h.lt
theorem limb_low (N : Nat) : limb N 0 = ((N % M256 % 18446744073709551616 : Nat) : Int) := by
  have e : limb N 0 = ((N / 2 ^ (64 * 0) % 2 ^ 64 : Nat) : Int) := rfl
  rw [e, limb_mod N 0 (by decide), Nat.mul_zero, Nat.pow_zero, Nat.div_one]
theorem ok_point : ∀ (ls : List (List At)) (vs : List (Option Addr)), Ok (pointC ls) → Owes Try.prog cxPoint [] 100 Try.f11 (mkArgs [.str pCv, .int .i64] ls vs) (pointG ls) := by
  intro ls vs hc
  unfold pointC at hc
  split at hc
  · rename_i P A B N X Y F n
    have h : Owes Try.prog cxPoint [] 100 Try.f11 [sCv P A B N X Y F, sI .i64 n] (pointG [[.u P, .u A, .u B, .u N, .u X, .u Y, .b F], [.i n]]) := by
      rw [vc_point]
      obtain ⟨hcv, hn, _⟩ := hc
      obtain ⟨eP, eA, eB, eN, eb, hg⟩ := hcv.good
      have hi := hcv.lt
      obtain ⟨r1, r2⟩ := cN_range hi
      have hL := limb_low N
      have hM := M256_eq
      rw [eN] at hL hg
      obtain ⟨i, hix⟩ : ∃ i, ixP (P % M256) = i := ⟨_, rfl⟩
      rw [hix] at eP eB eN eb hg hi r1 r2 hL
      have m1 := Int.emod_nonneg n (show ((cN i : Nat) : Int) ≠ 0 by omega)
      have m2 := Int.emod_lt_of_pos n (show (0 : Int) < ((cN i : Nat) : Int) by omega)
      obtain ⟨a, ha⟩ := Int.eq_ofNat_of_zero_le m1
      have haN : a < cN i := by omega
      rw [eP, eA, eB, eb] at hg
      intro x1 x2 x3 x4 x5 x6 x7
      have E1 : x1 = ((cN i : Nat) : Int) := by
        simp only [x1]
        rw [hL, Nat.mod_eq_of_lt (by omega), IntWalk.i64_in _ (by omega)]
      have E2 : x2 = (a : Int) := by
        simp only [x2]
        rw [E1, ha, wrap_id (by omega)]
      have E6 : x6 = a := by
        simp only [x6]
        rw [join_one (by omega), E2, Int.toNat_natCast]
      have E3 : x3 = cP i := eP
      have E4 : x4 = 0 := eA
      have E5 : x5 = cB i := eB
      have E7 : x7 = i := hix
      clear_value x7 x6 x5 x4 x3 x2 x1
      obtain ⟨k1, k2⟩ := cmul_pt hi (show 1 < cN i by omega) (show a < M256 by omega)
      rw [Nat.mul_one, Nat.mod_eq_of_lt haN] at k2
      rw [E1, E2, E3, E4, E5, E6, E7, eb, k2, ha, Int.toNat_natCast, eN]
      exact ⟨hn, by omega, by omega, by decide, by decide, by decide, hg, onP_pt hi (by omega), k1, rfl, rfl, rfl, trivial⟩
    exact h
  · exact hc.1.elim
theorem card_point : FnOK Try.prog 11 cPoint :=
  FnOK_A (CxOK_cons card_pickBig (CxOK_cons card_cMult CxOK_nil)) (iv := fun _ => []) (N := 100) Try.func11 (by kernel_rfl) (by kernel_rfl) (fun ls => by unfold pointG; split; exact bnd_one (bnd_pt _); exact bnd_none) ok_point
theorem ok_cTells : Owes Try.prog cxCTells [] 100 Try.f13 [] yes := by
  rw [vc_cTells]
  have hr : red 2 12 false = (cX 0, cY 0, false) := by
    unfold red
    rw [small_mod (by decide), small_mod (by decide)]
    rfl
  have hg : goodP 43 0 7 31 (red 2 12 false) := by rw [hr]; exact good_all (i := 0) (by decide)
  have hcv : isCv 0 43 0 7 31 2 12 false := ⟨by decide, small_mod (by decide), small_mod (by decide), small_mod (by decide), small_mod (by decide), small_mod (by decide), small_mod (by decide), rfl⟩
  intro x1 x2 x3 x4
  exact ⟨by decide, hg, fun h => (by cases h), fun _ => (by decide), id, id, id, id, fun _ => hg, fun _ h => (by cases h), fun _ _ => (by decide), id, id, id, fun _ => hcv, fun _ => (by decide), id, id, id, id, fun _ => hcv, fun _ => (by decide), id, id, id, id, rfl⟩
theorem card_cTells : FnOK Try.prog 13 (spec0 yes) :=
  FnOK_0 (CxOK_cons card_Curve (CxOK_cons card_cOn (CxOK_cons card_point CxOK_nil))) (iv := []) (N := 100) Try.func13 (by kernel_rfl) (by kernel_rfl) (bnd_one (bnd_B _)) ok_cTells
end Go.Proofs.Ytohnkglcabfpjaa
end

section
namespace Go.Proofs.Ytohnkglcabfpjaa
open Go.Sx
theorem cx_facts {I : Nat} (hi : I < 8) : cP I % M256 = cP I ∧ cB I % M256 = cB I ∧ cN I % M256 = cN I ∧ red (cX I) (cY I) false = ptOf I 1 ∧ ixP (cP I) = I ∧ isCv I (cP I) 0 (cB I) (cN I) (cX I) (cY I) false ∧ goodP (cP I) 0 (cB I) (cN I) (ptOf I 1) := by
  obtain ⟨r1, r2⟩ := cP_range hi
  obtain ⟨n1, n2⟩ := cN_range hi
  have hg := good_all hi
  have hB := hg.B0
  have hxy : cX I < 1000 ∧ cY I < 1000 := by
    have : ∀ i : Fin 8, cX i.val < 1000 ∧ cY i.val < 1000 := by decide
    exact this ⟨I, hi⟩
  have mP := small_mod (v := cP I) (by omega)
  have mB := small_mod (v := cB I) (by omega)
  have mN := small_mod (v := cN I) (by omega)
  have mX := small_mod (v := cX I) (by omega)
  have mY := small_mod (v := cY I) (by omega)
  have e : red (cX I) (cY I) false = ptOf I 1 := by
    unfold red
    rw [mX, mY, base_pt hi]
  refine ⟨mP, mB, mN, e, ixP_of hi, ⟨hi, mP, Nat.zero_mod _, mB, mN, mX, mY, rfl⟩, ?_⟩
  rw [base_pt hi] at hg
  exact hg
theorem red_pt {I a : Nat} (hi : I < 8) (ha : a < cN I) : red (ptOf I a).1 (ptOf I a).2.1 (ptOf I a).2.2 = ptOf I a := red_same (inM_pt hi ha)
theorem rest_nat (I : Nat) (hi : I < 8) (i : Int) : (i % ((cN I : Nat) : Int)).toNat < cN I := by
  obtain ⟨n1, _⟩ := cN_range hi
  have m1 := Int.emod_nonneg i (show ((cN I : Nat) : Int) ≠ 0 by omega)
  have m2 := Int.emod_lt_of_pos i (show (0 : Int) < ((cN I : Nat) : Int) by omega)
  omega
theorem onE_pt {I a : Nat} (hi : I < 8) (ha : a < cN I) : onE (cP I) 0 (cB I) (ptOf I a) = 0 := by
  have h := onP_pt hi ha
  unfold onE
  split
  · rfl
  · rename_i hf
    have hf : (ptOf I a).2.2 = false := by simpa using hf
    rw [if_pos (h.near hf).2.2]
theorem same_pt (p : Pt) : conj [p.1 % M256 == p.1 % M256, p.2.1 % M256 == p.2.1 % M256, p.2.2 == p.2.2] = true := by
  simp [conj_all]
theorem ok_CurveGroups : ∀ n i j k : Int, i64ok n → i64ok i → i64ok j → i64ok k → Owes Try.prog cxCG [] 100 Try.f3 [sI .i64 n, sI .i64 i, sI .i64 j, sI .i64 k] yes := by
  intro n i j k hn hi' hj hk
  rw [vc_CurveGroups]
  have hI := ixN_lt n
  generalize ixN n = I at *
  obtain ⟨fP, fB, fN, fb, fx, fcv, fg⟩ := cx_facts hI
  have ha := rest_nat I hI i
  have hb := rest_nat I hI j
  have hc := rest_nat I hI k
  generalize hA : (i % ((cN I : Nat) : Int)).toNat = a at *
  generalize hB : (j % ((cN I : Nat) : Int)).toNat = b at *
  generalize hC : (k % ((cN I : Nat) : Int)).toNat = c at *
  have lt : ∀ v, v % cN I < cN I := fun v => Nat.mod_lt v (by omega)
  have ra := red_pt hI ha
  have rb := red_pt hI hb
  have rc := red_pt hI hc
  have rab := red_pt hI (lt (a + b))
  have rbc := red_pt hI (lt (b + c))
  obtain ⟨s1, c1⟩ := csum_pt hI ha hb
  obtain ⟨s2, c2⟩ := csum_pt hI hb hc
  obtain ⟨s3, c3⟩ := csum_pt hI (lt (a + b)) hc
  obtain ⟨s4, c4⟩ := csum_pt hI ha (lt (b + c))
  obtain ⟨s5, c5⟩ := csum_pt hI hb ha
  have e3 : ((a + b) % cN I + c) % cN I = (a + b + c) % cN I := Nat.mod_add_mod _ _ _
  have e4 : (a + (b + c) % cN I) % cN I = (a + b + c) % cN I := by rw [Nat.add_mod_mod, Nat.add_assoc]
  have e5 : (b + a) % cN I = (a + b) % cN I := by rw [Nat.add_comm]
  have oab := onP_pt hI (lt (a + b))
  have nab := onE_pt hI (lt (a + b))
  rw [e3] at c3
  rw [e4] at c4
  rw [e5] at c5
  simp only [fP, fx, fB, fN, fb, hA, hB, hC, ra, rb, rc, c1, c2, rab, rbc, c3, c4, c5, nab, same_pt]
  have oa := onP_pt hI ha
  have ob := onP_pt hI hb
  have oc := onP_pt hI hc
  have obc := onP_pt hI (lt (b + c))
  have mab := inM_pt hI (lt (a + b))
  refine ⟨hn, fcv, hi', fcv, hj, fcv, hk, fg, oa, ob, s1, fg, ob, oc, s2, fg, oab, oc, s3, fg, oa, obc, s4, fg, ob, oa, s5, id, id, id, id, id, id, id, id, id, id, id, id, id, id, id, id, id, id, fun _ => fg, fun _ hf => ?_, fun _ hf => ?_, id, id, rfl⟩
  · obtain ⟨z1, z2⟩ := oab.far hf
    rw [z1, z2]
    exact ⟨Nat.zero_mod _, Nat.zero_mod _⟩
  · obtain ⟨z1, z2, _⟩ := oab.near hf
    rw [Nat.mod_eq_of_lt mab.x, Nat.mod_eq_of_lt mab.y]
    exact ⟨z1, z2⟩
theorem cxok_CG : CxOK Try.prog cxCG := CxOK_cons card_Curve (CxOK_cons card_point (CxOK_cons card_cAdd (CxOK_cons card_cOn (CxOK_cons card_cTells CxOK_nil))))
end Go.Proofs.Ytohnkglcabfpjaa
end
