/-
  Texts: P115, P116, V66, P110, V71, P117.
-/
import Derived.Test.YtbjdchpncbgpnaaM1
import Derived.Test.YtbjdchpncbgpnaaM2
import Derived.Test.YtbjdchpncbgpnaaM3
import Derived.Test.YtbjdchpncbgpnaaM4
import Derived.Test.YtbjdchpncbgpnaaM5
import Derived.Test.YtbjdchpncbgpnaaM6
import Derived.Test.YtbjdchpncbgpnaaM7
import Derived.Test.YtbjdchpncbgpnaaM8
import Derived.Test.YtbjdchpncbgpnaaM9
import Derived.Test.YtbjdchpncbgpnaaM10
import Derived.Test.YtbjdchpncbgpnaaM11
import Derived.Test.YtbjdchpncbgpnaaM12
import Derived.Test.YtbjdchpncbgpnaaM13
section
/-
  Inverses by a modulus: the way back through the steps of Euclid, as numbers.
-/
namespace Go.Proofs.Ytbjdchpncbgpnaa
open Go Go.Sx Go.RowKit

theorem rinv_uniq {A N x y : Nat} (hx : x < N) (hy : y < N) (h1 : A * x % N = 1 % N) (h2 : A * y % N = 1 % N) : x = y := by
  have e : A * x * y % N = y := by rw [Nat.mul_mod, h1, ← Nat.mul_mod, Nat.one_mul, Nat.mod_eq_of_lt hy]
  have f : A * y * x % N = x := by rw [Nat.mul_mod, h2, ← Nat.mul_mod, Nat.one_mul, Nat.mod_eq_of_lt hx]
  rw [← f, Nat.mul_right_comm, e]
theorem back_one {A r s : Nat} (hA : 1 < A) (h : r * s % A = 1 % A) : 1 ≤ r * s ∧ A * ((r * s - 1) / A) + 1 = r * s := by
  rw [Nat.mod_eq_of_lt hA] at h
  have d := Nat.div_add_mod (r * s) A
  rw [h] at d
  refine ⟨by omega, ?_⟩
  have e : r * s - 1 = A * (r * s / A) := by omega
  rw [e, Nat.mul_div_cancel_left _ (by omega)]
  exact d
theorem back_step {A N s : Nat} (hA : 1 < A) (hN : A < N) (hg : Nat.gcd A N = 1) (hs : N % A * s % A = 1 % A) :
    (if (N / A * s + (N % A * s - 1) / A) % N = 0 then 0 else N - (N / A * s + (N % A * s - 1) / A) % N) = invN A N := by
  obtain ⟨i1, i2⟩ := invN_spec hN hg
  obtain ⟨_, b2⟩ := back_one hA hs
  have d := Nat.div_add_mod N A
  generalize (N % A * s - 1) / A = k at *
  generalize N / A = q at *
  generalize N % A = r at *
  have e : A * (q * s + k) + 1 = N * s := by
    rw [Nat.mul_add, ← Nat.mul_assoc, Nat.add_assoc, b2, ← Nat.add_mul, d]
  have dt := Nat.div_add_mod (q * s + k) N
  generalize (q * s + k) / N = c at *
  have hw := Nat.mod_lt (q * s + k) (show 0 < N by omega)
  generalize (q * s + k) % N = w at *
  generalize q * s + k = t at *
  by_cases h0 : w = 0
  · exfalso
    rw [h0, Nat.add_zero] at dt
    rw [← dt] at e
    have h1 : (A * (N * c) + 1) % N = 1 % N := by
      rw [show A * (N * c) = N * (A * c) by rw [← Nat.mul_assoc, Nat.mul_comm A N, Nat.mul_assoc], Nat.mul_add_mod]
    rw [e, Nat.mul_mod_right, Nat.mod_eq_of_lt (by omega)] at h1
    omega
  · rw [if_neg h0]
    refine rinv_uniq (A := A) (N := N) (by omega) i1 ?_ i2
    have h1 : A * (N - w) + N * s = N * (A + A * c) + 1 := by
      have e2 : A * (N - w) + A * w = A * N := by rw [← Nat.mul_add]; congr 1; omega
      have e3 : A * (N * c) + A * w = A * t := by rw [← Nat.mul_add, dt]
      have e4 : N * (A + A * c) = A * N + A * (N * c) := by rw [Nat.mul_add, Nat.mul_comm N A, ← Nat.mul_assoc, ← Nat.mul_assoc, Nat.mul_comm N A]
      rw [e4]
      omega
    have h2 : (A * (N - w) + N * s) % N = A * (N - w) % N := Nat.add_mul_mod_self_left _ _ _
    rw [← h2, h1, Nat.mul_add_mod]
def rivX (a m : Nat) : Nat := if Nat.gcd (a % M256) (m % M256) = 1 then invN (a % M256) (m % M256) else 0
def rivB (a m : Nat) : Bool := decide (Nat.gcd (a % M256) (m % M256) = 1)
theorem limb_natR (a i : Nat) : ∃ c : Nat, limb a i = (c : Int) ∧ c < 18446744073709551616 := by
  have := limb_range a i
  exact ⟨(limb a i).toNat, by omega, by omega⟩
theorem conj_lit (m : Nat) (c : Int) (hc : 0 ≤ c ∧ c < 18446744073709551616) : conj [limb m 0 == c, limb m 1 == 0, limb m 2 == 0, limb m 3 == 0] = decide (((m % M256 : Nat) : Int) = c) := by
  have hj := join_limbs m
  obtain ⟨c0, k0, q0⟩ := limb_natR m 0
  obtain ⟨c1, k1, q1⟩ := limb_natR m 1
  obtain ⟨c2, k2, q2⟩ := limb_natR m 2
  obtain ⟨c3, k3, q3⟩ := limb_natR m 3
  rw [k0, k1, k2, k3] at hj ⊢
  unfold join at hj
  simp only [Int.toNat_natCast] at hj
  rw [← hj, Bool.eq_iff_iff, decide_eq_true_eq]
  simp only [conj, Bool.and_eq_true, beq_iff_eq]
  omega
def pRI (K : Nat) (n : Nat) (f : Nat → Int) : Prop := n = 16 ∧ ∀ i, i < 16 → f i = dg K i
theorem rivX_lt {a m : Nat} (h : a % M256 < m % M256) : rivX a m < M256 := by
  unfold rivX
  split
  · rename_i g
    exact Nat.lt_trans (invN_spec h g).1 (modM m)
  · exact (by decide : 0 < M256)
end Go.Proofs.Ytbjdchpncbgpnaa
end

section
/-
  The reference's inverses: the way back.
-/
namespace Go.Proofs.Ytbjdchpncbgpnaa
open Go Go.Sx Go.RowKit

set_option maxHeartbeats 4000000 in
theorem ok_refInv (k a m : Nat) (hk : m % M256 < k + 1) (ham : a % M256 < m % M256) :
    OwesV Try.prog (cxRIv rivX rivB k) slRest [(11, .cut (cutRI m (m % M256 / (a % M256)) (rivX (m % M256 % (a % M256)) (a % M256)) (pRI ((m % M256 % (a % M256) * rivX (m % M256 % (a % M256)) (a % M256) - 1) / (a % M256)))) (fun _ _ => True))] 8 Try.f67 [sU a, sU m] (rivG rivX rivB a m) := by
  rw [vc_refInv]
  have hA := modM a
  have hN := modM m
  have lM := fun i => limb_range m i
  have lA := fun i => limb_range a i
  have cm1 := conj_lit m 1 ⟨by decide, by decide⟩
  have ca0 := conj_lit a 0 ⟨by decide, by decide⟩
  have ca1 := conj_lit a 1 ⟨by decide, by decide⟩
  have rX : rivX a m = if Nat.gcd (a % M256) (m % M256) = 1 then invN (a % M256) (m % M256) else 0 := rfl
  have rB : rivB a m = decide (Nat.gcd (a % M256) (m % M256) = 1) := rfl
  have M0 : 0 % M256 = 0 := Nat.zero_mod _
  have xlt := rivX_lt ham
  rw [cm1, ca0, ca1, join_limbs a, join_limbs m]
  intro x1 x2 x3 x4 x5 x6 x7 x8 x9 x10 x11 x12 x13
  have E1 : x1 = rivX a m := Nat.mod_eq_of_lt xlt
  have E2 : x2 = a % M256 := rfl
  have E3 : x3 = a % M256 := Nat.mod_eq_of_lt hA
  have E4 : x4 = m % M256 := Nat.mod_eq_of_lt hN
  have E5 : x5 = if x3 = 0 then 0 else x4 % x3 := rfl
  have E6 : x6 = x5 % M256 := rfl
  have E7 : x7 = m % M256 / (a % M256) % M256 := rfl
  have E8 : x8 = rivX (m % M256 % (a % M256)) (a % M256) % M256 := rfl
  have E9 : x9 = rivX x5 x2 % M256 := rfl
  have E10 : x10 = vn 16 fun i => dg ((vn 8 fun i => dg x6 i) * vn 8 fun i => dg x9 i) i := rfl
  have E11 : x11 = vn 8 fun i => dg x3 i := rfl
  have E12 : x12 = vn 16 fun i => dg (x10 - 1) i := rfl
  rw [rB]
  clear_value x1 x2 x3 x4 x5 x6 x7 x8 x9 x10 x11 x12 x13
  rw [rX] at E1
  generalize m % M256 = N at *
  generalize a % M256 = A at *
  subst E3 E4
  refine fun a1 a2 => ⟨fun h => ?_, fun h => ⟨fun h0 => ?_, fun h0 => ⟨fun h1 => ?_, fun h1 => ?_⟩⟩⟩
  · have h : ((x4 : Nat) : Int) = 1 := of_decide_eq_true h
    have e4 : x4 = 1 := by omega
    have e3 : x3 = 0 := by omega
    subst e4 e3
    have g : Nat.gcd 0 1 = 1 := by decide
    have i := (invN_spec (a := 0) (m := 1) (by decide) g).1
    rw [if_pos g] at E1
    exact ⟨⟨by omega, trivial⟩, rfl⟩
  all_goals
    have h : ¬ ((x4 : Nat) : Int) = 1 := of_decide_eq_false h
  · have h0 : ((x3 : Nat) : Int) = 0 := of_decide_eq_true h0
    have e3 : x3 = 0 := by omega
    subst e3
    have g0 : ¬ Nat.gcd 0 x4 = 1 := by
      rw [Nat.gcd_zero_left]
      omega
    rw [if_neg g0] at E1
    exact ⟨⟨E1.symm, trivial⟩, (decide_eq_false g0).symm⟩
  all_goals
    have h0 : ¬ ((x3 : Nat) : Int) = 0 := of_decide_eq_false h0
  · have h1 : ((x3 : Nat) : Int) = 1 := of_decide_eq_true h1
    have e3 : x3 = 1 := by omega
    subst e3
    have g : Nat.gcd 1 x4 = 1 := Nat.gcd_one_left _
    obtain ⟨i1, i2⟩ := invN_spec ham g
    rw [if_pos g] at E1
    rw [Nat.one_mul, Nat.mod_eq_of_lt i1, Nat.mod_eq_of_lt ham] at i2
    exact ⟨⟨lA 0, lA 1, lA 2, lA 3, by omega, trivial⟩, (decide_eq_true g).symm⟩
  · have h1 : ¬ ((x3 : Nat) : Int) = 1 := of_decide_eq_false h1
    have hx : 1 < x3 := by omega
    have hr := Nat.mod_lt x4 (show 0 < x3 by omega)
    rw [if_neg (by omega)] at E5
    subst E5
    have hrM : x4 % x3 < M256 := Nat.lt_trans hr hA
    rw [Nat.mod_eq_of_lt hrM] at E6
    subst E6
    subst E2
    have e3 : x2 % M256 = x2 := Nat.mod_eq_of_lt hA
    have e5 : x4 % x2 % M256 = x4 % x2 := Nat.mod_eq_of_lt hrM
    have gr := Nat.gcd_rec x2 x4
    have sX : rivX (x4 % x2) x2 = if Nat.gcd x2 x4 = 1 then invN (x4 % x2) x2 else 0 := by
      unfold rivX
      rw [e3, e5]
      by_cases c : Nat.gcd (x4 % x2) x2 = 1
      · rw [if_pos c, if_pos (gr.trans c)]
      · rw [if_neg c, if_neg fun h => c (gr.symm.trans h)]
    have sB : rivB (x4 % x2) x2 = decide (Nat.gcd x2 x4 = 1) := by
      unfold rivB
      rw [e3, e5]
      exact decide_eq_decide.2 ⟨fun h => gr.trans h, fun h => gr.symm.trans h⟩
    have h98 : x9 = x8 := by rw [E9, E8]
    refine ⟨lM 0, lM 1, lM 2, lM 3, lA 0, lA 1, lA 2, lA 3, lA 0, lA 1, lA 2, lA 3, by omega, hr, fun hb => ?_, fun hb => ?_⟩
    · rw [sB, Bool.not_eq_true', decide_eq_false_iff_not] at hb
      rw [if_neg hb] at E1
      exact ⟨⟨E1.symm, trivial⟩, (decide_eq_false hb).symm⟩
    · rw [sB, Bool.not_eq_false', decide_eq_true_eq] at hb
      rw [if_pos hb] at E1 sX
      have hgs : Nat.gcd (x4 % x2) x2 = 1 := by rw [← Nat.gcd_rec]; exact hb
      obtain ⟨s1, s2⟩ := invN_spec hr hgs
      have hst := back_step hx ham hb s2
      obtain ⟨b1, b2⟩ := back_one hx s2
      have hsM : invN (x4 % x2) x2 < M256 := Nat.lt_trans s1 hA
      have hqM : x4 / x2 < M256 := Nat.lt_of_le_of_lt (Nat.div_le_self _ _) hN
      rw [sX, Nat.mod_eq_of_lt hsM] at E8
      rw [Nat.mod_eq_of_lt hqM] at E7
      rw [h98] at E10
      rw [vn8 hrM, vn8 (by rw [E8]; exact hsM), vnk (by
        rw [M16]
        exact Nat.mul_lt_mul'' hrM (by rw [E8]; exact hsM))] at E10
      rw [vn8 hA] at E11
      have hRS : x10 < M256 * M256 := by
        rw [E10]
        exact Nat.mul_lt_mul'' hrM (by rw [E8]; exact hsM)
      rw [vnk (by rw [M16]; omega)] at E12
      have T : ∀ _ : Nat, True := fun _ => trivial
      have T1 : ∀ _ : Addr, True := fun _ => trivial
      have D1 : dgs 1 fun j => intsC (SC.val (Value.int IntKind.u64 (selG [SK.c (SC.num IntKind.u64 1)] j))) := ⟨fun j hj => by
        have : j = 0 := by omega
        subst this
        exact ⟨by decide, by decide⟩⟩
      have N8 : (8 : Nat) ≤ 1000 := by decide
      have N16 : (16 : Nat) ≤ 1000 := by decide
      have N17 : max 16 16 + 1 ≤ 1000 := by decide
      have N1 : (1 : Nat) ≤ 1000 := by decide
      have N9 : (8 : Nat) ≤ 900 := by decide
      have N0 : (1 : Nat) ≤ 1 := by decide
      have K10 : 1 ≤ x10 := by rw [E10, E8]; exact b1
      have K11 : x11 ≠ 0 := by rw [E11]; omega
      have K4 : x4 ≠ 0 := by omega
      have hK : ∀ i, i < 16 → dg (x12 / x11) i = dg ((x4 % x2 * rivX (x4 % x2) x2 - 1) / x2) i := fun i _ => by rw [E12, E11, E10, E8, sX]
      have h7 : (if x2 = 0 then 0 else x4 / x2) % M256 = x7 := by rw [if_neg (by omega), E7, Nat.mod_eq_of_lt hqM]
      have hkM : (x4 % x2 * rivX (x4 % x2) x2 - 1) / x2 < M256 * M256 := by
        refine Nat.lt_of_le_of_lt (Nat.div_le_self _ _) ?_
        rw [sX, ← E8, ← E10]
        omega
      refine ⟨fun y => rfl, (a1, none, 0, 0, fun _ => 0), ?_, ?_⟩
      · rintro ⟨b, c, n, cp, f⟩ ⟨hn, hf⟩ _
        have hn : n = 16 := hn
        subst hn
        have hf : ∀ i, i < 16 → f i = dg ((x4 % x2 * rivX (x4 % x2) x2 - 1) / x2) i := hf
        have Df : dgs 16 fun i => intsC (SC.val (Value.int IntKind.u64 (f i))) := ⟨fun i hi => by
          show 0 ≤ f i ∧ f i < 4294967296
          rw [hf i hi]
          exact dg_range _ _⟩
        have hV : (vn (max 16 16 + 1) fun i => dg ((vn 16 fun i => dg ((vn 8 fun i => dg x7 i) * vn 8 fun i => dg x8 i) i) + vn 16 fun i => f i) i) = x4 / x2 * invN (x4 % x2) x2 + (x4 % x2 * invN (x4 % x2) x2 - 1) / x2 := by
          have p : x4 / x2 * invN (x4 % x2) x2 < M256 * M256 := Nat.mul_lt_mul'' hqM hsM
          rw [sX] at hkM hf
          have w1 : (vn 16 fun i => dg (x4 / x2 * invN (x4 % x2) x2) i) = x4 / x2 * invN (x4 % x2) x2 := vnk (by rw [M16]; exact p)
          have w2 : (vn 16 fun i => f i) = (x4 % x2 * invN (x4 % x2) x2 - 1) / x2 := by
            rw [vn_congr hf]
            exact vnk (by rw [M16]; exact hkM)
          have w3 : (vn (max 16 16 + 1) fun i => dg (x4 / x2 * invN (x4 % x2) x2 + (x4 % x2 * invN (x4 % x2) x2 - 1) / x2) i) = x4 / x2 * invN (x4 % x2) x2 + (x4 % x2 * invN (x4 % x2) x2 - 1) / x2 := vnk (k := 17) (by
            rw [Nat.pow_succ, M16]
            omega)
          rw [vn8 (by rw [E7]; exact hqM), vn8 (by rw [E8]; exact hsM), E7, E8, w1, w2]
          exact w3
        have hw := Nat.mod_lt (x4 / x2 * invN (x4 % x2) x2 + (x4 % x2 * invN (x4 % x2) x2 - 1) / x2) (show 0 < x4 by omega)
        have hV2 : (vn (max 16 16 + 1) fun i => dg ((vn 16 fun i => dg ((vn 8 fun i => dg x7 i) * vn 8 fun i => dg x8 i) i) + vn 16 fun i => f i) i) % x4 % M256 = (x4 / x2 * invN (x4 % x2) x2 + (x4 % x2 * invN (x4 % x2) x2 - 1) / x2) % x4 := by
          rw [hV, Nat.mod_eq_of_lt (Nat.lt_trans hw hN)]
        have G1 : (vn (max 16 16 + 1) fun i => dg ((vn 16 fun i => dg ((vn 8 fun i => dg x7 i) * vn 8 fun i => dg x8 i) i) + vn 16 fun i => f i) i) % x4 % M256 ≤ x4 := by
          rw [hV2]; omega
        have G2 : ((if (vn (max 16 16 + 1) fun i => dg ((vn 16 fun i => dg ((vn 8 fun i => dg x7 i) * vn 8 fun i => dg x8 i) i) + vn 16 fun i => f i) i) % x4 % M256 = 0 then 0 else x4 - (vn (max 16 16 + 1) fun i => dg ((vn 16 fun i => dg ((vn 8 fun i => dg x7 i) * vn 8 fun i => dg x8 i) i) + vn 16 fun i => f i) i) % x4 % M256) % M256 = x1 ∧ True) ∧ true = decide (Nat.gcd x2 x4 = 1) := by
          rw [hV2, hst, ← E1, Nat.mod_eq_of_lt (show x1 < M256 by rw [E1]; exact Nat.lt_trans (invN_spec ham hb).1 hN)]
          exact ⟨⟨rfl, trivial⟩, (decide_eq_true hb).symm⟩
        clear hV hV2 E7 E8 E9 E10 E11 E12 hst b1 b2 hK
        repeat' (first | exact T | exact T1 | exact K4 | exact N8 | exact N16 | exact N17 | exact lM _ | exact dgs_dg _ _ | exact Df | exact G1 | exact G2 | (refine And.intro ?_ ?_) | (intro _))
      · clear hst b1 b2
        repeat' (first | exact T | exact T1 | exact K10 | exact K11 | exact N8 | exact N16 | exact N1 | exact N9 | exact N0 | exact lA _ | exact dgs_dg _ _ | exact D1 | (refine And.intro ?_ ?_) | (intro _) | exact ⟨(a2, _, 16, _, dg (x12 / x11)), ⟨⟨rfl, hK⟩, trivial⟩, ⟨rfl, rfl, rfl, rfl, rfl⟩, ⟨rfl, rfl, rfl, fun _ _ => rfl⟩, rfl, h7, rfl, h98, rfl, trivial⟩)
end Go.Proofs.Ytbjdchpncbgpnaa
end

section
/-
  The reference's powers by a modulus: reckoned by the kernel. (Laid by program.)
-/
namespace Go.Proofs.Ytbjdchpncbgpnaa
open Go Go.Sx Go.RowKit
set_option maxRecDepth 100000
end Go.Proofs.Ytbjdchpncbgpnaa
end

section
/-
  The reference's powers by a modulus; the law of powers.
-/
namespace Go.Proofs.Ytbjdchpncbgpnaa
open Go Go.Sx Go.RowKit

end Go.Proofs.Ytbjdchpncbgpnaa
end

section
/-
  The reference's inverses, and the law: reckoned by the kernel. (Laid by program.)
-/
namespace Go.Proofs.Ytbjdchpncbgpnaa
open Go Go.Sx Go.RowKit
set_option maxRecDepth 100000
def rinC (a m : Nat) : List Prop := [a % M256 < m % M256]
def cxRIn : Cx := [(78, specUU ordG), (67, specUUC rinC (rivG rivX rivB))]
def cxFI : Cx := [(35, specUU finvG), (36, specUU finvG)]
-- VC vc_refInverse HASH 38de9c101e8579c0
theorem vc_refInverse (a m : Nat) (r : Nat) (e : Int) :
    OwesV Try.prog cxRIn [] [] 4 Try.f36 [sU a, sU m] (.tup [sU r, sI .i64 e]) =
    (let x1 : Nat := m % Go.Sx.M256; let x2 : Nat := r % Go.Sx.M256; let x3 : Nat := a % Go.Sx.M256; let x4 : Int := Go.Sx.cmpI x3 x1; (Go.Sx.conj [x1 == (0 : Nat)] = Bool.true → ((0 : Nat) = x2 ∧ True) ∧ (7 : Int) = e) ∧ (Go.Sx.conj [x1 == (0 : Nat)] = Bool.false → (Decidable.decide (x4 ≥ (0 : Int)) = Bool.true → ((0 : Nat) = x2 ∧ True) ∧ (6 : Int) = e) ∧ (Decidable.decide (x4 ≥ (0 : Int)) = Bool.false → x3 < x1 ∧ ((!rivB a m) = Bool.true → ((0 : Nat) = x2 ∧ True) ∧ (5 : Int) = e) ∧ ((!rivB a m) = Bool.false → (rivX a m % Go.Sx.M256 = x2 ∧ True) ∧ (0 : Int) = e)))) := by kernel_rfl
-- END VC
-- VC vc_FieldInverses HASH eb8c8a83b5f2f7d5
theorem vc_FieldInverses (a m : Nat) :
    Owes Try.prog cxFI [] 10 Try.f12 [sU a, sU m] yes =
    (let x1 : Nat := (if finvE a m = (0 : Int) then invN (a % Go.Sx.M256) (m % Go.Sx.M256) else (0 : Nat)) % Go.Sx.M256; let x2 : Bool := Go.Sx.conj [x1 == x1]; (x2 = Bool.true → x2 = Bool.true) ∧ (x2 = Bool.true → x2 = Bool.true) ∧ (x2 = Bool.true → x2 = Bool.true) ∧ (x2 && finvE a m == finvE a m) = Bool.true) := by kernel_rfl
-- END VC
end Go.Proofs.Ytbjdchpncbgpnaa
end

section
/-
  The reference's inverses, and the law.
-/
namespace Go.Proofs.Ytbjdchpncbgpnaa
open Go Go.Sx Go.RowKit

theorem card_mark8 : FnOK Try.prog 1000000008 (fun _ => none) := fun _ _ _ hs _ => by cases hs
theorem rivG_bnd (a m : Nat) : (rivG rivX rivB a m).bnd none0 := by
  unfold rivG
  intro x hx
  simp only [List.mem_cons, List.not_mem_nil, or_false] at hx
  rcases hx with rfl | rfl
  · exact bnd_Un _
  · exact bnd_B _
theorem card_refInvK : ∀ k : Nat, FnOK Try.prog 67 (specUUC (rivC k) (rivG rivX rivB))
  | 0 => FnOKV_UUC (iv := fun _ _ => []) (N := 4) cx_none sl_all Try.func67 (by kernel_rfl) (by kernel_rfl) rivG_bnd fun a m ⟨h, _⟩ => absurd h (Nat.not_lt_zero _)
  | k + 1 => FnOKV_UUC (cx := cxRIv rivX rivB k) (sl := slRest) (N := 8) (iv := fun a m => [(11, .cut (cutRI m (m % M256 / (a % M256)) (rivX (m % M256 % (a % M256)) (a % M256)) (pRI ((m % M256 % (a % M256) * rivX (m % M256 % (a % M256)) (a % M256) - 1) / (a % M256)))) (fun _ _ => True))])
      (CxOK_cons card_mark8 (CxOK_cons card_refQuo (CxOK_cons (card_refInvK k) (CxOK_cons card_refOpp CxOK_nil)))) sl_rest Try.func67 (by kernel_rfl) (by kernel_rfl) rivG_bnd fun a m ⟨h1, h2, _⟩ => ok_refInv k a m h1 h2
theorem card_refInv : FnOK Try.prog 67 (specUUC rinC (rivG rivX rivB)) := by
  intro args ps sv' hs hp
  unfold specUUC at hs
  split at hs
  case h_2 => cases hs
  rename_i x y
  split at hs
  case h_2 => cases hs
  rename_i p a q m hx hy
  simp only [Option.some.injEq, Prod.mk.injEq] at hs
  obtain ⟨rfl, rfl⟩ := hs
  obtain ⟨o1, o2, _⟩ := Ok.append.1 hp
  exact card_refInvK M256 [x, y] ((p ++ q) ++ rivC M256 a m) _ (by simp only [specUUC, hx, hy]) (Ok.append.2 ⟨o1, modM m, o2, trivial⟩)
theorem ok_refInverse (a m : Nat) : OwesV Try.prog cxRIn [] [] 4 Try.f36 [sU a, sU m] (finvG a m) := by
  unfold finvG
  obtain ⟨r, hr⟩ : ∃ r, r = (if finvE a m = 0 then invN (a % M256) (m % M256) else 0) := ⟨_, rfl⟩
  obtain ⟨e, he⟩ : ∃ e, e = finvE a m := ⟨_, rfl⟩
  rw [← hr, ← he, vc_refInverse]
  intro x1 x2 x3 x4
  have E1 : x1 = m % M256 := rfl
  have E2 : x2 = r % M256 := rfl
  have E3 : x3 = a % M256 := rfl
  have M0 : 0 % M256 = 0 := Nat.zero_mod _
  have z : finvE a m ≠ 0 → 0 = x2 := fun h => by rw [E2, hr, if_neg h, M0]
  have rX : rivX a m = if Nat.gcd (a % M256) (m % M256) = 1 then invN (a % M256) (m % M256) else 0 := rfl
  have rB : rivB a m = decide (Nat.gcd (a % M256) (m % M256) = 1) := rfl
  refine ⟨fun h0 => ?_, fun h0 => ⟨fun h1 => ?_, fun h1 => ⟨?_, fun h2 => ?_, fun h2 => ?_⟩⟩⟩
  · rw [eq0_conj] at h0
    have h0 : m % M256 = 0 := eq_of_beq h0
    have f : finvE a m = 7 := by unfold finvE; rw [if_pos h0]
    exact ⟨⟨z (by rw [f]; decide), trivial⟩, by rw [he, f]⟩
  all_goals
    rw [eq0_conj] at h0
    have h0 : m % M256 ≠ 0 := ne_of_beq_false h0
  · have h1 : m % M256 ≤ a % M256 := cmpI_ge0.1 h1
    have f : finvE a m = 6 := by unfold finvE; rw [if_neg h0, if_neg (by omega)]
    exact ⟨⟨z (by rw [f]; decide), trivial⟩, by rw [he, f]⟩
  · exact cmpI_lt0.1 h1
  all_goals
    have h1 : a % M256 < m % M256 := cmpI_lt0.1 h1
    have f : finvE a m = invE (a % M256) (m % M256) := by unfold finvE; rw [if_neg h0, if_pos h1]
    rw [invE_gcd] at f
  · rw [rB, Bool.not_eq_true', decide_eq_false_iff_not] at h2
    rw [if_neg h2] at f
    exact ⟨⟨z (by rw [f]; decide), trivial⟩, by rw [he, f]⟩
  · rw [rB, Bool.not_eq_false', decide_eq_true_eq] at h2
    rw [if_pos h2] at f rX
    rw [if_pos f] at hr
    exact ⟨⟨by rw [rX, E2, hr], trivial⟩, by rw [he, f]⟩
theorem card_refInverse : FnOK Try.prog 36 (specUU finvG) :=
  FnOKV_UU (iv := fun _ _ => []) (CxOK_cons card_refOrd (CxOK_cons card_refInv CxOK_nil)) sl_nil Try.func36 (by kernel_rfl) (by kernel_rfl) (fun a m x hx => by
    simp only [List.mem_cons, List.not_mem_nil, or_false] at hx
    rcases hx with rfl | rfl
    · exact bnd_Un _
    · trivial) ok_refInverse
theorem ok_FieldInverses : ∀ a m : Nat, Owes Try.prog cxFI [] 10 Try.f12 [sU a, sU m] yes := by
  intro a m
  rw [vc_FieldInverses]
  intro x1 x2
  have e : x2 = true := conj_self x1
  refine ⟨id, id, id, ?_⟩
  rw [e, beq_self_eq_true]; rfl
theorem cxok_FI : CxOK Try.prog cxFI := CxOK_cons card_fInv (CxOK_cons card_refInverse CxOK_nil)
end Go.Proofs.Ytbjdchpncbgpnaa
end
