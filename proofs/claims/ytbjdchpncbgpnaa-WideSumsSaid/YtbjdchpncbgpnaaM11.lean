/-
  Texts: P103, Wsp2, Wsp3, Wsp4, Wsp6, P104, V63, P105, P106, P107, V1, V2, V5, V7, V6, V4, P1, P2, P3, P4, P5, P6, P7, C1, C2, P9, P12, P13, P14, P15, P16, P18, P19, P20, P21, P22, V64, P108.
-/
import Derived.Test.YtbjdchpncbgpnaaM1
import Derived.Test.YtbjdchpncbgpnaaM2
import Derived.Test.YtbjdchpncbgpnaaM3
import Derived.Test.YtbjdchpncbgpnaaM4
import Derived.Test.YtbjdchpncbgpnaaM5
import Derived.Test.YtbjdchpncbgpnaaM6
import Derived.Test.YtbjdchpncbgpnaaM7
import Derived.Test.YtbjdchpncbgpnaaM8
import Derived.Test.YtbjdchpncbgpnaaM9
import Derived.Test.YtbjdchpncbgpnaaM10
import Derived.Test.YtbjdchpncbgpnaaChecked
import Derived.Test.YtbjdchpncbgpnaaRows
import Derived.Lib.Mul64
section
/-
  The reference's rows of digits: divisions.
-/
namespace Go.Proofs.Ytbjdchpncbgpnaa
open Go Go.Sx Go.RowKit

theorem vn_one (z : Int) : vn 1 (fun i => (intsL [SK.c (SC.val (Value.int IntKind.u64 z))]).getD i 0) = z.toNat := by
  simp [vn, vz, intsL, intsC, asI]
theorem dgs_one {z : Int} (hz : 0 ≤ z ∧ z < 4294967296) : dgs 1 fun i => intsC (SC.val (Value.int IntKind.u64 (selG [SK.c (SC.val (Value.int IntKind.u64 z))] i))) := ⟨fun i hi => by
  have : i = 0 := by omega
  subst this
  exact hz⟩
def dvdC (n : Nat) (f : Nat → Int) (m : Nat) (h : Nat → Int) : List Prop := [dgs n f, n ≤ 1000, dgs m h, m ≤ 900, vn m h ≠ 0]
def dvdR (n : Nat) (f : Nat → Int) (m : Nat) (h : Nat → Int) : List RS := [.s n .u64 (dg (vn n f / vn m h)), .s (remL (vn n f) (vn m h) n) .u64 (dg (vn n f % vn m h))]
theorem cmpI_le {A R : Nat} : cmpI A R ≤ 0 ↔ A ≤ R := by
  unfold cmpI
  by_cases h : A < R
  · rw [if_pos h]; omega
  · rw [if_neg h]
    by_cases k : R < A
    · rw [if_pos k]; omega
    · rw [if_neg k]; omega
theorem vn_prod {Y z m : Nat} (hY : Y < 4294967296 ^ m) (hz : z < 4294967296) : vn (m + 1) (fun i => dg (Y * z) i) = Y * z := by
  refine vn_dg' ?_
  rw [Nat.pow_succ]
  exact Nat.lt_of_le_of_lt (Nat.mul_le_mul_left Y (show z ≤ 4294967296 by omega)) (Nat.mul_lt_mul_of_pos_right hY (by decide))
theorem ok_divided (a : Option Addr) (n c : Nat) (f : Nat → Int) (b : Option Addr) (m d : Nat) (h : Nat → Int) (hf : dgs n f) (hn : n ≤ 1000) (hh : dgs m h) (hm : m ≤ 900) (h0 : vn m h ≠ 0) :
    OwesR Try.prog cxR slDg [(6, .inv (invD1 a n c f b m d h (D1P (vn n f) (vn m h) n))), (13, .inv (invD2 a n c f b m d h (D2P (vn n f) (vn m h) n))), (15, .cut (cutD a n c f b m d h (DcP (vn n f) (vn m h) n)) (fun y z => z.1 = y.1)), (17, .invR (invD3 a n c f b m d h (D3P (vn n f) (vn m h) n)) (fun y z => z.1 = y.1))] 4 Try.f46 [xsI a n c .u64 f, xsI b m d .u64 h] true (dvdR n f m h) := by
  unfold dvdR
  rw [vc_divided]
  have hfi : ∀ i, i < n → f i = dg (vn n f) i := fun i hi => dg_in hf hi
  have hX := vn_lt hf
  have hXr := dg_range (vn n f)
  have hYm := vn_lt hh
  rw [show (fun i => h i) = h from rfl]
  generalize vn n f = X at *
  generalize vn m h = Y at *
  have hY : 0 < Y := by omega
  have hL := maxLen_eq
  have AA : (a = a ∧ n = n ∧ c = c ∧ ∀ i, i < n → f i = f i) := ⟨rfl, rfl, rfl, fun _ _ => rfl⟩
  have BB : (b = b ∧ m = m ∧ d = d ∧ ∀ i, i < m → h i = h i) := ⟨rfl, rfl, rfl, fun _ _ => rfl⟩
  have NN : ((0 : Int) ≤ (n : Int) ∧ (n : Int) ≤ (n : Int) ∧ 8 * (n : Int) ≤ 281474976710656 ∧ (n : Int) ≤ 9223372036854775807) := by omega
  have En : ((n : Int)).toNat = n := Int.toNat_natCast n
  intro x1 x2 x3
  have E1 : x1 = dg Y 0 := rfl
  have E2 : x2 = 0 := by simp only [x2]; rw [Nat.sub_self, Nat.zero_mul]
  have E3 : x3 = m + 1 := rfl
  clear_value x1 x2 x3
  subst E1 E2 E3
  refine ⟨fun _ => trivial, hh, by omega, fun h1 => ⟨NN, fun y => rfl, (n, fun _ => 0, 0), ⟨D1P.start hX _, Nat.le_refl _⟩, AA, ⟨rfl, rfl, rfl, En, En⟩, rfl, rfl, wrapi (by omega), En, rfl, fun _ _ => rfl, fun ⟨i, q, l⟩ ⟨hP, hi⟩ => ⟨fun h2 => ?_, fun h2 => ?_⟩⟩, fun h1 => ⟨NN, fun y => rfl, (n, fun _ => 0, none, 0, 0, fun _ => 0), ⟨D2P.start hX _, Nat.le_refl _⟩, AA, BB, ⟨rfl, rfl, rfl, En, En⟩, rfl, rfl, rfl, wrapi (by omega), En, rfl, fun _ _ => rfl, fun ⟨i, q, ra, rn, rc, rf⟩ ⟨hP, hi⟩ => ⟨fun h2 => ?_, fun h2 => ?_⟩⟩⟩
  · have hYs : Y < 4294967296 := of_decide_eq_true h1
    have hP : D1P X Y n i q l := hP
    have hi : i ≤ n := hi
    have h2 : (i : Int) - 1 ≥ 0 := of_decide_eq_true h2
    obtain ⟨k, rfl⟩ : ∃ k, i = k + 1 := ⟨i - 1, by omega⟩
    have Ek : (((k + 1 : Nat) : Int) - 1).toNat = k := by omega
    have Ey : dg Y 0 = (Y : Int) := by
      unfold dg
      rw [Nat.pow_zero, Nat.div_one, Nat.mod_eq_of_lt hYs]
    have A : (0 : Int) ≤ ((k + 1 : Nat) : Int) - 1 ∧ ((k + 1 : Nat) : Int) - 1 < (n : Int) := by omega
    have xr := hXr k
    have hl := hP.left
    have hlt : X / 4294967296 ^ (k + 1) % Y < 4294967296 := Nat.lt_trans (Nat.mod_lt _ hY) hYs
    have T : IntKind.u64.wrap (IntKind.u64.wrap (l * 4294967296) + f (((k + 1 : Nat) : Int) - 1).toNat) = l * 4294967296 + dg X k := by
      rw [Ek, hfi k (by omega), wrap64 (x := l * 4294967296) (by omega), wrap64 (by omega)]
    have h64 : 0 ≤ l * 4294967296 + dg X k ∧ l * 4294967296 + dg X k < 18446744073709551616 := by omega
    have Q := hP.step hY rfl (q' := fun j => if j = k then (l * 4294967296 + dg X k) / (Y : Int) else q j) (fun _ _ => rfl)
    have Ed : IntKind.u64.wrap ((l * 4294967296 + dg X k).tdiv (Y : Int)) = (l * 4294967296 + dg X k) / (Y : Int) := by
      rw [Int.tdiv_eq_ediv_of_nonneg h64.1]
      have a1 : 0 ≤ (l * 4294967296 + dg X k) / (Y : Int) := Int.ediv_nonneg h64.1 (by omega)
      have a2 : (l * 4294967296 + dg X k) / (Y : Int) ≤ l * 4294967296 + dg X k := Int.ediv_le_self _ h64.1
      exact wrap64 (by omega)
    have Em : (l * 4294967296 + dg X k).tmod (Y : Int) = (l * 4294967296 + dg X k) % (Y : Int) := Int.tmod_eq_emod_of_nonneg h64.1
    refine ⟨A, by rw [Ey]; omega, by rw [Ey]; omega, A, by omega, (k, _, _), ⟨?_, by show k ≤ n; omega⟩, AA, ⟨rfl, rfl, rfl, rfl, rfl⟩, rfl, rfl, ?_, rfl, rfl, fun _ _ => rfl, by show k < k + 1; omega⟩
    · show D1P X Y n k (fun j => bif decide (j = 0 + (((k + 1 : Nat) : Int) - 1).toNat) then IntKind.u64.wrap ((IntKind.u64.wrap (IntKind.u64.wrap (l * 4294967296) + f (((k + 1 : Nat) : Int) - 1).toNat)).tdiv (dg Y 0)) else q j) ((IntKind.u64.wrap (IntKind.u64.wrap (l * 4294967296) + f (((k + 1 : Nat) : Int) - 1).toNat)).tmod (dg Y 0))
      rw [T, Ey, Ed, Em, Ek, Nat.zero_add]
      have e5 : (fun j => bif decide (j = k) then (l * 4294967296 + dg X k) / (Y : Int) else q j) = fun j => if j = k then (l * 4294967296 + dg X k) / (Y : Int) else q j := by
        funext j
        by_cases e : j = k <;> simp [e]
      rw [e5]
      exact Q
    · show IntKind.i64.wrap (((k + 1 : Nat) : Int) - 1 - 1) = (k : Int) - 1
      rw [wrapi (by omega)]; omega
  · have hYs : Y < 4294967296 := of_decide_eq_true h1
    have hP : D1P X Y n i q l := hP
    have h2 : ¬ (i : Int) - 1 ≥ 0 := of_decide_eq_false h2
    have : i = 0 := by omega
    subst this
    refine ⟨⟨by omega, rfl, Nat.le_refl _, fun j hj => ?_⟩, ?_, Nat.le_refl _, fun j hj => ?_⟩
    · show q (0 + j) = _
      rw [Nat.zero_add]
      exact hP.qs j (Nat.zero_le _) hj
    · unfold remL; rw [if_pos hYs]
    · have hj : j < remL X Y n := hj
      unfold remL at hj
      rw [if_pos hYs] at hj
      have : j = 0 := by omega
      subst this
      show l = _
      rw [hP.left]
      unfold dg
      rw [Nat.pow_zero, Nat.div_one, Nat.div_one, Nat.mod_eq_of_lt (Nat.lt_trans (Nat.mod_lt _ hY) hYs)]
  · have hP : D2P X Y n i q rn rf := hP
    have hi : i ≤ n := hi
    have h2 : (i : Int) - 1 ≥ 0 := of_decide_eq_true h2
    obtain ⟨k, rfl⟩ : ∃ k, i = k + 1 := ⟨i - 1, by omega⟩
    have Ek : (((k + 1 : Nat) : Int) - 1).toNat = k := by omega
    have A : (0 : Int) ≤ ((k + 1 : Nat) : Int) - 1 ∧ ((k + 1 : Nat) : Int) - 1 < (n : Int) := by omega
    have hlm : lenDg (X / 4294967296 ^ (k + 1) % Y) ≤ m := lenDg_le (Nat.lt_trans (Nat.mod_lt _ hY) hYm)
    refine ⟨fun y => rfl, (k + 1, q, 0, 0, fun _ => 0), fun ⟨i1, q1, rn1, sp1, rf1⟩ ⟨hC, hi1⟩ e1 => ⟨fun y => rfl, (k + 1, q1, rn1, sp1, rf1, 0, 4294967296), ⟨⟨?_, hi⟩, rfl⟩, AA, BB, ⟨rfl, rfl, rfl, rfl, rfl⟩, ⟨rfl, rfl, rfl, rfl, rfl⟩, ?_, rfl, rfl, rfl, rfl, fun _ _ => rfl, rfl, rfl, fun _ _ => rfl, fun ⟨i2, q2, rn2, sp2, rf2, lo, hi2⟩ ⟨hQ, hi2n⟩ e2 => ⟨fun h3 => ?_, fun h3 => ?_⟩⟩, ?_⟩
    · have e1 : i1 = k + 1 := e1
      subst e1
      exact DcP.seek hC hY
    · have e1 : i1 = k + 1 := e1
      subst e1
      rfl
    · have e2 : i2 = k + 1 := e2
      subst e2
      have hQ : D3P X Y n (k + 1) q2 rn2 rf2 lo hi2 := hQ
      have ht := hQ.top
      have hlt := hQ.lt
      have hr2 : rn2 ≤ 1000 := by have := hQ.at'.len; omega
      have E4 : IntKind.u64.wrap ((hi2 : Int) - (lo : Int)) = ((hi2 - lo : Nat) : Int) := by rw [wrap64 (by omega)]; omega
      have h3 : IntKind.u64.wrap ((hi2 : Int) - (lo : Int)) > 1 := of_decide_eq_true h3
      rw [E4] at h3
      have EZ : IntKind.u64.wrap ((IntKind.u64.wrap ((lo : Int) + (hi2 : Int))).tdiv 2) = (((lo + hi2) / 2 : Nat) : Int) := by
        rw [wrap64 (x := (lo : Int) + (hi2 : Int)) (by omega), Int.tdiv_eq_ediv_of_nonneg (by omega), wrap64 (by omega)]
        omega
      have hmid : (lo + hi2) / 2 < 4294967296 := by omega
      have E0 : (fun i => rf2 (0 + i)) = rf2 := by funext i; rw [Nat.zero_add]
      refine ⟨Nat.le_refl _, fun a8 => ⟨fun _ => trivial, fun _ => trivial, hh, by omega, dgs_one (by rw [EZ]; omega), by decide, fun a9 cap _ _ => ⟨by show 0 + rn2 ≤ rn2; omega, Nat.le_add_right _ _, fun a12 => ⟨fun _ => trivial, fun _ => trivial, dgs_dg _ _, by omega, ?_, hr2, fun h4 => ?_, fun h4 => ?_⟩⟩⟩⟩
      · show dgs rn2 fun i => rf2 (0 + i)
        rw [E0]
        exact hQ.at'.ds
      all_goals
        have h4' := h4
        simp only [EZ, vn_one, Int.toNat_natCast, vn_prod hYm hmid, E0] at h4'
      · have h4' := cmpI_le.1 (of_decide_eq_true h4')
        refine ⟨(k + 1, q2, rn2, sp2, rf2, (lo + hi2) / 2, hi2), ⟨⟨hQ.low (by omega) h4', hi⟩, rfl⟩, AA, BB, ⟨rfl, rfl, rfl, rfl, rfl⟩, ⟨rfl, rfl, rfl, rfl, rfl⟩, rfl, EZ, rfl, rfl, rfl, fun _ _ => rfl, rfl, rfl, fun _ _ => rfl, ?_⟩
        show hi2 - (lo + hi2) / 2 < hi2 - lo
        omega
      · have h4' := fun e => of_decide_eq_false h4' (cmpI_le.2 e)
        refine ⟨(k + 1, q2, rn2, sp2, rf2, lo, (lo + hi2) / 2), ⟨⟨hQ.high (by omega) h4', hi⟩, rfl⟩, AA, BB, ⟨rfl, rfl, rfl, rfl, rfl⟩, ⟨rfl, rfl, rfl, rfl, rfl⟩, rfl, rfl, EZ, rfl, rfl, fun _ _ => rfl, rfl, rfl, fun _ _ => rfl, ?_⟩
        show (lo + hi2) / 2 - lo < hi2 - lo
        omega
    · have e2 : i2 = k + 1 := e2
      subst e2
      have hQ : D3P X Y n (k + 1) q2 rn2 rf2 lo hi2 := hQ
      have ht := hQ.top
      have hlt := hQ.lt
      have hr2 : rn2 ≤ 1000 := by have := hQ.at'.len; omega
      have E4 : IntKind.u64.wrap ((hi2 : Int) - (lo : Int)) = ((hi2 - lo : Nat) : Int) := by rw [wrap64 (by omega)]; omega
      have h3 : ¬ IntKind.u64.wrap ((hi2 : Int) - (lo : Int)) > 1 := of_decide_eq_false h3
      rw [E4] at h3
      have hlo : lo < 4294967296 := by omega
      have E0 : (fun i => rf2 (0 + i)) = rf2 := by funext i; rw [Nat.zero_add]
      have D0 : dgs rn2 fun i => rf2 (0 + i) := by rw [E0]; exact hQ.at'.ds
      refine ⟨A, by show 0 + (((k + 1 : Nat) : Int) - 1).toNat < n; omega, Nat.le_refl _, fun a8 => ⟨fun _ => trivial, fun _ => trivial, hh, by omega, dgs_one (z := (lo : Int)) (by omega), by decide, fun a9 cap _ _ => ⟨by show 0 + rn2 ≤ rn2; omega, Nat.le_add_right _ _, fun a12 => ⟨fun _ => trivial, fun _ => trivial, D0, hr2, dgs_dg _ _, by omega, ?_, fun a13 cap' _ _ => ⟨(k, _, a13, rn2, cap', _), ⟨?_, by show k ≤ n; omega⟩, AA, BB, ⟨rfl, rfl, rfl, rfl, rfl⟩, ⟨rfl, rfl, rfl, fun _ _ => rfl⟩, ?_, rfl, rfl, fun _ _ => rfl, by show k < k + 1; omega⟩⟩⟩⟩⟩
      · show vn (m + 1) (fun i => dg (Y * vn 1 fun i => (intsL [SK.c (SC.val (Value.int IntKind.u64 (lo : Int)))]).getD i 0) i) ≤ vn rn2 fun i => rf2 (0 + i)
        rw [vn_one, Int.toNat_natCast, vn_prod hYm hlo, E0]
        exact hQ.below
      · refine D3P.found hQ (by omega) hY hi (fun j hj => ?_) fun j hj => ?_
        · show (bif decide (j = 0 + (((k + 1 : Nat) : Int) - 1).toNat) then (lo : Int) else q2 j) = _
          rw [Ek, Nat.zero_add]
          by_cases e : j = k <;> simp [e]
        · show dg ((vn rn2 fun i => rf2 (0 + i)) - vn (m + 1) fun i => dg (Y * vn 1 fun i => (intsL [SK.c (SC.val (Value.int IntKind.u64 (lo : Int)))]).getD i 0) i) j = _
          rw [vn_one, Int.toNat_natCast, vn_prod hYm hlo, E0]
      · show IntKind.i64.wrap (((k + 1 : Nat) : Int) - 1 - 1) = (k : Int) - 1
        rw [wrapi (by omega)]; omega
    · have hrn : rn ≤ 1000 := by
        rw [hP.len]
        split
        · omega
        · have : lenDg (X / 4294967296 ^ (k + 1 + 1) % Y) ≤ m := lenDg_le (Nat.lt_trans (Nat.mod_lt _ hY) hYm)
          omega
      have hle : lenDg (vn rn rf) ≤ m := by rw [hP.left]; exact hlm
      have C1 : (1 : Nat) ≤ 1 ∧ 1 ≤ maxLen ∧ 1 = 1 := ⟨Nat.le_refl _, by omega, rfl⟩
      have C2 : 1 + lenDg (vn rn rf) ≤ maxLen ∧ (1 + lenDg (vn rn rf)) * 8 ≤ 140737488355328 := by omega
      have T : ∀ i : Nat, True := fun _ => trivial
      have fin : ∀ c1 : Nat, 1 + lenDg (vn rn rf) + c1 ≤ maxLen → ∃ y1 : Nat × (Nat → Int) × Nat × Nat × (Nat → Int), ((DcP X Y n y1.1 y1.2.1 y1.2.2.1 y1.2.2.2.2 ∧ y1.1 ≤ n) ∧ y1.1 = k + 1) ∧ (a = a ∧ n = n ∧ c = c ∧ ∀ i, i < n → f i = f i) ∧ (b = b ∧ m = m ∧ d = d ∧ ∀ i, i < m → h i = h i) ∧ (0 = 0 ∧ 1 = 1 ∧ 0 = 0 ∧ n = n ∧ n = n) ∧ (1 = 1 ∧ 1 = 1 ∧ 0 = 0 ∧ 1 + lenDg (vn rn rf) = y1.2.2.1 ∧ 1 + lenDg (vn rn rf) + c1 = y1.2.2.1 + y1.2.2.2.1) ∧ ((k + 1 : Nat) : Int) - 1 = (y1.1 : Int) - 1 ∧ n = n ∧ 0 = 0 ∧ (∀ i, i < n → q i = y1.2.1 i) ∧ 1 + lenDg (vn rn rf) = y1.2.2.1 ∧ c1 * 1 = y1.2.2.2.1 ∧ (∀ i, i < 1 + lenDg (vn rn rf) → (bif decide (i < 1) then f (((k + 1 : Nat) : Int) - 1).toNat else dg (vn rn rf) (i - 1)) = y1.2.2.2.2 i) ∧ True := by
        intro c1 _
        refine ⟨(k + 1, q, 1 + lenDg (vn rn rf), c1, fun i => bif decide (i < 1) then f (((k + 1 : Nat) : Int) - 1).toNat else dg (vn rn rf) (i - 1)), ⟨⟨?_, hi⟩, rfl⟩, AA, BB, ⟨rfl, rfl, rfl, rfl, rfl⟩, ⟨rfl, rfl, rfl, rfl, rfl⟩, rfl, rfl, rfl, fun _ _ => rfl, rfl, Nat.mul_one _, fun _ _ => rfl, trivial⟩
        refine hP.next fun i _ => ?_
        rw [Ek, hfi k (by omega)]
      have F : ((1 : Nat) ≤ 1 ∧ 1 ≤ maxLen ∧ 1 = 1) ∧ (1 + lenDg (vn rn rf) ≤ maxLen ∧ (1 + lenDg (vn rn rf)) * 8 ≤ 140737488355328) ∧ _ := ⟨C1, C2, fin⟩
      have hds := hP.ds
      clear hP
      repeat' (first | exact A | exact T | exact hds | exact hrn | exact F | (intro _ _ _ _) | (refine And.intro ?_ ?_))
  · have hYs : ¬ Y < 4294967296 := of_decide_eq_false h1
    have hP : D2P X Y n i q rn rf := hP
    have h2 : ¬ (i : Int) - 1 ≥ 0 := of_decide_eq_false h2
    have : i = 0 := by omega
    subst this
    refine ⟨⟨by omega, rfl, Nat.le_refl _, fun j hj => ?_⟩, ?_, fun j hj => ?_⟩
    · show q (0 + j) = _
      rw [Nat.zero_add]
      exact hP.qs j (Nat.zero_le _) hj
    · show rn = _
      rw [hP.len]
      unfold remL
      rw [if_neg hYs]
      by_cases e : n = 0
      · rw [if_pos e.symm, if_pos e]
      · rw [if_neg (fun k => e k.symm), if_neg e, Nat.zero_add, Nat.pow_one]
    · show rf j = _
      have hl := hP.left
      rw [Nat.pow_zero, Nat.div_one] at hl
      have hj : j < remL X Y n := hj
      have hrn : rn = remL X Y n := by
        rw [hP.len]
        unfold remL
        rw [if_neg hYs]
        by_cases e : n = 0
        · rw [if_pos e.symm, if_pos e]
        · rw [if_neg (fun k => e k.symm), if_neg e, Nat.zero_add, Nat.pow_one]
      rw [← hl]
      exact dg_in hP.ds (by omega)
end Go.Proofs.Ytbjdchpncbgpnaa
end

section
/-
  More shapes of cards: a number and a word under a condition; a text.
-/
namespace Go.Sx
open Go.RowKit

end Go.Sx
end

section
/-
  More shapes of cards: two numbers under a condition; a number and an int; a number, a word and a number.
-/
namespace Go.Sx
open Go.RowKit

end Go.Sx
end

section
/-
  More shapes of cards: three numbers.
-/
namespace Go.Sx
open Go.RowKit

end Go.Sx
end

section
/-
  Shapes of cards of functions that may call such as read or answer slices.
-/
namespace Go.Sx
open Go.RowKit
section
variable {P : Program} {cx : Cx} {sl : List (Nat × SSpec)} {f : Nat} {fn : Func}
theorem FnOKV_UU (hcx : CxOK P cx) (hsl : ∀ p ∈ sl, FnOKs P cx.gl p.1 p.2) (hf : P.funcs[f]? = some fn) (hb : fn.body.isSome = true) (hn : (fn.name == "runtime.NumGoroutine") = false) {g : Nat → Nat → SV} {iv : Nat → Nat → List (Nat × Hint)} {N : Nat} (hg : ∀ a b, (g a b).bnd none0)
    (h : ∀ a b, OwesV P cx sl (iv a b) N fn [sU a, sU b] (g a b)) : FnOKg P cx.gl f (specUU g) := by
  refine FnOK_owesV hcx hsl hf hb hn fun args ps sv hs hp => ?_
  unfold specUU at hs
  split at hs
  case h_2 => cases hs
  rename_i x y
  split at hs
  case h_2 => cases hs
  rename_i p a q b ha hb'
  simp only [Option.some.injEq, Prod.mk.injEq] at hs
  obtain ⟨rfl, rfl⟩ := hs
  obtain ⟨o1, o2⟩ := Ok.append.1 hp
  refine ⟨iv a b, N, [sU a, sU b], fun ρ => by simp only [List.map_cons, List.map_nil, asU_canon ha o1 ρ, asU_canon hb' o2 ρ], fun fz _ z hz => ?_, hg a b, h a b⟩
  simp only [List.mem_cons, List.not_mem_nil, or_false] at hz
  rcases hz with rfl | rfl
  · exact bnd_Un a
  · exact bnd_Un b
end
end Go.Sx
end

section
/-
  The reference's rows of digits: cards.
-/
namespace Go.Proofs.Ytbjdchpncbgpnaa
open Go Go.Sx Go.RowKit

theorem cx_none : CxOK Try.prog .none := fun p hp => by cases hp
theorem cx_R : CxOK Try.prog cxR := fun p hp => by
  simp only [cxR, markR, List.mem_cons, List.not_mem_nil, or_false] at hp
  subst hp
  exact fun args ps sv hs => by cases hs
theorem sl_nil : ∀ p ∈ ([] : List (Nat × SSpec)), FnOKs Try.prog [] p.1 p.2 := fun p hp => by cases hp
theorem closed_s {n : Nat} {g : Nat → Int} : ∀ x ∈ [RS.s n .u64 g], x.closed := fun x hx => by
  simp only [List.mem_singleton] at hx
  subst hx
  trivial
theorem card_dOf : FnOKs Try.prog [] 41 (specUR ofR) :=
  FnOKs_UR (iv := fun _ => []) cx_none sl_nil Try.func41 (by kernel_rfl) (by kernel_rfl) (fun _ => closed_s) ok_dOf
theorem card_dPlus : FnOKs Try.prog [] 40 (specDD false dg2C plusR) :=
  FnOKs_DD (iv := fun a n c f b m d h => [(4, .inv1 (invPlus a n c f b m d h (PlusP (vn n f) (vn m h))))]) cx_R sl_nil Try.func40 (by kernel_rfl) (by kernel_rfl) (fun _ _ _ _ => closed_s) fun a n c f b m d h ⟨h1, h2, h3, h4, _⟩ => ok_dPlus a n c f b m d h h1 h2 h3 h4
theorem card_dTimes : FnOKs Try.prog [] 52 (specDD false dg2C timesR) :=
  FnOKs_DD (iv := fun a n c f b m d h => [(3, .inv (invTi a n c f b m d h (TimesP (vn n f) (vn m h) n m))), (7, .invR (invTj a n c f b m d h (TimesQ (vn n f) (vn m h) n m)) fun y z => z.1 = y.1)]) cx_R sl_nil Try.func52 (by kernel_rfl) (by kernel_rfl) (fun _ _ _ _ => closed_s) fun a n c f b m d h ⟨h1, h2, h3, h4, _⟩ => ok_dTimes a n c f b m d h h1 h2 h3 h4
theorem card_dCompare : FnOKs Try.prog [] 42 (specDD false dg2C cmpR) :=
  FnOKs_DD (iv := fun a n c f b m d h => [(2, .inv (invCmp a n c f b m d h fun k => vn n f / 4294967296 ^ k = vn m h / 4294967296 ^ k))]) cx_R sl_nil Try.func42 (by kernel_rfl) (by kernel_rfl) (fun _ _ _ _ x hx => by simp only [cmpR, List.mem_singleton] at hx; subst hx; trivial) fun a n c f b m d h ⟨h1, h2, h3, h4, _⟩ => ok_compare a n c f b m d h h1 h2 h3 h4
theorem card_dLess : FnOKs Try.prog [] 44 (specDD false lessC lessR) :=
  FnOKs_DD (iv := fun a n c f b m d h => [(4, .inv (invLess b m d h n (LessP (vn n f) (vn m h) n)))]) cx_R sl_nil Try.func44 (by kernel_rfl) (by kernel_rfl) (fun _ _ _ _ => closed_s) fun a n c f b m d h ⟨h1, h2, h3, h4, h5, _⟩ => ok_dLess a n c f b m d h h1 h2 h3 h4 h5
theorem card_dShorn : FnOKs Try.prog [] 48 (specD true dgsC shornR) :=
  FnOKs_D (iv := fun a n c f => [(1, .inv (invShorn f fun k => k ≤ n ∧ vn n f < 4294967296 ^ k))]) cx_R sl_nil Try.func48 (by kernel_rfl) (by kernel_rfl) (fun _ _ => closed_s) fun a n c f ⟨h1, h2, _⟩ => ok_shorn a n c f h1 h2
theorem sl_shorn : ∀ p ∈ slShorn, FnOKs Try.prog [] p.1 p.2 := fun p hp => by
  simp only [slShorn, List.mem_cons, List.not_mem_nil, or_false] at hp
  subst hp
  exact card_dShorn
theorem card_dSmall : FnOKs Try.prog [] 49 (specD false dgsC smallR) :=
  FnOKs_D (iv := fun _ _ _ _ => []) cx_R sl_shorn Try.func49 (by kernel_rfl) (by kernel_rfl) (fun _ _ x hx => by simp only [smallR, List.mem_cons, List.not_mem_nil, or_false] at hx; rcases hx with rfl | rfl <;> trivial) fun a n c f ⟨h1, h2, _⟩ => ok_small a n c f h1 h2
theorem card_dWide : FnOKs Try.prog [] 39 (specD false dgsC wideR) :=
  FnOKs_D (iv := fun a n c f => [(4, .inv (invWide a n c f (fun y => vn n f % 4294967296 ^ min y 8) (fun y => decide (M256 ≤ vn n f % 4294967296 ^ y))))]) cx_R sl_nil Try.func39 (by kernel_rfl) (by kernel_rfl) (fun _ _ x hx => by
    simp only [wideR, List.mem_cons, List.not_mem_nil, or_false] at hx
    rcases hx with rfl | rfl
    · exact bnd_Un _
    · trivial) fun a n c f ⟨h1, h2, _⟩ => ok_wide a n c f h1 h2
theorem sl_wide : ∀ p ∈ slWide, FnOKs Try.prog [] p.1 p.2 := fun p hp => by
  simp only [slWide, List.mem_cons, List.not_mem_nil, or_false] at hp
  subst hp
  exact card_dWide
theorem card_dCut : FnOKs Try.prog [] 43 (specD false dgsC cutR) :=
  FnOKs_D (iv := fun _ _ _ _ => []) cx_R sl_wide Try.func43 (by kernel_rfl) (by kernel_rfl) (fun _ _ x hx => by simp only [cutR, List.mem_singleton] at hx; subst hx; exact bnd_Un _) fun a n c f ⟨h1, h2, _⟩ => ok_cut a n c f h1 h2
theorem sl_dg : ∀ p ∈ slDg, FnOKs Try.prog [] p.1 p.2 := fun p hp => by
  simp only [slDg, List.mem_cons, List.not_mem_nil, or_false] at hp
  rcases hp with rfl | rfl | rfl | rfl | rfl | rfl | rfl | rfl | rfl
  · exact card_dOf
  · exact card_dPlus
  · exact card_dTimes
  · exact card_dCompare
  · exact card_dLess
  · exact card_dShorn
  · exact card_dSmall
  · exact card_dWide
  · exact card_dCut
theorem card_dDivided : FnOKs Try.prog [] 46 (specDD true dvdC dvdR) :=
  FnOKs_DD (iv := fun a n c f b m d h => [(6, .inv (invD1 a n c f b m d h (D1P (vn n f) (vn m h) n))), (13, .inv (invD2 a n c f b m d h (D2P (vn n f) (vn m h) n))), (15, .cut (cutD a n c f b m d h (DcP (vn n f) (vn m h) n)) (fun y z => z.1 = y.1)), (17, .invR (invD3 a n c f b m d h (D3P (vn n f) (vn m h) n)) (fun y z => z.1 = y.1))]) cx_R sl_dg Try.func46 (by kernel_rfl) (by kernel_rfl) (fun _ _ _ _ x hx => by simp only [dvdR, List.mem_cons, List.not_mem_nil, or_false] at hx; rcases hx with rfl | rfl <;> trivial) fun a n c f b m d h ⟨h1, h2, h3, h4, h5, _⟩ => ok_divided a n c f b m d h h1 h2 h3 h4 h5
/-- All of them. -/
def slAll : List (Nat × SSpec) := (46, specDD true dvdC dvdR) :: slDg
theorem sl_all : ∀ p ∈ slAll, FnOKs Try.prog [] p.1 p.2 := fun p hp => by
  rcases List.mem_cons.1 hp with rfl | hp
  · exact card_dDivided
  · exact sl_dg p hp
end Go.Proofs.Ytbjdchpncbgpnaa
end

section
/-
  The reference's wide numbers, and those by a modulus: reckoned by the kernel. (Laid by program.)
-/
namespace Go.Proofs.Ytbjdchpncbgpnaa
open Go Go.Sx Go.RowKit
set_option maxRecDepth 100000
-- VC vc_refSum HASH 5bf06999257b9f00
theorem vc_refSum (a b : Nat) :
    OwesV Try.prog .none slAll [] 4 Try.f15 [sU a, sU b] (addG a b) =
    (let x1 : Nat := a % Go.Sx.M256; let x2 : Nat := b % Go.Sx.M256; let x3 : Nat := Go.Sx.vn (9 : Nat) fun (i : Nat) => Go.Sx.dg ((Go.Sx.vn (8 : Nat) fun (i : Nat) => Go.Sx.dg x1 i) + Go.Sx.vn (8 : Nat) fun (i : Nat) => Go.Sx.dg x2 i) i; let x4 : Nat := x1 + x2; ((∀ (a_1 : Option Go.Addr) (cap : Nat), (a_1 = Option.none → (8 : Nat) = (0 : Nat) ∧ cap = (0 : Nat)) → (8 : Nat) ≤ cap → ∀ (a_4 : Option Go.Addr) (cap : Nat), (a_4 = Option.none → (8 : Nat) = (0 : Nat) ∧ cap = (0 : Nat)) → (8 : Nat) ≤ cap → (∀ (i : Nat), True) ∧ (∀ (i : Nat), True) ∧ (Go.Sx.dgs (8 : Nat) fun (i : Nat) => Go.Sx.intsC (Go.Sx.SC.val (Go.Value.int Go.IntKind.u64 (Go.Sx.dg x1 i)))) ∧ (8 : Nat) ≤ (1000 : Nat) ∧ (Go.Sx.dgs (8 : Nat) fun (i : Nat) => Go.Sx.intsC (Go.Sx.SC.val (Go.Value.int Go.IntKind.u64 (Go.Sx.dg x2 i)))) ∧ (8 : Nat) ≤ (1000 : Nat) ∧ ∀ (a_7 : Option Go.Addr) (cap : Nat), (a_7 = Option.none → (9 : Nat) = (0 : Nat) ∧ cap = (0 : Nat)) → (9 : Nat) ≤ cap → (∀ (i : Nat), True) ∧ (Go.Sx.dgs (9 : Nat) fun (i : Nat) => Go.Sx.intsC (Go.Sx.SC.val (Go.Value.int Go.IntKind.u64 (Go.Sx.dg ((Go.Sx.vn (8 : Nat) fun (i : Nat) => Go.Sx.intsC (Go.Sx.SC.val (Go.Value.int Go.IntKind.u64 (Go.Sx.dg x1 i)))) + Go.Sx.vn (8 : Nat) fun (i : Nat) => Go.Sx.intsC (Go.Sx.SC.val (Go.Value.int Go.IntKind.u64 (Go.Sx.dg x2 i)))) i)))) ∧ (9 : Nat) ≤ (1000 : Nat) ∧ ((x3 % Go.Sx.M256 % Go.Sx.M256 = (a + b) % Go.Sx.M256 ∧ True) ∧ Decidable.decide (Go.Sx.M256 ≤ x3) = Decidable.decide (Go.Sx.M256 ≤ x4)) ∧ (x3 % Go.Sx.M256 % Go.Sx.M256 = (a + b) % Go.Sx.M256 ∧ True) ∧ Decidable.decide (Go.Sx.M256 ≤ x3) = Decidable.decide (Go.Sx.M256 ≤ x4)) ∧ ∀ (a_1 : Option Go.Addr) (cap : Nat), (a_1 = Option.none → (8 : Nat) = (0 : Nat) ∧ cap = (0 : Nat)) → (8 : Nat) ≤ cap → ∀ (a_4 : Option Go.Addr) (cap : Nat), (a_4 = Option.none → (8 : Nat) = (0 : Nat) ∧ cap = (0 : Nat)) → (8 : Nat) ≤ cap → (∀ (i : Nat), True) ∧ (∀ (i : Nat), True) ∧ (Go.Sx.dgs (8 : Nat) fun (i : Nat) => Go.Sx.intsC (Go.Sx.SC.val (Go.Value.int Go.IntKind.u64 (Go.Sx.dg x1 i)))) ∧ (8 : Nat) ≤ (1000 : Nat) ∧ (Go.Sx.dgs (8 : Nat) fun (i : Nat) => Go.Sx.intsC (Go.Sx.SC.val (Go.Value.int Go.IntKind.u64 (Go.Sx.dg x2 i)))) ∧ (8 : Nat) ≤ (1000 : Nat) ∧ ∀ (a_7 : Option Go.Addr) (cap : Nat), (a_7 = Option.none → (9 : Nat) = (0 : Nat) ∧ cap = (0 : Nat)) → (9 : Nat) ≤ cap → (∀ (i : Nat), True) ∧ (Go.Sx.dgs (9 : Nat) fun (i : Nat) => Go.Sx.intsC (Go.Sx.SC.val (Go.Value.int Go.IntKind.u64 (Go.Sx.dg ((Go.Sx.vn (8 : Nat) fun (i : Nat) => Go.Sx.intsC (Go.Sx.SC.val (Go.Value.int Go.IntKind.u64 (Go.Sx.dg x1 i)))) + Go.Sx.vn (8 : Nat) fun (i : Nat) => Go.Sx.intsC (Go.Sx.SC.val (Go.Value.int Go.IntKind.u64 (Go.Sx.dg x2 i)))) i)))) ∧ (9 : Nat) ≤ (1000 : Nat) ∧ ((x3 % Go.Sx.M256 % Go.Sx.M256 = (a + b) % Go.Sx.M256 ∧ True) ∧ Decidable.decide (Go.Sx.M256 ≤ x3) = Decidable.decide (Go.Sx.M256 ≤ x4)) ∧ (x3 % Go.Sx.M256 % Go.Sx.M256 = (a + b) % Go.Sx.M256 ∧ True) ∧ Decidable.decide (Go.Sx.M256 ≤ x3) = Decidable.decide (Go.Sx.M256 ≤ x4)) ∧ ∀ (a_1 : Option Go.Addr) (cap : Nat), (a_1 = Option.none → (8 : Nat) = (0 : Nat) ∧ cap = (0 : Nat)) → (8 : Nat) ≤ cap → ∀ (a_4 : Option Go.Addr) (cap : Nat), (a_4 = Option.none → (8 : Nat) = (0 : Nat) ∧ cap = (0 : Nat)) → (8 : Nat) ≤ cap → (∀ (i : Nat), True) ∧ (∀ (i : Nat), True) ∧ (Go.Sx.dgs (8 : Nat) fun (i : Nat) => Go.Sx.intsC (Go.Sx.SC.val (Go.Value.int Go.IntKind.u64 (Go.Sx.dg x1 i)))) ∧ (8 : Nat) ≤ (1000 : Nat) ∧ (Go.Sx.dgs (8 : Nat) fun (i : Nat) => Go.Sx.intsC (Go.Sx.SC.val (Go.Value.int Go.IntKind.u64 (Go.Sx.dg x2 i)))) ∧ (8 : Nat) ≤ (1000 : Nat) ∧ ∀ (a_7 : Option Go.Addr) (cap : Nat), (a_7 = Option.none → (9 : Nat) = (0 : Nat) ∧ cap = (0 : Nat)) → (9 : Nat) ≤ cap → (∀ (i : Nat), True) ∧ (Go.Sx.dgs (9 : Nat) fun (i : Nat) => Go.Sx.intsC (Go.Sx.SC.val (Go.Value.int Go.IntKind.u64 (Go.Sx.dg ((Go.Sx.vn (8 : Nat) fun (i : Nat) => Go.Sx.intsC (Go.Sx.SC.val (Go.Value.int Go.IntKind.u64 (Go.Sx.dg x1 i)))) + Go.Sx.vn (8 : Nat) fun (i : Nat) => Go.Sx.intsC (Go.Sx.SC.val (Go.Value.int Go.IntKind.u64 (Go.Sx.dg x2 i)))) i)))) ∧ (9 : Nat) ≤ (1000 : Nat) ∧ ((x3 % Go.Sx.M256 % Go.Sx.M256 = (a + b) % Go.Sx.M256 ∧ True) ∧ Decidable.decide (Go.Sx.M256 ≤ x3) = Decidable.decide (Go.Sx.M256 ≤ x4)) ∧ (x3 % Go.Sx.M256 % Go.Sx.M256 = (a + b) % Go.Sx.M256 ∧ True) ∧ Decidable.decide (Go.Sx.M256 ≤ x3) = Decidable.decide (Go.Sx.M256 ≤ x4)) := by kernel_rfl
-- END VC
-- VC vc_refDiff HASH ad06994ab860d237
theorem vc_refDiff (a b : Nat) :
    OwesV Try.prog .none slAll [] 4 Try.f16 [sU a, sU b] (subG a b) =
    (let x1 : Nat := a % Go.Sx.M256; let x2 : Nat := b % Go.Sx.M256; let x3 : Nat := Go.Sx.vn (8 : Nat) fun (i : Nat) => Go.Sx.dg x1 i; let x4 : Nat := Go.Sx.vn (8 : Nat) fun (i : Nat) => Go.Sx.dg x2 i; let x5 : Int := Go.Sx.cmpI x3 x4; let x6 : Nat := Go.Sx.vn (8 : Nat) fun (i : Nat) => Go.Sx.intsC (Go.Sx.SC.val (Go.Value.int Go.IntKind.u64 (Go.Sx.dg x1 i))); let x7 : Nat := Go.Sx.vn (8 : Nat) fun (i : Nat) => Go.Sx.intsC (Go.Sx.SC.val (Go.Value.int Go.IntKind.u64 (Go.Sx.dg x2 i))); let x8 : Nat := (x1 + Go.Sx.M256 - x2) % Go.Sx.M256; let x9 : Bool := Decidable.decide (x1 < x2); let x10 : Nat := Go.Sx.vn (10 : Nat) fun (i : Nat) => Go.Sx.dg (x3 + (115792089237316195423570985008687907853269984665640564039457584007913129639936 : Nat)) i; ((∀ (a : Option Go.Addr) (cap : Nat), (a = Option.none → (8 : Nat) = (0 : Nat) ∧ cap = (0 : Nat)) → (8 : Nat) ≤ cap → ∀ (a : Option Go.Addr) (cap : Nat), (a = Option.none → (8 : Nat) = (0 : Nat) ∧ cap = (0 : Nat)) → (8 : Nat) ≤ cap → (∀ (i : Nat), True) ∧ (∀ (i : Nat), True) ∧ (Go.Sx.dgs (8 : Nat) fun (i : Nat) => Go.Sx.intsC (Go.Sx.SC.val (Go.Value.int Go.IntKind.u64 (Go.Sx.dg x1 i)))) ∧ (8 : Nat) ≤ (1000 : Nat) ∧ (Go.Sx.dgs (8 : Nat) fun (i : Nat) => Go.Sx.intsC (Go.Sx.SC.val (Go.Value.int Go.IntKind.u64 (Go.Sx.dg x2 i)))) ∧ (8 : Nat) ≤ (1000 : Nat) ∧ (Decidable.decide (x5 ≥ (0 : Int)) = Bool.true → (∀ (i : Nat), True) ∧ (∀ (i : Nat), True) ∧ (Go.Sx.dgs (8 : Nat) fun (i : Nat) => Go.Sx.intsC (Go.Sx.SC.val (Go.Value.int Go.IntKind.u64 (Go.Sx.dg x1 i)))) ∧ (8 : Nat) ≤ (1000 : Nat) ∧ (Go.Sx.dgs (8 : Nat) fun (i : Nat) => Go.Sx.intsC (Go.Sx.SC.val (Go.Value.int Go.IntKind.u64 (Go.Sx.dg x2 i)))) ∧ (8 : Nat) ≤ (1000 : Nat) ∧ x4 ≤ x3 ∧ ∀ (a : Option Go.Addr) (cap : Nat), (a = Option.none → (8 : Nat) = (0 : Nat) ∧ cap = (0 : Nat)) → (8 : Nat) ≤ cap → (∀ (i : Nat), True) ∧ (Go.Sx.dgs (8 : Nat) fun (i : Nat) => Go.Sx.intsC (Go.Sx.SC.val (Go.Value.int Go.IntKind.u64 (Go.Sx.dg (x6 - x7) i)))) ∧ (8 : Nat) ≤ (1000 : Nat) ∧ ((Go.Sx.vn (8 : Nat) fun (i : Nat) => Go.Sx.dg (x3 - x4) i) % Go.Sx.M256 % Go.Sx.M256 = x8 ∧ True) ∧ Bool.false = x9) ∧ (Decidable.decide (x5 ≥ (0 : Int)) = Bool.false → (9 : Nat) ≤ (9 : Nat) ∧ ∀ (a : Go.Addr), (∀ (i : Nat), True) ∧ (∀ (i : Nat), True) ∧ (Go.Sx.dgs (8 : Nat) fun (i : Nat) => Go.Sx.intsC (Go.Sx.SC.val (Go.Value.int Go.IntKind.u64 (Go.Sx.dg x1 i)))) ∧ (8 : Nat) ≤ (1000 : Nat) ∧ (Go.Sx.dgs (9 : Nat) fun (i : Nat) => Go.Sx.intsC (Go.Sx.SC.val (Go.Value.int (Go.IntKind.u64, (0 : Int)).fst (Go.Sx.selG [Go.Sx.SK.c (Go.Sx.SC.num Go.IntKind.u64 (0 : Int)), Go.Sx.SK.c (Go.Sx.SC.num Go.IntKind.u64 (0 : Int)), Go.Sx.SK.c (Go.Sx.SC.num Go.IntKind.u64 (0 : Int)), Go.Sx.SK.c (Go.Sx.SC.num Go.IntKind.u64 (0 : Int)), Go.Sx.SK.c (Go.Sx.SC.num Go.IntKind.u64 (0 : Int)), Go.Sx.SK.c (Go.Sx.SC.num Go.IntKind.u64 (0 : Int)), Go.Sx.SK.c (Go.Sx.SC.num Go.IntKind.u64 (0 : Int)), Go.Sx.SK.c (Go.Sx.SC.num Go.IntKind.u64 (0 : Int)), Go.Sx.SK.c (Go.Sx.SC.num Go.IntKind.u64 (1 : Int))] i)))) ∧ (9 : Nat) ≤ (1000 : Nat) ∧ ∀ (a : Option Go.Addr) (cap : Nat), (a = Option.none → (10 : Nat) = (0 : Nat) ∧ cap = (0 : Nat)) → (10 : Nat) ≤ cap → (∀ (i : Nat), True) ∧ (∀ (i : Nat), True) ∧ (Go.Sx.dgs (10 : Nat) fun (i : Nat) => Go.Sx.intsC (Go.Sx.SC.val (Go.Value.int Go.IntKind.u64 (Go.Sx.dg (x6 + (115792089237316195423570985008687907853269984665640564039457584007913129639936 : Nat)) i)))) ∧ (10 : Nat) ≤ (1000 : Nat) ∧ (Go.Sx.dgs (8 : Nat) fun (i : Nat) => Go.Sx.intsC (Go.Sx.SC.val (Go.Value.int Go.IntKind.u64 (Go.Sx.dg x2 i)))) ∧ (8 : Nat) ≤ (1000 : Nat) ∧ x4 ≤ x10 ∧ ∀ (a : Option Go.Addr) (cap : Nat), (a = Option.none → (10 : Nat) = (0 : Nat) ∧ cap = (0 : Nat)) → (10 : Nat) ≤ cap → (∀ (i : Nat), True) ∧ (Go.Sx.dgs (10 : Nat) fun (i : Nat) => Go.Sx.intsC (Go.Sx.SC.val (Go.Value.int Go.IntKind.u64 (Go.Sx.dg ((Go.Sx.vn (10 : Nat) fun (i : Nat) => Go.Sx.intsC (Go.Sx.SC.val (Go.Value.int Go.IntKind.u64 (Go.Sx.dg (x6 + (115792089237316195423570985008687907853269984665640564039457584007913129639936 : Nat)) i)))) - x7) i)))) ∧ (10 : Nat) ≤ (1000 : Nat) ∧ ((Go.Sx.vn (10 : Nat) fun (i : Nat) => Go.Sx.dg (x10 - x4) i) % Go.Sx.M256 % Go.Sx.M256 = x8 ∧ True) ∧ Bool.true = x9)) ∧ ∀ (a : Option Go.Addr) (cap : Nat), (a = Option.none → (8 : Nat) = (0 : Nat) ∧ cap = (0 : Nat)) → (8 : Nat) ≤ cap → ∀ (a : Option Go.Addr) (cap : Nat), (a = Option.none → (8 : Nat) = (0 : Nat) ∧ cap = (0 : Nat)) → (8 : Nat) ≤ cap → (∀ (i : Nat), True) ∧ (∀ (i : Nat), True) ∧ (Go.Sx.dgs (8 : Nat) fun (i : Nat) => Go.Sx.intsC (Go.Sx.SC.val (Go.Value.int Go.IntKind.u64 (Go.Sx.dg x1 i)))) ∧ (8 : Nat) ≤ (1000 : Nat) ∧ (Go.Sx.dgs (8 : Nat) fun (i : Nat) => Go.Sx.intsC (Go.Sx.SC.val (Go.Value.int Go.IntKind.u64 (Go.Sx.dg x2 i)))) ∧ (8 : Nat) ≤ (1000 : Nat) ∧ (Decidable.decide (x5 ≥ (0 : Int)) = Bool.true → (∀ (i : Nat), True) ∧ (∀ (i : Nat), True) ∧ (Go.Sx.dgs (8 : Nat) fun (i : Nat) => Go.Sx.intsC (Go.Sx.SC.val (Go.Value.int Go.IntKind.u64 (Go.Sx.dg x1 i)))) ∧ (8 : Nat) ≤ (1000 : Nat) ∧ (Go.Sx.dgs (8 : Nat) fun (i : Nat) => Go.Sx.intsC (Go.Sx.SC.val (Go.Value.int Go.IntKind.u64 (Go.Sx.dg x2 i)))) ∧ (8 : Nat) ≤ (1000 : Nat) ∧ x4 ≤ x3 ∧ ∀ (a : Option Go.Addr) (cap : Nat), (a = Option.none → (8 : Nat) = (0 : Nat) ∧ cap = (0 : Nat)) → (8 : Nat) ≤ cap → (∀ (i : Nat), True) ∧ (Go.Sx.dgs (8 : Nat) fun (i : Nat) => Go.Sx.intsC (Go.Sx.SC.val (Go.Value.int Go.IntKind.u64 (Go.Sx.dg (x6 - x7) i)))) ∧ (8 : Nat) ≤ (1000 : Nat) ∧ ((Go.Sx.vn (8 : Nat) fun (i : Nat) => Go.Sx.dg (x3 - x4) i) % Go.Sx.M256 % Go.Sx.M256 = x8 ∧ True) ∧ Bool.false = x9) ∧ (Decidable.decide (x5 ≥ (0 : Int)) = Bool.false → (9 : Nat) ≤ (9 : Nat) ∧ ∀ (a : Go.Addr), (∀ (i : Nat), True) ∧ (∀ (i : Nat), True) ∧ (Go.Sx.dgs (8 : Nat) fun (i : Nat) => Go.Sx.intsC (Go.Sx.SC.val (Go.Value.int Go.IntKind.u64 (Go.Sx.dg x1 i)))) ∧ (8 : Nat) ≤ (1000 : Nat) ∧ (Go.Sx.dgs (9 : Nat) fun (i : Nat) => Go.Sx.intsC (Go.Sx.SC.val (Go.Value.int (Go.IntKind.u64, (0 : Int)).fst (Go.Sx.selG [Go.Sx.SK.c (Go.Sx.SC.num Go.IntKind.u64 (0 : Int)), Go.Sx.SK.c (Go.Sx.SC.num Go.IntKind.u64 (0 : Int)), Go.Sx.SK.c (Go.Sx.SC.num Go.IntKind.u64 (0 : Int)), Go.Sx.SK.c (Go.Sx.SC.num Go.IntKind.u64 (0 : Int)), Go.Sx.SK.c (Go.Sx.SC.num Go.IntKind.u64 (0 : Int)), Go.Sx.SK.c (Go.Sx.SC.num Go.IntKind.u64 (0 : Int)), Go.Sx.SK.c (Go.Sx.SC.num Go.IntKind.u64 (0 : Int)), Go.Sx.SK.c (Go.Sx.SC.num Go.IntKind.u64 (0 : Int)), Go.Sx.SK.c (Go.Sx.SC.num Go.IntKind.u64 (1 : Int))] i)))) ∧ (9 : Nat) ≤ (1000 : Nat) ∧ ∀ (a : Option Go.Addr) (cap : Nat), (a = Option.none → (10 : Nat) = (0 : Nat) ∧ cap = (0 : Nat)) → (10 : Nat) ≤ cap → (∀ (i : Nat), True) ∧ (∀ (i : Nat), True) ∧ (Go.Sx.dgs (10 : Nat) fun (i : Nat) => Go.Sx.intsC (Go.Sx.SC.val (Go.Value.int Go.IntKind.u64 (Go.Sx.dg (x6 + (115792089237316195423570985008687907853269984665640564039457584007913129639936 : Nat)) i)))) ∧ (10 : Nat) ≤ (1000 : Nat) ∧ (Go.Sx.dgs (8 : Nat) fun (i : Nat) => Go.Sx.intsC (Go.Sx.SC.val (Go.Value.int Go.IntKind.u64 (Go.Sx.dg x2 i)))) ∧ (8 : Nat) ≤ (1000 : Nat) ∧ x4 ≤ x10 ∧ ∀ (a : Option Go.Addr) (cap : Nat), (a = Option.none → (10 : Nat) = (0 : Nat) ∧ cap = (0 : Nat)) → (10 : Nat) ≤ cap → (∀ (i : Nat), True) ∧ (Go.Sx.dgs (10 : Nat) fun (i : Nat) => Go.Sx.intsC (Go.Sx.SC.val (Go.Value.int Go.IntKind.u64 (Go.Sx.dg ((Go.Sx.vn (10 : Nat) fun (i : Nat) => Go.Sx.intsC (Go.Sx.SC.val (Go.Value.int Go.IntKind.u64 (Go.Sx.dg (x6 + (115792089237316195423570985008687907853269984665640564039457584007913129639936 : Nat)) i)))) - x7) i)))) ∧ (10 : Nat) ≤ (1000 : Nat) ∧ ((Go.Sx.vn (10 : Nat) fun (i : Nat) => Go.Sx.dg (x10 - x4) i) % Go.Sx.M256 % Go.Sx.M256 = x8 ∧ True) ∧ Bool.true = x9)) ∧ ∀ (a : Option Go.Addr) (cap : Nat), (a = Option.none → (8 : Nat) = (0 : Nat) ∧ cap = (0 : Nat)) → (8 : Nat) ≤ cap → ∀ (a : Option Go.Addr) (cap : Nat), (a = Option.none → (8 : Nat) = (0 : Nat) ∧ cap = (0 : Nat)) → (8 : Nat) ≤ cap → (∀ (i : Nat), True) ∧ (∀ (i : Nat), True) ∧ (Go.Sx.dgs (8 : Nat) fun (i : Nat) => Go.Sx.intsC (Go.Sx.SC.val (Go.Value.int Go.IntKind.u64 (Go.Sx.dg x1 i)))) ∧ (8 : Nat) ≤ (1000 : Nat) ∧ (Go.Sx.dgs (8 : Nat) fun (i : Nat) => Go.Sx.intsC (Go.Sx.SC.val (Go.Value.int Go.IntKind.u64 (Go.Sx.dg x2 i)))) ∧ (8 : Nat) ≤ (1000 : Nat) ∧ (Decidable.decide (x5 ≥ (0 : Int)) = Bool.true → (∀ (i : Nat), True) ∧ (∀ (i : Nat), True) ∧ (Go.Sx.dgs (8 : Nat) fun (i : Nat) => Go.Sx.intsC (Go.Sx.SC.val (Go.Value.int Go.IntKind.u64 (Go.Sx.dg x1 i)))) ∧ (8 : Nat) ≤ (1000 : Nat) ∧ (Go.Sx.dgs (8 : Nat) fun (i : Nat) => Go.Sx.intsC (Go.Sx.SC.val (Go.Value.int Go.IntKind.u64 (Go.Sx.dg x2 i)))) ∧ (8 : Nat) ≤ (1000 : Nat) ∧ x4 ≤ x3 ∧ ∀ (a : Option Go.Addr) (cap : Nat), (a = Option.none → (8 : Nat) = (0 : Nat) ∧ cap = (0 : Nat)) → (8 : Nat) ≤ cap → (∀ (i : Nat), True) ∧ (Go.Sx.dgs (8 : Nat) fun (i : Nat) => Go.Sx.intsC (Go.Sx.SC.val (Go.Value.int Go.IntKind.u64 (Go.Sx.dg (x6 - x7) i)))) ∧ (8 : Nat) ≤ (1000 : Nat) ∧ ((Go.Sx.vn (8 : Nat) fun (i : Nat) => Go.Sx.dg (x3 - x4) i) % Go.Sx.M256 % Go.Sx.M256 = x8 ∧ True) ∧ Bool.false = x9) ∧ (Decidable.decide (x5 ≥ (0 : Int)) = Bool.false → (9 : Nat) ≤ (9 : Nat) ∧ ∀ (a : Go.Addr), (∀ (i : Nat), True) ∧ (∀ (i : Nat), True) ∧ (Go.Sx.dgs (8 : Nat) fun (i : Nat) => Go.Sx.intsC (Go.Sx.SC.val (Go.Value.int Go.IntKind.u64 (Go.Sx.dg x1 i)))) ∧ (8 : Nat) ≤ (1000 : Nat) ∧ (Go.Sx.dgs (9 : Nat) fun (i : Nat) => Go.Sx.intsC (Go.Sx.SC.val (Go.Value.int (Go.IntKind.u64, (0 : Int)).fst (Go.Sx.selG [Go.Sx.SK.c (Go.Sx.SC.num Go.IntKind.u64 (0 : Int)), Go.Sx.SK.c (Go.Sx.SC.num Go.IntKind.u64 (0 : Int)), Go.Sx.SK.c (Go.Sx.SC.num Go.IntKind.u64 (0 : Int)), Go.Sx.SK.c (Go.Sx.SC.num Go.IntKind.u64 (0 : Int)), Go.Sx.SK.c (Go.Sx.SC.num Go.IntKind.u64 (0 : Int)), Go.Sx.SK.c (Go.Sx.SC.num Go.IntKind.u64 (0 : Int)), Go.Sx.SK.c (Go.Sx.SC.num Go.IntKind.u64 (0 : Int)), Go.Sx.SK.c (Go.Sx.SC.num Go.IntKind.u64 (0 : Int)), Go.Sx.SK.c (Go.Sx.SC.num Go.IntKind.u64 (1 : Int))] i)))) ∧ (9 : Nat) ≤ (1000 : Nat) ∧ ∀ (a : Option Go.Addr) (cap : Nat), (a = Option.none → (10 : Nat) = (0 : Nat) ∧ cap = (0 : Nat)) → (10 : Nat) ≤ cap → (∀ (i : Nat), True) ∧ (∀ (i : Nat), True) ∧ (Go.Sx.dgs (10 : Nat) fun (i : Nat) => Go.Sx.intsC (Go.Sx.SC.val (Go.Value.int Go.IntKind.u64 (Go.Sx.dg (x6 + (115792089237316195423570985008687907853269984665640564039457584007913129639936 : Nat)) i)))) ∧ (10 : Nat) ≤ (1000 : Nat) ∧ (Go.Sx.dgs (8 : Nat) fun (i : Nat) => Go.Sx.intsC (Go.Sx.SC.val (Go.Value.int Go.IntKind.u64 (Go.Sx.dg x2 i)))) ∧ (8 : Nat) ≤ (1000 : Nat) ∧ x4 ≤ x10 ∧ ∀ (a : Option Go.Addr) (cap : Nat), (a = Option.none → (10 : Nat) = (0 : Nat) ∧ cap = (0 : Nat)) → (10 : Nat) ≤ cap → (∀ (i : Nat), True) ∧ (Go.Sx.dgs (10 : Nat) fun (i : Nat) => Go.Sx.intsC (Go.Sx.SC.val (Go.Value.int Go.IntKind.u64 (Go.Sx.dg ((Go.Sx.vn (10 : Nat) fun (i : Nat) => Go.Sx.intsC (Go.Sx.SC.val (Go.Value.int Go.IntKind.u64 (Go.Sx.dg (x6 + (115792089237316195423570985008687907853269984665640564039457584007913129639936 : Nat)) i)))) - x7) i)))) ∧ (10 : Nat) ≤ (1000 : Nat) ∧ ((Go.Sx.vn (10 : Nat) fun (i : Nat) => Go.Sx.dg (x10 - x4) i) % Go.Sx.M256 % Go.Sx.M256 = x8 ∧ True) ∧ Bool.true = x9)) := by kernel_rfl
-- END VC
end Go.Proofs.Ytbjdchpncbgpnaa
end

section
/-
  The reference's wide numbers, and those by a modulus.
-/
namespace Go.Proofs.Ytbjdchpncbgpnaa
open Go Go.Sx Go.RowKit

theorem M256_lit : M256 = 115792089237316195423570985008687907853269984665640564039457584007913129639936 := rfl
theorem vn8 {X : Nat} (h : X < M256) : vn 8 (fun i => dg X i) = X := vn_dg' (n := 8) h
theorem vnk {k X : Nat} (h : X < 4294967296 ^ k) : vn k (fun i => dg X i) = X := vn_dg' h
theorem modM (a : Nat) : a % M256 < M256 := Nat.mod_lt _ (by decide)
theorem M9 : (4294967296 : Nat) ^ 9 = M256 * 4294967296 := rfl
theorem M10 : (4294967296 : Nat) ^ 10 = M256 * 18446744073709551616 := rfl
theorem ok_refSum (a b : Nat) : OwesV Try.prog .none slAll [] 4 Try.f15 [sU a, sU b] (addG a b) := by
  rw [vc_refSum]
  intro x1 x2 x3 x4
  have h1 : x1 < M256 := modM a
  have h2 : x2 < M256 := modM b
  have E3 : x3 = x1 + x2 := by
    show vn 9 (fun i => dg (vn 8 (fun i => dg x1 i) + vn 8 (fun i => dg x2 i)) i) = _
    rw [vn8 h1, vn8 h2, vnk (by rw [M9]; omega)]
  have T : ∀ i : Nat, True := fun _ => trivial
  have key : (x3 % M256 % M256 = (a + b) % M256 ∧ True) ∧ decide (M256 ≤ x3) = decide (M256 ≤ x4) := by
    rw [E3, Nat.mod_mod]
    exact ⟨⟨(Nat.add_mod a b M256).symm, trivial⟩, rfl⟩
  clear E3
  clear_value x1 x2 x3 x4
  repeat' (first | exact T | exact key | exact dgs_dg _ _ | exact (show (8 : Nat) ≤ 1000 by decide) | exact (show (9 : Nat) ≤ 1000 by decide) | (intro _ _ _ _) | (refine And.intro ?_ ?_))
theorem dgs_top : dgs 9 fun i => selG [SK.c (SC.num IntKind.u64 0), SK.c (SC.num IntKind.u64 0), SK.c (SC.num IntKind.u64 0), SK.c (SC.num IntKind.u64 0), SK.c (SC.num IntKind.u64 0), SK.c (SC.num IntKind.u64 0), SK.c (SC.num IntKind.u64 0), SK.c (SC.num IntKind.u64 0), SK.c (SC.num IntKind.u64 1)] i := ⟨fun i hi => by
  have : ∀ j : Fin 9, 0 ≤ selG [SK.c (SC.num IntKind.u64 0), SK.c (SC.num IntKind.u64 0), SK.c (SC.num IntKind.u64 0), SK.c (SC.num IntKind.u64 0), SK.c (SC.num IntKind.u64 0), SK.c (SC.num IntKind.u64 0), SK.c (SC.num IntKind.u64 0), SK.c (SC.num IntKind.u64 0), SK.c (SC.num IntKind.u64 1)] j.val ∧ selG [SK.c (SC.num IntKind.u64 0), SK.c (SC.num IntKind.u64 0), SK.c (SC.num IntKind.u64 0), SK.c (SC.num IntKind.u64 0), SK.c (SC.num IntKind.u64 0), SK.c (SC.num IntKind.u64 0), SK.c (SC.num IntKind.u64 0), SK.c (SC.num IntKind.u64 0), SK.c (SC.num IntKind.u64 1)] j.val < 4294967296 := by decide
  exact this ⟨i, hi⟩⟩
theorem cmpI_ge {A R : Nat} : cmpI A R ≥ 0 ↔ R ≤ A := by
  unfold cmpI
  by_cases h : A < R
  · rw [if_pos h]; omega
  · rw [if_neg h]
    by_cases k : R < A
    · rw [if_pos k]; omega
    · rw [if_neg k]; omega
theorem ok_refDiff (a b : Nat) : OwesV Try.prog .none slAll [] 4 Try.f16 [sU a, sU b] (subG a b) := by
  rw [vc_refDiff]
  intro x1 x2 x3 x4 x5 x6 x7 x8 x9 x10
  have h1 : x1 < M256 := modM a
  have h2 : x2 < M256 := modM b
  have E3 : x3 = x1 := vn8 h1
  have E4 : x4 = x2 := vn8 h2
  have E10 : x10 = x1 + M256 := by
    show vn 10 (fun i => dg (x3 + 115792089237316195423570985008687907853269984665640564039457584007913129639936) i) = _
    rw [E3, ← M256_lit, vnk (by rw [M10]; omega)]
  have T : ∀ i : Nat, True := fun _ => trivial
  have hM : 0 < M256 := by decide
  have K1 : decide (x5 ≥ 0) = true → x4 ≤ x3 := fun h => by
    have h := of_decide_eq_true h
    exact cmpI_ge.1 h
  have K2 : decide (x5 ≥ 0) = false → x1 < x2 := fun h => by
    have h := of_decide_eq_false h
    rw [← E3, ← E4]
    exact Nat.lt_of_not_le fun k => h (cmpI_ge.2 k)
  have K3 : x4 ≤ x10 := by omega
  have F1 : decide (x5 ≥ 0) = true → ((vn 8 fun i => dg (x3 - x4) i) % M256 % M256 = x8 ∧ True) ∧ false = x9 := fun h => by
    have k := K1 h
    have e8 : x8 = (x1 + M256 - x2) % M256 := rfl
    have e9 : x9 = decide (x1 < x2) := rfl
    rw [e8, e9, E3, E4] at *
    rw [vn8 (by omega), Nat.mod_mod, show x1 + M256 - x2 = (x1 - x2) + M256 by omega, Nat.add_mod_right]
    exact ⟨⟨rfl, trivial⟩, (decide_eq_false (by omega)).symm⟩
  have F2 : decide (x5 ≥ 0) = false → ((vn 10 fun i => dg (x10 - x4) i) % M256 % M256 = x8 ∧ True) ∧ true = x9 := fun h => by
    have k := K2 h
    have e8 : x8 = (x1 + M256 - x2) % M256 := rfl
    have e9 : x9 = decide (x1 < x2) := rfl
    rw [e8, e9, E10, E4, vnk (by rw [M10]; omega), Nat.mod_mod]
    exact ⟨⟨rfl, trivial⟩, (decide_eq_true k).symm⟩
  clear E10 E3 E4 hM
  clear_value x1 x2 x3 x4 x5 x6 x7 x8 x9 x10
  repeat' (first | exact T | exact K3 | exact K1 (by assumption) | exact F1 (by assumption) | exact F2 (by assumption) | exact dgs_dg _ _ | exact dgs_top | exact (show (8 : Nat) ≤ 1000 by decide) | exact (show (9 : Nat) ≤ 1000 by decide) | exact (show (10 : Nat) ≤ 1000 by decide) | exact (show (9 : Nat) ≤ 9 by decide) | (intro _ _ _ _) | (refine And.intro ?_ ?_) | (intro _))
end Go.Proofs.Ytbjdchpncbgpnaa
end

section
/-
  The reference's quotients, and numbers by a modulus.
-/
namespace Go.Proofs.Ytbjdchpncbgpnaa
open Go Go.Sx Go.RowKit

end Go.Proofs.Ytbjdchpncbgpnaa
end

section
/-
  The reference's numbers by a modulus: sums, differences and products.
-/
namespace Go.Proofs.Ytbjdchpncbgpnaa
open Go Go.Sx Go.RowKit

theorem card_refSum : FnOK Try.prog 15 (specUU addG) :=
  FnOKV_UU (iv := fun _ _ => []) cx_none sl_all Try.func15 (by kernel_rfl) (by kernel_rfl) (fun a b x hx => by
    simp only [List.mem_cons, List.not_mem_nil, or_false] at hx
    rcases hx with rfl | rfl
    · exact bnd_Un _
    · trivial) ok_refSum
theorem card_refDiff : FnOK Try.prog 16 (specUU subG) :=
  FnOKV_UU (iv := fun _ _ => []) cx_none sl_all Try.func16 (by kernel_rfl) (by kernel_rfl) (fun a b x hx => by
    simp only [List.mem_cons, List.not_mem_nil, or_false] at hx
    rcases hx with rfl | rfl
    · exact bnd_Un _
    · trivial) ok_refDiff
end Go.Proofs.Ytbjdchpncbgpnaa
end

section
/-
  What the functions of package wide, and of the laws on it, come to: reckoned by the kernel. (Laid by program.)
-/
namespace Go.Proofs.Ytbjdchpncbgpnaa
open Go.Sx
set_option maxRecDepth 100000
def cxPlus : Cx := [(68, specAdd64)]
def cxLess : Cx := [(69, specSub64)]
def cxAdd : Cx := [(37, specUU plusG)]
def cxSub : Cx := [(38, specUU lessG)]
-- VC vc_plus HASH 178c7781736d42d5
theorem vc_plus (a b : Nat) :
    Owes Try.prog cxPlus [] 100 Try.f37 [sU a, sU b] (plusG a b) =
    ((0 : Int) ≤ Go.Sx.limb a (0 : Nat) ∧ (0 : Int) ≤ Go.Sx.limb b (0 : Nat) ∧ ((0 : Int) ≤ (0 : Int) ∧ (0 : Int) ≤ (1 : Int)) ∧ (0 : Int) ≤ Go.Sx.limb a (1 : Nat) ∧ (0 : Int) ≤ Go.Sx.limb b (1 : Nat) ∧ ((0 : Int) ≤ (Go.Sx.limb a (0 : Nat) + Go.Sx.limb b (0 : Nat) + (0 : Int)) / (18446744073709551616 : Int) ∧ (Go.Sx.limb a (0 : Nat) + Go.Sx.limb b (0 : Nat) + (0 : Int)) / (18446744073709551616 : Int) ≤ (1 : Int)) ∧ (0 : Int) ≤ Go.Sx.limb a (2 : Nat) ∧ (0 : Int) ≤ Go.Sx.limb b (2 : Nat) ∧ ((0 : Int) ≤ (Go.Sx.limb a (1 : Nat) + Go.Sx.limb b (1 : Nat) + (Go.Sx.limb a (0 : Nat) + Go.Sx.limb b (0 : Nat) + (0 : Int)) / (18446744073709551616 : Int)) / (18446744073709551616 : Int) ∧ (Go.Sx.limb a (1 : Nat) + Go.Sx.limb b (1 : Nat) + (Go.Sx.limb a (0 : Nat) + Go.Sx.limb b (0 : Nat) + (0 : Int)) / (18446744073709551616 : Int)) / (18446744073709551616 : Int) ≤ (1 : Int)) ∧ (0 : Int) ≤ Go.Sx.limb a (3 : Nat) ∧ (0 : Int) ≤ Go.Sx.limb b (3 : Nat) ∧ ((0 : Int) ≤ (Go.Sx.limb a (2 : Nat) + Go.Sx.limb b (2 : Nat) + (Go.Sx.limb a (1 : Nat) + Go.Sx.limb b (1 : Nat) + (Go.Sx.limb a (0 : Nat) + Go.Sx.limb b (0 : Nat) + (0 : Int)) / (18446744073709551616 : Int)) / (18446744073709551616 : Int)) / (18446744073709551616 : Int) ∧ (Go.Sx.limb a (2 : Nat) + Go.Sx.limb b (2 : Nat) + (Go.Sx.limb a (1 : Nat) + Go.Sx.limb b (1 : Nat) + (Go.Sx.limb a (0 : Nat) + Go.Sx.limb b (0 : Nat) + (0 : Int)) / (18446744073709551616 : Int)) / (18446744073709551616 : Int)) / (18446744073709551616 : Int) ≤ (1 : Int)) ∧ (((0 : Int) ≤ (Go.Sx.limb a (0 : Nat) + Go.Sx.limb b (0 : Nat) + (0 : Int)) % (18446744073709551616 : Int) ∧ (Go.Sx.limb a (0 : Nat) + Go.Sx.limb b (0 : Nat) + (0 : Int)) % (18446744073709551616 : Int) < (2 : Int) ^ (64 : Nat)) ∧ ((0 : Int) ≤ (Go.Sx.limb a (1 : Nat) + Go.Sx.limb b (1 : Nat) + (Go.Sx.limb a (0 : Nat) + Go.Sx.limb b (0 : Nat) + (0 : Int)) / (18446744073709551616 : Int)) % (18446744073709551616 : Int) ∧ (Go.Sx.limb a (1 : Nat) + Go.Sx.limb b (1 : Nat) + (Go.Sx.limb a (0 : Nat) + Go.Sx.limb b (0 : Nat) + (0 : Int)) / (18446744073709551616 : Int)) % (18446744073709551616 : Int) < (2 : Int) ^ (64 : Nat)) ∧ ((0 : Int) ≤ (Go.Sx.limb a (2 : Nat) + Go.Sx.limb b (2 : Nat) + (Go.Sx.limb a (1 : Nat) + Go.Sx.limb b (1 : Nat) + (Go.Sx.limb a (0 : Nat) + Go.Sx.limb b (0 : Nat) + (0 : Int)) / (18446744073709551616 : Int)) / (18446744073709551616 : Int)) % (18446744073709551616 : Int) ∧ (Go.Sx.limb a (2 : Nat) + Go.Sx.limb b (2 : Nat) + (Go.Sx.limb a (1 : Nat) + Go.Sx.limb b (1 : Nat) + (Go.Sx.limb a (0 : Nat) + Go.Sx.limb b (0 : Nat) + (0 : Int)) / (18446744073709551616 : Int)) / (18446744073709551616 : Int)) % (18446744073709551616 : Int) < (2 : Int) ^ (64 : Nat)) ∧ ((0 : Int) ≤ (Go.Sx.limb a (3 : Nat) + Go.Sx.limb b (3 : Nat) + (Go.Sx.limb a (2 : Nat) + Go.Sx.limb b (2 : Nat) + (Go.Sx.limb a (1 : Nat) + Go.Sx.limb b (1 : Nat) + (Go.Sx.limb a (0 : Nat) + Go.Sx.limb b (0 : Nat) + (0 : Int)) / (18446744073709551616 : Int)) / (18446744073709551616 : Int)) / (18446744073709551616 : Int)) % (18446744073709551616 : Int) ∧ (Go.Sx.limb a (3 : Nat) + Go.Sx.limb b (3 : Nat) + (Go.Sx.limb a (2 : Nat) + Go.Sx.limb b (2 : Nat) + (Go.Sx.limb a (1 : Nat) + Go.Sx.limb b (1 : Nat) + (Go.Sx.limb a (0 : Nat) + Go.Sx.limb b (0 : Nat) + (0 : Int)) / (18446744073709551616 : Int)) / (18446744073709551616 : Int)) / (18446744073709551616 : Int)) % (18446744073709551616 : Int) < (2 : Int) ^ (64 : Nat)) ∧ Go.Sx.join ((Go.Sx.limb a (0 : Nat) + Go.Sx.limb b (0 : Nat) + (0 : Int)) % (18446744073709551616 : Int)) ((Go.Sx.limb a (1 : Nat) + Go.Sx.limb b (1 : Nat) + (Go.Sx.limb a (0 : Nat) + Go.Sx.limb b (0 : Nat) + (0 : Int)) / (18446744073709551616 : Int)) % (18446744073709551616 : Int)) ((Go.Sx.limb a (2 : Nat) + Go.Sx.limb b (2 : Nat) + (Go.Sx.limb a (1 : Nat) + Go.Sx.limb b (1 : Nat) + (Go.Sx.limb a (0 : Nat) + Go.Sx.limb b (0 : Nat) + (0 : Int)) / (18446744073709551616 : Int)) / (18446744073709551616 : Int)) % (18446744073709551616 : Int)) ((Go.Sx.limb a (3 : Nat) + Go.Sx.limb b (3 : Nat) + (Go.Sx.limb a (2 : Nat) + Go.Sx.limb b (2 : Nat) + (Go.Sx.limb a (1 : Nat) + Go.Sx.limb b (1 : Nat) + (Go.Sx.limb a (0 : Nat) + Go.Sx.limb b (0 : Nat) + (0 : Int)) / (18446744073709551616 : Int)) / (18446744073709551616 : Int)) / (18446744073709551616 : Int)) % (18446744073709551616 : Int)) % Go.Sx.M256 = (a + b) % Go.Sx.M256 ∧ True) ∧ (Go.Sx.limb a (3 : Nat) + Go.Sx.limb b (3 : Nat) + (Go.Sx.limb a (2 : Nat) + Go.Sx.limb b (2 : Nat) + (Go.Sx.limb a (1 : Nat) + Go.Sx.limb b (1 : Nat) + (Go.Sx.limb a (0 : Nat) + Go.Sx.limb b (0 : Nat) + (0 : Int)) / (18446744073709551616 : Int)) / (18446744073709551616 : Int)) / (18446744073709551616 : Int)) / (18446744073709551616 : Int) = (↑((a % Go.Sx.M256 + b % Go.Sx.M256) / Go.Sx.M256) : Int)) := by kernel_rfl
-- END VC
-- VC vc_less HASH ad2bd2c1708ef4a5
theorem vc_less (a b : Nat) :
    Owes Try.prog cxLess [] 100 Try.f38 [sU a, sU b] (lessG a b) =
    (((0 : Int) ≤ Go.Sx.limb a (0 : Nat) ∧ Go.Sx.limb a (0 : Nat) < (18446744073709551616 : Int)) ∧ ((0 : Int) ≤ Go.Sx.limb b (0 : Nat) ∧ Go.Sx.limb b (0 : Nat) < (18446744073709551616 : Int)) ∧ ((0 : Int) ≤ (0 : Int) ∧ (0 : Int) ≤ (1 : Int)) ∧ ((0 : Int) ≤ Go.Sx.limb a (1 : Nat) ∧ Go.Sx.limb a (1 : Nat) < (18446744073709551616 : Int)) ∧ ((0 : Int) ≤ Go.Sx.limb b (1 : Nat) ∧ Go.Sx.limb b (1 : Nat) < (18446744073709551616 : Int)) ∧ ((0 : Int) ≤ -((Go.Sx.limb a (0 : Nat) - Go.Sx.limb b (0 : Nat) - (0 : Int)) / (18446744073709551616 : Int)) ∧ -((Go.Sx.limb a (0 : Nat) - Go.Sx.limb b (0 : Nat) - (0 : Int)) / (18446744073709551616 : Int)) ≤ (1 : Int)) ∧ ((0 : Int) ≤ Go.Sx.limb a (2 : Nat) ∧ Go.Sx.limb a (2 : Nat) < (18446744073709551616 : Int)) ∧ ((0 : Int) ≤ Go.Sx.limb b (2 : Nat) ∧ Go.Sx.limb b (2 : Nat) < (18446744073709551616 : Int)) ∧ ((0 : Int) ≤ -((Go.Sx.limb a (1 : Nat) - Go.Sx.limb b (1 : Nat) - -((Go.Sx.limb a (0 : Nat) - Go.Sx.limb b (0 : Nat) - (0 : Int)) / (18446744073709551616 : Int))) / (18446744073709551616 : Int)) ∧ -((Go.Sx.limb a (1 : Nat) - Go.Sx.limb b (1 : Nat) - -((Go.Sx.limb a (0 : Nat) - Go.Sx.limb b (0 : Nat) - (0 : Int)) / (18446744073709551616 : Int))) / (18446744073709551616 : Int)) ≤ (1 : Int)) ∧ ((0 : Int) ≤ Go.Sx.limb a (3 : Nat) ∧ Go.Sx.limb a (3 : Nat) < (18446744073709551616 : Int)) ∧ ((0 : Int) ≤ Go.Sx.limb b (3 : Nat) ∧ Go.Sx.limb b (3 : Nat) < (18446744073709551616 : Int)) ∧ ((0 : Int) ≤ -((Go.Sx.limb a (2 : Nat) - Go.Sx.limb b (2 : Nat) - -((Go.Sx.limb a (1 : Nat) - Go.Sx.limb b (1 : Nat) - -((Go.Sx.limb a (0 : Nat) - Go.Sx.limb b (0 : Nat) - (0 : Int)) / (18446744073709551616 : Int))) / (18446744073709551616 : Int))) / (18446744073709551616 : Int)) ∧ -((Go.Sx.limb a (2 : Nat) - Go.Sx.limb b (2 : Nat) - -((Go.Sx.limb a (1 : Nat) - Go.Sx.limb b (1 : Nat) - -((Go.Sx.limb a (0 : Nat) - Go.Sx.limb b (0 : Nat) - (0 : Int)) / (18446744073709551616 : Int))) / (18446744073709551616 : Int))) / (18446744073709551616 : Int)) ≤ (1 : Int)) ∧ (((0 : Int) ≤ (Go.Sx.limb a (0 : Nat) - Go.Sx.limb b (0 : Nat) - (0 : Int)) % (18446744073709551616 : Int) ∧ (Go.Sx.limb a (0 : Nat) - Go.Sx.limb b (0 : Nat) - (0 : Int)) % (18446744073709551616 : Int) < (2 : Int) ^ (64 : Nat)) ∧ ((0 : Int) ≤ (Go.Sx.limb a (1 : Nat) - Go.Sx.limb b (1 : Nat) - -((Go.Sx.limb a (0 : Nat) - Go.Sx.limb b (0 : Nat) - (0 : Int)) / (18446744073709551616 : Int))) % (18446744073709551616 : Int) ∧ (Go.Sx.limb a (1 : Nat) - Go.Sx.limb b (1 : Nat) - -((Go.Sx.limb a (0 : Nat) - Go.Sx.limb b (0 : Nat) - (0 : Int)) / (18446744073709551616 : Int))) % (18446744073709551616 : Int) < (2 : Int) ^ (64 : Nat)) ∧ ((0 : Int) ≤ (Go.Sx.limb a (2 : Nat) - Go.Sx.limb b (2 : Nat) - -((Go.Sx.limb a (1 : Nat) - Go.Sx.limb b (1 : Nat) - -((Go.Sx.limb a (0 : Nat) - Go.Sx.limb b (0 : Nat) - (0 : Int)) / (18446744073709551616 : Int))) / (18446744073709551616 : Int))) % (18446744073709551616 : Int) ∧ (Go.Sx.limb a (2 : Nat) - Go.Sx.limb b (2 : Nat) - -((Go.Sx.limb a (1 : Nat) - Go.Sx.limb b (1 : Nat) - -((Go.Sx.limb a (0 : Nat) - Go.Sx.limb b (0 : Nat) - (0 : Int)) / (18446744073709551616 : Int))) / (18446744073709551616 : Int))) % (18446744073709551616 : Int) < (2 : Int) ^ (64 : Nat)) ∧ ((0 : Int) ≤ (Go.Sx.limb a (3 : Nat) - Go.Sx.limb b (3 : Nat) - -((Go.Sx.limb a (2 : Nat) - Go.Sx.limb b (2 : Nat) - -((Go.Sx.limb a (1 : Nat) - Go.Sx.limb b (1 : Nat) - -((Go.Sx.limb a (0 : Nat) - Go.Sx.limb b (0 : Nat) - (0 : Int)) / (18446744073709551616 : Int))) / (18446744073709551616 : Int))) / (18446744073709551616 : Int))) % (18446744073709551616 : Int) ∧ (Go.Sx.limb a (3 : Nat) - Go.Sx.limb b (3 : Nat) - -((Go.Sx.limb a (2 : Nat) - Go.Sx.limb b (2 : Nat) - -((Go.Sx.limb a (1 : Nat) - Go.Sx.limb b (1 : Nat) - -((Go.Sx.limb a (0 : Nat) - Go.Sx.limb b (0 : Nat) - (0 : Int)) / (18446744073709551616 : Int))) / (18446744073709551616 : Int))) / (18446744073709551616 : Int))) % (18446744073709551616 : Int) < (2 : Int) ^ (64 : Nat)) ∧ Go.Sx.join ((Go.Sx.limb a (0 : Nat) - Go.Sx.limb b (0 : Nat) - (0 : Int)) % (18446744073709551616 : Int)) ((Go.Sx.limb a (1 : Nat) - Go.Sx.limb b (1 : Nat) - -((Go.Sx.limb a (0 : Nat) - Go.Sx.limb b (0 : Nat) - (0 : Int)) / (18446744073709551616 : Int))) % (18446744073709551616 : Int)) ((Go.Sx.limb a (2 : Nat) - Go.Sx.limb b (2 : Nat) - -((Go.Sx.limb a (1 : Nat) - Go.Sx.limb b (1 : Nat) - -((Go.Sx.limb a (0 : Nat) - Go.Sx.limb b (0 : Nat) - (0 : Int)) / (18446744073709551616 : Int))) / (18446744073709551616 : Int))) % (18446744073709551616 : Int)) ((Go.Sx.limb a (3 : Nat) - Go.Sx.limb b (3 : Nat) - -((Go.Sx.limb a (2 : Nat) - Go.Sx.limb b (2 : Nat) - -((Go.Sx.limb a (1 : Nat) - Go.Sx.limb b (1 : Nat) - -((Go.Sx.limb a (0 : Nat) - Go.Sx.limb b (0 : Nat) - (0 : Int)) / (18446744073709551616 : Int))) / (18446744073709551616 : Int))) / (18446744073709551616 : Int))) % (18446744073709551616 : Int)) % Go.Sx.M256 = (a % Go.Sx.M256 + Go.Sx.M256 - b % Go.Sx.M256) % Go.Sx.M256 ∧ True) ∧ -((Go.Sx.limb a (3 : Nat) - Go.Sx.limb b (3 : Nat) - -((Go.Sx.limb a (2 : Nat) - Go.Sx.limb b (2 : Nat) - -((Go.Sx.limb a (1 : Nat) - Go.Sx.limb b (1 : Nat) - -((Go.Sx.limb a (0 : Nat) - Go.Sx.limb b (0 : Nat) - (0 : Int)) / (18446744073709551616 : Int))) / (18446744073709551616 : Int))) / (18446744073709551616 : Int))) / (18446744073709551616 : Int)) = if a % Go.Sx.M256 < b % Go.Sx.M256 then (1 : Int) else (0 : Int)) := by kernel_rfl
-- END VC
-- VC vc_Add HASH f007b94b00e223b1
theorem vc_Add (a b : Nat) :
    Owes Try.prog cxAdd [] 100 Try.f13 [sU a, sU b] (addG a b) =
    (((a + b) % Go.Sx.M256 = (a + b) % Go.Sx.M256 ∧ True) ∧ ((↑((a % Go.Sx.M256 + b % Go.Sx.M256) / Go.Sx.M256) : Int) != (0 : Int)) = Decidable.decide (Go.Sx.M256 ≤ a % Go.Sx.M256 + b % Go.Sx.M256)) := by kernel_rfl
-- END VC
-- VC vc_Sub HASH fbd9d78c311374f3
theorem vc_Sub (a b : Nat) :
    Owes Try.prog cxSub [] 100 Try.f14 [sU a, sU b] (subG a b) =
    (((a % Go.Sx.M256 + Go.Sx.M256 - b % Go.Sx.M256) % Go.Sx.M256 = (a % Go.Sx.M256 + Go.Sx.M256 - b % Go.Sx.M256) % Go.Sx.M256 ∧ True) ∧ ((if a % Go.Sx.M256 < b % Go.Sx.M256 then (1 : Int) else (0 : Int)) != (0 : Int)) = Decidable.decide (a % Go.Sx.M256 < b % Go.Sx.M256)) := by kernel_rfl
-- END VC
end Go.Proofs.Ytbjdchpncbgpnaa
end

section
/-
  What products come to: reckoned by the kernel. (Laid by program.)
-/
namespace Go.Proofs.Ytbjdchpncbgpnaa
open Go.Sx
set_option maxRecDepth 100000
end Go.Proofs.Ytbjdchpncbgpnaa
end

section
/-
  The library's counting of bits, and its quotient of two words by one: reckoned by the kernel. (Laid by program.)
-/
namespace Go.Proofs.Ytbjdchpncbgpnaa
open Go.Sx
set_option maxRecDepth 100000
/-- At the heads of the two loops: the digit and what it leaves. h', l' are the two words moved, y1, y0 the divisor's halves, U the upper word, w1, w0 the lower word's halves, s the shift. -/
structure DivAt where
  q : Nat
  r : Nat
def shY (y : Int) : Int := y * 2 ^ (64 - lenN y).toNat
def shU (h l y : Int) : Int := h * 2 ^ (64 - lenN y).toNat + l / 2 ^ (lenN y).toNat
def shL (l y : Int) : Int := l * 2 ^ (64 - lenN y).toNat % 18446744073709551616
end Go.Proofs.Ytbjdchpncbgpnaa
end

section
/-
  Quotients: reckoned by the kernel. (Laid by program.)
-/
namespace Go.Proofs.Ytbjdchpncbgpnaa
open Go.Sx
set_option maxRecDepth 100000
end Go.Proofs.Ytbjdchpncbgpnaa
end

section
/-
  Texts of numbers: reckoned by the kernel. (Laid by program.)
-/
namespace Go.Proofs.Ytbjdchpncbgpnaa
open Go.Sx
set_option maxRecDepth 100000
end Go.Proofs.Ytbjdchpncbgpnaa
end

section
/-
  What powers of ten, and bytes, come to: reckoned by the kernel. (Laid by program.)
-/
namespace Go.Proofs.Ytbjdchpncbgpnaa
open Go.Sx
set_option maxRecDepth 100000
end Go.Proofs.Ytbjdchpncbgpnaa
end

section
/-
  Package wide's functions, each held to its card: the numbers' side.
-/
namespace Go.Proofs.Ytbjdchpncbgpnaa
open Go.Sx

theorem split4 (n : Nat) : ∃ a b c d : Nat, limb n 0 = a ∧ limb n 1 = b ∧ limb n 2 = c ∧ limb n 3 = d ∧ a < 18446744073709551616 ∧ b < 18446744073709551616 ∧ c < 18446744073709551616 ∧ d < 18446744073709551616 ∧
    n % M256 = a + 18446744073709551616 * b + 340282366920938463463374607431768211456 * c + 6277101735386680763835789423207666416102355444464034512896 * d := by
  refine ⟨n / 2 ^ (64 * 0) % 2 ^ 64, n / 2 ^ (64 * 1) % 2 ^ 64, n / 2 ^ (64 * 2) % 2 ^ 64, n / 2 ^ (64 * 3) % 2 ^ 64, rfl, rfl, rfl, rfl, Nat.mod_lt _ (by decide), Nat.mod_lt _ (by decide), Nat.mod_lt _ (by decide), Nat.mod_lt _ (by decide), ?_⟩
  rw [limbs_sum]
  simp only [Nat.mul_zero, Nat.pow_zero, Nat.div_one, Nat.mul_one, Nat.reduceMul, Nat.reducePow]

theorem M256_eq : M256 = 115792089237316195423570985008687907853269984665640564039457584007913129639936 := by decide

theorem carry_step (x y c : Nat) (hx : x < 18446744073709551616) (hy : y < 18446744073709551616) (hc : c ≤ 1) :
    ∃ s d : Nat, ((x : Int) + y + c) % 18446744073709551616 = s ∧ ((x : Int) + y + c) / 18446744073709551616 = d ∧ s < 18446744073709551616 ∧ d ≤ 1 ∧ x + y + c = s + 18446744073709551616 * d :=
  ⟨(x + y + c) % 18446744073709551616, (x + y + c) / 18446744073709551616, by omega, by omega, by omega, by omega, by omega⟩

theorem divmod_of {A S c M : Nat} (h : A = S + M * c) (hS : S < M) : A % M = S ∧ A / M = c := by
  subst h
  rw [Nat.add_mul_mod_self_left, Nat.mod_eq_of_lt hS, Nat.add_mul_div_left _ _ (by omega), Nat.div_eq_of_lt hS]
  exact ⟨rfl, by omega⟩

theorem ok_plus : ∀ a b, Owes Try.prog cxPlus [] 100 Try.f37 [sU a, sU b] (plusG a b) := by
  intro a b
  rw [vc_plus]
  have hab := Nat.add_mod a b M256
  obtain ⟨a0, a1, a2, a3, e0, e1, e2, e3, h0, h1, h2, h3, ha⟩ := split4 a
  obtain ⟨b0, b1, b2, b3, f0, f1, f2, f3, k0, k1, k2, k3, hb⟩ := split4 b
  rw [e0, e1, e2, e3, f0, f1, f2, f3]
  rw [ha, hb] at hab
  rw [ha, hb]
  obtain ⟨s0, c0, p0, q0, r0, t0, w0⟩ := carry_step a0 b0 0 h0 k0 (by omega)
  obtain ⟨s1, c1, p1, q1, r1, t1, w1⟩ := carry_step a1 b1 c0 h1 k1 t0
  obtain ⟨s2, c2, p2, q2, r2, t2, w2⟩ := carry_step a2 b2 c1 h2 k2 t1
  obtain ⟨s3, c3, p3, q3, r3, t3, w3⟩ := carry_step a3 b3 c2 h3 k3 t2
  simp only [Int.natCast_zero] at p0 q0
  obtain ⟨m1, m2⟩ := divmod_of (A := a0 + 18446744073709551616 * a1 + 340282366920938463463374607431768211456 * a2 + 6277101735386680763835789423207666416102355444464034512896 * a3 +
    (b0 + 18446744073709551616 * b1 + 340282366920938463463374607431768211456 * b2 + 6277101735386680763835789423207666416102355444464034512896 * b3))
    (S := s0 + 2 ^ 64 * s1 + 2 ^ 128 * s2 + 2 ^ 192 * s3) (c := c3) (M := M256) (by rw [M256_eq]; omega) (by rw [M256_eq]; omega)
  rw [m1] at hab
  have hS : (s0 + 2 ^ 64 * s1 + 2 ^ 128 * s2 + 2 ^ 192 * s3) % M256 = s0 + 2 ^ 64 * s1 + 2 ^ 128 * s2 + 2 ^ 192 * s3 := Nat.mod_eq_of_lt (by rw [M256_eq]; omega)
  simp only [q0, q1, q2, q3, p0, p1, p2, p3, join, Int.toNat_natCast, and_true, hab, hS, m2]
  clear ha hb hab hS m1 m2 p0 p1 p2 p3 q0 q1 q2 q3 w0 w1 w2 w3 e0 e1 e2 e3 f0 f1 f2 f3
  refine ⟨?_, ?_, ?_, ?_, ?_, ?_, ?_, ?_, ?_, ?_, ?_, ?_, ?_, ?_, ?_, ?_⟩ <;> omega

theorem borrow_step (x y c : Nat) (hx : x < 18446744073709551616) (hy : y < 18446744073709551616) (hc : c ≤ 1) :
    ∃ s d : Nat, ((x : Int) - y - c) % 18446744073709551616 = s ∧ -(((x : Int) - y - c) / 18446744073709551616) = d ∧ s < 18446744073709551616 ∧ d ≤ 1 ∧ x + 18446744073709551616 * d = s + y + c :=
  ⟨(((x : Int) - y - c) % 18446744073709551616).toNat, (-(((x : Int) - y - c) / 18446744073709551616)).toNat, by omega, by omega, by omega, by omega, by omega⟩

theorem ok_less : ∀ a b, Owes Try.prog cxLess [] 100 Try.f38 [sU a, sU b] (lessG a b) := by
  intro a b
  rw [vc_less]
  obtain ⟨a0, a1, a2, a3, e0, e1, e2, e3, h0, h1, h2, h3, ha⟩ := split4 a
  obtain ⟨b0, b1, b2, b3, f0, f1, f2, f3, k0, k1, k2, k3, hb⟩ := split4 b
  rw [e0, e1, e2, e3, f0, f1, f2, f3, ha, hb]
  obtain ⟨s0, c0, p0, q0, r0, t0, w0⟩ := borrow_step a0 b0 0 h0 k0 (by omega)
  obtain ⟨s1, c1, p1, q1, r1, t1, w1⟩ := borrow_step a1 b1 c0 h1 k1 t0
  obtain ⟨s2, c2, p2, q2, r2, t2, w2⟩ := borrow_step a2 b2 c1 h2 k2 t1
  obtain ⟨s3, c3, p3, q3, r3, t3, w3⟩ := borrow_step a3 b3 c2 h3 k3 t2
  simp only [Int.natCast_zero] at p0 q0
  have key : a0 + 18446744073709551616 * a1 + 340282366920938463463374607431768211456 * a2 + 6277101735386680763835789423207666416102355444464034512896 * a3 + M256 * c3 =
    (s0 + 2 ^ 64 * s1 + 2 ^ 128 * s2 + 2 ^ 192 * s3) + (b0 + 18446744073709551616 * b1 + 340282366920938463463374607431768211456 * b2 + 6277101735386680763835789423207666416102355444464034512896 * b3) := by
    rw [M256_eq]; omega
  simp only [q0, q1, q2, q3, p0, p1, p2, p3, join, Int.toNat_natCast, and_true]
  generalize hA : a0 + 18446744073709551616 * a1 + 340282366920938463463374607431768211456 * a2 + 6277101735386680763835789423207666416102355444464034512896 * a3 = A at *
  generalize hB : b0 + 18446744073709551616 * b1 + 340282366920938463463374607431768211456 * b2 + 6277101735386680763835789423207666416102355444464034512896 * b3 = B at *
  have hA' : A < M256 := by rw [M256_eq]; omega
  have hB' : B < M256 := by rw [M256_eq]; omega
  have hS' : s0 + 2 ^ 64 * s1 + 2 ^ 128 * s2 + 2 ^ 192 * s3 < M256 := by rw [M256_eq]; omega
  generalize s0 + 2 ^ 64 * s1 + 2 ^ 128 * s2 + 2 ^ 192 * s3 = S at *
  rw [Nat.mod_eq_of_lt hS']
  have hc3 : c3 = 0 ∨ c3 = 1 := by omega
  have fin : S = (A + M256 - B) % M256 ∧ (c3 : Int) = if A < B then 1 else 0 := by
    rcases hc3 with rfl | rfl
    · have : ¬ A < B := by omega
      rw [if_neg this]
      refine ⟨?_, rfl⟩
      rw [show A + M256 - B = S + M256 by omega, Nat.add_mod_right, Nat.mod_eq_of_lt hS']
    · have : A < B := by omega
      rw [if_pos this]
      refine ⟨?_, rfl⟩
      rw [show A + M256 - B = S by omega, Nat.mod_eq_of_lt hS']
  obtain ⟨g1, g2⟩ := fin
  rw [← g1, ← g2]
  clear ha hb hA hB key hA' hB' hS' g1 g2 p0 p1 p2 p3 q0 q1 q2 q3 w0 w1 w2 w3 e0 e1 e2 e3 f0 f1 f2 f3
  repeat' apply And.intro
  all_goals first | rfl | omega

theorem ok_Add : ∀ a b, Owes Try.prog cxAdd [] 100 Try.f13 [sU a, sU b] (addG a b) := by
  intro a b
  rw [vc_Add]
  refine ⟨⟨rfl, trivial⟩, ?_⟩
  have hM : 0 < M256 := by decide
  have h1 := Nat.mod_lt a hM
  have h2 := Nat.mod_lt b hM
  rw [Bool.eq_iff_iff]
  simp only [bne_iff_ne, ne_eq, decide_eq_true_eq]
  by_cases h : M256 ≤ a % M256 + b % M256
  · have : (a % M256 + b % M256) / M256 ≠ 0 := by
      have := Nat.div_pos h hM
      omega
    simp only [h, iff_true]; omega
  · have : (a % M256 + b % M256) / M256 = 0 := Nat.div_eq_of_lt (by omega)
    simp [h, this]

theorem ok_Sub : ∀ a b, Owes Try.prog cxSub [] 100 Try.f14 [sU a, sU b] (subG a b) := by
  intro a b
  rw [vc_Sub]
  refine ⟨⟨rfl, trivial⟩, ?_⟩
  by_cases h : a % M256 < b % M256 <;> simp [h]

end Go.Proofs.Ytbjdchpncbgpnaa
end

section
/-
  The laws' drawn numbers, and the laws of sums: the numbers' side.
-/
namespace Go.Proofs.Ytbjdchpncbgpnaa
open Go.Sx

end Go.Proofs.Ytbjdchpncbgpnaa
end

section
/-
  Products: the numbers' side.
-/
namespace Go.Proofs.Ytbjdchpncbgpnaa
open Go.Sx

end Go.Proofs.Ytbjdchpncbgpnaa
end

section
/-
  A number taken so often as a word says, and the product of two words: the numbers' side.
-/
namespace Go.Proofs.Ytbjdchpncbgpnaa
open Go.Sx

end Go.Proofs.Ytbjdchpncbgpnaa
end

section
/-
  The product of two words, in full.
-/
namespace Go.Proofs.Ytbjdchpncbgpnaa
open Go.Sx

end Go.Proofs.Ytbjdchpncbgpnaa
end

section
/-
  The laws of products: the numbers' side.
-/
namespace Go.Proofs.Ytbjdchpncbgpnaa
open Go.Sx

end Go.Proofs.Ytbjdchpncbgpnaa
end

section
/-
  A sum is taken so often as its parts are: the numbers' side.
-/
namespace Go.Proofs.Ytbjdchpncbgpnaa
open Go.Sx

theorem halves (x y z : Nat) : x * z % M256 + y * z % M256 = (x % M256 * (z % M256)) % M256 + (y % M256 * (z % M256)) % M256 := by
  rw [Nat.mul_mod x, Nat.mul_mod y]

end Go.Proofs.Ytbjdchpncbgpnaa
end

section
/-
  The cards of package wide's functions, one upon another.
-/
namespace Go.Proofs.Ytbjdchpncbgpnaa
open Go.Sx

theorem CxOK_nil : CxOK Try.prog Cx.none := fun _ h => by cases h
theorem CxOK_cons {f : Nat} {s : FSpec} {l : List (Nat × FSpec)} {gl : Globs} (h : FnOKg Try.prog gl f s) (hs : CxOK Try.prog ⟨l, gl, 0⟩) : CxOK Try.prog ⟨(f, s) :: l, gl, 0⟩ := by
  intro p hp
  rcases List.mem_cons.1 hp with rfl | hp
  · exact h
  · exact hs p hp

theorem bnd_U (n : Nat) : SA.bnd none0 (sU n) := by
  intro k hk; simp only [List.mem_singleton] at hk; subst hk; trivial
theorem bnd_I (k : IntKind) (n : Int) : SA.bnd none0 (sI k n) := trivial
theorem bnd_B (b : Bool) : SA.bnd none0 (sB b) := trivial
theorem bnd_two {x y : SA} (h : x.bnd none0) (h' : y.bnd none0) : SV.bnd none0 (.tup [x, y]) := by
  intro z hz
  simp only [List.mem_cons, List.not_mem_nil, or_false] at hz
  rcases hz with rfl | rfl
  · exact h
  · exact h'

theorem card_Add64 : FnOK Try.prog 68 specAdd64 := FnOK_add64 Try.func68 (by kernel_rfl) (by kernel_rfl) (by kernel_rfl) (by kernel_rfl)
theorem card_Sub64 : FnOK Try.prog 69 specSub64 := FnOK_sub64 Try.func69 (by kernel_rfl) (by kernel_rfl) (by kernel_rfl) (by kernel_rfl)
theorem cxok_plus : CxOK Try.prog cxPlus := CxOK_cons card_Add64 CxOK_nil
theorem card_plus : FnOK Try.prog 37 (specUU plusG) :=
  FnOK_UU cxok_plus (iv := []) (N := 100) Try.func37 (by kernel_rfl) (by kernel_rfl) (fun a b => by unfold plusG; exact bnd_two (bnd_U _) (bnd_I _ _)) ok_plus
theorem cxok_less : CxOK Try.prog cxLess := CxOK_cons card_Sub64 CxOK_nil
theorem card_less : FnOK Try.prog 38 (specUU lessG) :=
  FnOK_UU cxok_less (iv := []) (N := 100) Try.func38 (by kernel_rfl) (by kernel_rfl) (fun a b => by unfold lessG; exact bnd_two (bnd_U _) (bnd_I _ _)) ok_less
theorem cxok_Add : CxOK Try.prog cxAdd := CxOK_cons card_plus CxOK_nil
theorem card_Add : FnOK Try.prog 13 (specUU addG) :=
  FnOK_UU cxok_Add (iv := []) (N := 100) Try.func13 (by kernel_rfl) (by kernel_rfl) (fun a b => by unfold addG; exact bnd_two (bnd_U _) (bnd_B _)) ok_Add
theorem cxok_Sub : CxOK Try.prog cxSub := CxOK_cons card_less CxOK_nil
theorem card_Sub : FnOK Try.prog 14 (specUU subG) :=
  FnOK_UU cxok_Sub (iv := []) (N := 100) Try.func14 (by kernel_rfl) (by kernel_rfl) (fun a b => by unfold subG; exact bnd_two (bnd_U _) (bnd_B _)) ok_Sub
end Go.Proofs.Ytbjdchpncbgpnaa
end

section
/-
  The cards of products.
-/
namespace Go.Proofs.Ytbjdchpncbgpnaa
open Go.Sx

end Go.Proofs.Ytbjdchpncbgpnaa
end

section
/-
  The bytes of a number: the numbers' side.
-/
namespace Go.Proofs.Ytbjdchpncbgpnaa
open Go.Sx

end Go.Proofs.Ytbjdchpncbgpnaa
end

section
/-
  How many bits a word has.
-/
namespace Go.Proofs.Ytbjdchpncbgpnaa
open Go.Sx

end Go.Proofs.Ytbjdchpncbgpnaa
end

section
/-
  A quotient of two words by one, half a word at a time: the numbers' side.
-/
namespace Go.Proofs.Ytbjdchpncbgpnaa
open Go.Sx

/-! ## One digit -/
structure Dig (Y y1 y0 U w : Nat) : Prop where
  hY : Y = y1 * 4294967296 + y0
  h0 : y0 < 4294967296
  h1 : 2147483648 ≤ y1
  h1' : y1 < 4294967296
  hU : U < Y
  hw : w < 4294967296
structure DigAt (Y y1 y0 U w q r : Nat) : Prop extends Dig Y y1 y0 U w where
  hq : q * y1 + r = U
  hr : r < 4294967296
  hQ : (U * 4294967296 + w) / Y ≤ q
  hq' : q ≤ 4294967297
theorem Dig.pos {Y y1 y0 U w : Nat} (h : Dig Y y1 y0 U w) : 0 < Y := by have := h.hU; omega
theorem Dig.lt {Y y1 y0 U w : Nat} (h : Dig Y y1 y0 U w) : (U * 4294967296 + w) / Y < 4294967296 := by
  rw [Nat.div_lt_iff_lt_mul h.pos]
  have a := h.hU
  have b := h.hw
  omega
theorem Dig.start {Y y1 y0 U w : Nat} (h : Dig Y y1 y0 U w) : DigAt Y y1 y0 U w (U / y1) (U % y1) := by
  have hy := h.h1
  have hy' := h.h1'
  have hU := h.hU
  have hw := h.hw
  have hY := h.hY
  have h0 := h.h0
  have hp : 0 < y1 := by omega
  have hm := Nat.mod_lt U hp
  refine ⟨h, by rw [Nat.mul_comm]; exact Nat.div_add_mod U y1, by omega, ?_, ?_⟩
  · rw [Nat.le_div_iff_mul_le hp]
    have a := Nat.div_mul_le_self (U * 4294967296 + w) Y
    generalize (U * 4294967296 + w) / Y = Q at *
    have b : Q * Y = Q * y1 * 4294967296 + Q * y0 := by rw [hY, Nat.mul_add, Nat.mul_assoc]
    generalize Q * y1 = A at *
    generalize Q * y0 = B at *
    omega
  · have : U / y1 < 4294967298 := by
      rw [Nat.div_lt_iff_lt_mul hp]
      omega
    omega
theorem DigAt.mul {Y y1 y0 U w q r : Nat} (h : DigAt Y y1 y0 U w q r) : q * Y + r * 4294967296 = U * 4294967296 + q * y0 := by
  have hq := h.hq
  have : q * Y = q * y1 * 4294967296 + q * y0 := by rw [h.hY, Nat.mul_add, Nat.mul_assoc]
  generalize q * y1 = A at *
  omega
theorem DigAt.done {Y y1 y0 U w q r : Nat} (h : DigAt Y y1 y0 U w q r) (hc : q * y0 ≤ 4294967296 * r + w) : q = (U * 4294967296 + w) / Y := by
  have a := h.mul
  have hQ := h.hQ
  have : q ≤ (U * 4294967296 + w) / Y := by
    rw [Nat.le_div_iff_mul_le h.pos]
    omega
  exact Nat.le_antisymm this hQ
theorem DigAt.more {Y y1 y0 U w q r : Nat} (h : DigAt Y y1 y0 U w q r) (hc : 4294967296 ≤ q ∨ 4294967296 * r + w < q * y0) : (U * 4294967296 + w) / Y + 1 ≤ q := by
  rcases hc with hc | hc
  · exact Nat.le_trans h.lt hc
  · have a := h.mul
    rw [Nat.succ_le_iff, Nat.div_lt_iff_lt_mul h.pos]
    omega
theorem DigAt.pred {Y y1 y0 U w q r : Nat} (h : DigAt Y y1 y0 U w q r) (hc : 4294967296 ≤ q ∨ 4294967296 * r + w < q * y0) : (q - 1) * y1 + (r + y1) = U ∧ 1 ≤ q ∧ (U * 4294967296 + w) / Y ≤ q - 1 := by
  have a := h.more hc
  have hq := h.hq
  generalize (U * 4294967296 + w) / Y = Q at *
  obtain ⟨p, rfl⟩ : ∃ p, q = p + 1 := ⟨q - 1, by omega⟩
  rw [Nat.add_mul, Nat.one_mul] at hq
  rw [Nat.add_sub_cancel]
  refine ⟨by omega, by omega, by omega⟩
theorem DigAt.last {Y y1 y0 U w q r : Nat} (h : DigAt Y y1 y0 U w q r) (hc : 4294967296 ≤ q ∨ 4294967296 * r + w < q * y0) (hs : 4294967296 ≤ r + y1) : q - 1 = (U * 4294967296 + w) / Y := by
  obtain ⟨b, b1, b2⟩ := h.pred hc
  have c : (q - 1) * Y + (r + y1) * 4294967296 = U * 4294967296 + (q - 1) * y0 := by
    have : (q - 1) * Y = (q - 1) * y1 * 4294967296 + (q - 1) * y0 := by rw [h.hY, Nat.mul_add, Nat.mul_assoc]
    generalize (q - 1) * y1 = A at *
    omega
  have h0 := h.h0
  have hq' := h.hq'
  have d : (q - 1) * y0 ≤ 4294967296 * 4294967295 := Nat.mul_le_mul (by omega) (by omega)
  have : q - 1 ≤ (U * 4294967296 + w) / Y := by
    rw [Nat.le_div_iff_mul_le h.pos]
    generalize (q - 1) * Y = A at *
    generalize (q - 1) * y0 = B at *
    omega
  exact Nat.le_antisymm this b2
theorem DigAt.step {Y y1 y0 U w q r : Nat} (h : DigAt Y y1 y0 U w q r) (hc : 4294967296 ≤ q ∨ 4294967296 * r + w < q * y0) (hs : r + y1 < 4294967296) : DigAt Y y1 y0 U w (q - 1) (r + y1) := by
  obtain ⟨b, b1, b2⟩ := h.pred hc
  exact ⟨h.toDig, b, hs, b2, by have := h.hq'; omega⟩

/-! ## The words moved -/
end Go.Proofs.Ytbjdchpncbgpnaa
end

section
/-
  A quotient of two words by one: what the library's text comes to.
-/
namespace Go.Proofs.Ytbjdchpncbgpnaa
open Go.Sx

/-- What the text's words come to, as plain numbers. -/
theorem words {h l y s : Nat} (e1 : 64 - lenN y = (s : Int)) (e2 : lenN y = ((64 - s : Nat) : Int)) :
    shY y = ((y * 2 ^ s : Nat) : Int) ∧ shU h l y = ((h * 2 ^ s + l / 2 ^ (64 - s) : Nat) : Int) ∧ shL l y = ((l * 2 ^ s % 18446744073709551616 : Nat) : Int) := by
  unfold shY shU shL
  rw [e1, e2, Int.toNat_natCast, Int.toNat_natCast]
  refine ⟨?_, ?_, ?_⟩
  · rw [Int.natCast_mul, Int.natCast_pow]; rfl
  · rw [Int.natCast_add, Int.natCast_mul, Int.natCast_ediv, Int.natCast_pow, Int.natCast_pow]; rfl
  · rw [Int.natCast_emod, Int.natCast_mul, Int.natCast_pow]; rfl
@[irreducible] def qd (U L Y : Nat) : Nat := (U * 4294967296 + L / 4294967296) / Y
@[irreducible] def rd (U L Y : Nat) : Nat := (U * 4294967296 + L / 4294967296) % Y
@[irreducible] def qe (V L Y : Nat) : Nat := (V * 4294967296 + L % 4294967296) / Y
@[irreducible] def re (V L Y : Nat) : Nat := (V * 4294967296 + L % 4294967296) % Y
end Go.Proofs.Ytbjdchpncbgpnaa
end

section
/-
  Texts of numbers: the numbers' side.
-/
namespace Go.Proofs.Ytbjdchpncbgpnaa
open Go.Sx

/-! ## A long division -/
/-! ## Bytes told by numbers -/
/-! ## How many digits -/
/-! ## Digits of a text -/
end Go.Proofs.Ytbjdchpncbgpnaa
end

section
/-
  Texts of numbers: what the code owes.
-/
namespace Go.Proofs.Ytbjdchpncbgpnaa
open Go.Sx

/-! ## split -/
/-! ## Show -/
/-! ## decimal -/
end Go.Proofs.Ytbjdchpncbgpnaa
end

section
/-
  Quotients: the small parts (a guess, the bits ahead, moves up and down).
-/
namespace Go.Proofs.Ytbjdchpncbgpnaa
open Go.Sx

/-! ## guess -/
/-! ## noughts -/
end Go.Proofs.Ytbjdchpncbgpnaa
end

section
/-
  Quotients: moves up and down.
-/
namespace Go.Proofs.Ytbjdchpncbgpnaa
open Go.Sx

end Go.Proofs.Ytbjdchpncbgpnaa
end

section
/-
  Quotients: one digit of a long division by four words.
-/
namespace Go.Proofs.Ytbjdchpncbgpnaa
open Go.Sx

/-! ## How far a guess is off -/
end Go.Proofs.Ytbjdchpncbgpnaa
end

section
/-
  Quotients: the long division, and the law.
-/
namespace Go.Proofs.Ytbjdchpncbgpnaa
open Go.Sx

end Go.Proofs.Ytbjdchpncbgpnaa
end

section
/-
  Quotients: DivMod, and the law.
-/
namespace Go.Proofs.Ytbjdchpncbgpnaa
open Go.Sx

end Go.Proofs.Ytbjdchpncbgpnaa
end

section
/-
  Laws of wide numbers, and the reference's by a modulus: reckoned by the kernel. (Laid by program.)
-/
namespace Go.Proofs.Ytbjdchpncbgpnaa
open Go Go.Sx Go.RowKit
set_option maxRecDepth 100000
def cxWS : Cx := [(13, specUU addG), (14, specUU subG), (15, specUU addG), (16, specUU subG)]
-- VC vc_WideSums HASH 313f5b2f7f6b2351
theorem vc_WideSums (a b : Nat) :
    Owes Try.prog cxWS [] 10 Try.f3 [sU a, sU b] yes =
    (let x1 : Nat := (a + b) % Go.Sx.M256; let x2 : Bool := Go.Sx.conj [x1 == x1]; let x3 : Nat := a % Go.Sx.M256; let x4 : Nat := b % Go.Sx.M256; let x5 : Nat := x3 + x4; let x6 : Bool := Decidable.decide (Go.Sx.M256 ≤ x5); let x7 : Bool := x2 && x6 == x6; let x8 : Nat := (x3 + Go.Sx.M256 - x4) % Go.Sx.M256; let x9 : Bool := x7 && Go.Sx.conj [x8 == x8]; let x10 : Bool := Decidable.decide (x3 < x4); (x2 = Bool.true → x2 = Bool.true) ∧ (x2 = Bool.true → x2 = Bool.true) ∧ (x2 = Bool.true → x2 = Bool.true) ∧ (x7 = Bool.true → x7 = Bool.true) ∧ (x7 = Bool.true → x7 = Bool.true) ∧ (x7 = Bool.true → x7 = Bool.true) ∧ (x9 = Bool.true → x9 = Bool.true) ∧ (x9 = Bool.true → x9 = Bool.true) ∧ (x9 = Bool.true → x9 = Bool.true) ∧ (x9 && x10 == x10) = Bool.true) := by kernel_rfl
-- END VC
end Go.Proofs.Ytbjdchpncbgpnaa
end

section
/-
  Laws of wide sums and quotients.
-/
namespace Go.Proofs.Ytbjdchpncbgpnaa
open Go Go.Sx Go.RowKit
theorem conj_self (x : Nat) : conj [x == x] = true := by simp [conj]
theorem ok_WideSums : ∀ a b : Nat, Owes Try.prog cxWS [] 10 Try.f3 [sU a, sU b] yes := by
  intro a b
  rw [vc_WideSums]
  intro x1 x2 x3 x4 x5 x6 x7 x8 x9 x10
  have e2 : x2 = true := conj_self x1
  have e7 : x7 = true := by simp only [x7]; rw [e2, beq_self_eq_true]; rfl
  have e9 : x9 = true := by simp only [x9]; rw [e7, conj_self x8]; rfl
  refine ⟨id, id, id, id, id, id, id, id, id, ?_⟩
  rw [e9, beq_self_eq_true]; rfl
theorem cxok_WS : CxOK Try.prog cxWS := CxOK_cons card_Add (CxOK_cons card_Sub (CxOK_cons card_refSum (CxOK_cons card_refDiff CxOK_nil)))
end Go.Proofs.Ytbjdchpncbgpnaa
end
