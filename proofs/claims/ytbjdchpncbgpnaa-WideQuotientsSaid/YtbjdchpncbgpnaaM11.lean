/-
  Texts: P103, Wsp2, Wsp3, Wsp4, Wsp6, P104, V63, P105, P106, P107, V1, V2, V5, V7, V6, V4, P1, P2.
-/
import Derived.Test.YtbjdchpncbgpnaaM1
import Derived.Test.YtbjdchpncbgpnaaM2
import Derived.Test.YtbjdchpncbgpnaaM3
import Derived.Test.YtbjdchpncbgpnaaM4
import Derived.Test.YtbjdchpncbgpnaaM5
import Derived.Test.YtbjdchpncbgpnaaM6
import Derived.Test.YtbjdchpncbgpnaaM7
import Derived.Test.YtbjdchpncbgpnaaM8
import Derived.Test.YtbjdchpncbgpnaaM9
import Derived.Test.YtbjdchpncbgpnaaM10
import Derived.Test.YtbjdchpncbgpnaaChecked
import Derived.Test.YtbjdchpncbgpnaaRows
section
/-
  The reference's rows of digits: divisions.
-/
namespace Go.Proofs.Ytbjdchpncbgpnaa
open Go Go.Sx Go.RowKit

theorem vn_one (z : Int) : vn 1 (fun i => (intsL [SK.c (SC.val (Value.int IntKind.u64 z))]).getD i 0) = z.toNat := by
  simp [vn, vz, intsL, intsC, asI]
theorem dgs_one {z : Int} (hz : 0 ≤ z ∧ z < 4294967296) : dgs 1 fun i => intsC (SC.val (Value.int IntKind.u64 (selG [SK.c (SC.val (Value.int IntKind.u64 z))] i))) := ⟨fun i hi => by
  have : i = 0 := by omega
  subst this
  exact hz⟩
def dvdC (n : Nat) (f : Nat → Int) (m : Nat) (h : Nat → Int) : List Prop := [dgs n f, n ≤ 1000, dgs m h, m ≤ 900, vn m h ≠ 0]
def dvdR (n : Nat) (f : Nat → Int) (m : Nat) (h : Nat → Int) : List RS := [.s n .u64 (dg (vn n f / vn m h)), .s (remL (vn n f) (vn m h) n) .u64 (dg (vn n f % vn m h))]
theorem cmpI_le {A R : Nat} : cmpI A R ≤ 0 ↔ A ≤ R := by
  unfold cmpI
  by_cases h : A < R
  · rw [if_pos h]; omega
  · rw [if_neg h]
    by_cases k : R < A
    · rw [if_pos k]; omega
    · rw [if_neg k]; omega
theorem vn_prod {Y z m : Nat} (hY : Y < 4294967296 ^ m) (hz : z < 4294967296) : vn (m + 1) (fun i => dg (Y * z) i) = Y * z := by
  refine vn_dg' ?_
  rw [Nat.pow_succ]
  exact Nat.lt_of_le_of_lt (Nat.mul_le_mul_left Y (show z ≤ 4294967296 by omega)) (Nat.mul_lt_mul_of_pos_right hY (by decide))
theorem ok_divided (a : Option Addr) (n c : Nat) (f : Nat → Int) (b : Option Addr) (m d : Nat) (h : Nat → Int) (hf : dgs n f) (hn : n ≤ 1000) (hh : dgs m h) (hm : m ≤ 900) (h0 : vn m h ≠ 0) :
    OwesR Try.prog cxR slDg [(6, .inv (invD1 a n c f b m d h (D1P (vn n f) (vn m h) n))), (13, .inv (invD2 a n c f b m d h (D2P (vn n f) (vn m h) n))), (15, .cut (cutD a n c f b m d h (DcP (vn n f) (vn m h) n)) (fun y z => z.1 = y.1)), (17, .invR (invD3 a n c f b m d h (D3P (vn n f) (vn m h) n)) (fun y z => z.1 = y.1))] 4 Try.f46 [xsI a n c .u64 f, xsI b m d .u64 h] true (dvdR n f m h) := by
  unfold dvdR
  rw [vc_divided]
  have hfi : ∀ i, i < n → f i = dg (vn n f) i := fun i hi => dg_in hf hi
  have hX := vn_lt hf
  have hXr := dg_range (vn n f)
  have hYm := vn_lt hh
  rw [show (fun i => h i) = h from rfl]
  generalize vn n f = X at *
  generalize vn m h = Y at *
  have hY : 0 < Y := by omega
  have hL := maxLen_eq
  have AA : (a = a ∧ n = n ∧ c = c ∧ ∀ i, i < n → f i = f i) := ⟨rfl, rfl, rfl, fun _ _ => rfl⟩
  have BB : (b = b ∧ m = m ∧ d = d ∧ ∀ i, i < m → h i = h i) := ⟨rfl, rfl, rfl, fun _ _ => rfl⟩
  have NN : ((0 : Int) ≤ (n : Int) ∧ (n : Int) ≤ (n : Int) ∧ 8 * (n : Int) ≤ 281474976710656 ∧ (n : Int) ≤ 9223372036854775807) := by omega
  have En : ((n : Int)).toNat = n := Int.toNat_natCast n
  intro x1 x2 x3
  have E1 : x1 = dg Y 0 := rfl
  have E2 : x2 = 0 := by simp only [x2]; rw [Nat.sub_self, Nat.zero_mul]
  have E3 : x3 = m + 1 := rfl
  clear_value x1 x2 x3
  subst E1 E2 E3
  refine ⟨fun _ => trivial, hh, by omega, fun h1 => ⟨NN, fun y => rfl, (n, fun _ => 0, 0), ⟨D1P.start hX _, Nat.le_refl _⟩, AA, ⟨rfl, rfl, rfl, En, En⟩, rfl, rfl, wrapi (by omega), En, rfl, fun _ _ => rfl, fun ⟨i, q, l⟩ ⟨hP, hi⟩ => ⟨fun h2 => ?_, fun h2 => ?_⟩⟩, fun h1 => ⟨NN, fun y => rfl, (n, fun _ => 0, none, 0, 0, fun _ => 0), ⟨D2P.start hX _, Nat.le_refl _⟩, AA, BB, ⟨rfl, rfl, rfl, En, En⟩, rfl, rfl, rfl, wrapi (by omega), En, rfl, fun _ _ => rfl, fun ⟨i, q, ra, rn, rc, rf⟩ ⟨hP, hi⟩ => ⟨fun h2 => ?_, fun h2 => ?_⟩⟩⟩
  · have hYs : Y < 4294967296 := of_decide_eq_true h1
    have hP : D1P X Y n i q l := hP
    have hi : i ≤ n := hi
    have h2 : (i : Int) - 1 ≥ 0 := of_decide_eq_true h2
    obtain ⟨k, rfl⟩ : ∃ k, i = k + 1 := ⟨i - 1, by omega⟩
    have Ek : (((k + 1 : Nat) : Int) - 1).toNat = k := by omega
    have Ey : dg Y 0 = (Y : Int) := by
      unfold dg
      rw [Nat.pow_zero, Nat.div_one, Nat.mod_eq_of_lt hYs]
    have A : (0 : Int) ≤ ((k + 1 : Nat) : Int) - 1 ∧ ((k + 1 : Nat) : Int) - 1 < (n : Int) := by omega
    have xr := hXr k
    have hl := hP.left
    have hlt : X / 4294967296 ^ (k + 1) % Y < 4294967296 := Nat.lt_trans (Nat.mod_lt _ hY) hYs
    have T : IntKind.u64.wrap (IntKind.u64.wrap (l * 4294967296) + f (((k + 1 : Nat) : Int) - 1).toNat) = l * 4294967296 + dg X k := by
      rw [Ek, hfi k (by omega), wrap64 (x := l * 4294967296) (by omega), wrap64 (by omega)]
    have h64 : 0 ≤ l * 4294967296 + dg X k ∧ l * 4294967296 + dg X k < 18446744073709551616 := by omega
    have Q := hP.step hY rfl (q' := fun j => if j = k then (l * 4294967296 + dg X k) / (Y : Int) else q j) (fun _ _ => rfl)
    have Ed : IntKind.u64.wrap ((l * 4294967296 + dg X k).tdiv (Y : Int)) = (l * 4294967296 + dg X k) / (Y : Int) := by
      rw [Int.tdiv_eq_ediv_of_nonneg h64.1]
      have a1 : 0 ≤ (l * 4294967296 + dg X k) / (Y : Int) := Int.ediv_nonneg h64.1 (by omega)
      have a2 : (l * 4294967296 + dg X k) / (Y : Int) ≤ l * 4294967296 + dg X k := Int.ediv_le_self _ h64.1
      exact wrap64 (by omega)
    have Em : (l * 4294967296 + dg X k).tmod (Y : Int) = (l * 4294967296 + dg X k) % (Y : Int) := Int.tmod_eq_emod_of_nonneg h64.1
    refine ⟨A, by rw [Ey]; omega, by rw [Ey]; omega, A, by omega, (k, _, _), ⟨?_, by show k ≤ n; omega⟩, AA, ⟨rfl, rfl, rfl, rfl, rfl⟩, rfl, rfl, ?_, rfl, rfl, fun _ _ => rfl, by show k < k + 1; omega⟩
    · show D1P X Y n k (fun j => bif decide (j = 0 + (((k + 1 : Nat) : Int) - 1).toNat) then IntKind.u64.wrap ((IntKind.u64.wrap (IntKind.u64.wrap (l * 4294967296) + f (((k + 1 : Nat) : Int) - 1).toNat)).tdiv (dg Y 0)) else q j) ((IntKind.u64.wrap (IntKind.u64.wrap (l * 4294967296) + f (((k + 1 : Nat) : Int) - 1).toNat)).tmod (dg Y 0))
      rw [T, Ey, Ed, Em, Ek, Nat.zero_add]
      have e5 : (fun j => bif decide (j = k) then (l * 4294967296 + dg X k) / (Y : Int) else q j) = fun j => if j = k then (l * 4294967296 + dg X k) / (Y : Int) else q j := by
        funext j
        by_cases e : j = k <;> simp [e]
      rw [e5]
      exact Q
    · show IntKind.i64.wrap (((k + 1 : Nat) : Int) - 1 - 1) = (k : Int) - 1
      rw [wrapi (by omega)]; omega
  · have hYs : Y < 4294967296 := of_decide_eq_true h1
    have hP : D1P X Y n i q l := hP
    have h2 : ¬ (i : Int) - 1 ≥ 0 := of_decide_eq_false h2
    have : i = 0 := by omega
    subst this
    refine ⟨⟨by omega, rfl, Nat.le_refl _, fun j hj => ?_⟩, ?_, Nat.le_refl _, fun j hj => ?_⟩
    · show q (0 + j) = _
      rw [Nat.zero_add]
      exact hP.qs j (Nat.zero_le _) hj
    · unfold remL; rw [if_pos hYs]
    · have hj : j < remL X Y n := hj
      unfold remL at hj
      rw [if_pos hYs] at hj
      have : j = 0 := by omega
      subst this
      show l = _
      rw [hP.left]
      unfold dg
      rw [Nat.pow_zero, Nat.div_one, Nat.div_one, Nat.mod_eq_of_lt (Nat.lt_trans (Nat.mod_lt _ hY) hYs)]
  · have hP : D2P X Y n i q rn rf := hP
    have hi : i ≤ n := hi
    have h2 : (i : Int) - 1 ≥ 0 := of_decide_eq_true h2
    obtain ⟨k, rfl⟩ : ∃ k, i = k + 1 := ⟨i - 1, by omega⟩
    have Ek : (((k + 1 : Nat) : Int) - 1).toNat = k := by omega
    have A : (0 : Int) ≤ ((k + 1 : Nat) : Int) - 1 ∧ ((k + 1 : Nat) : Int) - 1 < (n : Int) := by omega
    have hlm : lenDg (X / 4294967296 ^ (k + 1) % Y) ≤ m := lenDg_le (Nat.lt_trans (Nat.mod_lt _ hY) hYm)
    refine ⟨fun y => rfl, (k + 1, q, 0, 0, fun _ => 0), fun ⟨i1, q1, rn1, sp1, rf1⟩ ⟨hC, hi1⟩ e1 => ⟨fun y => rfl, (k + 1, q1, rn1, sp1, rf1, 0, 4294967296), ⟨⟨?_, hi⟩, rfl⟩, AA, BB, ⟨rfl, rfl, rfl, rfl, rfl⟩, ⟨rfl, rfl, rfl, rfl, rfl⟩, ?_, rfl, rfl, rfl, rfl, fun _ _ => rfl, rfl, rfl, fun _ _ => rfl, fun ⟨i2, q2, rn2, sp2, rf2, lo, hi2⟩ ⟨hQ, hi2n⟩ e2 => ⟨fun h3 => ?_, fun h3 => ?_⟩⟩, ?_⟩
    · have e1 : i1 = k + 1 := e1
      subst e1
      exact DcP.seek hC hY
    · have e1 : i1 = k + 1 := e1
      subst e1
      rfl
    · have e2 : i2 = k + 1 := e2
      subst e2
      have hQ : D3P X Y n (k + 1) q2 rn2 rf2 lo hi2 := hQ
      have ht := hQ.top
      have hlt := hQ.lt
      have hr2 : rn2 ≤ 1000 := by have := hQ.at'.len; omega
      have E4 : IntKind.u64.wrap ((hi2 : Int) - (lo : Int)) = ((hi2 - lo : Nat) : Int) := by rw [wrap64 (by omega)]; omega
      have h3 : IntKind.u64.wrap ((hi2 : Int) - (lo : Int)) > 1 := of_decide_eq_true h3
      rw [E4] at h3
      have EZ : IntKind.u64.wrap ((IntKind.u64.wrap ((lo : Int) + (hi2 : Int))).tdiv 2) = (((lo + hi2) / 2 : Nat) : Int) := by
        rw [wrap64 (x := (lo : Int) + (hi2 : Int)) (by omega), Int.tdiv_eq_ediv_of_nonneg (by omega), wrap64 (by omega)]
        omega
      have hmid : (lo + hi2) / 2 < 4294967296 := by omega
      have E0 : (fun i => rf2 (0 + i)) = rf2 := by funext i; rw [Nat.zero_add]
      refine ⟨Nat.le_refl _, fun a8 => ⟨fun _ => trivial, fun _ => trivial, hh, by omega, dgs_one (by rw [EZ]; omega), by decide, fun a9 cap _ _ => ⟨by show 0 + rn2 ≤ rn2; omega, Nat.le_add_right _ _, fun a12 => ⟨fun _ => trivial, fun _ => trivial, dgs_dg _ _, by omega, ?_, hr2, fun h4 => ?_, fun h4 => ?_⟩⟩⟩⟩
      · show dgs rn2 fun i => rf2 (0 + i)
        rw [E0]
        exact hQ.at'.ds
      all_goals
        have h4' := h4
        simp only [EZ, vn_one, Int.toNat_natCast, vn_prod hYm hmid, E0] at h4'
      · have h4' := cmpI_le.1 (of_decide_eq_true h4')
        refine ⟨(k + 1, q2, rn2, sp2, rf2, (lo + hi2) / 2, hi2), ⟨⟨hQ.low (by omega) h4', hi⟩, rfl⟩, AA, BB, ⟨rfl, rfl, rfl, rfl, rfl⟩, ⟨rfl, rfl, rfl, rfl, rfl⟩, rfl, EZ, rfl, rfl, rfl, fun _ _ => rfl, rfl, rfl, fun _ _ => rfl, ?_⟩
        show hi2 - (lo + hi2) / 2 < hi2 - lo
        omega
      · have h4' := fun e => of_decide_eq_false h4' (cmpI_le.2 e)
        refine ⟨(k + 1, q2, rn2, sp2, rf2, lo, (lo + hi2) / 2), ⟨⟨hQ.high (by omega) h4', hi⟩, rfl⟩, AA, BB, ⟨rfl, rfl, rfl, rfl, rfl⟩, ⟨rfl, rfl, rfl, rfl, rfl⟩, rfl, rfl, EZ, rfl, rfl, fun _ _ => rfl, rfl, rfl, fun _ _ => rfl, ?_⟩
        show (lo + hi2) / 2 - lo < hi2 - lo
        omega
    · have e2 : i2 = k + 1 := e2
      subst e2
      have hQ : D3P X Y n (k + 1) q2 rn2 rf2 lo hi2 := hQ
      have ht := hQ.top
      have hlt := hQ.lt
      have hr2 : rn2 ≤ 1000 := by have := hQ.at'.len; omega
      have E4 : IntKind.u64.wrap ((hi2 : Int) - (lo : Int)) = ((hi2 - lo : Nat) : Int) := by rw [wrap64 (by omega)]; omega
      have h3 : ¬ IntKind.u64.wrap ((hi2 : Int) - (lo : Int)) > 1 := of_decide_eq_false h3
      rw [E4] at h3
      have hlo : lo < 4294967296 := by omega
      have E0 : (fun i => rf2 (0 + i)) = rf2 := by funext i; rw [Nat.zero_add]
      have D0 : dgs rn2 fun i => rf2 (0 + i) := by rw [E0]; exact hQ.at'.ds
      refine ⟨A, by show 0 + (((k + 1 : Nat) : Int) - 1).toNat < n; omega, Nat.le_refl _, fun a8 => ⟨fun _ => trivial, fun _ => trivial, hh, by omega, dgs_one (z := (lo : Int)) (by omega), by decide, fun a9 cap _ _ => ⟨by show 0 + rn2 ≤ rn2; omega, Nat.le_add_right _ _, fun a12 => ⟨fun _ => trivial, fun _ => trivial, D0, hr2, dgs_dg _ _, by omega, ?_, fun a13 cap' _ _ => ⟨(k, _, a13, rn2, cap', _), ⟨?_, by show k ≤ n; omega⟩, AA, BB, ⟨rfl, rfl, rfl, rfl, rfl⟩, ⟨rfl, rfl, rfl, fun _ _ => rfl⟩, ?_, rfl, rfl, fun _ _ => rfl, by show k < k + 1; omega⟩⟩⟩⟩⟩
      · show vn (m + 1) (fun i => dg (Y * vn 1 fun i => (intsL [SK.c (SC.val (Value.int IntKind.u64 (lo : Int)))]).getD i 0) i) ≤ vn rn2 fun i => rf2 (0 + i)
        rw [vn_one, Int.toNat_natCast, vn_prod hYm hlo, E0]
        exact hQ.below
      · refine D3P.found hQ (by omega) hY hi (fun j hj => ?_) fun j hj => ?_
        · show (bif decide (j = 0 + (((k + 1 : Nat) : Int) - 1).toNat) then (lo : Int) else q2 j) = _
          rw [Ek, Nat.zero_add]
          by_cases e : j = k <;> simp [e]
        · show dg ((vn rn2 fun i => rf2 (0 + i)) - vn (m + 1) fun i => dg (Y * vn 1 fun i => (intsL [SK.c (SC.val (Value.int IntKind.u64 (lo : Int)))]).getD i 0) i) j = _
          rw [vn_one, Int.toNat_natCast, vn_prod hYm hlo, E0]
      · show IntKind.i64.wrap (((k + 1 : Nat) : Int) - 1 - 1) = (k : Int) - 1
        rw [wrapi (by omega)]; omega
    · have hrn : rn ≤ 1000 := by
        rw [hP.len]
        split
        · omega
        · have : lenDg (X / 4294967296 ^ (k + 1 + 1) % Y) ≤ m := lenDg_le (Nat.lt_trans (Nat.mod_lt _ hY) hYm)
          omega
      have hle : lenDg (vn rn rf) ≤ m := by rw [hP.left]; exact hlm
      have C1 : (1 : Nat) ≤ 1 ∧ 1 ≤ maxLen ∧ 1 = 1 := ⟨Nat.le_refl _, by omega, rfl⟩
      have C2 : 1 + lenDg (vn rn rf) ≤ maxLen ∧ (1 + lenDg (vn rn rf)) * 8 ≤ 140737488355328 := by omega
      have T : ∀ i : Nat, True := fun _ => trivial
      have fin : ∀ c1 : Nat, 1 + lenDg (vn rn rf) + c1 ≤ maxLen → ∃ y1 : Nat × (Nat → Int) × Nat × Nat × (Nat → Int), ((DcP X Y n y1.1 y1.2.1 y1.2.2.1 y1.2.2.2.2 ∧ y1.1 ≤ n) ∧ y1.1 = k + 1) ∧ (a = a ∧ n = n ∧ c = c ∧ ∀ i, i < n → f i = f i) ∧ (b = b ∧ m = m ∧ d = d ∧ ∀ i, i < m → h i = h i) ∧ (0 = 0 ∧ 1 = 1 ∧ 0 = 0 ∧ n = n ∧ n = n) ∧ (1 = 1 ∧ 1 = 1 ∧ 0 = 0 ∧ 1 + lenDg (vn rn rf) = y1.2.2.1 ∧ 1 + lenDg (vn rn rf) + c1 = y1.2.2.1 + y1.2.2.2.1) ∧ ((k + 1 : Nat) : Int) - 1 = (y1.1 : Int) - 1 ∧ n = n ∧ 0 = 0 ∧ (∀ i, i < n → q i = y1.2.1 i) ∧ 1 + lenDg (vn rn rf) = y1.2.2.1 ∧ c1 * 1 = y1.2.2.2.1 ∧ (∀ i, i < 1 + lenDg (vn rn rf) → (bif decide (i < 1) then f (((k + 1 : Nat) : Int) - 1).toNat else dg (vn rn rf) (i - 1)) = y1.2.2.2.2 i) ∧ True := by
        intro c1 _
        refine ⟨(k + 1, q, 1 + lenDg (vn rn rf), c1, fun i => bif decide (i < 1) then f (((k + 1 : Nat) : Int) - 1).toNat else dg (vn rn rf) (i - 1)), ⟨⟨?_, hi⟩, rfl⟩, AA, BB, ⟨rfl, rfl, rfl, rfl, rfl⟩, ⟨rfl, rfl, rfl, rfl, rfl⟩, rfl, rfl, rfl, fun _ _ => rfl, rfl, Nat.mul_one _, fun _ _ => rfl, trivial⟩
        refine hP.next fun i _ => ?_
        rw [Ek, hfi k (by omega)]
      have F : ((1 : Nat) ≤ 1 ∧ 1 ≤ maxLen ∧ 1 = 1) ∧ (1 + lenDg (vn rn rf) ≤ maxLen ∧ (1 + lenDg (vn rn rf)) * 8 ≤ 140737488355328) ∧ _ := ⟨C1, C2, fin⟩
      have hds := hP.ds
      clear hP
      repeat' (first | exact A | exact T | exact hds | exact hrn | exact F | (intro _ _ _ _) | (refine And.intro ?_ ?_))
  · have hYs : ¬ Y < 4294967296 := of_decide_eq_false h1
    have hP : D2P X Y n i q rn rf := hP
    have h2 : ¬ (i : Int) - 1 ≥ 0 := of_decide_eq_false h2
    have : i = 0 := by omega
    subst this
    refine ⟨⟨by omega, rfl, Nat.le_refl _, fun j hj => ?_⟩, ?_, fun j hj => ?_⟩
    · show q (0 + j) = _
      rw [Nat.zero_add]
      exact hP.qs j (Nat.zero_le _) hj
    · show rn = _
      rw [hP.len]
      unfold remL
      rw [if_neg hYs]
      by_cases e : n = 0
      · rw [if_pos e.symm, if_pos e]
      · rw [if_neg (fun k => e k.symm), if_neg e, Nat.zero_add, Nat.pow_one]
    · show rf j = _
      have hl := hP.left
      rw [Nat.pow_zero, Nat.div_one] at hl
      have hj : j < remL X Y n := hj
      have hrn : rn = remL X Y n := by
        rw [hP.len]
        unfold remL
        rw [if_neg hYs]
        by_cases e : n = 0
        · rw [if_pos e.symm, if_pos e]
        · rw [if_neg (fun k => e k.symm), if_neg e, Nat.zero_add, Nat.pow_one]
      rw [← hl]
      exact dg_in hP.ds (by omega)
end Go.Proofs.Ytbjdchpncbgpnaa
end

section
/-
  More shapes of cards: a number and a word under a condition; a text.
-/
namespace Go.Sx
open Go.RowKit

end Go.Sx
end

section
/-
  More shapes of cards: two numbers under a condition; a number and an int; a number, a word and a number.
-/
namespace Go.Sx
open Go.RowKit

theorem bnd_sU (a : Nat) : SA.bnd none0 (sU a) := by
  intro k hk; simp only [List.mem_singleton] at hk; subst hk; trivial
/-- A number of 256 bits, and an int, under a condition. -/
def specUJ (c : Nat → Int → List Prop) (g : Nat → Int → SV) : FSpec := fun args =>
  match args with
  | [x, y] => match asU x, asI y with
    | some (p, a), some (.i64, n) => some (p ++ c a n, g a n)
    | _, _ => none
  | _ => none
theorem FnOK_UJ {P : Program} {cx : Cx} (hcx : CxOK P cx) {iv : Nat → Int → List (Nat × Hint)} {N : Nat} {f : Nat} {fn : Func} (hf : P.funcs[f]? = some fn) (hb : fn.body.isSome = true) (hn : (fn.name == "runtime.NumGoroutine") = false) {c : Nat → Int → List Prop} {g : Nat → Int → SV} (hg : ∀ a n, (g a n).bnd none0)
    (h : ∀ a n, Ok (c a n) → Owes P cx (iv a n) N fn [sU a, sI .i64 n] (g a n)) : FnOKg P cx.gl f (specUJ c g) := by
  refine FnOK_of hf hb hn fun args ps sv hs hp => ?_
  unfold specUJ at hs
  split at hs
  · rename_i x y
    split at hs
    · rename_i p a n ha hn'
      simp only [Option.some.injEq, Prod.mk.injEq] at hs
      obtain ⟨rfl, rfl⟩ := hs
      obtain ⟨o1, o2⟩ := Ok.append.1 hp
      refine ⟨hg a n, fun ρ w hzz hgg _ => ?_⟩
      rw [show [x, y].map (SA.conc ρ) = [sU a, sI .i64 n].map (SA.conc ρ) by simp only [List.map_cons, List.map_nil, asU_canon ha o1 ρ, asI_canon hn' ρ]]
      refine (calls_of_owes0 hcx hf hb (args := [sU a, sI .i64 n]) (by
        intro z hz
        simp only [List.mem_cons, List.not_mem_nil, or_false] at hz
        rcases hz with rfl | rfl
        · exact bnd_sU _
        · trivial) (h a n o2) ρ w hzz hgg).mono ?_
      rintro e w' ⟨v, rfl, ⟨ρ', hr⟩, hbl⟩
      exact ⟨v, rfl, rep_none0 (hg a n) hr, hbl⟩
    · cases hs
  · cases hs
/-- Two numbers of 256 bits, under a condition. -/
def specUUC (c : Nat → Nat → List Prop) (g : Nat → Nat → SV) : FSpec := fun args =>
  match args with
  | [x, y] => match asU x, asU y with
    | some (p, a), some (q, b) => some ((p ++ q) ++ c a b, g a b)
    | _, _ => none
  | _ => none
theorem FnOK_UUC {P : Program} {cx : Cx} (hcx : CxOK P cx) {iv : Nat → Nat → List (Nat × Hint)} {N : Nat} {f : Nat} {fn : Func} (hf : P.funcs[f]? = some fn) (hb : fn.body.isSome = true) (hn : (fn.name == "runtime.NumGoroutine") = false) {c : Nat → Nat → List Prop} {g : Nat → Nat → SV} (hg : ∀ a b, (g a b).bnd none0)
    (h : ∀ a b, Ok (c a b) → Owes P cx (iv a b) N fn [sU a, sU b] (g a b)) : FnOKg P cx.gl f (specUUC c g) := by
  refine FnOK_of hf hb hn fun args ps sv hs hp => ?_
  unfold specUUC at hs
  split at hs
  · rename_i x y
    split at hs
    · rename_i p a q b ha hb'
      simp only [Option.some.injEq, Prod.mk.injEq] at hs
      obtain ⟨rfl, rfl⟩ := hs
      obtain ⟨o12, o3⟩ := Ok.append.1 hp
      obtain ⟨o1, o2⟩ := Ok.append.1 o12
      refine ⟨hg a b, fun ρ w hzz hgg _ => ?_⟩
      rw [show [x, y].map (SA.conc ρ) = [sU a, sU b].map (SA.conc ρ) by simp only [List.map_cons, List.map_nil, asU_canon ha o1 ρ, asU_canon hb' o2 ρ]]
      refine (calls_of_owes0 hcx hf hb (args := [sU a, sU b]) (by
        intro z hz
        simp only [List.mem_cons, List.not_mem_nil, or_false] at hz
        rcases hz with rfl | rfl <;> exact bnd_sU _) (h a b o3) ρ w hzz hgg).mono ?_
      rintro e w' ⟨v, rfl, ⟨ρ', hr⟩, hbl⟩
      exact ⟨v, rfl, rep_none0 (hg a b) hr, hbl⟩
    · cases hs
  · cases hs
/-- A number, a word, a number, under a condition. -/
def specUWU (c : Nat → Int → Nat → List Prop) (g : Nat → Int → Nat → SV) : FSpec := fun args =>
  match args with
  | [x, y, z] => match asU x, asI y, asU z with
    | some (p, a), some (.u64, n), some (q, b) => some ((p ++ q) ++ c a n b, g a n b)
    | _, _, _ => none
  | _ => none
theorem FnOK_UWU {P : Program} {cx : Cx} (hcx : CxOK P cx) {iv : Nat → Int → Nat → List (Nat × Hint)} {N : Nat} {f : Nat} {fn : Func} (hf : P.funcs[f]? = some fn) (hb : fn.body.isSome = true) (hn : (fn.name == "runtime.NumGoroutine") = false) {c : Nat → Int → Nat → List Prop} {g : Nat → Int → Nat → SV} (hg : ∀ a n b, (g a n b).bnd none0)
    (h : ∀ a n b, Ok (c a n b) → Owes P cx (iv a n b) N fn [sU a, sI .u64 n, sU b] (g a n b)) : FnOKg P cx.gl f (specUWU c g) := by
  refine FnOK_of hf hb hn fun args ps sv hs hp => ?_
  unfold specUWU at hs
  split at hs
  · rename_i x y z
    split at hs
    · rename_i p a n q b ha hn' hb'
      simp only [Option.some.injEq, Prod.mk.injEq] at hs
      obtain ⟨rfl, rfl⟩ := hs
      obtain ⟨o12, o3⟩ := Ok.append.1 hp
      obtain ⟨o1, o2⟩ := Ok.append.1 o12
      refine ⟨hg a n b, fun ρ w hzz hgg _ => ?_⟩
      rw [show [x, y, z].map (SA.conc ρ) = [sU a, sI .u64 n, sU b].map (SA.conc ρ) by simp only [List.map_cons, List.map_nil, asU_canon ha o1 ρ, asI_canon hn' ρ, asU_canon hb' o2 ρ]]
      refine (calls_of_owes0 hcx hf hb (args := [sU a, sI .u64 n, sU b]) (by
        intro z hz
        simp only [List.mem_cons, List.not_mem_nil, or_false] at hz
        rcases hz with rfl | rfl | rfl
        · exact bnd_sU _
        · trivial
        · exact bnd_sU _) (h a n b o3) ρ w hzz hgg).mono ?_
      rintro e w' ⟨v, rfl, ⟨ρ', hr⟩, hbl⟩
      exact ⟨v, rfl, rep_none0 (hg a n b) hr, hbl⟩
    · cases hs
  · cases hs
end Go.Sx
end

section
/-
  More shapes of cards: three numbers.
-/
namespace Go.Sx
open Go.RowKit

end Go.Sx
end

section
/-
  Shapes of cards of functions that may call such as read or answer slices.
-/
namespace Go.Sx
open Go.RowKit
section
variable {P : Program} {cx : Cx} {sl : List (Nat × SSpec)} {f : Nat} {fn : Func}
theorem FnOKV_UU (hcx : CxOK P cx) (hsl : ∀ p ∈ sl, FnOKs P cx.gl p.1 p.2) (hf : P.funcs[f]? = some fn) (hb : fn.body.isSome = true) (hn : (fn.name == "runtime.NumGoroutine") = false) {g : Nat → Nat → SV} {iv : Nat → Nat → List (Nat × Hint)} {N : Nat} (hg : ∀ a b, (g a b).bnd none0)
    (h : ∀ a b, OwesV P cx sl (iv a b) N fn [sU a, sU b] (g a b)) : FnOKg P cx.gl f (specUU g) := by
  refine FnOK_owesV hcx hsl hf hb hn fun args ps sv hs hp => ?_
  unfold specUU at hs
  split at hs
  case h_2 => cases hs
  rename_i x y
  split at hs
  case h_2 => cases hs
  rename_i p a q b ha hb'
  simp only [Option.some.injEq, Prod.mk.injEq] at hs
  obtain ⟨rfl, rfl⟩ := hs
  obtain ⟨o1, o2⟩ := Ok.append.1 hp
  refine ⟨iv a b, N, [sU a, sU b], fun ρ => by simp only [List.map_cons, List.map_nil, asU_canon ha o1 ρ, asU_canon hb' o2 ρ], fun fz _ z hz => ?_, hg a b, h a b⟩
  simp only [List.mem_cons, List.not_mem_nil, or_false] at hz
  rcases hz with rfl | rfl
  · exact bnd_Un a
  · exact bnd_Un b
end
end Go.Sx
end

section
/-
  The reference's rows of digits: cards.
-/
namespace Go.Proofs.Ytbjdchpncbgpnaa
open Go Go.Sx Go.RowKit

theorem cx_none : CxOK Try.prog .none := fun p hp => by cases hp
theorem cx_R : CxOK Try.prog cxR := fun p hp => by
  simp only [cxR, markR, List.mem_cons, List.not_mem_nil, or_false] at hp
  subst hp
  exact fun args ps sv hs => by cases hs
theorem sl_nil : ∀ p ∈ ([] : List (Nat × SSpec)), FnOKs Try.prog [] p.1 p.2 := fun p hp => by cases hp
theorem closed_s {n : Nat} {g : Nat → Int} : ∀ x ∈ [RS.s n .u64 g], x.closed := fun x hx => by
  simp only [List.mem_singleton] at hx
  subst hx
  trivial
theorem card_dOf : FnOKs Try.prog [] 41 (specUR ofR) :=
  FnOKs_UR (iv := fun _ => []) cx_none sl_nil Try.func41 (by kernel_rfl) (by kernel_rfl) (fun _ => closed_s) ok_dOf
theorem card_dPlus : FnOKs Try.prog [] 40 (specDD false dg2C plusR) :=
  FnOKs_DD (iv := fun a n c f b m d h => [(4, .inv1 (invPlus a n c f b m d h (PlusP (vn n f) (vn m h))))]) cx_R sl_nil Try.func40 (by kernel_rfl) (by kernel_rfl) (fun _ _ _ _ => closed_s) fun a n c f b m d h ⟨h1, h2, h3, h4, _⟩ => ok_dPlus a n c f b m d h h1 h2 h3 h4
theorem card_dTimes : FnOKs Try.prog [] 52 (specDD false dg2C timesR) :=
  FnOKs_DD (iv := fun a n c f b m d h => [(3, .inv (invTi a n c f b m d h (TimesP (vn n f) (vn m h) n m))), (7, .invR (invTj a n c f b m d h (TimesQ (vn n f) (vn m h) n m)) fun y z => z.1 = y.1)]) cx_R sl_nil Try.func52 (by kernel_rfl) (by kernel_rfl) (fun _ _ _ _ => closed_s) fun a n c f b m d h ⟨h1, h2, h3, h4, _⟩ => ok_dTimes a n c f b m d h h1 h2 h3 h4
theorem card_dCompare : FnOKs Try.prog [] 42 (specDD false dg2C cmpR) :=
  FnOKs_DD (iv := fun a n c f b m d h => [(2, .inv (invCmp a n c f b m d h fun k => vn n f / 4294967296 ^ k = vn m h / 4294967296 ^ k))]) cx_R sl_nil Try.func42 (by kernel_rfl) (by kernel_rfl) (fun _ _ _ _ x hx => by simp only [cmpR, List.mem_singleton] at hx; subst hx; trivial) fun a n c f b m d h ⟨h1, h2, h3, h4, _⟩ => ok_compare a n c f b m d h h1 h2 h3 h4
theorem card_dLess : FnOKs Try.prog [] 44 (specDD false lessC lessR) :=
  FnOKs_DD (iv := fun a n c f b m d h => [(4, .inv (invLess b m d h n (LessP (vn n f) (vn m h) n)))]) cx_R sl_nil Try.func44 (by kernel_rfl) (by kernel_rfl) (fun _ _ _ _ => closed_s) fun a n c f b m d h ⟨h1, h2, h3, h4, h5, _⟩ => ok_dLess a n c f b m d h h1 h2 h3 h4 h5
theorem card_dShorn : FnOKs Try.prog [] 48 (specD true dgsC shornR) :=
  FnOKs_D (iv := fun a n c f => [(1, .inv (invShorn f fun k => k ≤ n ∧ vn n f < 4294967296 ^ k))]) cx_R sl_nil Try.func48 (by kernel_rfl) (by kernel_rfl) (fun _ _ => closed_s) fun a n c f ⟨h1, h2, _⟩ => ok_shorn a n c f h1 h2
theorem sl_shorn : ∀ p ∈ slShorn, FnOKs Try.prog [] p.1 p.2 := fun p hp => by
  simp only [slShorn, List.mem_cons, List.not_mem_nil, or_false] at hp
  subst hp
  exact card_dShorn
theorem card_dSmall : FnOKs Try.prog [] 49 (specD false dgsC smallR) :=
  FnOKs_D (iv := fun _ _ _ _ => []) cx_R sl_shorn Try.func49 (by kernel_rfl) (by kernel_rfl) (fun _ _ x hx => by simp only [smallR, List.mem_cons, List.not_mem_nil, or_false] at hx; rcases hx with rfl | rfl <;> trivial) fun a n c f ⟨h1, h2, _⟩ => ok_small a n c f h1 h2
theorem card_dWide : FnOKs Try.prog [] 39 (specD false dgsC wideR) :=
  FnOKs_D (iv := fun a n c f => [(4, .inv (invWide a n c f (fun y => vn n f % 4294967296 ^ min y 8) (fun y => decide (M256 ≤ vn n f % 4294967296 ^ y))))]) cx_R sl_nil Try.func39 (by kernel_rfl) (by kernel_rfl) (fun _ _ x hx => by
    simp only [wideR, List.mem_cons, List.not_mem_nil, or_false] at hx
    rcases hx with rfl | rfl
    · exact bnd_Un _
    · trivial) fun a n c f ⟨h1, h2, _⟩ => ok_wide a n c f h1 h2
theorem sl_wide : ∀ p ∈ slWide, FnOKs Try.prog [] p.1 p.2 := fun p hp => by
  simp only [slWide, List.mem_cons, List.not_mem_nil, or_false] at hp
  subst hp
  exact card_dWide
theorem card_dCut : FnOKs Try.prog [] 43 (specD false dgsC cutR) :=
  FnOKs_D (iv := fun _ _ _ _ => []) cx_R sl_wide Try.func43 (by kernel_rfl) (by kernel_rfl) (fun _ _ x hx => by simp only [cutR, List.mem_singleton] at hx; subst hx; exact bnd_Un _) fun a n c f ⟨h1, h2, _⟩ => ok_cut a n c f h1 h2
theorem sl_dg : ∀ p ∈ slDg, FnOKs Try.prog [] p.1 p.2 := fun p hp => by
  simp only [slDg, List.mem_cons, List.not_mem_nil, or_false] at hp
  rcases hp with rfl | rfl | rfl | rfl | rfl | rfl | rfl | rfl | rfl
  · exact card_dOf
  · exact card_dPlus
  · exact card_dTimes
  · exact card_dCompare
  · exact card_dLess
  · exact card_dShorn
  · exact card_dSmall
  · exact card_dWide
  · exact card_dCut
theorem card_dDivided : FnOKs Try.prog [] 46 (specDD true dvdC dvdR) :=
  FnOKs_DD (iv := fun a n c f b m d h => [(6, .inv (invD1 a n c f b m d h (D1P (vn n f) (vn m h) n))), (13, .inv (invD2 a n c f b m d h (D2P (vn n f) (vn m h) n))), (15, .cut (cutD a n c f b m d h (DcP (vn n f) (vn m h) n)) (fun y z => z.1 = y.1)), (17, .invR (invD3 a n c f b m d h (D3P (vn n f) (vn m h) n)) (fun y z => z.1 = y.1))]) cx_R sl_dg Try.func46 (by kernel_rfl) (by kernel_rfl) (fun _ _ _ _ x hx => by simp only [dvdR, List.mem_cons, List.not_mem_nil, or_false] at hx; rcases hx with rfl | rfl <;> trivial) fun a n c f b m d h ⟨h1, h2, h3, h4, h5, _⟩ => ok_divided a n c f b m d h h1 h2 h3 h4 h5
/-- All of them. -/
def slAll : List (Nat × SSpec) := (46, specDD true dvdC dvdR) :: slDg
theorem sl_all : ∀ p ∈ slAll, FnOKs Try.prog [] p.1 p.2 := fun p hp => by
  rcases List.mem_cons.1 hp with rfl | hp
  · exact card_dDivided
  · exact sl_dg p hp
end Go.Proofs.Ytbjdchpncbgpnaa
end

section
/-
  The reference's wide numbers, and those by a modulus: reckoned by the kernel. (Laid by program.)
-/
namespace Go.Proofs.Ytbjdchpncbgpnaa
open Go Go.Sx Go.RowKit
set_option maxRecDepth 100000
-- VC vc_refQuo HASH 49047a6f31275a94
theorem vc_refQuo (a b : Nat) (r : SV) (q s : Nat) (e : Int) :
    OwesV Try.prog .none slAll [] 4 Try.f18 [sU a, sU b] (.tup [sU q, sU s, sI .i64 e]) =
    (let x1 : Nat := b % Go.Sx.M256; let x2 : Nat := q % Go.Sx.M256; let x3 : Nat := s % Go.Sx.M256; let x4 : Nat := Go.Sx.vn (8 : Nat) fun (i : Nat) => Go.Sx.dg x1 i; let x5 : Nat := Go.Sx.vn (8 : Nat) fun (i : Nat) => Go.Sx.dg (a % Go.Sx.M256) i; let x6 : Nat := Go.Sx.remL x5 x4 (8 : Nat); let x7 : Nat := Go.Sx.vn (8 : Nat) fun (i : Nat) => Go.Sx.intsC (Go.Sx.SC.val (Go.Value.int Go.IntKind.u64 (Go.Sx.dg (a % Go.Sx.M256) i))); let x8 : Nat := Go.Sx.vn (8 : Nat) fun (i : Nat) => Go.Sx.intsC (Go.Sx.SC.val (Go.Value.int Go.IntKind.u64 (Go.Sx.dg x1 i))); (Go.Sx.conj [x1 == (0 : Nat)] = Bool.true → ((0 : Nat) = x2 ∧ True) ∧ ((0 : Nat) = x3 ∧ True) ∧ (7 : Int) = e) ∧ (Go.Sx.conj [x1 == (0 : Nat)] = Bool.false → ((∀ (a_2 : Option Go.Addr) (cap : Nat), (a_2 = Option.none → (8 : Nat) = (0 : Nat) ∧ cap = (0 : Nat)) → (8 : Nat) ≤ cap → ∀ (a_5 : Option Go.Addr) (cap : Nat), (a_5 = Option.none → (8 : Nat) = (0 : Nat) ∧ cap = (0 : Nat)) → (8 : Nat) ≤ cap → (∀ (i : Nat), True) ∧ (∀ (i : Nat), True) ∧ (Go.Sx.dgs (8 : Nat) fun (i : Nat) => Go.Sx.intsC (Go.Sx.SC.val (Go.Value.int Go.IntKind.u64 (Go.Sx.dg (a % Go.Sx.M256) i)))) ∧ (8 : Nat) ≤ (1000 : Nat) ∧ (Go.Sx.dgs (8 : Nat) fun (i : Nat) => Go.Sx.intsC (Go.Sx.SC.val (Go.Value.int Go.IntKind.u64 (Go.Sx.dg x1 i)))) ∧ (8 : Nat) ≤ (900 : Nat) ∧ x4 ≠ (0 : Nat) ∧ ∀ (a : Option Go.Addr) (cap : Nat), (a = Option.none → (8 : Nat) = (0 : Nat) ∧ cap = (0 : Nat)) → (8 : Nat) ≤ cap → ∀ (a : Option Go.Addr) (cap : Nat), (a = Option.none → x6 = (0 : Nat) ∧ cap = (0 : Nat)) → x6 ≤ cap → (((∀ (i : Nat), True) ∧ (Go.Sx.dgs (8 : Nat) fun (i : Nat) => Go.Sx.intsC (Go.Sx.SC.val (Go.Value.int Go.IntKind.u64 (Go.Sx.dg (x7 / x8) i)))) ∧ (8 : Nat) ≤ (1000 : Nat) ∧ (∀ (i : Nat), True) ∧ (Go.Sx.dgs (Go.Sx.remL x7 x8 (8 : Nat)) fun (i : Nat) => Go.Sx.intsC (Go.Sx.SC.val (Go.Value.int Go.IntKind.u64 (Go.Sx.dg (x7 % x8) i)))) ∧ x6 ≤ (1000 : Nat) ∧ ((Go.Sx.vn (8 : Nat) fun (i : Nat) => Go.Sx.dg (x5 / x4) i) % Go.Sx.M256 % Go.Sx.M256 = x2 ∧ True) ∧ ((Go.Sx.vn x6 fun (i : Nat) => Go.Sx.dg (x5 % x4) i) % Go.Sx.M256 % Go.Sx.M256 = x3 ∧ True) ∧ (0 : Int) = e) ∧ (∀ (i : Nat), True) ∧ (Go.Sx.dgs (8 : Nat) fun (i : Nat) => Go.Sx.intsC (Go.Sx.SC.val (Go.Value.int Go.IntKind.u64 (Go.Sx.dg (x7 / x8) i)))) ∧ (8 : Nat) ≤ (1000 : Nat) ∧ (∀ (i : Nat), True) ∧ (Go.Sx.dgs (Go.Sx.remL x7 x8 (8 : Nat)) fun (i : Nat) => Go.Sx.intsC (Go.Sx.SC.val (Go.Value.int Go.IntKind.u64 (Go.Sx.dg (x7 % x8) i)))) ∧ x6 ≤ (1000 : Nat) ∧ ((Go.Sx.vn (8 : Nat) fun (i : Nat) => Go.Sx.dg (x5 / x4) i) % Go.Sx.M256 % Go.Sx.M256 = x2 ∧ True) ∧ ((Go.Sx.vn x6 fun (i : Nat) => Go.Sx.dg (x5 % x4) i) % Go.Sx.M256 % Go.Sx.M256 = x3 ∧ True) ∧ (0 : Int) = e) ∧ (∀ (i : Nat), True) ∧ (Go.Sx.dgs (8 : Nat) fun (i : Nat) => Go.Sx.intsC (Go.Sx.SC.val (Go.Value.int Go.IntKind.u64 (Go.Sx.dg (x7 / x8) i)))) ∧ (8 : Nat) ≤ (1000 : Nat) ∧ (∀ (i : Nat), True) ∧ (Go.Sx.dgs (Go.Sx.remL x7 x8 (8 : Nat)) fun (i : Nat) => Go.Sx.intsC (Go.Sx.SC.val (Go.Value.int Go.IntKind.u64 (Go.Sx.dg (x7 % x8) i)))) ∧ x6 ≤ (1000 : Nat) ∧ ((Go.Sx.vn (8 : Nat) fun (i : Nat) => Go.Sx.dg (x5 / x4) i) % Go.Sx.M256 % Go.Sx.M256 = x2 ∧ True) ∧ ((Go.Sx.vn x6 fun (i : Nat) => Go.Sx.dg (x5 % x4) i) % Go.Sx.M256 % Go.Sx.M256 = x3 ∧ True) ∧ (0 : Int) = e) ∧ ∀ (a_2 : Option Go.Addr) (cap : Nat), (a_2 = Option.none → (8 : Nat) = (0 : Nat) ∧ cap = (0 : Nat)) → (8 : Nat) ≤ cap → ∀ (a_5 : Option Go.Addr) (cap : Nat), (a_5 = Option.none → (8 : Nat) = (0 : Nat) ∧ cap = (0 : Nat)) → (8 : Nat) ≤ cap → (∀ (i : Nat), True) ∧ (∀ (i : Nat), True) ∧ (Go.Sx.dgs (8 : Nat) fun (i : Nat) => Go.Sx.intsC (Go.Sx.SC.val (Go.Value.int Go.IntKind.u64 (Go.Sx.dg (a % Go.Sx.M256) i)))) ∧ (8 : Nat) ≤ (1000 : Nat) ∧ (Go.Sx.dgs (8 : Nat) fun (i : Nat) => Go.Sx.intsC (Go.Sx.SC.val (Go.Value.int Go.IntKind.u64 (Go.Sx.dg x1 i)))) ∧ (8 : Nat) ≤ (900 : Nat) ∧ x4 ≠ (0 : Nat) ∧ ∀ (a : Option Go.Addr) (cap : Nat), (a = Option.none → (8 : Nat) = (0 : Nat) ∧ cap = (0 : Nat)) → (8 : Nat) ≤ cap → ∀ (a : Option Go.Addr) (cap : Nat), (a = Option.none → x6 = (0 : Nat) ∧ cap = (0 : Nat)) → x6 ≤ cap → (((∀ (i : Nat), True) ∧ (Go.Sx.dgs (8 : Nat) fun (i : Nat) => Go.Sx.intsC (Go.Sx.SC.val (Go.Value.int Go.IntKind.u64 (Go.Sx.dg (x7 / x8) i)))) ∧ (8 : Nat) ≤ (1000 : Nat) ∧ (∀ (i : Nat), True) ∧ (Go.Sx.dgs (Go.Sx.remL x7 x8 (8 : Nat)) fun (i : Nat) => Go.Sx.intsC (Go.Sx.SC.val (Go.Value.int Go.IntKind.u64 (Go.Sx.dg (x7 % x8) i)))) ∧ x6 ≤ (1000 : Nat) ∧ ((Go.Sx.vn (8 : Nat) fun (i : Nat) => Go.Sx.dg (x5 / x4) i) % Go.Sx.M256 % Go.Sx.M256 = x2 ∧ True) ∧ ((Go.Sx.vn x6 fun (i : Nat) => Go.Sx.dg (x5 % x4) i) % Go.Sx.M256 % Go.Sx.M256 = x3 ∧ True) ∧ (0 : Int) = e) ∧ (∀ (i : Nat), True) ∧ (Go.Sx.dgs (8 : Nat) fun (i : Nat) => Go.Sx.intsC (Go.Sx.SC.val (Go.Value.int Go.IntKind.u64 (Go.Sx.dg (x7 / x8) i)))) ∧ (8 : Nat) ≤ (1000 : Nat) ∧ (∀ (i : Nat), True) ∧ (Go.Sx.dgs (Go.Sx.remL x7 x8 (8 : Nat)) fun (i : Nat) => Go.Sx.intsC (Go.Sx.SC.val (Go.Value.int Go.IntKind.u64 (Go.Sx.dg (x7 % x8) i)))) ∧ x6 ≤ (1000 : Nat) ∧ ((Go.Sx.vn (8 : Nat) fun (i : Nat) => Go.Sx.dg (x5 / x4) i) % Go.Sx.M256 % Go.Sx.M256 = x2 ∧ True) ∧ ((Go.Sx.vn x6 fun (i : Nat) => Go.Sx.dg (x5 % x4) i) % Go.Sx.M256 % Go.Sx.M256 = x3 ∧ True) ∧ (0 : Int) = e) ∧ (∀ (i : Nat), True) ∧ (Go.Sx.dgs (8 : Nat) fun (i : Nat) => Go.Sx.intsC (Go.Sx.SC.val (Go.Value.int Go.IntKind.u64 (Go.Sx.dg (x7 / x8) i)))) ∧ (8 : Nat) ≤ (1000 : Nat) ∧ (∀ (i : Nat), True) ∧ (Go.Sx.dgs (Go.Sx.remL x7 x8 (8 : Nat)) fun (i : Nat) => Go.Sx.intsC (Go.Sx.SC.val (Go.Value.int Go.IntKind.u64 (Go.Sx.dg (x7 % x8) i)))) ∧ x6 ≤ (1000 : Nat) ∧ ((Go.Sx.vn (8 : Nat) fun (i : Nat) => Go.Sx.dg (x5 / x4) i) % Go.Sx.M256 % Go.Sx.M256 = x2 ∧ True) ∧ ((Go.Sx.vn x6 fun (i : Nat) => Go.Sx.dg (x5 % x4) i) % Go.Sx.M256 % Go.Sx.M256 = x3 ∧ True) ∧ (0 : Int) = e) ∧ ∀ (a_2 : Option Go.Addr) (cap : Nat), (a_2 = Option.none → (8 : Nat) = (0 : Nat) ∧ cap = (0 : Nat)) → (8 : Nat) ≤ cap → ∀ (a_5 : Option Go.Addr) (cap : Nat), (a_5 = Option.none → (8 : Nat) = (0 : Nat) ∧ cap = (0 : Nat)) → (8 : Nat) ≤ cap → (∀ (i : Nat), True) ∧ (∀ (i : Nat), True) ∧ (Go.Sx.dgs (8 : Nat) fun (i : Nat) => Go.Sx.intsC (Go.Sx.SC.val (Go.Value.int Go.IntKind.u64 (Go.Sx.dg (a % Go.Sx.M256) i)))) ∧ (8 : Nat) ≤ (1000 : Nat) ∧ (Go.Sx.dgs (8 : Nat) fun (i : Nat) => Go.Sx.intsC (Go.Sx.SC.val (Go.Value.int Go.IntKind.u64 (Go.Sx.dg x1 i)))) ∧ (8 : Nat) ≤ (900 : Nat) ∧ x4 ≠ (0 : Nat) ∧ ∀ (a : Option Go.Addr) (cap : Nat), (a = Option.none → (8 : Nat) = (0 : Nat) ∧ cap = (0 : Nat)) → (8 : Nat) ≤ cap → ∀ (a : Option Go.Addr) (cap : Nat), (a = Option.none → x6 = (0 : Nat) ∧ cap = (0 : Nat)) → x6 ≤ cap → (((∀ (i : Nat), True) ∧ (Go.Sx.dgs (8 : Nat) fun (i : Nat) => Go.Sx.intsC (Go.Sx.SC.val (Go.Value.int Go.IntKind.u64 (Go.Sx.dg (x7 / x8) i)))) ∧ (8 : Nat) ≤ (1000 : Nat) ∧ (∀ (i : Nat), True) ∧ (Go.Sx.dgs (Go.Sx.remL x7 x8 (8 : Nat)) fun (i : Nat) => Go.Sx.intsC (Go.Sx.SC.val (Go.Value.int Go.IntKind.u64 (Go.Sx.dg (x7 % x8) i)))) ∧ x6 ≤ (1000 : Nat) ∧ ((Go.Sx.vn (8 : Nat) fun (i : Nat) => Go.Sx.dg (x5 / x4) i) % Go.Sx.M256 % Go.Sx.M256 = x2 ∧ True) ∧ ((Go.Sx.vn x6 fun (i : Nat) => Go.Sx.dg (x5 % x4) i) % Go.Sx.M256 % Go.Sx.M256 = x3 ∧ True) ∧ (0 : Int) = e) ∧ (∀ (i : Nat), True) ∧ (Go.Sx.dgs (8 : Nat) fun (i : Nat) => Go.Sx.intsC (Go.Sx.SC.val (Go.Value.int Go.IntKind.u64 (Go.Sx.dg (x7 / x8) i)))) ∧ (8 : Nat) ≤ (1000 : Nat) ∧ (∀ (i : Nat), True) ∧ (Go.Sx.dgs (Go.Sx.remL x7 x8 (8 : Nat)) fun (i : Nat) => Go.Sx.intsC (Go.Sx.SC.val (Go.Value.int Go.IntKind.u64 (Go.Sx.dg (x7 % x8) i)))) ∧ x6 ≤ (1000 : Nat) ∧ ((Go.Sx.vn (8 : Nat) fun (i : Nat) => Go.Sx.dg (x5 / x4) i) % Go.Sx.M256 % Go.Sx.M256 = x2 ∧ True) ∧ ((Go.Sx.vn x6 fun (i : Nat) => Go.Sx.dg (x5 % x4) i) % Go.Sx.M256 % Go.Sx.M256 = x3 ∧ True) ∧ (0 : Int) = e) ∧ (∀ (i : Nat), True) ∧ (Go.Sx.dgs (8 : Nat) fun (i : Nat) => Go.Sx.intsC (Go.Sx.SC.val (Go.Value.int Go.IntKind.u64 (Go.Sx.dg (x7 / x8) i)))) ∧ (8 : Nat) ≤ (1000 : Nat) ∧ (∀ (i : Nat), True) ∧ (Go.Sx.dgs (Go.Sx.remL x7 x8 (8 : Nat)) fun (i : Nat) => Go.Sx.intsC (Go.Sx.SC.val (Go.Value.int Go.IntKind.u64 (Go.Sx.dg (x7 % x8) i)))) ∧ x6 ≤ (1000 : Nat) ∧ ((Go.Sx.vn (8 : Nat) fun (i : Nat) => Go.Sx.dg (x5 / x4) i) % Go.Sx.M256 % Go.Sx.M256 = x2 ∧ True) ∧ ((Go.Sx.vn x6 fun (i : Nat) => Go.Sx.dg (x5 % x4) i) % Go.Sx.M256 % Go.Sx.M256 = x3 ∧ True) ∧ (0 : Int) = e)) := by kernel_rfl
-- END VC
end Go.Proofs.Ytbjdchpncbgpnaa
end

section
/-
  The reference's wide numbers, and those by a modulus.
-/
namespace Go.Proofs.Ytbjdchpncbgpnaa
open Go Go.Sx Go.RowKit

theorem vn8 {X : Nat} (h : X < M256) : vn 8 (fun i => dg X i) = X := vn_dg' (n := 8) h
theorem vnk {k X : Nat} (h : X < 4294967296 ^ k) : vn k (fun i => dg X i) = X := vn_dg' h
theorem modM (a : Nat) : a % M256 < M256 := Nat.mod_lt _ (by decide)
end Go.Proofs.Ytbjdchpncbgpnaa
end

section
/-
  The reference's quotients, and numbers by a modulus.
-/
namespace Go.Proofs.Ytbjdchpncbgpnaa
open Go Go.Sx Go.RowKit

theorem remL_lt {X Y n : Nat} (hX : X < 4294967296 ^ n) (hY : 0 < Y) : X % Y < 4294967296 ^ remL X Y n := by
  unfold remL
  have hm := Nat.mod_lt X hY
  by_cases h : Y < 4294967296
  · rw [if_pos h]; omega
  · rw [if_neg h]
    by_cases h0 : n = 0
    · subst h0
      rw [if_pos rfl]
      have : X = 0 := by simpa using hX
      subst this
      rw [Nat.zero_mod]; decide
    · rw [if_neg h0]
      obtain ⟨_, e⟩ := quo_digit (X := X) (k := 0) hY
      rw [Nat.pow_zero, Nat.div_one, Nat.zero_add, Nat.pow_one] at e
      have hr := dg_range X 0
      have hl := lenDg_lt (X / 4294967296 % Y)
      rw [e, Nat.add_comm 1, Nat.pow_succ]
      refine Nat.lt_of_le_of_lt (Nat.mod_le _ _) ?_
      have : (X / 4294967296 % Y + 1) * 4294967296 ≤ 4294967296 ^ lenDg (X / 4294967296 % Y) * 4294967296 := Nat.mul_le_mul_right _ hl
      omega
theorem remL_le {X Y n : Nat} (hY : 0 < Y) (hYM : Y < M256) : remL X Y n ≤ 9 := by
  unfold remL
  split
  · decide
  · split
    · decide
    · have : lenDg (X / 4294967296 % Y) ≤ 8 := lenDg_le (Nat.lt_trans (Nat.mod_lt _ hY) hYM)
      omega
theorem eq0_conj {x : Nat} : conj [x == 0] = (x == 0) := by simp [conj]
theorem ok_refQuo (a b : Nat) : OwesV Try.prog .none slAll [] 4 Try.f18 [sU a, sU b] (.tup [sU (if b % M256 = 0 then 0 else a % M256 / (b % M256)), sU (if b % M256 = 0 then 0 else a % M256 % (b % M256)), sI .i64 (if b % M256 = 0 then 7 else 0)]) := by
  obtain ⟨q, hq⟩ : ∃ q, q = (if b % M256 = 0 then 0 else a % M256 / (b % M256)) := ⟨_, rfl⟩
  obtain ⟨s, hs⟩ : ∃ s, s = (if b % M256 = 0 then 0 else a % M256 % (b % M256)) := ⟨_, rfl⟩
  obtain ⟨e, he⟩ : ∃ e : Int, e = (if b % M256 = 0 then 7 else 0) := ⟨_, rfl⟩
  rw [← hq, ← hs, ← he, vc_refQuo _ _ (.tup [])]
  intro x1 x2 x3 x4 x5 x6 x7 x8
  have hb : x1 < M256 := modM b
  have ha : a % M256 < M256 := modM a
  have E1 : x1 = b % M256 := rfl
  have E4 : x4 = x1 := vn8 hb
  have E5 : x5 = a % M256 := vn8 ha
  have E7 : x7 = a % M256 := vn8 ha
  have E8 : x8 = x1 := vn8 hb
  have E6 : x6 = remL x5 x4 8 := rfl
  have T : ∀ i : Nat, True := fun _ => trivial
  have hM : 0 < M256 := by decide
  have K0 : conj [x1 == 0] = true → ((0 = x2 ∧ True) ∧ (0 = x3 ∧ True) ∧ (7 : Int) = e) := fun h => by
    rw [eq0_conj] at h
    have h := eq_of_beq h
    rw [← E1, if_pos h] at hq hs he
    have e2 : x2 = q % M256 := rfl
    have e3 : x3 = s % M256 := rfl
    rw [e2, e3, hq, hs, he, Nat.zero_mod]
    exact ⟨⟨rfl, trivial⟩, ⟨rfl, trivial⟩, rfl⟩
  have N0 : conj [x1 == 0] = false → x1 ≠ 0 := fun h => by
    rw [eq0_conj] at h
    exact ne_of_beq_false h
  have K1 : conj [x1 == 0] = false → x4 ≠ 0 := fun h => by rw [E4]; exact N0 h
  have K2 : conj [x1 == 0] = false → x6 ≤ 1000 := fun h => by
    have h := N0 h
    have := remL_le (X := x5) (n := 8) (show 0 < x4 by omega) (by omega)
    omega
  have F : conj [x1 == 0] = false → ((vn 8 fun i => dg (x5 / x4) i) % M256 % M256 = x2 ∧ True) ∧ ((vn x6 fun i => dg (x5 % x4) i) % M256 % M256 = x3 ∧ True) ∧ (0 : Int) = e := fun h => by
    have h := N0 h
    rw [← E1, if_neg h] at hq hs he
    have e2 : x2 = q % M256 := rfl
    have e3 : x3 = s % M256 := rfl
    have hx5 : x5 < 4294967296 ^ 8 := by rw [E5]; exact ha
    rw [e2, e3, he, E6, vnk (remL_lt hx5 (by omega)), vn8 (Nat.lt_of_le_of_lt (Nat.div_le_self _ _) (by omega)), hq, hs, E4, E5, Nat.mod_mod, Nat.mod_mod]
    exact ⟨⟨rfl, trivial⟩, ⟨rfl, trivial⟩, rfl⟩
  clear N0 E1 E4 E5 E7 E8 E6 hq hs he hM
  clear_value x1 x2 x3 x4 x5 x6 x7 x8
  repeat' (first | exact T | exact K0 (by assumption) | exact K1 (by assumption) | exact K2 (by assumption) | exact F (by assumption) | exact dgs_dg _ _ | exact (show (8 : Nat) ≤ 1000 by decide) | exact (show (8 : Nat) ≤ 900 by decide) | (intro _ _ _ _) | (refine And.intro ?_ ?_) | (intro _))
end Go.Proofs.Ytbjdchpncbgpnaa
end

section
/-
  The reference's numbers by a modulus: sums, differences and products.
-/
namespace Go.Proofs.Ytbjdchpncbgpnaa
open Go Go.Sx Go.RowKit

def quoG (a b : Nat) : SV := .tup [sU (if b % M256 = 0 then 0 else a % M256 / (b % M256)), sU (if b % M256 = 0 then 0 else a % M256 % (b % M256)), sI .i64 (if b % M256 = 0 then 7 else 0)]
theorem card_refQuo : FnOK Try.prog 18 (specUU quoG) :=
  FnOKV_UU (iv := fun _ _ => []) cx_none sl_all Try.func18 (by kernel_rfl) (by kernel_rfl) (fun a b x hx => by
    simp only [List.mem_cons, List.not_mem_nil, or_false] at hx
    rcases hx with rfl | rfl | rfl
    · exact bnd_Un _
    · exact bnd_Un _
    · trivial) ok_refQuo
end Go.Proofs.Ytbjdchpncbgpnaa
end

section
/-
  What the functions of package wide, and of the laws on it, come to: reckoned by the kernel. (Laid by program.)
-/
namespace Go.Proofs.Ytbjdchpncbgpnaa
open Go.Sx
set_option maxRecDepth 100000
def cxPlus : Cx := [(68, specAdd64)]
def cxLess : Cx := [(69, specSub64)]
-- VC vc_plus HASH 178c7781736d42d5
theorem vc_plus (a b : Nat) :
    Owes Try.prog cxPlus [] 100 Try.f37 [sU a, sU b] (plusG a b) =
    ((0 : Int) ≤ Go.Sx.limb a (0 : Nat) ∧ (0 : Int) ≤ Go.Sx.limb b (0 : Nat) ∧ ((0 : Int) ≤ (0 : Int) ∧ (0 : Int) ≤ (1 : Int)) ∧ (0 : Int) ≤ Go.Sx.limb a (1 : Nat) ∧ (0 : Int) ≤ Go.Sx.limb b (1 : Nat) ∧ ((0 : Int) ≤ (Go.Sx.limb a (0 : Nat) + Go.Sx.limb b (0 : Nat) + (0 : Int)) / (18446744073709551616 : Int) ∧ (Go.Sx.limb a (0 : Nat) + Go.Sx.limb b (0 : Nat) + (0 : Int)) / (18446744073709551616 : Int) ≤ (1 : Int)) ∧ (0 : Int) ≤ Go.Sx.limb a (2 : Nat) ∧ (0 : Int) ≤ Go.Sx.limb b (2 : Nat) ∧ ((0 : Int) ≤ (Go.Sx.limb a (1 : Nat) + Go.Sx.limb b (1 : Nat) + (Go.Sx.limb a (0 : Nat) + Go.Sx.limb b (0 : Nat) + (0 : Int)) / (18446744073709551616 : Int)) / (18446744073709551616 : Int) ∧ (Go.Sx.limb a (1 : Nat) + Go.Sx.limb b (1 : Nat) + (Go.Sx.limb a (0 : Nat) + Go.Sx.limb b (0 : Nat) + (0 : Int)) / (18446744073709551616 : Int)) / (18446744073709551616 : Int) ≤ (1 : Int)) ∧ (0 : Int) ≤ Go.Sx.limb a (3 : Nat) ∧ (0 : Int) ≤ Go.Sx.limb b (3 : Nat) ∧ ((0 : Int) ≤ (Go.Sx.limb a (2 : Nat) + Go.Sx.limb b (2 : Nat) + (Go.Sx.limb a (1 : Nat) + Go.Sx.limb b (1 : Nat) + (Go.Sx.limb a (0 : Nat) + Go.Sx.limb b (0 : Nat) + (0 : Int)) / (18446744073709551616 : Int)) / (18446744073709551616 : Int)) / (18446744073709551616 : Int) ∧ (Go.Sx.limb a (2 : Nat) + Go.Sx.limb b (2 : Nat) + (Go.Sx.limb a (1 : Nat) + Go.Sx.limb b (1 : Nat) + (Go.Sx.limb a (0 : Nat) + Go.Sx.limb b (0 : Nat) + (0 : Int)) / (18446744073709551616 : Int)) / (18446744073709551616 : Int)) / (18446744073709551616 : Int) ≤ (1 : Int)) ∧ (((0 : Int) ≤ (Go.Sx.limb a (0 : Nat) + Go.Sx.limb b (0 : Nat) + (0 : Int)) % (18446744073709551616 : Int) ∧ (Go.Sx.limb a (0 : Nat) + Go.Sx.limb b (0 : Nat) + (0 : Int)) % (18446744073709551616 : Int) < (2 : Int) ^ (64 : Nat)) ∧ ((0 : Int) ≤ (Go.Sx.limb a (1 : Nat) + Go.Sx.limb b (1 : Nat) + (Go.Sx.limb a (0 : Nat) + Go.Sx.limb b (0 : Nat) + (0 : Int)) / (18446744073709551616 : Int)) % (18446744073709551616 : Int) ∧ (Go.Sx.limb a (1 : Nat) + Go.Sx.limb b (1 : Nat) + (Go.Sx.limb a (0 : Nat) + Go.Sx.limb b (0 : Nat) + (0 : Int)) / (18446744073709551616 : Int)) % (18446744073709551616 : Int) < (2 : Int) ^ (64 : Nat)) ∧ ((0 : Int) ≤ (Go.Sx.limb a (2 : Nat) + Go.Sx.limb b (2 : Nat) + (Go.Sx.limb a (1 : Nat) + Go.Sx.limb b (1 : Nat) + (Go.Sx.limb a (0 : Nat) + Go.Sx.limb b (0 : Nat) + (0 : Int)) / (18446744073709551616 : Int)) / (18446744073709551616 : Int)) % (18446744073709551616 : Int) ∧ (Go.Sx.limb a (2 : Nat) + Go.Sx.limb b (2 : Nat) + (Go.Sx.limb a (1 : Nat) + Go.Sx.limb b (1 : Nat) + (Go.Sx.limb a (0 : Nat) + Go.Sx.limb b (0 : Nat) + (0 : Int)) / (18446744073709551616 : Int)) / (18446744073709551616 : Int)) % (18446744073709551616 : Int) < (2 : Int) ^ (64 : Nat)) ∧ ((0 : Int) ≤ (Go.Sx.limb a (3 : Nat) + Go.Sx.limb b (3 : Nat) + (Go.Sx.limb a (2 : Nat) + Go.Sx.limb b (2 : Nat) + (Go.Sx.limb a (1 : Nat) + Go.Sx.limb b (1 : Nat) + (Go.Sx.limb a (0 : Nat) + Go.Sx.limb b (0 : Nat) + (0 : Int)) / (18446744073709551616 : Int)) / (18446744073709551616 : Int)) / (18446744073709551616 : Int)) % (18446744073709551616 : Int) ∧ (Go.Sx.limb a (3 : Nat) + Go.Sx.limb b (3 : Nat) + (Go.Sx.limb a (2 : Nat) + Go.Sx.limb b (2 : Nat) + (Go.Sx.limb a (1 : Nat) + Go.Sx.limb b (1 : Nat) + (Go.Sx.limb a (0 : Nat) + Go.Sx.limb b (0 : Nat) + (0 : Int)) / (18446744073709551616 : Int)) / (18446744073709551616 : Int)) / (18446744073709551616 : Int)) % (18446744073709551616 : Int) < (2 : Int) ^ (64 : Nat)) ∧ Go.Sx.join ((Go.Sx.limb a (0 : Nat) + Go.Sx.limb b (0 : Nat) + (0 : Int)) % (18446744073709551616 : Int)) ((Go.Sx.limb a (1 : Nat) + Go.Sx.limb b (1 : Nat) + (Go.Sx.limb a (0 : Nat) + Go.Sx.limb b (0 : Nat) + (0 : Int)) / (18446744073709551616 : Int)) % (18446744073709551616 : Int)) ((Go.Sx.limb a (2 : Nat) + Go.Sx.limb b (2 : Nat) + (Go.Sx.limb a (1 : Nat) + Go.Sx.limb b (1 : Nat) + (Go.Sx.limb a (0 : Nat) + Go.Sx.limb b (0 : Nat) + (0 : Int)) / (18446744073709551616 : Int)) / (18446744073709551616 : Int)) % (18446744073709551616 : Int)) ((Go.Sx.limb a (3 : Nat) + Go.Sx.limb b (3 : Nat) + (Go.Sx.limb a (2 : Nat) + Go.Sx.limb b (2 : Nat) + (Go.Sx.limb a (1 : Nat) + Go.Sx.limb b (1 : Nat) + (Go.Sx.limb a (0 : Nat) + Go.Sx.limb b (0 : Nat) + (0 : Int)) / (18446744073709551616 : Int)) / (18446744073709551616 : Int)) / (18446744073709551616 : Int)) % (18446744073709551616 : Int)) % Go.Sx.M256 = (a + b) % Go.Sx.M256 ∧ True) ∧ (Go.Sx.limb a (3 : Nat) + Go.Sx.limb b (3 : Nat) + (Go.Sx.limb a (2 : Nat) + Go.Sx.limb b (2 : Nat) + (Go.Sx.limb a (1 : Nat) + Go.Sx.limb b (1 : Nat) + (Go.Sx.limb a (0 : Nat) + Go.Sx.limb b (0 : Nat) + (0 : Int)) / (18446744073709551616 : Int)) / (18446744073709551616 : Int)) / (18446744073709551616 : Int)) / (18446744073709551616 : Int) = (↑((a % Go.Sx.M256 + b % Go.Sx.M256) / Go.Sx.M256) : Int)) := by kernel_rfl
-- END VC
-- VC vc_less HASH ad2bd2c1708ef4a5
theorem vc_less (a b : Nat) :
    Owes Try.prog cxLess [] 100 Try.f38 [sU a, sU b] (lessG a b) =
    (((0 : Int) ≤ Go.Sx.limb a (0 : Nat) ∧ Go.Sx.limb a (0 : Nat) < (18446744073709551616 : Int)) ∧ ((0 : Int) ≤ Go.Sx.limb b (0 : Nat) ∧ Go.Sx.limb b (0 : Nat) < (18446744073709551616 : Int)) ∧ ((0 : Int) ≤ (0 : Int) ∧ (0 : Int) ≤ (1 : Int)) ∧ ((0 : Int) ≤ Go.Sx.limb a (1 : Nat) ∧ Go.Sx.limb a (1 : Nat) < (18446744073709551616 : Int)) ∧ ((0 : Int) ≤ Go.Sx.limb b (1 : Nat) ∧ Go.Sx.limb b (1 : Nat) < (18446744073709551616 : Int)) ∧ ((0 : Int) ≤ -((Go.Sx.limb a (0 : Nat) - Go.Sx.limb b (0 : Nat) - (0 : Int)) / (18446744073709551616 : Int)) ∧ -((Go.Sx.limb a (0 : Nat) - Go.Sx.limb b (0 : Nat) - (0 : Int)) / (18446744073709551616 : Int)) ≤ (1 : Int)) ∧ ((0 : Int) ≤ Go.Sx.limb a (2 : Nat) ∧ Go.Sx.limb a (2 : Nat) < (18446744073709551616 : Int)) ∧ ((0 : Int) ≤ Go.Sx.limb b (2 : Nat) ∧ Go.Sx.limb b (2 : Nat) < (18446744073709551616 : Int)) ∧ ((0 : Int) ≤ -((Go.Sx.limb a (1 : Nat) - Go.Sx.limb b (1 : Nat) - -((Go.Sx.limb a (0 : Nat) - Go.Sx.limb b (0 : Nat) - (0 : Int)) / (18446744073709551616 : Int))) / (18446744073709551616 : Int)) ∧ -((Go.Sx.limb a (1 : Nat) - Go.Sx.limb b (1 : Nat) - -((Go.Sx.limb a (0 : Nat) - Go.Sx.limb b (0 : Nat) - (0 : Int)) / (18446744073709551616 : Int))) / (18446744073709551616 : Int)) ≤ (1 : Int)) ∧ ((0 : Int) ≤ Go.Sx.limb a (3 : Nat) ∧ Go.Sx.limb a (3 : Nat) < (18446744073709551616 : Int)) ∧ ((0 : Int) ≤ Go.Sx.limb b (3 : Nat) ∧ Go.Sx.limb b (3 : Nat) < (18446744073709551616 : Int)) ∧ ((0 : Int) ≤ -((Go.Sx.limb a (2 : Nat) - Go.Sx.limb b (2 : Nat) - -((Go.Sx.limb a (1 : Nat) - Go.Sx.limb b (1 : Nat) - -((Go.Sx.limb a (0 : Nat) - Go.Sx.limb b (0 : Nat) - (0 : Int)) / (18446744073709551616 : Int))) / (18446744073709551616 : Int))) / (18446744073709551616 : Int)) ∧ -((Go.Sx.limb a (2 : Nat) - Go.Sx.limb b (2 : Nat) - -((Go.Sx.limb a (1 : Nat) - Go.Sx.limb b (1 : Nat) - -((Go.Sx.limb a (0 : Nat) - Go.Sx.limb b (0 : Nat) - (0 : Int)) / (18446744073709551616 : Int))) / (18446744073709551616 : Int))) / (18446744073709551616 : Int)) ≤ (1 : Int)) ∧ (((0 : Int) ≤ (Go.Sx.limb a (0 : Nat) - Go.Sx.limb b (0 : Nat) - (0 : Int)) % (18446744073709551616 : Int) ∧ (Go.Sx.limb a (0 : Nat) - Go.Sx.limb b (0 : Nat) - (0 : Int)) % (18446744073709551616 : Int) < (2 : Int) ^ (64 : Nat)) ∧ ((0 : Int) ≤ (Go.Sx.limb a (1 : Nat) - Go.Sx.limb b (1 : Nat) - -((Go.Sx.limb a (0 : Nat) - Go.Sx.limb b (0 : Nat) - (0 : Int)) / (18446744073709551616 : Int))) % (18446744073709551616 : Int) ∧ (Go.Sx.limb a (1 : Nat) - Go.Sx.limb b (1 : Nat) - -((Go.Sx.limb a (0 : Nat) - Go.Sx.limb b (0 : Nat) - (0 : Int)) / (18446744073709551616 : Int))) % (18446744073709551616 : Int) < (2 : Int) ^ (64 : Nat)) ∧ ((0 : Int) ≤ (Go.Sx.limb a (2 : Nat) - Go.Sx.limb b (2 : Nat) - -((Go.Sx.limb a (1 : Nat) - Go.Sx.limb b (1 : Nat) - -((Go.Sx.limb a (0 : Nat) - Go.Sx.limb b (0 : Nat) - (0 : Int)) / (18446744073709551616 : Int))) / (18446744073709551616 : Int))) % (18446744073709551616 : Int) ∧ (Go.Sx.limb a (2 : Nat) - Go.Sx.limb b (2 : Nat) - -((Go.Sx.limb a (1 : Nat) - Go.Sx.limb b (1 : Nat) - -((Go.Sx.limb a (0 : Nat) - Go.Sx.limb b (0 : Nat) - (0 : Int)) / (18446744073709551616 : Int))) / (18446744073709551616 : Int))) % (18446744073709551616 : Int) < (2 : Int) ^ (64 : Nat)) ∧ ((0 : Int) ≤ (Go.Sx.limb a (3 : Nat) - Go.Sx.limb b (3 : Nat) - -((Go.Sx.limb a (2 : Nat) - Go.Sx.limb b (2 : Nat) - -((Go.Sx.limb a (1 : Nat) - Go.Sx.limb b (1 : Nat) - -((Go.Sx.limb a (0 : Nat) - Go.Sx.limb b (0 : Nat) - (0 : Int)) / (18446744073709551616 : Int))) / (18446744073709551616 : Int))) / (18446744073709551616 : Int))) % (18446744073709551616 : Int) ∧ (Go.Sx.limb a (3 : Nat) - Go.Sx.limb b (3 : Nat) - -((Go.Sx.limb a (2 : Nat) - Go.Sx.limb b (2 : Nat) - -((Go.Sx.limb a (1 : Nat) - Go.Sx.limb b (1 : Nat) - -((Go.Sx.limb a (0 : Nat) - Go.Sx.limb b (0 : Nat) - (0 : Int)) / (18446744073709551616 : Int))) / (18446744073709551616 : Int))) / (18446744073709551616 : Int))) % (18446744073709551616 : Int) < (2 : Int) ^ (64 : Nat)) ∧ Go.Sx.join ((Go.Sx.limb a (0 : Nat) - Go.Sx.limb b (0 : Nat) - (0 : Int)) % (18446744073709551616 : Int)) ((Go.Sx.limb a (1 : Nat) - Go.Sx.limb b (1 : Nat) - -((Go.Sx.limb a (0 : Nat) - Go.Sx.limb b (0 : Nat) - (0 : Int)) / (18446744073709551616 : Int))) % (18446744073709551616 : Int)) ((Go.Sx.limb a (2 : Nat) - Go.Sx.limb b (2 : Nat) - -((Go.Sx.limb a (1 : Nat) - Go.Sx.limb b (1 : Nat) - -((Go.Sx.limb a (0 : Nat) - Go.Sx.limb b (0 : Nat) - (0 : Int)) / (18446744073709551616 : Int))) / (18446744073709551616 : Int))) % (18446744073709551616 : Int)) ((Go.Sx.limb a (3 : Nat) - Go.Sx.limb b (3 : Nat) - -((Go.Sx.limb a (2 : Nat) - Go.Sx.limb b (2 : Nat) - -((Go.Sx.limb a (1 : Nat) - Go.Sx.limb b (1 : Nat) - -((Go.Sx.limb a (0 : Nat) - Go.Sx.limb b (0 : Nat) - (0 : Int)) / (18446744073709551616 : Int))) / (18446744073709551616 : Int))) / (18446744073709551616 : Int))) % (18446744073709551616 : Int)) % Go.Sx.M256 = (a % Go.Sx.M256 + Go.Sx.M256 - b % Go.Sx.M256) % Go.Sx.M256 ∧ True) ∧ -((Go.Sx.limb a (3 : Nat) - Go.Sx.limb b (3 : Nat) - -((Go.Sx.limb a (2 : Nat) - Go.Sx.limb b (2 : Nat) - -((Go.Sx.limb a (1 : Nat) - Go.Sx.limb b (1 : Nat) - -((Go.Sx.limb a (0 : Nat) - Go.Sx.limb b (0 : Nat) - (0 : Int)) / (18446744073709551616 : Int))) / (18446744073709551616 : Int))) / (18446744073709551616 : Int))) / (18446744073709551616 : Int)) = if a % Go.Sx.M256 < b % Go.Sx.M256 then (1 : Int) else (0 : Int)) := by kernel_rfl
-- END VC
end Go.Proofs.Ytbjdchpncbgpnaa
end

section
/-
  What products come to: reckoned by the kernel. (Laid by program.)
-/
namespace Go.Proofs.Ytbjdchpncbgpnaa
open Go.Sx
set_option maxRecDepth 100000
def cxTimes2 : Cx := [(75, specWW mul64G), (68, specAdd64)]
-- VC vc_Mul64 HASH 9811843492575cc1
theorem vc_Mul64 (a b : Int) :
    Owes Try.prog Cx.none [] 100 Try.f75 [sI .u64 a, sI .u64 b] (mul64G a b) =
    (let x1 : Int := Go.IntKind.u64.wrap (↑(BitVec.ofInt (64 : Nat) b &&& BitVec.ofInt (64 : Nat) (4294967295 : Int)).toNat : Int); let x2 : Int := Go.IntKind.u64.wrap (Go.IntKind.u64.wrap (a.fdiv (4294967296 : Int) * x1) + (Go.IntKind.u64.wrap (Go.IntKind.u64.wrap (↑(BitVec.ofInt (64 : Nat) a &&& BitVec.ofInt (64 : Nat) (4294967295 : Int)).toNat : Int) * x1)).fdiv (4294967296 : Int)); let x3 : Int := a * b; Go.IntKind.u64.wrap (Go.IntKind.u64.wrap (Go.IntKind.u64.wrap (a.fdiv (4294967296 : Int) * b.fdiv (4294967296 : Int)) + x2.fdiv (4294967296 : Int)) + (Go.IntKind.u64.wrap (Go.IntKind.u64.wrap (↑(BitVec.ofInt (64 : Nat) x2 &&& BitVec.ofInt (64 : Nat) (4294967295 : Int)).toNat : Int) + Go.IntKind.u64.wrap (Go.IntKind.u64.wrap (↑(BitVec.ofInt (64 : Nat) a &&& BitVec.ofInt (64 : Nat) (4294967295 : Int)).toNat : Int) * b.fdiv (4294967296 : Int)))).fdiv (4294967296 : Int)) = x3 / (18446744073709551616 : Int) ∧ Go.IntKind.u64.wrap x3 = x3 % (18446744073709551616 : Int)) := by kernel_rfl
-- END VC
-- VC vc_times HASH d73b831b7a770911
theorem vc_times (a : Nat) (n : Int) :
    Owes Try.prog cxTimes2 [] 100 Try.f51 [sU a, sI .u64 n] (timesG a n) =
    (let x1 : Int := Go.Sx.limb a (0 : Nat) * n; let x2 : Int := x1 % (18446744073709551616 : Int); let x3 : Int := Go.Sx.limb a (1 : Nat) * n; let x4 : Int := x3 % (18446744073709551616 : Int); let x5 : Int := x2 + (0 : Int) + (0 : Int); let x6 : Int := Go.IntKind.u64.wrap (x1 / (18446744073709551616 : Int) + x5 / (18446744073709551616 : Int)); let x7 : Int := Go.Sx.limb a (2 : Nat) * n; let x8 : Int := x7 % (18446744073709551616 : Int); let x9 : Int := x4 + x6 + (0 : Int); let x10 : Int := Go.IntKind.u64.wrap (x3 / (18446744073709551616 : Int) + x9 / (18446744073709551616 : Int)); let x11 : Int := Go.Sx.limb a (3 : Nat) * n; let x12 : Int := x11 % (18446744073709551616 : Int); let x13 : Int := x8 + x10 + (0 : Int); let x14 : Int := Go.IntKind.u64.wrap (x7 / (18446744073709551616 : Int) + x13 / (18446744073709551616 : Int)); let x15 : Int := x5 % (18446744073709551616 : Int); let x16 : Int := x9 % (18446744073709551616 : Int); let x17 : Int := x13 % (18446744073709551616 : Int); let x18 : Int := x12 + x14 + (0 : Int); let x19 : Int := x18 % (18446744073709551616 : Int); ((0 : Int) ≤ Go.Sx.limb a (0 : Nat) ∧ Go.Sx.limb a (0 : Nat) < (18446744073709551616 : Int)) ∧ ((0 : Int) ≤ n ∧ n < (18446744073709551616 : Int)) ∧ (0 : Int) ≤ x2 ∧ (0 : Int) ≤ (0 : Int) ∧ ((0 : Int) ≤ (0 : Int) ∧ (0 : Int) ≤ (1 : Int)) ∧ ((0 : Int) ≤ Go.Sx.limb a (1 : Nat) ∧ Go.Sx.limb a (1 : Nat) < (18446744073709551616 : Int)) ∧ ((0 : Int) ≤ n ∧ n < (18446744073709551616 : Int)) ∧ (0 : Int) ≤ x4 ∧ (0 : Int) ≤ x6 ∧ ((0 : Int) ≤ (0 : Int) ∧ (0 : Int) ≤ (1 : Int)) ∧ ((0 : Int) ≤ Go.Sx.limb a (2 : Nat) ∧ Go.Sx.limb a (2 : Nat) < (18446744073709551616 : Int)) ∧ ((0 : Int) ≤ n ∧ n < (18446744073709551616 : Int)) ∧ (0 : Int) ≤ x8 ∧ (0 : Int) ≤ x10 ∧ ((0 : Int) ≤ (0 : Int) ∧ (0 : Int) ≤ (1 : Int)) ∧ ((0 : Int) ≤ Go.Sx.limb a (3 : Nat) ∧ Go.Sx.limb a (3 : Nat) < (18446744073709551616 : Int)) ∧ ((0 : Int) ≤ n ∧ n < (18446744073709551616 : Int)) ∧ (0 : Int) ≤ x12 ∧ (0 : Int) ≤ x14 ∧ ((0 : Int) ≤ (0 : Int) ∧ (0 : Int) ≤ (1 : Int)) ∧ (((0 : Int) ≤ x15 ∧ x15 < (18446744073709551616 : Int)) ∧ ((0 : Int) ≤ x16 ∧ x16 < (18446744073709551616 : Int)) ∧ ((0 : Int) ≤ x17 ∧ x17 < (18446744073709551616 : Int)) ∧ ((0 : Int) ≤ x19 ∧ x19 < (18446744073709551616 : Int)) ∧ Go.Sx.join x15 x16 x17 x19 % Go.Sx.M256 = a * n.toNat % Go.Sx.M256 ∧ True) ∧ Go.IntKind.u64.wrap (x11 / (18446744073709551616 : Int) + x18 / (18446744073709551616 : Int)) = (↑(a % Go.Sx.M256 * n.toNat / Go.Sx.M256) : Int)) := by kernel_rfl
-- END VC
end Go.Proofs.Ytbjdchpncbgpnaa
end

section
/-
  The library's counting of bits, and its quotient of two words by one: reckoned by the kernel. (Laid by program.)
-/
namespace Go.Proofs.Ytbjdchpncbgpnaa
open Go.Sx
set_option maxRecDepth 100000
def cxLz : Cx := [(95, specW lenG)]
def cxDiv64 : Cx := [(90, specW lzG)]
/-- At the heads of the two loops: the digit and what it leaves. h', l' are the two words moved, y1, y0 the divisor's halves, U the upper word, w1, w0 the lower word's halves, s the shift. -/
structure DivAt where
  q : Nat
  r : Nat
def invDiv1 (h l _ s y' y1 y0 U L w1 w0 : Int) : Inv where
  X := DivAt
  tm x := slotsAt 135 [(0, .one (sI .u64 h)), (1, .one (sI .u64 l)), (2, .one (sI .u64 y')), (8, .one (sI .u64 s)), (9, .one (sI .u64 y1)), (10, .one (sI .u64 y0)), (11, .one (sI .u64 U)), (12, .one (sI .u64 L)), (13, .one (sI .u64 w1)), (14, .one (sI .u64 w0)), (15, .one (sI .u64 x.q)), (16, .one (sI .u64 x.r)), (6, .one (.sc (.num .u64 0))), (7, .one (.sc (.num .u64 0)))]
  ob _ := []
  holds x := (x.q : Int) * y1 + x.r = U ∧ x.r < 4294967296 ∧ (U * 4294967296 + w1) / y' ≤ x.q ∧ x.q ≤ 4294967297
  less x := x.q
def invDiv2 (h l _ s y' y1 y0 U L w1 w0 q1 V : Int) : Inv where
  X := DivAt
  tm x := slotsAt 135 [(0, .one (sI .u64 h)), (1, .one (sI .u64 l)), (2, .one (sI .u64 y')), (8, .one (sI .u64 s)), (9, .one (sI .u64 y1)), (10, .one (sI .u64 y0)), (11, .one (sI .u64 U)), (12, .one (sI .u64 L)), (13, .one (sI .u64 w1)), (14, .one (sI .u64 w0)), (15, .one (sI .u64 q1)), (17, .one (sI .u64 V)), (18, .one (sI .u64 x.q)), (16, .one (sI .u64 x.r)), (6, .one (.sc (.num .u64 0))), (7, .one (.sc (.num .u64 0)))]
  ob _ := []
  holds x := (x.q : Int) * y1 + x.r = V ∧ x.r < 4294967296 ∧ (V * 4294967296 + w0) / y' ≤ x.q ∧ x.q ≤ 4294967297
  less x := x.q
def shY (y : Int) : Int := y * 2 ^ (64 - lenN y).toNat
def shU (h l y : Int) : Int := h * 2 ^ (64 - lenN y).toNat + l / 2 ^ (lenN y).toNat
def shL (l y : Int) : Int := l * 2 ^ (64 - lenN y).toNat % 18446744073709551616
def dq1 (h l y : Int) : Int := (shU h l y * 4294967296 + shL l y / 4294967296) / shY y
def dV (h l y : Int) : Int := (shU h l y * 4294967296 + shL l y / 4294967296) % shY y
def ivDiv (h l y : Int) : List (Nat × Hint) :=
  [(17, .inv (invDiv1 h l y (64 - lenN y) (shY y) (shY y / 4294967296) (shY y % 4294967296) (shU h l y) (shL l y) (shL l y / 4294967296) (shL l y % 4294967296))),
   (24, .inv (invDiv2 h l y (64 - lenN y) (shY y) (shY y / 4294967296) (shY y % 4294967296) (shU h l y) (shL l y) (shL l y / 4294967296) (shL l y % 4294967296) (dq1 h l y) (dV h l y)))]
-- VC vc_Len64 HASH dd73c16809bf9018
def lit_650f3990 : ByteArray := { data := (([(0 : UInt8), (1 : UInt8), (2 : UInt8), (2 : UInt8), (3 : UInt8), (3 : UInt8), (3 : UInt8), (3 : UInt8), (4 : UInt8), (4 : UInt8), (4 : UInt8), (4 : UInt8), (4 : UInt8), (4 : UInt8), (4 : UInt8), (4 : UInt8), (5 : UInt8), (5 : UInt8), (5 : UInt8), (5 : UInt8), (5 : UInt8), (5 : UInt8), (5 : UInt8), (5 : UInt8), (5 : UInt8), (5 : UInt8), (5 : UInt8), (5 : UInt8), (5 : UInt8), (5 : UInt8), (5 : UInt8), (5 : UInt8), (6 : UInt8), (6 : UInt8), (6 : UInt8), (6 : UInt8), (6 : UInt8), (6 : UInt8), (6 : UInt8), (6 : UInt8), (6 : UInt8), (6 : UInt8), (6 : UInt8), (6 : UInt8), (6 : UInt8), (6 : UInt8), (6 : UInt8), (6 : UInt8), (6 : UInt8), (6 : UInt8), (6 : UInt8), (6 : UInt8), (6 : UInt8), (6 : UInt8), (6 : UInt8), (6 : UInt8), (6 : UInt8), (6 : UInt8), (6 : UInt8), (6 : UInt8), (6 : UInt8), (6 : UInt8), (6 : UInt8), (6 : UInt8)].append [(7 : UInt8), (7 : UInt8), (7 : UInt8), (7 : UInt8), (7 : UInt8), (7 : UInt8), (7 : UInt8), (7 : UInt8), (7 : UInt8), (7 : UInt8), (7 : UInt8), (7 : UInt8), (7 : UInt8), (7 : UInt8), (7 : UInt8), (7 : UInt8), (7 : UInt8), (7 : UInt8), (7 : UInt8), (7 : UInt8), (7 : UInt8), (7 : UInt8), (7 : UInt8), (7 : UInt8), (7 : UInt8), (7 : UInt8), (7 : UInt8), (7 : UInt8), (7 : UInt8), (7 : UInt8), (7 : UInt8), (7 : UInt8), (7 : UInt8), (7 : UInt8), (7 : UInt8), (7 : UInt8), (7 : UInt8), (7 : UInt8), (7 : UInt8), (7 : UInt8), (7 : UInt8), (7 : UInt8), (7 : UInt8), (7 : UInt8), (7 : UInt8), (7 : UInt8), (7 : UInt8), (7 : UInt8), (7 : UInt8), (7 : UInt8), (7 : UInt8), (7 : UInt8), (7 : UInt8), (7 : UInt8), (7 : UInt8), (7 : UInt8), (7 : UInt8), (7 : UInt8), (7 : UInt8), (7 : UInt8), (7 : UInt8), (7 : UInt8), (7 : UInt8), (7 : UInt8)]).append ([(8 : UInt8), (8 : UInt8), (8 : UInt8), (8 : UInt8), (8 : UInt8), (8 : UInt8), (8 : UInt8), (8 : UInt8), (8 : UInt8), (8 : UInt8), (8 : UInt8), (8 : UInt8), (8 : UInt8), (8 : UInt8), (8 : UInt8), (8 : UInt8), (8 : UInt8), (8 : UInt8), (8 : UInt8), (8 : UInt8), (8 : UInt8), (8 : UInt8), (8 : UInt8), (8 : UInt8), (8 : UInt8), (8 : UInt8), (8 : UInt8), (8 : UInt8), (8 : UInt8), (8 : UInt8), (8 : UInt8), (8 : UInt8), (8 : UInt8), (8 : UInt8), (8 : UInt8), (8 : UInt8), (8 : UInt8), (8 : UInt8), (8 : UInt8), (8 : UInt8), (8 : UInt8), (8 : UInt8), (8 : UInt8), (8 : UInt8), (8 : UInt8), (8 : UInt8), (8 : UInt8), (8 : UInt8), (8 : UInt8), (8 : UInt8), (8 : UInt8), (8 : UInt8), (8 : UInt8), (8 : UInt8), (8 : UInt8), (8 : UInt8), (8 : UInt8), (8 : UInt8), (8 : UInt8), (8 : UInt8), (8 : UInt8), (8 : UInt8), (8 : UInt8), (8 : UInt8)].append [(8 : UInt8), (8 : UInt8), (8 : UInt8), (8 : UInt8), (8 : UInt8), (8 : UInt8), (8 : UInt8), (8 : UInt8), (8 : UInt8), (8 : UInt8), (8 : UInt8), (8 : UInt8), (8 : UInt8), (8 : UInt8), (8 : UInt8), (8 : UInt8), (8 : UInt8), (8 : UInt8), (8 : UInt8), (8 : UInt8), (8 : UInt8), (8 : UInt8), (8 : UInt8), (8 : UInt8), (8 : UInt8), (8 : UInt8), (8 : UInt8), (8 : UInt8), (8 : UInt8), (8 : UInt8), (8 : UInt8), (8 : UInt8), (8 : UInt8), (8 : UInt8), (8 : UInt8), (8 : UInt8), (8 : UInt8), (8 : UInt8), (8 : UInt8), (8 : UInt8), (8 : UInt8), (8 : UInt8), (8 : UInt8), (8 : UInt8), (8 : UInt8), (8 : UInt8), (8 : UInt8), (8 : UInt8), (8 : UInt8), (8 : UInt8), (8 : UInt8), (8 : UInt8), (8 : UInt8), (8 : UInt8), (8 : UInt8), (8 : UInt8), (8 : UInt8), (8 : UInt8), (8 : UInt8), (8 : UInt8), (8 : UInt8), (8 : UInt8), (8 : UInt8), (8 : UInt8)])).toArray }
theorem vc_Len64 (x : Int) :
    Owes Try.prog Cx.none [] 100 Try.f95 [sI .u64 x] (lenG x) =
    (let x1 : Int := (x.fdiv (4294967296 : Int)).fdiv (65536 : Int); let x2 : Int := Go.IntKind.u8.wrap (x1.fdiv (256 : Int)); let x3 : Nat := x2.toNat; let x4 : Int := Go.IntKind.u8.wrap x1; let x5 : Nat := x4.toNat; let x6 : Int := Go.IntKind.u8.wrap ((x.fdiv (4294967296 : Int)).fdiv (256 : Int)); let x7 : Nat := x6.toNat; let x8 : Int := Go.IntKind.u8.wrap (x.fdiv (4294967296 : Int)); let x9 : Nat := x8.toNat; let x10 : Int := Go.IntKind.u8.wrap ((x.fdiv (65536 : Int)).fdiv (256 : Int)); let x11 : Nat := x10.toNat; let x12 : Int := Go.IntKind.u8.wrap (x.fdiv (65536 : Int)); let x13 : Nat := x12.toNat; let x14 : Int := Go.IntKind.u8.wrap (x.fdiv (256 : Int)); let x15 : Nat := x14.toNat; (Decidable.decide (x ≥ (4294967296 : Int)) = Bool.true → (Decidable.decide (x.fdiv (4294967296 : Int) ≥ (65536 : Int)) = Bool.true → (Decidable.decide (x1 ≥ (256 : Int)) = Bool.true → ((0 : Int) ≤ x2 ∧ x3 < (256 : Nat)) ∧ Go.IntKind.i64.wrap ((56 : Int) + Go.IntKind.i64.wrap (↑(lit_650f3990.data.getD x3 (0 : UInt8)).toNat : Int)) = Go.Sx.lenN x) ∧ (Decidable.decide (x1 ≥ (256 : Int)) = Bool.false → ((0 : Int) ≤ x4 ∧ x5 < (256 : Nat)) ∧ Go.IntKind.i64.wrap ((48 : Int) + Go.IntKind.i64.wrap (↑(lit_650f3990.data.getD x5 (0 : UInt8)).toNat : Int)) = Go.Sx.lenN x)) ∧ (Decidable.decide (x.fdiv (4294967296 : Int) ≥ (65536 : Int)) = Bool.false → (Decidable.decide (x.fdiv (4294967296 : Int) ≥ (256 : Int)) = Bool.true → ((0 : Int) ≤ x6 ∧ x7 < (256 : Nat)) ∧ Go.IntKind.i64.wrap ((40 : Int) + Go.IntKind.i64.wrap (↑(lit_650f3990.data.getD x7 (0 : UInt8)).toNat : Int)) = Go.Sx.lenN x) ∧ (Decidable.decide (x.fdiv (4294967296 : Int) ≥ (256 : Int)) = Bool.false → ((0 : Int) ≤ x8 ∧ x9 < (256 : Nat)) ∧ Go.IntKind.i64.wrap ((32 : Int) + Go.IntKind.i64.wrap (↑(lit_650f3990.data.getD x9 (0 : UInt8)).toNat : Int)) = Go.Sx.lenN x))) ∧ (Decidable.decide (x ≥ (4294967296 : Int)) = Bool.false → (Decidable.decide (x ≥ (65536 : Int)) = Bool.true → (Decidable.decide (x.fdiv (65536 : Int) ≥ (256 : Int)) = Bool.true → ((0 : Int) ≤ x10 ∧ x11 < (256 : Nat)) ∧ Go.IntKind.i64.wrap ((24 : Int) + Go.IntKind.i64.wrap (↑(lit_650f3990.data.getD x11 (0 : UInt8)).toNat : Int)) = Go.Sx.lenN x) ∧ (Decidable.decide (x.fdiv (65536 : Int) ≥ (256 : Int)) = Bool.false → ((0 : Int) ≤ x12 ∧ x13 < (256 : Nat)) ∧ Go.IntKind.i64.wrap ((16 : Int) + Go.IntKind.i64.wrap (↑(lit_650f3990.data.getD x13 (0 : UInt8)).toNat : Int)) = Go.Sx.lenN x)) ∧ (Decidable.decide (x ≥ (65536 : Int)) = Bool.false → (Decidable.decide (x ≥ (256 : Int)) = Bool.true → ((0 : Int) ≤ x14 ∧ x15 < (256 : Nat)) ∧ Go.IntKind.i64.wrap ((8 : Int) + Go.IntKind.i64.wrap (↑(lit_650f3990.data.getD x15 (0 : UInt8)).toNat : Int)) = Go.Sx.lenN x) ∧ (Decidable.decide (x ≥ (256 : Int)) = Bool.false → ((0 : Int) ≤ Go.IntKind.u8.wrap x ∧ (Go.IntKind.u8.wrap x).toNat < (256 : Nat)) ∧ Go.IntKind.i64.wrap ((0 : Int) + Go.IntKind.i64.wrap (↑(lit_650f3990.data.getD (Go.IntKind.u8.wrap x).toNat (0 : UInt8)).toNat : Int)) = Go.Sx.lenN x)))) := by kernel_rfl
-- END VC
-- VC vc_LZ64 HASH 23bea001194db56a
theorem vc_LZ64 (x : Int) :
    Owes Try.prog cxLz [] 100 Try.f90 [sI .u64 x] (lzG x) =
    (let x1 : Int := (64 : Int) - Go.Sx.lenN x; ((0 : Int) ≤ x ∧ x < (18446744073709551616 : Int)) ∧ Go.IntKind.i64.wrap x1 = x1) := by kernel_rfl
-- END VC
-- VC vc_Div64 HASH 489e86658c03af1a
theorem vc_Div64 (h l y : Int) :
    Owes Try.prog cxDiv64 (ivDiv h l y) 100 Try.f74 [sI .u64 h, sI .u64 l, sI .u64 y] (divG h l y) =
    (let x1 : Int := h * (18446744073709551616 : Int) + l; let x2 : Int := x1 / y; let x3 : Int := x1 % y; let x4 : Int := (64 : Int) - Go.Sx.lenN y; let x5 : Int := Go.IntKind.u64.wrap x4; let x6 : Int := Go.IntKind.u64.wrap ((64 : Int) - x5); let x7 : Int := (2 : Int) ^ Min.min x5.toNat (64 : Nat); let x8 : Int := Go.IntKind.u64.wrap (y * x7); let x9 : Int := x8.fdiv (4294967296 : Int); let x10 : Int := shY y / (4294967296 : Int); let x11 : Int := shY y % (4294967296 : Int); let x12 : Int := shL l y / (4294967296 : Int); let x13 : Int := shL l y % (4294967296 : Int); let x14 : Int := shU h l y * (4294967296 : Int); let x15 : Int := Go.IntKind.u64.wrap (↑(BitVec.ofInt (64 : Nat) (Go.IntKind.u64.wrap (h * x7)) ||| BitVec.ofInt (64 : Nat) (l.fdiv ((2 : Int) ^ Min.min x6.toNat (64 : Nat)))).toNat : Int); let x16 : Int := Go.IntKind.u64.wrap (l * x7); let x17 : Int := Go.IntKind.u64.wrap (x15.tdiv x9); let x18 : Int := dV h l y * (4294967296 : Int); let x19 : Int := (2 : Int) ^ Min.min x4.toNat (64 : Nat); ((y == (0 : Int)) = Bool.true → Go.Sx.Stuck { dst := Option.some (21 : Nat), op := Go.Op.load (96 : Nat) (Go.Operand.global (0 : Nat)), type := (96 : Nat), pos := "bits.go:520", after := #[], guard := Option.none }) ∧ ((y == (0 : Int)) = Bool.false → (Decidable.decide (y ≤ h) = Bool.true → Go.Sx.Stuck { dst := Option.some (25 : Nat), op := Go.Op.load (96 : Nat) (Go.Operand.global (1 : Nat)), type := (96 : Nat), pos := "bits.go:523", after := #[], guard := Option.none }) ∧ (Decidable.decide (y ≤ h) = Bool.false → ((h == (0 : Int)) = Bool.true → y ≠ (0 : Int) ∧ y ≠ (0 : Int) ∧ Go.IntKind.u64.wrap (l.tdiv y) = x2 ∧ l.tmod y = x3) ∧ ((h == (0 : Int)) = Bool.false → ((0 : Int) ≤ y ∧ y < (18446744073709551616 : Int)) ∧ (0 : Int) ≤ x5 ∧ (0 : Int) ≤ x5 ∧ (0 : Int) ≤ x6 ∧ (0 : Int) ≤ x5 ∧ x9 ≠ (0 : Int) ∧ (∀ (y_1 : DivAt), Go.Sx.closedB (Go.Sx.slotsAt (135 : Nat) [((0 : Nat), Go.Sx.SV.one (Go.Sx.sI Go.IntKind.u64 h)), ((1 : Nat), Go.Sx.SV.one (Go.Sx.sI Go.IntKind.u64 l)), ((2 : Nat), Go.Sx.SV.one (Go.Sx.sI Go.IntKind.u64 (shY y))), ((8 : Nat), Go.Sx.SV.one (Go.Sx.sI Go.IntKind.u64 x4)), ((9 : Nat), Go.Sx.SV.one (Go.Sx.sI Go.IntKind.u64 x10)), ((10 : Nat), Go.Sx.SV.one (Go.Sx.sI Go.IntKind.u64 x11)), ((11 : Nat), Go.Sx.SV.one (Go.Sx.sI Go.IntKind.u64 (shU h l y))), ((12 : Nat), Go.Sx.SV.one (Go.Sx.sI Go.IntKind.u64 (shL l y))), ((13 : Nat), Go.Sx.SV.one (Go.Sx.sI Go.IntKind.u64 x12)), ((14 : Nat), Go.Sx.SV.one (Go.Sx.sI Go.IntKind.u64 x13)), ((15 : Nat), Go.Sx.SV.one (Go.Sx.sI Go.IntKind.u64 (↑y_1.q : Int))), ((16 : Nat), Go.Sx.SV.one (Go.Sx.sI Go.IntKind.u64 (↑y_1.r : Int))), ((6 : Nat), Go.Sx.SV.one (Go.Sx.SA.sc (Go.Sx.SC.num Go.IntKind.u64 (0 : Int)))), ((7 : Nat), Go.Sx.SV.one (Go.Sx.SA.sc (Go.Sx.SC.num Go.IntKind.u64 (0 : Int))))]) [] = Bool.true) ∧ ∃ (y_1 : DivAt), ((↑y_1.q : Int) * x10 + (↑y_1.r : Int) = shU h l y ∧ y_1.r < (4294967296 : Nat) ∧ (x14 + x12) / shY y ≤ (↑y_1.q : Int) ∧ y_1.q ≤ (4294967297 : Nat)) ∧ h = h ∧ l = l ∧ x8 = shY y ∧ x5 = x4 ∧ x9 = x10 ∧ Go.IntKind.u64.wrap (↑(BitVec.ofInt (64 : Nat) x8 &&& BitVec.ofInt (64 : Nat) (4294967295 : Int)).toNat : Int) = x11 ∧ x15 = shU h l y ∧ x16 = shL l y ∧ x16.fdiv (4294967296 : Int) = x12 ∧ Go.IntKind.u64.wrap (↑(BitVec.ofInt (64 : Nat) x16 &&& BitVec.ofInt (64 : Nat) (4294967295 : Int)).toNat : Int) = x13 ∧ x17 = (↑y_1.q : Int) ∧ Go.IntKind.u64.wrap (x15 - Go.IntKind.u64.wrap (x17 * x9)) = (↑y_1.r : Int) ∧ ∀ (y_2 : DivAt), (↑y_2.q : Int) * x10 + (↑y_2.r : Int) = shU h l y ∧ y_2.r < (4294967296 : Nat) ∧ (x14 + x12) / shY y ≤ (↑y_2.q : Int) ∧ y_2.q ≤ (4294967297 : Nat) → ((!Decidable.decide ((↑y_2.q : Int) ≥ (4294967296 : Int))) = Bool.true → (!Decidable.decide ((↑y_2.q : Int) ≥ (4294967296 : Int))) = Bool.true) ∧ ((!Decidable.decide ((↑y_2.q : Int) ≥ (4294967296 : Int))) = Bool.true → (!Decidable.decide ((↑y_2.q : Int) ≥ (4294967296 : Int))) = Bool.true) ∧ ((!Decidable.decide ((↑y_2.q : Int) ≥ (4294967296 : Int))) = Bool.true → (!Decidable.decide ((↑y_2.q : Int) ≥ (4294967296 : Int))) = Bool.true) ∧ ((!Decidable.decide ((↑y_2.q : Int) ≥ (4294967296 : Int))) = Bool.true → (!Decidable.decide ((↑y_2.q : Int) ≥ (4294967296 : Int))) = Bool.true) ∧ ((!Decidable.decide ((↑y_2.q : Int) ≥ (4294967296 : Int))) = Bool.true → (!Decidable.decide ((↑y_2.q : Int) ≥ (4294967296 : Int))) = Bool.true) ∧ ((!Decidable.decide ((↑y_2.q : Int) ≥ (4294967296 : Int))) = Bool.true → (!Decidable.decide ((↑y_2.q : Int) ≥ (4294967296 : Int))) = Bool.true) ∧ ((!Decidable.decide ((↑y_2.q : Int) ≥ (4294967296 : Int))) = Bool.true → (!Decidable.decide ((↑y_2.q : Int) ≥ (4294967296 : Int))) = Bool.true) ∧ (Decidable.decide ((↑y_2.q : Int) ≥ (4294967296 : Int)) = Bool.false → (!Decidable.decide ((↑y_2.q : Int) ≥ (4294967296 : Int))) = Bool.true) ∧ ((Decidable.decide ((↑y_2.q : Int) ≥ (4294967296 : Int)) || Decidable.decide (Go.IntKind.u64.wrap ((↑y_2.q : Int) * x11) > Go.IntKind.u64.wrap (Go.IntKind.u64.wrap ((4294967296 : Int) * (↑y_2.r : Int)) + x12))) = Bool.true → (Decidable.decide (Go.IntKind.u64.wrap ((↑y_2.r : Int) + x10) ≥ (4294967296 : Int)) = Bool.true → x10 ≠ (0 : Int) ∧ (∀ (y_3 : DivAt), Go.Sx.closedB (Go.Sx.slotsAt (135 : Nat) [((0 : Nat), Go.Sx.SV.one (Go.Sx.sI Go.IntKind.u64 h)), ((1 : Nat), Go.Sx.SV.one (Go.Sx.sI Go.IntKind.u64 l)), ((2 : Nat), Go.Sx.SV.one (Go.Sx.sI Go.IntKind.u64 (shY y))), ((8 : Nat), Go.Sx.SV.one (Go.Sx.sI Go.IntKind.u64 x4)), ((9 : Nat), Go.Sx.SV.one (Go.Sx.sI Go.IntKind.u64 x10)), ((10 : Nat), Go.Sx.SV.one (Go.Sx.sI Go.IntKind.u64 x11)), ((11 : Nat), Go.Sx.SV.one (Go.Sx.sI Go.IntKind.u64 (shU h l y))), ((12 : Nat), Go.Sx.SV.one (Go.Sx.sI Go.IntKind.u64 (shL l y))), ((13 : Nat), Go.Sx.SV.one (Go.Sx.sI Go.IntKind.u64 x12)), ((14 : Nat), Go.Sx.SV.one (Go.Sx.sI Go.IntKind.u64 x13)), ((15 : Nat), Go.Sx.SV.one (Go.Sx.sI Go.IntKind.u64 (dq1 h l y))), ((17 : Nat), Go.Sx.SV.one (Go.Sx.sI Go.IntKind.u64 (dV h l y))), ((18 : Nat), Go.Sx.SV.one (Go.Sx.sI Go.IntKind.u64 (↑y_3.q : Int))), ((16 : Nat), Go.Sx.SV.one (Go.Sx.sI Go.IntKind.u64 (↑y_3.r : Int))), ((6 : Nat), Go.Sx.SV.one (Go.Sx.SA.sc (Go.Sx.SC.num Go.IntKind.u64 (0 : Int)))), ((7 : Nat), Go.Sx.SV.one (Go.Sx.SA.sc (Go.Sx.SC.num Go.IntKind.u64 (0 : Int))))]) [] = Bool.true) ∧ ∃ (y_3 : DivAt), ((↑y_3.q : Int) * x10 + (↑y_3.r : Int) = dV h l y ∧ y_3.r < (4294967296 : Nat) ∧ (x18 + x13) / shY y ≤ (↑y_3.q : Int) ∧ y_3.q ≤ (4294967297 : Nat)) ∧ h = h ∧ l = l ∧ shY y = shY y ∧ x4 = x4 ∧ x10 = x10 ∧ x11 = x11 ∧ shU h l y = shU h l y ∧ shL l y = shL l y ∧ x12 = x12 ∧ x13 = x13 ∧ Go.IntKind.u64.wrap ((↑y_2.q : Int) - (1 : Int)) = dq1 h l y ∧ Go.IntKind.u64.wrap (Go.IntKind.u64.wrap (Go.IntKind.u64.wrap (Go.IntKind.u64.wrap x14 + x12) - Go.IntKind.u64.wrap (Go.IntKind.u64.wrap ((↑y_2.q : Int) - (1 : Int)) * shY y)) - Go.IntKind.u64.wrap (Go.IntKind.u64.wrap ((Go.IntKind.u64.wrap (Go.IntKind.u64.wrap (Go.IntKind.u64.wrap x14 + x12) - Go.IntKind.u64.wrap (Go.IntKind.u64.wrap ((↑y_2.q : Int) - (1 : Int)) * shY y))).tdiv x10) * x10)) = (↑y_3.r : Int) ∧ Go.IntKind.u64.wrap (Go.IntKind.u64.wrap (Go.IntKind.u64.wrap x14 + x12) - Go.IntKind.u64.wrap (Go.IntKind.u64.wrap ((↑y_2.q : Int) - (1 : Int)) * shY y)) = dV h l y ∧ Go.IntKind.u64.wrap ((Go.IntKind.u64.wrap (Go.IntKind.u64.wrap (Go.IntKind.u64.wrap x14 + x12) - Go.IntKind.u64.wrap (Go.IntKind.u64.wrap ((↑y_2.q : Int) - (1 : Int)) * shY y))).tdiv x10) = (↑y_3.q : Int) ∧ ∀ (y_4 : DivAt), (↑y_4.q : Int) * x10 + (↑y_4.r : Int) = dV h l y ∧ y_4.r < (4294967296 : Nat) ∧ (x18 + x13) / shY y ≤ (↑y_4.q : Int) ∧ y_4.q ≤ (4294967297 : Nat) → ((!Decidable.decide ((↑y_4.q : Int) ≥ (4294967296 : Int))) = Bool.true → (!Decidable.decide ((↑y_4.q : Int) ≥ (4294967296 : Int))) = Bool.true) ∧ ((!Decidable.decide ((↑y_4.q : Int) ≥ (4294967296 : Int))) = Bool.true → (!Decidable.decide ((↑y_4.q : Int) ≥ (4294967296 : Int))) = Bool.true) ∧ ((!Decidable.decide ((↑y_4.q : Int) ≥ (4294967296 : Int))) = Bool.true → (!Decidable.decide ((↑y_4.q : Int) ≥ (4294967296 : Int))) = Bool.true) ∧ ((!Decidable.decide ((↑y_4.q : Int) ≥ (4294967296 : Int))) = Bool.true → (!Decidable.decide ((↑y_4.q : Int) ≥ (4294967296 : Int))) = Bool.true) ∧ ((!Decidable.decide ((↑y_4.q : Int) ≥ (4294967296 : Int))) = Bool.true → (!Decidable.decide ((↑y_4.q : Int) ≥ (4294967296 : Int))) = Bool.true) ∧ ((!Decidable.decide ((↑y_4.q : Int) ≥ (4294967296 : Int))) = Bool.true → (!Decidable.decide ((↑y_4.q : Int) ≥ (4294967296 : Int))) = Bool.true) ∧ ((!Decidable.decide ((↑y_4.q : Int) ≥ (4294967296 : Int))) = Bool.true → (!Decidable.decide ((↑y_4.q : Int) ≥ (4294967296 : Int))) = Bool.true) ∧ (Decidable.decide ((↑y_4.q : Int) ≥ (4294967296 : Int)) = Bool.false → (!Decidable.decide ((↑y_4.q : Int) ≥ (4294967296 : Int))) = Bool.true) ∧ ((Decidable.decide ((↑y_4.q : Int) ≥ (4294967296 : Int)) || Decidable.decide (Go.IntKind.u64.wrap ((↑y_4.q : Int) * x11) > Go.IntKind.u64.wrap (Go.IntKind.u64.wrap ((4294967296 : Int) * (↑y_4.r : Int)) + x13))) = Bool.true → (Decidable.decide (Go.IntKind.u64.wrap ((↑y_4.r : Int) + x10) ≥ (4294967296 : Int)) = Bool.true → (0 : Int) ≤ x4 ∧ Go.IntKind.u64.wrap (Go.IntKind.u64.wrap (dq1 h l y * (4294967296 : Int)) + Go.IntKind.u64.wrap ((↑y_4.q : Int) - (1 : Int))) = x2 ∧ (Go.IntKind.u64.wrap (Go.IntKind.u64.wrap (Go.IntKind.u64.wrap x18 + x13) - Go.IntKind.u64.wrap (Go.IntKind.u64.wrap ((↑y_4.q : Int) - (1 : Int)) * shY y))).fdiv x19 = x3) ∧ (Decidable.decide (Go.IntKind.u64.wrap ((↑y_4.r : Int) + x10) ≥ (4294967296 : Int)) = Bool.false → ∃ (y' : DivAt), ((↑y'.q : Int) * x10 + (↑y'.r : Int) = dV h l y ∧ y'.r < (4294967296 : Nat) ∧ (x18 + x13) / shY y ≤ (↑y'.q : Int) ∧ y'.q ≤ (4294967297 : Nat)) ∧ h = h ∧ l = l ∧ shY y = shY y ∧ x4 = x4 ∧ x10 = x10 ∧ x11 = x11 ∧ shU h l y = shU h l y ∧ shL l y = shL l y ∧ x12 = x12 ∧ x13 = x13 ∧ dq1 h l y = dq1 h l y ∧ Go.IntKind.u64.wrap ((↑y_4.r : Int) + x10) = (↑y'.r : Int) ∧ dV h l y = dV h l y ∧ Go.IntKind.u64.wrap ((↑y_4.q : Int) - (1 : Int)) = (↑y'.q : Int) ∧ y'.q < y_4.q)) ∧ ((Decidable.decide ((↑y_4.q : Int) ≥ (4294967296 : Int)) || Decidable.decide (Go.IntKind.u64.wrap ((↑y_4.q : Int) * x11) > Go.IntKind.u64.wrap (Go.IntKind.u64.wrap ((4294967296 : Int) * (↑y_4.r : Int)) + x13))) = Bool.false → (0 : Int) ≤ x4 ∧ Go.IntKind.u64.wrap (Go.IntKind.u64.wrap (dq1 h l y * (4294967296 : Int)) + (↑y_4.q : Int)) = x2 ∧ (Go.IntKind.u64.wrap (Go.IntKind.u64.wrap (Go.IntKind.u64.wrap x18 + x13) - Go.IntKind.u64.wrap ((↑y_4.q : Int) * shY y))).fdiv x19 = x3)) ∧ (Decidable.decide (Go.IntKind.u64.wrap ((↑y_2.r : Int) + x10) ≥ (4294967296 : Int)) = Bool.false → ∃ (y' : DivAt), ((↑y'.q : Int) * x10 + (↑y'.r : Int) = shU h l y ∧ y'.r < (4294967296 : Nat) ∧ (x14 + x12) / shY y ≤ (↑y'.q : Int) ∧ y'.q ≤ (4294967297 : Nat)) ∧ h = h ∧ l = l ∧ shY y = shY y ∧ x4 = x4 ∧ x10 = x10 ∧ x11 = x11 ∧ shU h l y = shU h l y ∧ shL l y = shL l y ∧ x12 = x12 ∧ x13 = x13 ∧ Go.IntKind.u64.wrap ((↑y_2.q : Int) - (1 : Int)) = (↑y'.q : Int) ∧ Go.IntKind.u64.wrap ((↑y_2.r : Int) + x10) = (↑y'.r : Int) ∧ y'.q < y_2.q)) ∧ ((Decidable.decide ((↑y_2.q : Int) ≥ (4294967296 : Int)) || Decidable.decide (Go.IntKind.u64.wrap ((↑y_2.q : Int) * x11) > Go.IntKind.u64.wrap (Go.IntKind.u64.wrap ((4294967296 : Int) * (↑y_2.r : Int)) + x12))) = Bool.false → x10 ≠ (0 : Int) ∧ (∀ (y_3 : DivAt), Go.Sx.closedB (Go.Sx.slotsAt (135 : Nat) [((0 : Nat), Go.Sx.SV.one (Go.Sx.sI Go.IntKind.u64 h)), ((1 : Nat), Go.Sx.SV.one (Go.Sx.sI Go.IntKind.u64 l)), ((2 : Nat), Go.Sx.SV.one (Go.Sx.sI Go.IntKind.u64 (shY y))), ((8 : Nat), Go.Sx.SV.one (Go.Sx.sI Go.IntKind.u64 x4)), ((9 : Nat), Go.Sx.SV.one (Go.Sx.sI Go.IntKind.u64 x10)), ((10 : Nat), Go.Sx.SV.one (Go.Sx.sI Go.IntKind.u64 x11)), ((11 : Nat), Go.Sx.SV.one (Go.Sx.sI Go.IntKind.u64 (shU h l y))), ((12 : Nat), Go.Sx.SV.one (Go.Sx.sI Go.IntKind.u64 (shL l y))), ((13 : Nat), Go.Sx.SV.one (Go.Sx.sI Go.IntKind.u64 x12)), ((14 : Nat), Go.Sx.SV.one (Go.Sx.sI Go.IntKind.u64 x13)), ((15 : Nat), Go.Sx.SV.one (Go.Sx.sI Go.IntKind.u64 (dq1 h l y))), ((17 : Nat), Go.Sx.SV.one (Go.Sx.sI Go.IntKind.u64 (dV h l y))), ((18 : Nat), Go.Sx.SV.one (Go.Sx.sI Go.IntKind.u64 (↑y_3.q : Int))), ((16 : Nat), Go.Sx.SV.one (Go.Sx.sI Go.IntKind.u64 (↑y_3.r : Int))), ((6 : Nat), Go.Sx.SV.one (Go.Sx.SA.sc (Go.Sx.SC.num Go.IntKind.u64 (0 : Int)))), ((7 : Nat), Go.Sx.SV.one (Go.Sx.SA.sc (Go.Sx.SC.num Go.IntKind.u64 (0 : Int))))]) [] = Bool.true) ∧ ∃ (y_3 : DivAt), ((↑y_3.q : Int) * x10 + (↑y_3.r : Int) = dV h l y ∧ y_3.r < (4294967296 : Nat) ∧ (x18 + x13) / shY y ≤ (↑y_3.q : Int) ∧ y_3.q ≤ (4294967297 : Nat)) ∧ h = h ∧ l = l ∧ shY y = shY y ∧ x4 = x4 ∧ x10 = x10 ∧ x11 = x11 ∧ shU h l y = shU h l y ∧ shL l y = shL l y ∧ x12 = x12 ∧ x13 = x13 ∧ (↑y_2.q : Int) = dq1 h l y ∧ Go.IntKind.u64.wrap (Go.IntKind.u64.wrap (Go.IntKind.u64.wrap (Go.IntKind.u64.wrap x14 + x12) - Go.IntKind.u64.wrap ((↑y_2.q : Int) * shY y)) - Go.IntKind.u64.wrap (Go.IntKind.u64.wrap ((Go.IntKind.u64.wrap (Go.IntKind.u64.wrap (Go.IntKind.u64.wrap x14 + x12) - Go.IntKind.u64.wrap ((↑y_2.q : Int) * shY y))).tdiv x10) * x10)) = (↑y_3.r : Int) ∧ Go.IntKind.u64.wrap (Go.IntKind.u64.wrap (Go.IntKind.u64.wrap x14 + x12) - Go.IntKind.u64.wrap ((↑y_2.q : Int) * shY y)) = dV h l y ∧ Go.IntKind.u64.wrap ((Go.IntKind.u64.wrap (Go.IntKind.u64.wrap (Go.IntKind.u64.wrap x14 + x12) - Go.IntKind.u64.wrap ((↑y_2.q : Int) * shY y))).tdiv x10) = (↑y_3.q : Int) ∧ ∀ (y_4 : DivAt), (↑y_4.q : Int) * x10 + (↑y_4.r : Int) = dV h l y ∧ y_4.r < (4294967296 : Nat) ∧ (x18 + x13) / shY y ≤ (↑y_4.q : Int) ∧ y_4.q ≤ (4294967297 : Nat) → ((!Decidable.decide ((↑y_4.q : Int) ≥ (4294967296 : Int))) = Bool.true → (!Decidable.decide ((↑y_4.q : Int) ≥ (4294967296 : Int))) = Bool.true) ∧ ((!Decidable.decide ((↑y_4.q : Int) ≥ (4294967296 : Int))) = Bool.true → (!Decidable.decide ((↑y_4.q : Int) ≥ (4294967296 : Int))) = Bool.true) ∧ ((!Decidable.decide ((↑y_4.q : Int) ≥ (4294967296 : Int))) = Bool.true → (!Decidable.decide ((↑y_4.q : Int) ≥ (4294967296 : Int))) = Bool.true) ∧ ((!Decidable.decide ((↑y_4.q : Int) ≥ (4294967296 : Int))) = Bool.true → (!Decidable.decide ((↑y_4.q : Int) ≥ (4294967296 : Int))) = Bool.true) ∧ ((!Decidable.decide ((↑y_4.q : Int) ≥ (4294967296 : Int))) = Bool.true → (!Decidable.decide ((↑y_4.q : Int) ≥ (4294967296 : Int))) = Bool.true) ∧ ((!Decidable.decide ((↑y_4.q : Int) ≥ (4294967296 : Int))) = Bool.true → (!Decidable.decide ((↑y_4.q : Int) ≥ (4294967296 : Int))) = Bool.true) ∧ ((!Decidable.decide ((↑y_4.q : Int) ≥ (4294967296 : Int))) = Bool.true → (!Decidable.decide ((↑y_4.q : Int) ≥ (4294967296 : Int))) = Bool.true) ∧ (Decidable.decide ((↑y_4.q : Int) ≥ (4294967296 : Int)) = Bool.false → (!Decidable.decide ((↑y_4.q : Int) ≥ (4294967296 : Int))) = Bool.true) ∧ ((Decidable.decide ((↑y_4.q : Int) ≥ (4294967296 : Int)) || Decidable.decide (Go.IntKind.u64.wrap ((↑y_4.q : Int) * x11) > Go.IntKind.u64.wrap (Go.IntKind.u64.wrap ((4294967296 : Int) * (↑y_4.r : Int)) + x13))) = Bool.true → (Decidable.decide (Go.IntKind.u64.wrap ((↑y_4.r : Int) + x10) ≥ (4294967296 : Int)) = Bool.true → (0 : Int) ≤ x4 ∧ Go.IntKind.u64.wrap (Go.IntKind.u64.wrap (dq1 h l y * (4294967296 : Int)) + Go.IntKind.u64.wrap ((↑y_4.q : Int) - (1 : Int))) = x2 ∧ (Go.IntKind.u64.wrap (Go.IntKind.u64.wrap (Go.IntKind.u64.wrap x18 + x13) - Go.IntKind.u64.wrap (Go.IntKind.u64.wrap ((↑y_4.q : Int) - (1 : Int)) * shY y))).fdiv x19 = x3) ∧ (Decidable.decide (Go.IntKind.u64.wrap ((↑y_4.r : Int) + x10) ≥ (4294967296 : Int)) = Bool.false → ∃ (y' : DivAt), ((↑y'.q : Int) * x10 + (↑y'.r : Int) = dV h l y ∧ y'.r < (4294967296 : Nat) ∧ (x18 + x13) / shY y ≤ (↑y'.q : Int) ∧ y'.q ≤ (4294967297 : Nat)) ∧ h = h ∧ l = l ∧ shY y = shY y ∧ x4 = x4 ∧ x10 = x10 ∧ x11 = x11 ∧ shU h l y = shU h l y ∧ shL l y = shL l y ∧ x12 = x12 ∧ x13 = x13 ∧ dq1 h l y = dq1 h l y ∧ Go.IntKind.u64.wrap ((↑y_4.r : Int) + x10) = (↑y'.r : Int) ∧ dV h l y = dV h l y ∧ Go.IntKind.u64.wrap ((↑y_4.q : Int) - (1 : Int)) = (↑y'.q : Int) ∧ y'.q < y_4.q)) ∧ ((Decidable.decide ((↑y_4.q : Int) ≥ (4294967296 : Int)) || Decidable.decide (Go.IntKind.u64.wrap ((↑y_4.q : Int) * x11) > Go.IntKind.u64.wrap (Go.IntKind.u64.wrap ((4294967296 : Int) * (↑y_4.r : Int)) + x13))) = Bool.false → (0 : Int) ≤ x4 ∧ Go.IntKind.u64.wrap (Go.IntKind.u64.wrap (dq1 h l y * (4294967296 : Int)) + (↑y_4.q : Int)) = x2 ∧ (Go.IntKind.u64.wrap (Go.IntKind.u64.wrap (Go.IntKind.u64.wrap x18 + x13) - Go.IntKind.u64.wrap ((↑y_4.q : Int) * shY y))).fdiv x19 = x3)))))) := by kernel_rfl
-- END VC

end Go.Proofs.Ytbjdchpncbgpnaa
end

section
/-
  Quotients: reckoned by the kernel. (Laid by program.)
-/
namespace Go.Proofs.Ytbjdchpncbgpnaa
open Go.Sx
set_option maxRecDepth 100000
def guessC (h l y : Int) : List Prop := [w64ok h, w64ok l, w64ok y, 0 < y]
def guessN (h l y : Int) : Int := if h < y then (h * 18446744073709551616 + l) / y else 18446744073709551615
def guessG (h l y : Int) : SV := .one (sI .u64 (guessN h l y))
def cxGuess : Cx := [(74, specWWW divC divG)]
def bitsN (n : Nat) : Nat := if n = 0 then 0 else n.log2 + 1
def noughtsG (a : Nat) : SV := .one (sI .i64 ((256 - bitsN (a % M256) : Nat) : Int))
def cxNoughts : Cx := [(90, specW lzG)]
def moveC (_ : Nat) (n : Int) : List Prop := [0 ≤ n ∧ n ≤ 256]
def upG (a : Nat) (n : Int) : SV := .one (sU (a * 2 ^ n.toNat))
def downG (a : Nat) (n : Int) : SV := .one (sU (a % M256 / 2 ^ n.toNat))
def digC (r : Nat) (x : Int) (b : Nat) : List Prop := [w64ok x, r % M256 < b % M256, M256 ≤ 2 * (b % M256)]
def digR (r : Nat) (x : Int) : Nat := r % M256 * 18446744073709551616 + x.toNat
def digG (r : Nat) (x : Int) (b : Nat) : SV := .tup [sI .u64 ((digR r x / (b % M256) : Nat) : Int), sU (digR r x % (b % M256))]
def digAt (r : Nat) (x : Int) (b e : Nat) : Nat := M256 * 18446744073709551616 + digR r x % (b % M256) - e * (b % M256)
def invDig (r : Nat) (x : Int) (b : Nat) : Inv where
  X := Nat
  tm e := slotsAt 62 [(0, .one (sU r)), (1, .one (sI .u64 x)), (2, .one (sU b)), (3, .one (.sc (.ptr 0 0))), (5, .one (.sc (.ptr 1 0))), (6, .one (.sc (.num .u64 0))), (7, .one (.sc (.ptr 2 0))), (8, .one (sI .u64 ((digAt r x b e / M256 % 18446744073709551616 : Nat) : Int))), (9, .one (sI .u64 ((digR r x / (b % M256) + e : Nat) : Int)))]
  ob e := [.cells 24 [.u (digAt r x b e)] 0, .cells 24 [.u b] 0, .cells 24 [.c (.num .u64 0), .c (.num .u64 0), .c (.num .u64 0), .c (.num .u64 0)] 0]
  holds e := e ≤ 2 ∧ digR r x / (b % M256) + e < 18446744073709551616
  less e := e
def cxDig : Cx := [(91, specWWW guessC guessG), (51, specUI timesG), (38, specUU lessG), (37, specUU plusG)]
def dvC (_ b : Nat) : List Prop := [0 < b % M256]
def dvG (a b : Nat) : SV := .tup [sU (a % M256 / (b % M256)), sU (a % M256 % (b % M256))]
def cxDv : Cx := [(70, specU noughtsG), (71, specUJ moveC upG), (72, specUJ moveC downG), (73, specUWU digC digG)]
def dmG (a b : Nat) : SV := .tup [sU (if b % M256 = 0 then 0 else a % M256 / (b % M256)), sU (if b % M256 = 0 then 0 else a % M256 % (b % M256)), sI .i64 (if b % M256 = 0 then 7 else 0)]
def cxDm : Cx := [(45, specUUC dvC dvG)]
-- VC vc_guess HASH e62c96128aaa7665
theorem vc_guess (h l y : Int) :
    Owes Try.prog cxGuess [] 100 Try.f91 [sI .u64 h, sI .u64 l, sI .u64 y] (guessG h l y) =
    ((Decidable.decide (h ≥ y) = Bool.true → (18446744073709551615 : Int) = guessN h l y) ∧ (Decidable.decide (h ≥ y) = Bool.false → ((0 : Int) ≤ h ∧ h < (18446744073709551616 : Int)) ∧ ((0 : Int) ≤ l ∧ l < (18446744073709551616 : Int)) ∧ ((0 : Int) ≤ y ∧ y < (18446744073709551616 : Int)) ∧ h < y ∧ (h * (18446744073709551616 : Int) + l) / y = guessN h l y)) := by kernel_rfl
-- END VC
-- VC vc_noughts HASH c7cc3d72ad9a41a0
theorem vc_noughts (a : Nat) :
    Owes Try.prog cxNoughts [] 100 Try.f70 [sU a] (noughtsG a) =
    (let x1 : Int := Go.IntKind.i64.wrap ((0 : Int) + ((64 : Int) - Go.Sx.lenN (Go.Sx.limb a (3 : Nat)))); let x2 : Int := (↑((256 : Nat) - bitsN (a % Go.Sx.M256)) : Int); let x3 : Int := Go.IntKind.i64.wrap (x1 + ((64 : Int) - Go.Sx.lenN (Go.Sx.limb a (2 : Nat)))); let x4 : Int := Go.IntKind.i64.wrap (x3 + ((64 : Int) - Go.Sx.lenN (Go.Sx.limb a (1 : Nat)))); ((0 : Int) ≤ Go.Sx.limb a (3 : Nat) ∧ Go.Sx.limb a (3 : Nat) < (18446744073709551616 : Int)) ∧ ((Go.Sx.limb a (3 : Nat) != (0 : Int)) = Bool.true → x1 = x2) ∧ ((Go.Sx.limb a (3 : Nat) != (0 : Int)) = Bool.false → ((0 : Int) ≤ Go.Sx.limb a (2 : Nat) ∧ Go.Sx.limb a (2 : Nat) < (18446744073709551616 : Int)) ∧ ((Go.Sx.limb a (2 : Nat) != (0 : Int)) = Bool.true → x3 = x2) ∧ ((Go.Sx.limb a (2 : Nat) != (0 : Int)) = Bool.false → ((0 : Int) ≤ Go.Sx.limb a (1 : Nat) ∧ Go.Sx.limb a (1 : Nat) < (18446744073709551616 : Int)) ∧ ((Go.Sx.limb a (1 : Nat) != (0 : Int)) = Bool.true → x4 = x2) ∧ ((Go.Sx.limb a (1 : Nat) != (0 : Int)) = Bool.false → ((0 : Int) ≤ Go.Sx.limb a (0 : Nat) ∧ Go.Sx.limb a (0 : Nat) < (18446744073709551616 : Int)) ∧ ((Go.Sx.limb a (0 : Nat) != (0 : Int)) = Bool.true → Go.IntKind.i64.wrap (x4 + ((64 : Int) - Go.Sx.lenN (Go.Sx.limb a (0 : Nat)))) = x2) ∧ ((Go.Sx.limb a (0 : Nat) != (0 : Int)) = Bool.false → Go.IntKind.i64.wrap (x4 + ((64 : Int) - Go.Sx.lenN (Go.Sx.limb a (0 : Nat)))) = x2))))) := by kernel_rfl
-- END VC
-- VC vc_up HASH 4e038428dd6c2e88
theorem vc_up (a : Nat) (n : Int) :
    Owes Try.prog Cx.none [(2, .split 6 4)] 100 Try.f71 [sU a, sI .i64 n] (upG a n) =
    (let x1 : Int := Go.IntKind.i64.wrap (n.tdiv (64 : Int)); let x2 : Int := Go.IntKind.i64.wrap ((64 : Int) - n.tmod (64 : Int)); let x3 : Int := (2 : Int) ^ Min.min (n.tmod (64 : Int)).toNat (64 : Nat); let x4 : Int := Go.IntKind.u64.wrap (Go.Sx.limb a (0 : Nat) * x3); let x5 : Int := (2 : Int) ^ Min.min x2.toNat (64 : Nat); let x6 : Int := Go.IntKind.u64.wrap (↑(BitVec.ofInt (64 : Nat) (Go.IntKind.u64.wrap (Go.Sx.limb a (1 : Nat) * x3)) ||| BitVec.ofInt (64 : Nat) ((Go.Sx.limb a (0 : Nat)).fdiv x5)).toNat : Int); let x7 : Int := Go.IntKind.u64.wrap (↑(BitVec.ofInt (64 : Nat) (Go.IntKind.u64.wrap (Go.Sx.limb a (2 : Nat) * x3)) ||| BitVec.ofInt (64 : Nat) ((Go.Sx.limb a (1 : Nat)).fdiv x5)).toNat : Int); let x8 : Int := Go.IntKind.u64.wrap (↑(BitVec.ofInt (64 : Nat) (Go.IntKind.u64.wrap (Go.Sx.limb a (3 : Nat) * x3)) ||| BitVec.ofInt (64 : Nat) ((Go.Sx.limb a (2 : Nat)).fdiv x5)).toNat : Int); let x9 : Nat := a * (2 : Nat) ^ n.toNat % Go.Sx.M256; ((0 : Int) ≤ x1 ∧ x1 ≤ (4 : Int)) ∧ ((((x1 = (0 : Int) → (0 : Int) ≤ n.tmod (64 : Int) ∧ (0 : Int) ≤ n.tmod (64 : Int) ∧ (0 : Int) ≤ x2 ∧ (0 : Int) ≤ n.tmod (64 : Int) ∧ (0 : Int) ≤ x2 ∧ (0 : Int) ≤ n.tmod (64 : Int) ∧ (0 : Int) ≤ x2 ∧ ((0 : Int) ≤ x4 ∧ x4 < (18446744073709551616 : Int)) ∧ ((0 : Int) ≤ x6 ∧ x6 < (18446744073709551616 : Int)) ∧ ((0 : Int) ≤ x7 ∧ x7 < (18446744073709551616 : Int)) ∧ ((0 : Int) ≤ x8 ∧ x8 < (18446744073709551616 : Int)) ∧ Go.Sx.join x4 x6 x7 x8 % Go.Sx.M256 = x9 ∧ True) ∧ (x1 = (1 : Int) → (0 : Int) ≤ n.tmod (64 : Int) ∧ (0 : Int) ≤ n.tmod (64 : Int) ∧ (0 : Int) ≤ x2 ∧ (0 : Int) ≤ n.tmod (64 : Int) ∧ (0 : Int) ≤ x2 ∧ ((0 : Int) ≤ (0 : Int) ∧ (0 : Int) < (18446744073709551616 : Int)) ∧ ((0 : Int) ≤ x4 ∧ x4 < (18446744073709551616 : Int)) ∧ ((0 : Int) ≤ x6 ∧ x6 < (18446744073709551616 : Int)) ∧ ((0 : Int) ≤ x7 ∧ x7 < (18446744073709551616 : Int)) ∧ Go.Sx.join (0 : Int) x4 x6 x7 % Go.Sx.M256 = x9 ∧ True)) ∧ (x1 = (2 : Int) → (0 : Int) ≤ n.tmod (64 : Int) ∧ (0 : Int) ≤ n.tmod (64 : Int) ∧ (0 : Int) ≤ x2 ∧ ((0 : Int) ≤ (0 : Int) ∧ (0 : Int) < (18446744073709551616 : Int)) ∧ ((0 : Int) ≤ (0 : Int) ∧ (0 : Int) < (18446744073709551616 : Int)) ∧ ((0 : Int) ≤ x4 ∧ x4 < (18446744073709551616 : Int)) ∧ ((0 : Int) ≤ x6 ∧ x6 < (18446744073709551616 : Int)) ∧ Go.Sx.join (0 : Int) (0 : Int) x4 x6 % Go.Sx.M256 = x9 ∧ True)) ∧ (x1 = (3 : Int) → (0 : Int) ≤ n.tmod (64 : Int) ∧ ((0 : Int) ≤ (0 : Int) ∧ (0 : Int) < (18446744073709551616 : Int)) ∧ ((0 : Int) ≤ (0 : Int) ∧ (0 : Int) < (18446744073709551616 : Int)) ∧ ((0 : Int) ≤ (0 : Int) ∧ (0 : Int) < (18446744073709551616 : Int)) ∧ ((0 : Int) ≤ x4 ∧ x4 < (18446744073709551616 : Int)) ∧ Go.Sx.join (0 : Int) (0 : Int) (0 : Int) x4 % Go.Sx.M256 = x9 ∧ True)) ∧ (x1 = (4 : Int) → (0 : Nat) = x9 ∧ True)) := by kernel_rfl
-- END VC
-- VC vc_down HASH 54f897cdb231f3b2
theorem vc_down (a : Nat) (n : Int) :
    Owes Try.prog Cx.none [(2, .split 6 4)] 100 Try.f72 [sU a, sI .i64 n] (downG a n) =
    (let x1 : Int := Go.IntKind.i64.wrap (n.tdiv (64 : Int)); let x2 : Int := Go.IntKind.i64.wrap ((64 : Int) - n.tmod (64 : Int)); let x3 : Int := (2 : Int) ^ Min.min (n.tmod (64 : Int)).toNat (64 : Nat); let x4 : Int := (2 : Int) ^ Min.min x2.toNat (64 : Nat); let x5 : Int := Go.IntKind.u64.wrap (↑(BitVec.ofInt (64 : Nat) ((Go.Sx.limb a (0 : Nat)).fdiv x3) ||| BitVec.ofInt (64 : Nat) (Go.IntKind.u64.wrap (Go.Sx.limb a (1 : Nat) * x4))).toNat : Int); let x6 : Int := Go.IntKind.u64.wrap (↑(BitVec.ofInt (64 : Nat) ((Go.Sx.limb a (1 : Nat)).fdiv x3) ||| BitVec.ofInt (64 : Nat) (Go.IntKind.u64.wrap (Go.Sx.limb a (2 : Nat) * x4))).toNat : Int); let x7 : Int := Go.IntKind.u64.wrap (↑(BitVec.ofInt (64 : Nat) ((Go.Sx.limb a (2 : Nat)).fdiv x3) ||| BitVec.ofInt (64 : Nat) (Go.IntKind.u64.wrap (Go.Sx.limb a (3 : Nat) * x4))).toNat : Int); let x8 : Int := (Go.Sx.limb a (3 : Nat)).fdiv x3; let x9 : Nat := a % Go.Sx.M256 / (2 : Nat) ^ n.toNat % Go.Sx.M256; ((0 : Int) ≤ x1 ∧ x1 ≤ (4 : Int)) ∧ ((((x1 = (0 : Int) → (0 : Int) ≤ n.tmod (64 : Int) ∧ (0 : Int) ≤ x2 ∧ (0 : Int) ≤ n.tmod (64 : Int) ∧ (0 : Int) ≤ x2 ∧ (0 : Int) ≤ n.tmod (64 : Int) ∧ (0 : Int) ≤ x2 ∧ (0 : Int) ≤ n.tmod (64 : Int) ∧ ((0 : Int) ≤ x5 ∧ x5 < (18446744073709551616 : Int)) ∧ ((0 : Int) ≤ x6 ∧ x6 < (18446744073709551616 : Int)) ∧ ((0 : Int) ≤ x7 ∧ x7 < (18446744073709551616 : Int)) ∧ ((0 : Int) ≤ x8 ∧ x8 < (18446744073709551616 : Int)) ∧ Go.Sx.join x5 x6 x7 x8 % Go.Sx.M256 = x9 ∧ True) ∧ (x1 = (1 : Int) → (0 : Int) ≤ n.tmod (64 : Int) ∧ (0 : Int) ≤ x2 ∧ (0 : Int) ≤ n.tmod (64 : Int) ∧ (0 : Int) ≤ x2 ∧ (0 : Int) ≤ n.tmod (64 : Int) ∧ ((0 : Int) ≤ x6 ∧ x6 < (18446744073709551616 : Int)) ∧ ((0 : Int) ≤ x7 ∧ x7 < (18446744073709551616 : Int)) ∧ ((0 : Int) ≤ x8 ∧ x8 < (18446744073709551616 : Int)) ∧ ((0 : Int) ≤ (0 : Int) ∧ (0 : Int) < (18446744073709551616 : Int)) ∧ Go.Sx.join x6 x7 x8 (0 : Int) % Go.Sx.M256 = x9 ∧ True)) ∧ (x1 = (2 : Int) → (0 : Int) ≤ n.tmod (64 : Int) ∧ (0 : Int) ≤ x2 ∧ (0 : Int) ≤ n.tmod (64 : Int) ∧ ((0 : Int) ≤ x7 ∧ x7 < (18446744073709551616 : Int)) ∧ ((0 : Int) ≤ x8 ∧ x8 < (18446744073709551616 : Int)) ∧ ((0 : Int) ≤ (0 : Int) ∧ (0 : Int) < (18446744073709551616 : Int)) ∧ ((0 : Int) ≤ (0 : Int) ∧ (0 : Int) < (18446744073709551616 : Int)) ∧ Go.Sx.join x7 x8 (0 : Int) (0 : Int) % Go.Sx.M256 = x9 ∧ True)) ∧ (x1 = (3 : Int) → (0 : Int) ≤ n.tmod (64 : Int) ∧ ((0 : Int) ≤ x8 ∧ x8 < (18446744073709551616 : Int)) ∧ ((0 : Int) ≤ (0 : Int) ∧ (0 : Int) < (18446744073709551616 : Int)) ∧ ((0 : Int) ≤ (0 : Int) ∧ (0 : Int) < (18446744073709551616 : Int)) ∧ ((0 : Int) ≤ (0 : Int) ∧ (0 : Int) < (18446744073709551616 : Int)) ∧ Go.Sx.join x8 (0 : Int) (0 : Int) (0 : Int) % Go.Sx.M256 = x9 ∧ True)) ∧ (x1 = (4 : Int) → (0 : Nat) = x9 ∧ True)) := by kernel_rfl
-- END VC
-- VC vc_digit HASH 89f53d4c44464754
theorem vc_digit (r : Nat) (x : Int) (b : Nat) :
    Owes Try.prog cxDig [(7, .inv (invDig r x b))] 100 Try.f73 [sU r, sI .u64 x, sU b] (digG r x b) =
    (let x1 : Int := guessN (Go.Sx.limb r (3 : Nat)) (Go.Sx.limb r (2 : Nat)) (Go.Sx.limb b (3 : Nat)); let x2 : Nat := b % Go.Sx.M256; let x3 : Nat := digR r x / x2; let x4 : Nat := r % Go.Sx.M256; let x5 : Nat := x1.toNat; let x6 : Nat := Go.Sx.join x (Go.Sx.limb r (0 : Nat)) (Go.Sx.limb r (1 : Nat)) (Go.Sx.limb r (2 : Nat)) % Go.Sx.M256; let x7 : Nat := b * x5 % Go.Sx.M256; ((0 : Int) ≤ Go.Sx.limb r (3 : Nat) ∧ Go.Sx.limb r (3 : Nat) < (18446744073709551616 : Int)) ∧ ((0 : Int) ≤ Go.Sx.limb r (2 : Nat) ∧ Go.Sx.limb r (2 : Nat) < (18446744073709551616 : Int)) ∧ ((0 : Int) ≤ Go.Sx.limb b (3 : Nat) ∧ Go.Sx.limb b (3 : Nat) < (18446744073709551616 : Int)) ∧ (0 : Int) < Go.Sx.limb b (3 : Nat) ∧ ((0 : Int) ≤ x1 ∧ x1 < (18446744073709551616 : Int)) ∧ ((0 : Int) ≤ x ∧ x < (18446744073709551616 : Int)) ∧ ((0 : Int) ≤ Go.Sx.limb r (0 : Nat) ∧ Go.Sx.limb r (0 : Nat) < (18446744073709551616 : Int)) ∧ ((0 : Int) ≤ Go.Sx.limb r (1 : Nat) ∧ Go.Sx.limb r (1 : Nat) < (18446744073709551616 : Int)) ∧ ((0 : Int) ≤ Go.Sx.limb r (2 : Nat) ∧ Go.Sx.limb r (2 : Nat) < (18446744073709551616 : Int)) ∧ (∀ (y : Nat), Go.Sx.closedB (Go.Sx.slotsAt (62 : Nat) [((0 : Nat), Go.Sx.SV.one (Go.Sx.sU r)), ((1 : Nat), Go.Sx.SV.one (Go.Sx.sI Go.IntKind.u64 x)), ((2 : Nat), Go.Sx.SV.one (Go.Sx.sU b)), ((3 : Nat), Go.Sx.SV.one (Go.Sx.SA.sc (Go.Sx.SC.ptr (0 : Nat) (0 : Nat)))), ((5 : Nat), Go.Sx.SV.one (Go.Sx.SA.sc (Go.Sx.SC.ptr (1 : Nat) (0 : Nat)))), ((6 : Nat), Go.Sx.SV.one (Go.Sx.SA.sc (Go.Sx.SC.num Go.IntKind.u64 (0 : Int)))), ((7 : Nat), Go.Sx.SV.one (Go.Sx.SA.sc (Go.Sx.SC.ptr (2 : Nat) (0 : Nat)))), ((8 : Nat), Go.Sx.SV.one (Go.Sx.sI Go.IntKind.u64 (↑(digAt r x b y / Go.Sx.M256 % (18446744073709551616 : Nat)) : Int))), ((9 : Nat), Go.Sx.SV.one (Go.Sx.sI Go.IntKind.u64 (↑(x3 + y) : Int)))]) [Go.Sx.SO.cells (24 : Go.TypeId) [Go.Sx.SK.u (digAt r x b y)] (0 : Nat), Go.Sx.SO.cells (24 : Go.TypeId) [Go.Sx.SK.u b] (0 : Nat), Go.Sx.SO.cells (24 : Go.TypeId) [Go.Sx.SK.c (Go.Sx.SC.num Go.IntKind.u64 (0 : Int)), Go.Sx.SK.c (Go.Sx.SC.num Go.IntKind.u64 (0 : Int)), Go.Sx.SK.c (Go.Sx.SC.num Go.IntKind.u64 (0 : Int)), Go.Sx.SK.c (Go.Sx.SC.num Go.IntKind.u64 (0 : Int))] (0 : Nat)] = Bool.true) ∧ ∃ (y : Nat), (y ≤ (2 : Nat) ∧ x3 + y < (18446744073709551616 : Nat)) ∧ x4 = x4 ∧ x = x ∧ x2 = x2 ∧ Go.IntKind.u64.wrap (Go.Sx.limb r (3 : Nat) - Go.IntKind.u64.wrap ((↑(x2 * x5 / Go.Sx.M256) : Int) + if x6 < x7 then (1 : Int) else (0 : Int))) = (↑(digAt r x b y / Go.Sx.M256 % (18446744073709551616 : Nat)) : Int) ∧ x1 = (↑(x3 + y) : Int) ∧ (x6 + Go.Sx.M256 - x7) % Go.Sx.M256 = digAt r x b y % Go.Sx.M256 ∧ (0 : Nat) = (0 : Nat) ∧ x2 = x2 ∧ (0 : Nat) = (0 : Nat) ∧ (0 : Nat) = (0 : Nat) ∧ ∀ (y : Nat), y ≤ (2 : Nat) ∧ x3 + y < (18446744073709551616 : Nat) → (((↑(digAt r x b y / Go.Sx.M256 % (18446744073709551616 : Nat)) : Int) != (0 : Int)) = Bool.true → ∃ (y' : Nat), (y' ≤ (2 : Nat) ∧ x3 + y' < (18446744073709551616 : Nat)) ∧ x4 = x4 ∧ x = x ∧ x2 = x2 ∧ Go.IntKind.u64.wrap ((↑(digAt r x b y / Go.Sx.M256 % (18446744073709551616 : Nat)) : Int) + (↑((digAt r x b y % Go.Sx.M256 + x2) / Go.Sx.M256) : Int)) = (↑(digAt r x b y' / Go.Sx.M256 % (18446744073709551616 : Nat)) : Int) ∧ Go.IntKind.u64.wrap ((↑(x3 + y) : Int) - (1 : Int)) = (↑(x3 + y') : Int) ∧ (digAt r x b y + b) % Go.Sx.M256 = digAt r x b y' % Go.Sx.M256 ∧ (0 : Nat) = (0 : Nat) ∧ x2 = x2 ∧ (0 : Nat) = (0 : Nat) ∧ (0 : Nat) = (0 : Nat) ∧ y' < y) ∧ (((↑(digAt r x b y / Go.Sx.M256 % (18446744073709551616 : Nat)) : Int) != (0 : Int)) = Bool.false → (↑(x3 + y) : Int) = (↑x3 : Int) ∧ digAt r x b y % Go.Sx.M256 = digR r x % x2 % Go.Sx.M256 ∧ True)) := by kernel_rfl
-- END VC
-- VC vc_divide HASH 6f67744863a75f83
theorem vc_divide (a b : Nat) :
    Owes Try.prog cxDv [] 100 Try.f45 [sU a, sU b] (dvG a b) =
    (let x1 : Nat := b % Go.Sx.M256; let x2 : Int := (↑((256 : Nat) - bitsN x1) : Int); let x3 : Int := Go.IntKind.i64.wrap ((256 : Int) - x2); let x4 : Nat := (2 : Nat) ^ x2.toNat; let x5 : Int := Go.Sx.limb (a * x4) (3 : Nat); let x6 : Nat := a % Go.Sx.M256; let x7 : Nat := x6 / (2 : Nat) ^ x3.toNat; let x8 : Nat := b * x4 % Go.Sx.M256; let x9 : Int := Go.Sx.limb (a * x4) (2 : Nat); let x10 : Nat := digR x7 x5; let x11 : Nat := x10 % x8; let x12 : Int := Go.Sx.limb (a * x4) (1 : Nat); let x13 : Nat := digR x11 x9; let x14 : Nat := x13 % x8; let x15 : Int := Go.Sx.limb (a * x4) (0 : Nat); let x16 : Nat := digR x14 x12; let x17 : Nat := x16 % x8; let x18 : Nat := digR x17 x15; let x19 : Int := (↑(x18 / x8) : Int); let x20 : Int := (↑(x16 / x8) : Int); let x21 : Int := (↑(x13 / x8) : Int); let x22 : Int := (↑(x10 / x8) : Int); ((0 : Int) ≤ x2 ∧ x2 ≤ (256 : Int)) ∧ ((0 : Int) ≤ x3 ∧ x3 ≤ (256 : Int)) ∧ ((0 : Int) ≤ x2 ∧ x2 ≤ (256 : Int)) ∧ ((0 : Int) ≤ x5 ∧ x5 < (18446744073709551616 : Int)) ∧ x7 % Go.Sx.M256 < x8 ∧ Go.Sx.M256 ≤ (2 : Nat) * x8 ∧ ((0 : Int) ≤ x9 ∧ x9 < (18446744073709551616 : Int)) ∧ x11 % Go.Sx.M256 < x8 ∧ Go.Sx.M256 ≤ (2 : Nat) * x8 ∧ ((0 : Int) ≤ x12 ∧ x12 < (18446744073709551616 : Int)) ∧ x14 % Go.Sx.M256 < x8 ∧ Go.Sx.M256 ≤ (2 : Nat) * x8 ∧ ((0 : Int) ≤ x15 ∧ x15 < (18446744073709551616 : Int)) ∧ x17 % Go.Sx.M256 < x8 ∧ Go.Sx.M256 ≤ (2 : Nat) * x8 ∧ ((0 : Int) ≤ x2 ∧ x2 ≤ (256 : Int)) ∧ (((0 : Int) ≤ x19 ∧ x19 < (18446744073709551616 : Int)) ∧ ((0 : Int) ≤ x20 ∧ x20 < (18446744073709551616 : Int)) ∧ ((0 : Int) ≤ x21 ∧ x21 < (18446744073709551616 : Int)) ∧ ((0 : Int) ≤ x22 ∧ x22 < (18446744073709551616 : Int)) ∧ Go.Sx.join x19 x20 x21 x22 % Go.Sx.M256 = x6 / x1 % Go.Sx.M256 ∧ True) ∧ x18 % x8 % Go.Sx.M256 / x4 % Go.Sx.M256 = x6 % x1 % Go.Sx.M256 ∧ True) := by kernel_rfl
-- END VC
-- VC vc_DivMod HASH 5d527b4ee574f742
theorem vc_DivMod (a b : Nat) :
    Owes Try.prog cxDm [] 100 Try.f17 [sU a, sU b] (dmG a b) =
    (let x1 : Nat := b % Go.Sx.M256; let x2 : Nat := a % Go.Sx.M256; let x3 : Nat := x2 / x1; let x4 : Nat := (if x1 = (0 : Nat) then (0 : Nat) else x3) % Go.Sx.M256; let x5 : Nat := x2 % x1; let x6 : Nat := (if x1 = (0 : Nat) then (0 : Nat) else x5) % Go.Sx.M256; let x7 : Int := if x1 = (0 : Nat) then (7 : Int) else (0 : Int); (Go.Sx.conj [x1 == (0 : Nat)] = Bool.true → ((0 : Nat) = x4 ∧ True) ∧ ((0 : Nat) = x6 ∧ True) ∧ (7 : Int) = x7) ∧ (Go.Sx.conj [x1 == (0 : Nat)] = Bool.false → (0 : Nat) < x1 ∧ (x3 % Go.Sx.M256 = x4 ∧ True) ∧ (x5 % Go.Sx.M256 = x6 ∧ True) ∧ (0 : Int) = x7)) := by kernel_rfl
-- END VC
end Go.Proofs.Ytbjdchpncbgpnaa
end

section
/-
  Texts of numbers: reckoned by the kernel. (Laid by program.)
-/
namespace Go.Proofs.Ytbjdchpncbgpnaa
open Go.Sx
set_option maxRecDepth 100000
end Go.Proofs.Ytbjdchpncbgpnaa
end

section
/-
  What powers of ten, and bytes, come to: reckoned by the kernel. (Laid by program.)
-/
namespace Go.Proofs.Ytbjdchpncbgpnaa
open Go.Sx
set_option maxRecDepth 100000
end Go.Proofs.Ytbjdchpncbgpnaa
end

section
/-
  Package wide's functions, each held to its card: the numbers' side.
-/
namespace Go.Proofs.Ytbjdchpncbgpnaa
open Go.Sx

theorem split4 (n : Nat) : ∃ a b c d : Nat, limb n 0 = a ∧ limb n 1 = b ∧ limb n 2 = c ∧ limb n 3 = d ∧ a < 18446744073709551616 ∧ b < 18446744073709551616 ∧ c < 18446744073709551616 ∧ d < 18446744073709551616 ∧
    n % M256 = a + 18446744073709551616 * b + 340282366920938463463374607431768211456 * c + 6277101735386680763835789423207666416102355444464034512896 * d := by
  refine ⟨n / 2 ^ (64 * 0) % 2 ^ 64, n / 2 ^ (64 * 1) % 2 ^ 64, n / 2 ^ (64 * 2) % 2 ^ 64, n / 2 ^ (64 * 3) % 2 ^ 64, rfl, rfl, rfl, rfl, Nat.mod_lt _ (by decide), Nat.mod_lt _ (by decide), Nat.mod_lt _ (by decide), Nat.mod_lt _ (by decide), ?_⟩
  rw [limbs_sum]
  simp only [Nat.mul_zero, Nat.pow_zero, Nat.div_one, Nat.mul_one, Nat.reduceMul, Nat.reducePow]

theorem M256_eq : M256 = 115792089237316195423570985008687907853269984665640564039457584007913129639936 := by decide

theorem carry_step (x y c : Nat) (hx : x < 18446744073709551616) (hy : y < 18446744073709551616) (hc : c ≤ 1) :
    ∃ s d : Nat, ((x : Int) + y + c) % 18446744073709551616 = s ∧ ((x : Int) + y + c) / 18446744073709551616 = d ∧ s < 18446744073709551616 ∧ d ≤ 1 ∧ x + y + c = s + 18446744073709551616 * d :=
  ⟨(x + y + c) % 18446744073709551616, (x + y + c) / 18446744073709551616, by omega, by omega, by omega, by omega, by omega⟩

theorem divmod_of {A S c M : Nat} (h : A = S + M * c) (hS : S < M) : A % M = S ∧ A / M = c := by
  subst h
  rw [Nat.add_mul_mod_self_left, Nat.mod_eq_of_lt hS, Nat.add_mul_div_left _ _ (by omega), Nat.div_eq_of_lt hS]
  exact ⟨rfl, by omega⟩

theorem ok_plus : ∀ a b, Owes Try.prog cxPlus [] 100 Try.f37 [sU a, sU b] (plusG a b) := by
  intro a b
  rw [vc_plus]
  have hab := Nat.add_mod a b M256
  obtain ⟨a0, a1, a2, a3, e0, e1, e2, e3, h0, h1, h2, h3, ha⟩ := split4 a
  obtain ⟨b0, b1, b2, b3, f0, f1, f2, f3, k0, k1, k2, k3, hb⟩ := split4 b
  rw [e0, e1, e2, e3, f0, f1, f2, f3]
  rw [ha, hb] at hab
  rw [ha, hb]
  obtain ⟨s0, c0, p0, q0, r0, t0, w0⟩ := carry_step a0 b0 0 h0 k0 (by omega)
  obtain ⟨s1, c1, p1, q1, r1, t1, w1⟩ := carry_step a1 b1 c0 h1 k1 t0
  obtain ⟨s2, c2, p2, q2, r2, t2, w2⟩ := carry_step a2 b2 c1 h2 k2 t1
  obtain ⟨s3, c3, p3, q3, r3, t3, w3⟩ := carry_step a3 b3 c2 h3 k3 t2
  simp only [Int.natCast_zero] at p0 q0
  obtain ⟨m1, m2⟩ := divmod_of (A := a0 + 18446744073709551616 * a1 + 340282366920938463463374607431768211456 * a2 + 6277101735386680763835789423207666416102355444464034512896 * a3 +
    (b0 + 18446744073709551616 * b1 + 340282366920938463463374607431768211456 * b2 + 6277101735386680763835789423207666416102355444464034512896 * b3))
    (S := s0 + 2 ^ 64 * s1 + 2 ^ 128 * s2 + 2 ^ 192 * s3) (c := c3) (M := M256) (by rw [M256_eq]; omega) (by rw [M256_eq]; omega)
  rw [m1] at hab
  have hS : (s0 + 2 ^ 64 * s1 + 2 ^ 128 * s2 + 2 ^ 192 * s3) % M256 = s0 + 2 ^ 64 * s1 + 2 ^ 128 * s2 + 2 ^ 192 * s3 := Nat.mod_eq_of_lt (by rw [M256_eq]; omega)
  simp only [q0, q1, q2, q3, p0, p1, p2, p3, join, Int.toNat_natCast, and_true, hab, hS, m2]
  clear ha hb hab hS m1 m2 p0 p1 p2 p3 q0 q1 q2 q3 w0 w1 w2 w3 e0 e1 e2 e3 f0 f1 f2 f3
  refine ⟨?_, ?_, ?_, ?_, ?_, ?_, ?_, ?_, ?_, ?_, ?_, ?_, ?_, ?_, ?_, ?_⟩ <;> omega

theorem borrow_step (x y c : Nat) (hx : x < 18446744073709551616) (hy : y < 18446744073709551616) (hc : c ≤ 1) :
    ∃ s d : Nat, ((x : Int) - y - c) % 18446744073709551616 = s ∧ -(((x : Int) - y - c) / 18446744073709551616) = d ∧ s < 18446744073709551616 ∧ d ≤ 1 ∧ x + 18446744073709551616 * d = s + y + c :=
  ⟨(((x : Int) - y - c) % 18446744073709551616).toNat, (-(((x : Int) - y - c) / 18446744073709551616)).toNat, by omega, by omega, by omega, by omega, by omega⟩

theorem ok_less : ∀ a b, Owes Try.prog cxLess [] 100 Try.f38 [sU a, sU b] (lessG a b) := by
  intro a b
  rw [vc_less]
  obtain ⟨a0, a1, a2, a3, e0, e1, e2, e3, h0, h1, h2, h3, ha⟩ := split4 a
  obtain ⟨b0, b1, b2, b3, f0, f1, f2, f3, k0, k1, k2, k3, hb⟩ := split4 b
  rw [e0, e1, e2, e3, f0, f1, f2, f3, ha, hb]
  obtain ⟨s0, c0, p0, q0, r0, t0, w0⟩ := borrow_step a0 b0 0 h0 k0 (by omega)
  obtain ⟨s1, c1, p1, q1, r1, t1, w1⟩ := borrow_step a1 b1 c0 h1 k1 t0
  obtain ⟨s2, c2, p2, q2, r2, t2, w2⟩ := borrow_step a2 b2 c1 h2 k2 t1
  obtain ⟨s3, c3, p3, q3, r3, t3, w3⟩ := borrow_step a3 b3 c2 h3 k3 t2
  simp only [Int.natCast_zero] at p0 q0
  have key : a0 + 18446744073709551616 * a1 + 340282366920938463463374607431768211456 * a2 + 6277101735386680763835789423207666416102355444464034512896 * a3 + M256 * c3 =
    (s0 + 2 ^ 64 * s1 + 2 ^ 128 * s2 + 2 ^ 192 * s3) + (b0 + 18446744073709551616 * b1 + 340282366920938463463374607431768211456 * b2 + 6277101735386680763835789423207666416102355444464034512896 * b3) := by
    rw [M256_eq]; omega
  simp only [q0, q1, q2, q3, p0, p1, p2, p3, join, Int.toNat_natCast, and_true]
  generalize hA : a0 + 18446744073709551616 * a1 + 340282366920938463463374607431768211456 * a2 + 6277101735386680763835789423207666416102355444464034512896 * a3 = A at *
  generalize hB : b0 + 18446744073709551616 * b1 + 340282366920938463463374607431768211456 * b2 + 6277101735386680763835789423207666416102355444464034512896 * b3 = B at *
  have hA' : A < M256 := by rw [M256_eq]; omega
  have hB' : B < M256 := by rw [M256_eq]; omega
  have hS' : s0 + 2 ^ 64 * s1 + 2 ^ 128 * s2 + 2 ^ 192 * s3 < M256 := by rw [M256_eq]; omega
  generalize s0 + 2 ^ 64 * s1 + 2 ^ 128 * s2 + 2 ^ 192 * s3 = S at *
  rw [Nat.mod_eq_of_lt hS']
  have hc3 : c3 = 0 ∨ c3 = 1 := by omega
  have fin : S = (A + M256 - B) % M256 ∧ (c3 : Int) = if A < B then 1 else 0 := by
    rcases hc3 with rfl | rfl
    · have : ¬ A < B := by omega
      rw [if_neg this]
      refine ⟨?_, rfl⟩
      rw [show A + M256 - B = S + M256 by omega, Nat.add_mod_right, Nat.mod_eq_of_lt hS']
    · have : A < B := by omega
      rw [if_pos this]
      refine ⟨?_, rfl⟩
      rw [show A + M256 - B = S by omega, Nat.mod_eq_of_lt hS']
  obtain ⟨g1, g2⟩ := fin
  rw [← g1, ← g2]
  clear ha hb hA hB key hA' hB' hS' g1 g2 p0 p1 p2 p3 q0 q1 q2 q3 w0 w1 w2 w3 e0 e1 e2 e3 f0 f1 f2 f3
  repeat' apply And.intro
  all_goals first | rfl | omega

end Go.Proofs.Ytbjdchpncbgpnaa
end

section
/-
  The laws' drawn numbers, and the laws of sums: the numbers' side.
-/
namespace Go.Proofs.Ytbjdchpncbgpnaa
open Go.Sx

end Go.Proofs.Ytbjdchpncbgpnaa
end
