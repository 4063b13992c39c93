/-
  Texts: P103, Wsp2, Wsp3, Wsp4, Wsp6, P104, V63, P105, P106, P107.
-/
import Derived.Test.YtbjdchpncbgpnaaM1
import Derived.Test.YtbjdchpncbgpnaaM2
import Derived.Test.YtbjdchpncbgpnaaM3
import Derived.Test.YtbjdchpncbgpnaaM4
import Derived.Test.YtbjdchpncbgpnaaM5
import Derived.Test.YtbjdchpncbgpnaaM6
import Derived.Test.YtbjdchpncbgpnaaM7
import Derived.Test.YtbjdchpncbgpnaaM8
import Derived.Test.YtbjdchpncbgpnaaM9
import Derived.Test.YtbjdchpncbgpnaaM10
import Derived.Test.YtbjdchpncbgpnaaChecked
section
/-
  The reference's rows of digits: divisions.
-/
namespace Go.Proofs.Ytbjdchpncbgpnaa
open Go Go.Sx Go.RowKit

theorem vn_one (z : Int) : vn 1 (fun i => (intsL [SK.c (SC.val (Value.int IntKind.u64 z))]).getD i 0) = z.toNat := by
  simp [vn, vz, intsL, intsC, asI]
theorem dgs_one {z : Int} (hz : 0 ≤ z ∧ z < 4294967296) : dgs 1 fun i => intsC (SC.val (Value.int IntKind.u64 (selG [SK.c (SC.val (Value.int IntKind.u64 z))] i))) := ⟨fun i hi => by
  have : i = 0 := by omega
  subst this
  exact hz⟩
def dvdC (n : Nat) (f : Nat → Int) (m : Nat) (h : Nat → Int) : List Prop := [dgs n f, n ≤ 1000, dgs m h, m ≤ 900, vn m h ≠ 0]
def dvdR (n : Nat) (f : Nat → Int) (m : Nat) (h : Nat → Int) : List RS := [.s n .u64 (dg (vn n f / vn m h)), .s (remL (vn n f) (vn m h) n) .u64 (dg (vn n f % vn m h))]
theorem cmpI_le {A R : Nat} : cmpI A R ≤ 0 ↔ A ≤ R := by
  unfold cmpI
  by_cases h : A < R
  · rw [if_pos h]; omega
  · rw [if_neg h]
    by_cases k : R < A
    · rw [if_pos k]; omega
    · rw [if_neg k]; omega
theorem vn_prod {Y z m : Nat} (hY : Y < 4294967296 ^ m) (hz : z < 4294967296) : vn (m + 1) (fun i => dg (Y * z) i) = Y * z := by
  refine vn_dg' ?_
  rw [Nat.pow_succ]
  exact Nat.lt_of_le_of_lt (Nat.mul_le_mul_left Y (show z ≤ 4294967296 by omega)) (Nat.mul_lt_mul_of_pos_right hY (by decide))
theorem ok_divided (a : Option Addr) (n c : Nat) (f : Nat → Int) (b : Option Addr) (m d : Nat) (h : Nat → Int) (hf : dgs n f) (hn : n ≤ 1000) (hh : dgs m h) (hm : m ≤ 900) (h0 : vn m h ≠ 0) :
    OwesR Try.prog cxR slDg [(6, .inv (invD1 a n c f b m d h (D1P (vn n f) (vn m h) n))), (13, .inv (invD2 a n c f b m d h (D2P (vn n f) (vn m h) n))), (15, .cut (cutD a n c f b m d h (DcP (vn n f) (vn m h) n)) (fun y z => z.1 = y.1)), (17, .invR (invD3 a n c f b m d h (D3P (vn n f) (vn m h) n)) (fun y z => z.1 = y.1))] 4 Try.f46 [xsI a n c .u64 f, xsI b m d .u64 h] true (dvdR n f m h) := by
  unfold dvdR
  rw [vc_divided]
  have hfi : ∀ i, i < n → f i = dg (vn n f) i := fun i hi => dg_in hf hi
  have hX := vn_lt hf
  have hXr := dg_range (vn n f)
  have hYm := vn_lt hh
  rw [show (fun i => h i) = h from rfl]
  generalize vn n f = X at *
  generalize vn m h = Y at *
  have hY : 0 < Y := by omega
  have hL := maxLen_eq
  have AA : (a = a ∧ n = n ∧ c = c ∧ ∀ i, i < n → f i = f i) := ⟨rfl, rfl, rfl, fun _ _ => rfl⟩
  have BB : (b = b ∧ m = m ∧ d = d ∧ ∀ i, i < m → h i = h i) := ⟨rfl, rfl, rfl, fun _ _ => rfl⟩
  have NN : ((0 : Int) ≤ (n : Int) ∧ (n : Int) ≤ (n : Int) ∧ 8 * (n : Int) ≤ 281474976710656 ∧ (n : Int) ≤ 9223372036854775807) := by omega
  have En : ((n : Int)).toNat = n := Int.toNat_natCast n
  intro x1 x2 x3
  have E1 : x1 = dg Y 0 := rfl
  have E2 : x2 = 0 := by simp only [x2]; rw [Nat.sub_self, Nat.zero_mul]
  have E3 : x3 = m + 1 := rfl
  clear_value x1 x2 x3
  subst E1 E2 E3
  refine ⟨fun _ => trivial, hh, by omega, fun h1 => ⟨NN, fun y => rfl, (n, fun _ => 0, 0), ⟨D1P.start hX _, Nat.le_refl _⟩, AA, ⟨rfl, rfl, rfl, En, En⟩, rfl, rfl, wrapi (by omega), En, rfl, fun _ _ => rfl, fun ⟨i, q, l⟩ ⟨hP, hi⟩ => ⟨fun h2 => ?_, fun h2 => ?_⟩⟩, fun h1 => ⟨NN, fun y => rfl, (n, fun _ => 0, none, 0, 0, fun _ => 0), ⟨D2P.start hX _, Nat.le_refl _⟩, AA, BB, ⟨rfl, rfl, rfl, En, En⟩, rfl, rfl, rfl, wrapi (by omega), En, rfl, fun _ _ => rfl, fun ⟨i, q, ra, rn, rc, rf⟩ ⟨hP, hi⟩ => ⟨fun h2 => ?_, fun h2 => ?_⟩⟩⟩
  · have hYs : Y < 4294967296 := of_decide_eq_true h1
    have hP : D1P X Y n i q l := hP
    have hi : i ≤ n := hi
    have h2 : (i : Int) - 1 ≥ 0 := of_decide_eq_true h2
    obtain ⟨k, rfl⟩ : ∃ k, i = k + 1 := ⟨i - 1, by omega⟩
    have Ek : (((k + 1 : Nat) : Int) - 1).toNat = k := by omega
    have Ey : dg Y 0 = (Y : Int) := by
      unfold dg
      rw [Nat.pow_zero, Nat.div_one, Nat.mod_eq_of_lt hYs]
    have A : (0 : Int) ≤ ((k + 1 : Nat) : Int) - 1 ∧ ((k + 1 : Nat) : Int) - 1 < (n : Int) := by omega
    have xr := hXr k
    have hl := hP.left
    have hlt : X / 4294967296 ^ (k + 1) % Y < 4294967296 := Nat.lt_trans (Nat.mod_lt _ hY) hYs
    have T : IntKind.u64.wrap (IntKind.u64.wrap (l * 4294967296) + f (((k + 1 : Nat) : Int) - 1).toNat) = l * 4294967296 + dg X k := by
      rw [Ek, hfi k (by omega), wrap64 (x := l * 4294967296) (by omega), wrap64 (by omega)]
    have h64 : 0 ≤ l * 4294967296 + dg X k ∧ l * 4294967296 + dg X k < 18446744073709551616 := by omega
    have Q := hP.step hY rfl (q' := fun j => if j = k then (l * 4294967296 + dg X k) / (Y : Int) else q j) (fun _ _ => rfl)
    have Ed : IntKind.u64.wrap ((l * 4294967296 + dg X k).tdiv (Y : Int)) = (l * 4294967296 + dg X k) / (Y : Int) := by
      rw [Int.tdiv_eq_ediv_of_nonneg h64.1]
      have a1 : 0 ≤ (l * 4294967296 + dg X k) / (Y : Int) := Int.ediv_nonneg h64.1 (by omega)
      have a2 : (l * 4294967296 + dg X k) / (Y : Int) ≤ l * 4294967296 + dg X k := Int.ediv_le_self _ h64.1
      exact wrap64 (by omega)
    have Em : (l * 4294967296 + dg X k).tmod (Y : Int) = (l * 4294967296 + dg X k) % (Y : Int) := Int.tmod_eq_emod_of_nonneg h64.1
    refine ⟨A, by rw [Ey]; omega, by rw [Ey]; omega, A, by omega, (k, _, _), ⟨?_, by show k ≤ n; omega⟩, AA, ⟨rfl, rfl, rfl, rfl, rfl⟩, rfl, rfl, ?_, rfl, rfl, fun _ _ => rfl, by show k < k + 1; omega⟩
    · show D1P X Y n k (fun j => bif decide (j = 0 + (((k + 1 : Nat) : Int) - 1).toNat) then IntKind.u64.wrap ((IntKind.u64.wrap (IntKind.u64.wrap (l * 4294967296) + f (((k + 1 : Nat) : Int) - 1).toNat)).tdiv (dg Y 0)) else q j) ((IntKind.u64.wrap (IntKind.u64.wrap (l * 4294967296) + f (((k + 1 : Nat) : Int) - 1).toNat)).tmod (dg Y 0))
      rw [T, Ey, Ed, Em, Ek, Nat.zero_add]
      have e5 : (fun j => bif decide (j = k) then (l * 4294967296 + dg X k) / (Y : Int) else q j) = fun j => if j = k then (l * 4294967296 + dg X k) / (Y : Int) else q j := by
        funext j
        by_cases e : j = k <;> simp [e]
      rw [e5]
      exact Q
    · show IntKind.i64.wrap (((k + 1 : Nat) : Int) - 1 - 1) = (k : Int) - 1
      rw [wrapi (by omega)]; omega
  · have hYs : Y < 4294967296 := of_decide_eq_true h1
    have hP : D1P X Y n i q l := hP
    have h2 : ¬ (i : Int) - 1 ≥ 0 := of_decide_eq_false h2
    have : i = 0 := by omega
    subst this
    refine ⟨⟨by omega, rfl, Nat.le_refl _, fun j hj => ?_⟩, ?_, Nat.le_refl _, fun j hj => ?_⟩
    · show q (0 + j) = _
      rw [Nat.zero_add]
      exact hP.qs j (Nat.zero_le _) hj
    · unfold remL; rw [if_pos hYs]
    · have hj : j < remL X Y n := hj
      unfold remL at hj
      rw [if_pos hYs] at hj
      have : j = 0 := by omega
      subst this
      show l = _
      rw [hP.left]
      unfold dg
      rw [Nat.pow_zero, Nat.div_one, Nat.div_one, Nat.mod_eq_of_lt (Nat.lt_trans (Nat.mod_lt _ hY) hYs)]
  · have hP : D2P X Y n i q rn rf := hP
    have hi : i ≤ n := hi
    have h2 : (i : Int) - 1 ≥ 0 := of_decide_eq_true h2
    obtain ⟨k, rfl⟩ : ∃ k, i = k + 1 := ⟨i - 1, by omega⟩
    have Ek : (((k + 1 : Nat) : Int) - 1).toNat = k := by omega
    have A : (0 : Int) ≤ ((k + 1 : Nat) : Int) - 1 ∧ ((k + 1 : Nat) : Int) - 1 < (n : Int) := by omega
    have hlm : lenDg (X / 4294967296 ^ (k + 1) % Y) ≤ m := lenDg_le (Nat.lt_trans (Nat.mod_lt _ hY) hYm)
    refine ⟨fun y => rfl, (k + 1, q, 0, 0, fun _ => 0), fun ⟨i1, q1, rn1, sp1, rf1⟩ ⟨hC, hi1⟩ e1 => ⟨fun y => rfl, (k + 1, q1, rn1, sp1, rf1, 0, 4294967296), ⟨⟨?_, hi⟩, rfl⟩, AA, BB, ⟨rfl, rfl, rfl, rfl, rfl⟩, ⟨rfl, rfl, rfl, rfl, rfl⟩, ?_, rfl, rfl, rfl, rfl, fun _ _ => rfl, rfl, rfl, fun _ _ => rfl, fun ⟨i2, q2, rn2, sp2, rf2, lo, hi2⟩ ⟨hQ, hi2n⟩ e2 => ⟨fun h3 => ?_, fun h3 => ?_⟩⟩, ?_⟩
    · have e1 : i1 = k + 1 := e1
      subst e1
      exact DcP.seek hC hY
    · have e1 : i1 = k + 1 := e1
      subst e1
      rfl
    · have e2 : i2 = k + 1 := e2
      subst e2
      have hQ : D3P X Y n (k + 1) q2 rn2 rf2 lo hi2 := hQ
      have ht := hQ.top
      have hlt := hQ.lt
      have hr2 : rn2 ≤ 1000 := by have := hQ.at'.len; omega
      have E4 : IntKind.u64.wrap ((hi2 : Int) - (lo : Int)) = ((hi2 - lo : Nat) : Int) := by rw [wrap64 (by omega)]; omega
      have h3 : IntKind.u64.wrap ((hi2 : Int) - (lo : Int)) > 1 := of_decide_eq_true h3
      rw [E4] at h3
      have EZ : IntKind.u64.wrap ((IntKind.u64.wrap ((lo : Int) + (hi2 : Int))).tdiv 2) = (((lo + hi2) / 2 : Nat) : Int) := by
        rw [wrap64 (x := (lo : Int) + (hi2 : Int)) (by omega), Int.tdiv_eq_ediv_of_nonneg (by omega), wrap64 (by omega)]
        omega
      have hmid : (lo + hi2) / 2 < 4294967296 := by omega
      have E0 : (fun i => rf2 (0 + i)) = rf2 := by funext i; rw [Nat.zero_add]
      refine ⟨Nat.le_refl _, fun a8 => ⟨fun _ => trivial, fun _ => trivial, hh, by omega, dgs_one (by rw [EZ]; omega), by decide, fun a9 cap _ _ => ⟨by show 0 + rn2 ≤ rn2; omega, Nat.le_add_right _ _, fun a12 => ⟨fun _ => trivial, fun _ => trivial, dgs_dg _ _, by omega, ?_, hr2, fun h4 => ?_, fun h4 => ?_⟩⟩⟩⟩
      · show dgs rn2 fun i => rf2 (0 + i)
        rw [E0]
        exact hQ.at'.ds
      all_goals
        have h4' := h4
        simp only [EZ, vn_one, Int.toNat_natCast, vn_prod hYm hmid, E0] at h4'
      · have h4' := cmpI_le.1 (of_decide_eq_true h4')
        refine ⟨(k + 1, q2, rn2, sp2, rf2, (lo + hi2) / 2, hi2), ⟨⟨hQ.low (by omega) h4', hi⟩, rfl⟩, AA, BB, ⟨rfl, rfl, rfl, rfl, rfl⟩, ⟨rfl, rfl, rfl, rfl, rfl⟩, rfl, EZ, rfl, rfl, rfl, fun _ _ => rfl, rfl, rfl, fun _ _ => rfl, ?_⟩
        show hi2 - (lo + hi2) / 2 < hi2 - lo
        omega
      · have h4' := fun e => of_decide_eq_false h4' (cmpI_le.2 e)
        refine ⟨(k + 1, q2, rn2, sp2, rf2, lo, (lo + hi2) / 2), ⟨⟨hQ.high (by omega) h4', hi⟩, rfl⟩, AA, BB, ⟨rfl, rfl, rfl, rfl, rfl⟩, ⟨rfl, rfl, rfl, rfl, rfl⟩, rfl, rfl, EZ, rfl, rfl, fun _ _ => rfl, rfl, rfl, fun _ _ => rfl, ?_⟩
        show (lo + hi2) / 2 - lo < hi2 - lo
        omega
    · have e2 : i2 = k + 1 := e2
      subst e2
      have hQ : D3P X Y n (k + 1) q2 rn2 rf2 lo hi2 := hQ
      have ht := hQ.top
      have hlt := hQ.lt
      have hr2 : rn2 ≤ 1000 := by have := hQ.at'.len; omega
      have E4 : IntKind.u64.wrap ((hi2 : Int) - (lo : Int)) = ((hi2 - lo : Nat) : Int) := by rw [wrap64 (by omega)]; omega
      have h3 : ¬ IntKind.u64.wrap ((hi2 : Int) - (lo : Int)) > 1 := of_decide_eq_false h3
      rw [E4] at h3
      have hlo : lo < 4294967296 := by omega
      have E0 : (fun i => rf2 (0 + i)) = rf2 := by funext i; rw [Nat.zero_add]
      have D0 : dgs rn2 fun i => rf2 (0 + i) := by rw [E0]; exact hQ.at'.ds
      refine ⟨A, by show 0 + (((k + 1 : Nat) : Int) - 1).toNat < n; omega, Nat.le_refl _, fun a8 => ⟨fun _ => trivial, fun _ => trivial, hh, by omega, dgs_one (z := (lo : Int)) (by omega), by decide, fun a9 cap _ _ => ⟨by show 0 + rn2 ≤ rn2; omega, Nat.le_add_right _ _, fun a12 => ⟨fun _ => trivial, fun _ => trivial, D0, hr2, dgs_dg _ _, by omega, ?_, fun a13 cap' _ _ => ⟨(k, _, a13, rn2, cap', _), ⟨?_, by show k ≤ n; omega⟩, AA, BB, ⟨rfl, rfl, rfl, rfl, rfl⟩, ⟨rfl, rfl, rfl, fun _ _ => rfl⟩, ?_, rfl, rfl, fun _ _ => rfl, by show k < k + 1; omega⟩⟩⟩⟩⟩
      · show vn (m + 1) (fun i => dg (Y * vn 1 fun i => (intsL [SK.c (SC.val (Value.int IntKind.u64 (lo : Int)))]).getD i 0) i) ≤ vn rn2 fun i => rf2 (0 + i)
        rw [vn_one, Int.toNat_natCast, vn_prod hYm hlo, E0]
        exact hQ.below
      · refine D3P.found hQ (by omega) hY hi (fun j hj => ?_) fun j hj => ?_
        · show (bif decide (j = 0 + (((k + 1 : Nat) : Int) - 1).toNat) then (lo : Int) else q2 j) = _
          rw [Ek, Nat.zero_add]
          by_cases e : j = k <;> simp [e]
        · show dg ((vn rn2 fun i => rf2 (0 + i)) - vn (m + 1) fun i => dg (Y * vn 1 fun i => (intsL [SK.c (SC.val (Value.int IntKind.u64 (lo : Int)))]).getD i 0) i) j = _
          rw [vn_one, Int.toNat_natCast, vn_prod hYm hlo, E0]
      · show IntKind.i64.wrap (((k + 1 : Nat) : Int) - 1 - 1) = (k : Int) - 1
        rw [wrapi (by omega)]; omega
    · have hrn : rn ≤ 1000 := by
        rw [hP.len]
        split
        · omega
        · have : lenDg (X / 4294967296 ^ (k + 1 + 1) % Y) ≤ m := lenDg_le (Nat.lt_trans (Nat.mod_lt _ hY) hYm)
          omega
      have hle : lenDg (vn rn rf) ≤ m := by rw [hP.left]; exact hlm
      have C1 : (1 : Nat) ≤ 1 ∧ 1 ≤ maxLen ∧ 1 = 1 := ⟨Nat.le_refl _, by omega, rfl⟩
      have C2 : 1 + lenDg (vn rn rf) ≤ maxLen ∧ (1 + lenDg (vn rn rf)) * 8 ≤ 140737488355328 := by omega
      have T : ∀ i : Nat, True := fun _ => trivial
      have fin : ∀ c1 : Nat, 1 + lenDg (vn rn rf) + c1 ≤ maxLen → ∃ y1 : Nat × (Nat → Int) × Nat × Nat × (Nat → Int), ((DcP X Y n y1.1 y1.2.1 y1.2.2.1 y1.2.2.2.2 ∧ y1.1 ≤ n) ∧ y1.1 = k + 1) ∧ (a = a ∧ n = n ∧ c = c ∧ ∀ i, i < n → f i = f i) ∧ (b = b ∧ m = m ∧ d = d ∧ ∀ i, i < m → h i = h i) ∧ (0 = 0 ∧ 1 = 1 ∧ 0 = 0 ∧ n = n ∧ n = n) ∧ (1 = 1 ∧ 1 = 1 ∧ 0 = 0 ∧ 1 + lenDg (vn rn rf) = y1.2.2.1 ∧ 1 + lenDg (vn rn rf) + c1 = y1.2.2.1 + y1.2.2.2.1) ∧ ((k + 1 : Nat) : Int) - 1 = (y1.1 : Int) - 1 ∧ n = n ∧ 0 = 0 ∧ (∀ i, i < n → q i = y1.2.1 i) ∧ 1 + lenDg (vn rn rf) = y1.2.2.1 ∧ c1 * 1 = y1.2.2.2.1 ∧ (∀ i, i < 1 + lenDg (vn rn rf) → (bif decide (i < 1) then f (((k + 1 : Nat) : Int) - 1).toNat else dg (vn rn rf) (i - 1)) = y1.2.2.2.2 i) ∧ True := by
        intro c1 _
        refine ⟨(k + 1, q, 1 + lenDg (vn rn rf), c1, fun i => bif decide (i < 1) then f (((k + 1 : Nat) : Int) - 1).toNat else dg (vn rn rf) (i - 1)), ⟨⟨?_, hi⟩, rfl⟩, AA, BB, ⟨rfl, rfl, rfl, rfl, rfl⟩, ⟨rfl, rfl, rfl, rfl, rfl⟩, rfl, rfl, rfl, fun _ _ => rfl, rfl, Nat.mul_one _, fun _ _ => rfl, trivial⟩
        refine hP.next fun i _ => ?_
        rw [Ek, hfi k (by omega)]
      have F : ((1 : Nat) ≤ 1 ∧ 1 ≤ maxLen ∧ 1 = 1) ∧ (1 + lenDg (vn rn rf) ≤ maxLen ∧ (1 + lenDg (vn rn rf)) * 8 ≤ 140737488355328) ∧ _ := ⟨C1, C2, fin⟩
      have hds := hP.ds
      clear hP
      repeat' (first | exact A | exact T | exact hds | exact hrn | exact F | (intro _ _ _ _) | (refine And.intro ?_ ?_))
  · have hYs : ¬ Y < 4294967296 := of_decide_eq_false h1
    have hP : D2P X Y n i q rn rf := hP
    have h2 : ¬ (i : Int) - 1 ≥ 0 := of_decide_eq_false h2
    have : i = 0 := by omega
    subst this
    refine ⟨⟨by omega, rfl, Nat.le_refl _, fun j hj => ?_⟩, ?_, fun j hj => ?_⟩
    · show q (0 + j) = _
      rw [Nat.zero_add]
      exact hP.qs j (Nat.zero_le _) hj
    · show rn = _
      rw [hP.len]
      unfold remL
      rw [if_neg hYs]
      by_cases e : n = 0
      · rw [if_pos e.symm, if_pos e]
      · rw [if_neg (fun k => e k.symm), if_neg e, Nat.zero_add, Nat.pow_one]
    · show rf j = _
      have hl := hP.left
      rw [Nat.pow_zero, Nat.div_one] at hl
      have hj : j < remL X Y n := hj
      have hrn : rn = remL X Y n := by
        rw [hP.len]
        unfold remL
        rw [if_neg hYs]
        by_cases e : n = 0
        · rw [if_pos e.symm, if_pos e]
        · rw [if_neg (fun k => e k.symm), if_neg e, Nat.zero_add, Nat.pow_one]
      rw [← hl]
      exact dg_in hP.ds (by omega)
end Go.Proofs.Ytbjdchpncbgpnaa
end

section
/-
  More shapes of cards: a number and a word under a condition; a text.
-/
namespace Go.Sx
open Go.RowKit

end Go.Sx
end

section
/-
  More shapes of cards: two numbers under a condition; a number and an int; a number, a word and a number.
-/
namespace Go.Sx
open Go.RowKit

theorem bnd_sU (a : Nat) : SA.bnd none0 (sU a) := by
  intro k hk; simp only [List.mem_singleton] at hk; subst hk; trivial
/-- Two numbers of 256 bits, under a condition. -/
def specUUC (c : Nat → Nat → List Prop) (g : Nat → Nat → SV) : FSpec := fun args =>
  match args with
  | [x, y] => match asU x, asU y with
    | some (p, a), some (q, b) => some ((p ++ q) ++ c a b, g a b)
    | _, _ => none
  | _ => none
/-- A number, a word, a number, under a condition. -/
def specUWU (c : Nat → Int → Nat → List Prop) (g : Nat → Int → Nat → SV) : FSpec := fun args =>
  match args with
  | [x, y, z] => match asU x, asI y, asU z with
    | some (p, a), some (.u64, n), some (q, b) => some ((p ++ q) ++ c a n b, g a n b)
    | _, _, _ => none
  | _ => none
theorem FnOK_UWU {P : Program} {cx : Cx} (hcx : CxOK P cx) {iv : Nat → Int → Nat → List (Nat × Hint)} {N : Nat} {f : Nat} {fn : Func} (hf : P.funcs[f]? = some fn) (hb : fn.body.isSome = true) (hn : (fn.name == "runtime.NumGoroutine") = false) {c : Nat → Int → Nat → List Prop} {g : Nat → Int → Nat → SV} (hg : ∀ a n b, (g a n b).bnd none0)
    (h : ∀ a n b, Ok (c a n b) → Owes P cx (iv a n b) N fn [sU a, sI .u64 n, sU b] (g a n b)) : FnOKg P cx.gl f (specUWU c g) := by
  refine FnOK_of hf hb hn fun args ps sv hs hp => ?_
  unfold specUWU at hs
  split at hs
  · rename_i x y z
    split at hs
    · rename_i p a n q b ha hn' hb'
      simp only [Option.some.injEq, Prod.mk.injEq] at hs
      obtain ⟨rfl, rfl⟩ := hs
      obtain ⟨o12, o3⟩ := Ok.append.1 hp
      obtain ⟨o1, o2⟩ := Ok.append.1 o12
      refine ⟨hg a n b, fun ρ w hzz hgg _ => ?_⟩
      rw [show [x, y, z].map (SA.conc ρ) = [sU a, sI .u64 n, sU b].map (SA.conc ρ) by simp only [List.map_cons, List.map_nil, asU_canon ha o1 ρ, asI_canon hn' ρ, asU_canon hb' o2 ρ]]
      refine (calls_of_owes0 hcx hf hb (args := [sU a, sI .u64 n, sU b]) (by
        intro z hz
        simp only [List.mem_cons, List.not_mem_nil, or_false] at hz
        rcases hz with rfl | rfl | rfl
        · exact bnd_sU _
        · trivial
        · exact bnd_sU _) (h a n b o3) ρ w hzz hgg).mono ?_
      rintro e w' ⟨v, rfl, ⟨ρ', hr⟩, hbl⟩
      exact ⟨v, rfl, rep_none0 (hg a n b) hr, hbl⟩
    · cases hs
  · cases hs
end Go.Sx
end

section
/-
  More shapes of cards: three numbers.
-/
namespace Go.Sx
open Go.RowKit

/-- Three numbers of 256 bits, under a condition. -/
def specUUU (c : Nat → Nat → Nat → List Prop) (g : Nat → Nat → Nat → SV) : FSpec := fun args =>
  match args with
  | [x, y, z] => match asU x, asU y, asU z with
    | some (p, a), some (o, n), some (q, b) => some (((p ++ o) ++ q) ++ c a n b, g a n b)
    | _, _, _ => none
  | _ => none
theorem FnOK_UUU {P : Program} {cx : Cx} (hcx : CxOK P cx) {iv : Nat → Nat → Nat → List (Nat × Hint)} {N : Nat} {f : Nat} {fn : Func} (hf : P.funcs[f]? = some fn) (hb : fn.body.isSome = true) (hn : (fn.name == "runtime.NumGoroutine") = false) {c : Nat → Nat → Nat → List Prop} {g : Nat → Nat → Nat → SV} (hg : ∀ a n b, (g a n b).bnd none0)
    (h : ∀ a n b, Ok (c a n b) → Owes P cx (iv a n b) N fn [sU a, sU n, sU b] (g a n b)) : FnOKg P cx.gl f (specUUU c g) := by
  refine FnOK_of hf hb hn fun args ps sv hs hp => ?_
  unfold specUUU at hs
  split at hs
  · rename_i x y z
    split at hs
    · rename_i p a o n q b ha hn' hb'
      simp only [Option.some.injEq, Prod.mk.injEq] at hs
      obtain ⟨rfl, rfl⟩ := hs
      obtain ⟨o12, o3⟩ := Ok.append.1 hp
      obtain ⟨o1', o2⟩ := Ok.append.1 o12
      obtain ⟨o1, o4⟩ := Ok.append.1 o1'
      refine ⟨hg a n b, fun ρ w hzz hgg _ => ?_⟩
      rw [show [x, y, z].map (SA.conc ρ) = [sU a, sU n, sU b].map (SA.conc ρ) by simp only [List.map_cons, List.map_nil, asU_canon ha o1 ρ, asU_canon hn' o4 ρ, asU_canon hb' o2 ρ]]
      refine (calls_of_owes0 hcx hf hb (args := [sU a, sU n, sU b]) (by
        intro z hz
        simp only [List.mem_cons, List.not_mem_nil, or_false] at hz
        rcases hz with rfl | rfl | rfl <;> exact bnd_sU _) (h a n b o3) ρ w hzz hgg).mono ?_
      rintro e w' ⟨v, rfl, ⟨ρ', hr⟩, hbl⟩
      exact ⟨v, rfl, rep_none0 (hg a n b) hr, hbl⟩
    · cases hs
  · cases hs
end Go.Sx
end

section
/-
  Shapes of cards of functions that may call such as read or answer slices.
-/
namespace Go.Sx
open Go.RowKit
section
variable {P : Program} {cx : Cx} {sl : List (Nat × SSpec)} {f : Nat} {fn : Func}
theorem FnOKV_UU (hcx : CxOK P cx) (hsl : ∀ p ∈ sl, FnOKs P cx.gl p.1 p.2) (hf : P.funcs[f]? = some fn) (hb : fn.body.isSome = true) (hn : (fn.name == "runtime.NumGoroutine") = false) {g : Nat → Nat → SV} {iv : Nat → Nat → List (Nat × Hint)} {N : Nat} (hg : ∀ a b, (g a b).bnd none0)
    (h : ∀ a b, OwesV P cx sl (iv a b) N fn [sU a, sU b] (g a b)) : FnOKg P cx.gl f (specUU g) := by
  refine FnOK_owesV hcx hsl hf hb hn fun args ps sv hs hp => ?_
  unfold specUU at hs
  split at hs
  case h_2 => cases hs
  rename_i x y
  split at hs
  case h_2 => cases hs
  rename_i p a q b ha hb'
  simp only [Option.some.injEq, Prod.mk.injEq] at hs
  obtain ⟨rfl, rfl⟩ := hs
  obtain ⟨o1, o2⟩ := Ok.append.1 hp
  refine ⟨iv a b, N, [sU a, sU b], fun ρ => by simp only [List.map_cons, List.map_nil, asU_canon ha o1 ρ, asU_canon hb' o2 ρ], fun fz _ z hz => ?_, hg a b, h a b⟩
  simp only [List.mem_cons, List.not_mem_nil, or_false] at hz
  rcases hz with rfl | rfl
  · exact bnd_Un a
  · exact bnd_Un b
theorem FnOKV_UUC (hcx : CxOK P cx) (hsl : ∀ p ∈ sl, FnOKs P cx.gl p.1 p.2) (hf : P.funcs[f]? = some fn) (hb : fn.body.isSome = true) (hn : (fn.name == "runtime.NumGoroutine") = false) {c : Nat → Nat → List Prop} {g : Nat → Nat → SV} {iv : Nat → Nat → List (Nat × Hint)} {N : Nat} (hg : ∀ a b, (g a b).bnd none0)
    (h : ∀ a b, Ok (c a b) → OwesV P cx sl (iv a b) N fn [sU a, sU b] (g a b)) : FnOKg P cx.gl f (specUUC c g) := by
  refine FnOK_owesV hcx hsl hf hb hn fun args ps sv hs hp => ?_
  unfold specUUC at hs
  split at hs
  case h_2 => cases hs
  rename_i x y
  split at hs
  case h_2 => cases hs
  rename_i p a q b ha hb'
  simp only [Option.some.injEq, Prod.mk.injEq] at hs
  obtain ⟨rfl, rfl⟩ := hs
  obtain ⟨o12, o3⟩ := Ok.append.1 hp
  obtain ⟨o1, o2⟩ := Ok.append.1 o12
  refine ⟨iv a b, N, [sU a, sU b], fun ρ => by simp only [List.map_cons, List.map_nil, asU_canon ha o1 ρ, asU_canon hb' o2 ρ], fun fz _ z hz => ?_, hg a b, h a b o3⟩
  simp only [List.mem_cons, List.not_mem_nil, or_false] at hz
  rcases hz with rfl | rfl
  · exact bnd_Un a
  · exact bnd_Un b
theorem FnOKV_UUU (hcx : CxOK P cx) (hsl : ∀ p ∈ sl, FnOKs P cx.gl p.1 p.2) (hf : P.funcs[f]? = some fn) (hb : fn.body.isSome = true) (hn : (fn.name == "runtime.NumGoroutine") = false) {c : Nat → Nat → Nat → List Prop} {g : Nat → Nat → Nat → SV} {iv : Nat → Nat → Nat → List (Nat × Hint)} {N : Nat} (hg : ∀ a n b, (g a n b).bnd none0)
    (h : ∀ a n b, Ok (c a n b) → OwesV P cx sl (iv a n b) N fn [sU a, sU n, sU b] (g a n b)) : FnOKg P cx.gl f (specUUU c g) := by
  refine FnOK_owesV hcx hsl hf hb hn fun args ps sv hs hp => ?_
  unfold specUUU at hs
  split at hs
  case h_2 => cases hs
  rename_i x y z
  split at hs
  case h_2 => cases hs
  rename_i p a o n q b ha hn' hb'
  simp only [Option.some.injEq, Prod.mk.injEq] at hs
  obtain ⟨rfl, rfl⟩ := hs
  obtain ⟨o12, o3⟩ := Ok.append.1 hp
  obtain ⟨o1', o2⟩ := Ok.append.1 o12
  obtain ⟨o1, o4⟩ := Ok.append.1 o1'
  refine ⟨iv a n b, N, [sU a, sU n, sU b], fun ρ => by simp only [List.map_cons, List.map_nil, asU_canon ha o1 ρ, asU_canon hn' o4 ρ, asU_canon hb' o2 ρ], fun fz _ z hz => ?_, hg a n b, h a n b o3⟩
  simp only [List.mem_cons, List.not_mem_nil, or_false] at hz
  rcases hz with rfl | rfl | rfl
  · exact bnd_Un a
  · exact bnd_Un n
  · exact bnd_Un b
/-- Of a whole number and three wide ones. -/
def specIUUU (c : Int → Nat → Nat → Nat → List Prop) (g : Int → Nat → Nat → Nat → SV) : FSpec := fun args =>
  match args with
  | [x, y, z, w] => match asI x, asU y, asU z, asU w with
    | some (.i64, i), some (p, a), some (o, n), some (q, b) => some (((p ++ o) ++ q) ++ c i a n b, g i a n b)
    | _, _, _, _ => none
  | _ => none
theorem FnOKV_IUUU (hcx : CxOK P cx) (hsl : ∀ p ∈ sl, FnOKs P cx.gl p.1 p.2) (hf : P.funcs[f]? = some fn) (hb : fn.body.isSome = true) (hn : (fn.name == "runtime.NumGoroutine") = false) {c : Int → Nat → Nat → Nat → List Prop} {g : Int → Nat → Nat → Nat → SV} {iv : Int → Nat → Nat → Nat → List (Nat × Hint)} {N : Nat} (hg : ∀ i a n b, (g i a n b).bnd none0)
    (h : ∀ i a n b, Ok (c i a n b) → OwesV P cx sl (iv i a n b) N fn [sI .i64 i, sU a, sU n, sU b] (g i a n b)) : FnOKg P cx.gl f (specIUUU c g) := by
  refine FnOK_owesV hcx hsl hf hb hn fun args ps sv hs hp => ?_
  unfold specIUUU at hs
  split at hs
  case h_2 => cases hs
  rename_i x y z w
  split at hs
  case h_2 => cases hs
  rename_i i p a o n q b hi ha hn' hb'
  simp only [Option.some.injEq, Prod.mk.injEq] at hs
  obtain ⟨rfl, rfl⟩ := hs
  obtain ⟨o12, o3⟩ := Ok.append.1 hp
  obtain ⟨o1', o2⟩ := Ok.append.1 o12
  obtain ⟨o1, o4⟩ := Ok.append.1 o1'
  refine ⟨iv i a n b, N, [sI .i64 i, sU a, sU n, sU b], fun ρ => by simp only [List.map_cons, List.map_nil, asI_sound hi ρ, asU_canon ha o1 ρ, asU_canon hn' o4 ρ, asU_canon hb' o2 ρ]; rfl, fun fz _ z hz => ?_, hg i a n b, h i a n b o3⟩
  simp only [List.mem_cons, List.not_mem_nil, or_false] at hz
  rcases hz with rfl | rfl | rfl | rfl
  · exact trivial
  · exact bnd_Un a
  · exact bnd_Un n
  · exact bnd_Un b
end
end Go.Sx
end

section
/-
  The reference's rows of digits: cards.
-/
namespace Go.Proofs.Ytbjdchpncbgpnaa
open Go Go.Sx Go.RowKit

theorem cx_none : CxOK Try.prog .none := fun p hp => by cases hp
theorem cx_R : CxOK Try.prog cxR := fun p hp => by
  simp only [cxR, markR, List.mem_cons, List.not_mem_nil, or_false] at hp
  subst hp
  exact fun args ps sv hs => by cases hs
theorem sl_nil : ∀ p ∈ ([] : List (Nat × SSpec)), FnOKs Try.prog [] p.1 p.2 := fun p hp => by cases hp
theorem closed_s {n : Nat} {g : Nat → Int} : ∀ x ∈ [RS.s n .u64 g], x.closed := fun x hx => by
  simp only [List.mem_singleton] at hx
  subst hx
  trivial
theorem card_dOf : FnOKs Try.prog [] 41 (specUR ofR) :=
  FnOKs_UR (iv := fun _ => []) cx_none sl_nil Try.func41 (by kernel_rfl) (by kernel_rfl) (fun _ => closed_s) ok_dOf
theorem card_dPlus : FnOKs Try.prog [] 40 (specDD false dg2C plusR) :=
  FnOKs_DD (iv := fun a n c f b m d h => [(4, .inv1 (invPlus a n c f b m d h (PlusP (vn n f) (vn m h))))]) cx_R sl_nil Try.func40 (by kernel_rfl) (by kernel_rfl) (fun _ _ _ _ => closed_s) fun a n c f b m d h ⟨h1, h2, h3, h4, _⟩ => ok_dPlus a n c f b m d h h1 h2 h3 h4
theorem card_dTimes : FnOKs Try.prog [] 52 (specDD false dg2C timesR) :=
  FnOKs_DD (iv := fun a n c f b m d h => [(3, .inv (invTi a n c f b m d h (TimesP (vn n f) (vn m h) n m))), (7, .invR (invTj a n c f b m d h (TimesQ (vn n f) (vn m h) n m)) fun y z => z.1 = y.1)]) cx_R sl_nil Try.func52 (by kernel_rfl) (by kernel_rfl) (fun _ _ _ _ => closed_s) fun a n c f b m d h ⟨h1, h2, h3, h4, _⟩ => ok_dTimes a n c f b m d h h1 h2 h3 h4
theorem card_dCompare : FnOKs Try.prog [] 42 (specDD false dg2C cmpR) :=
  FnOKs_DD (iv := fun a n c f b m d h => [(2, .inv (invCmp a n c f b m d h fun k => vn n f / 4294967296 ^ k = vn m h / 4294967296 ^ k))]) cx_R sl_nil Try.func42 (by kernel_rfl) (by kernel_rfl) (fun _ _ _ _ x hx => by simp only [cmpR, List.mem_singleton] at hx; subst hx; trivial) fun a n c f b m d h ⟨h1, h2, h3, h4, _⟩ => ok_compare a n c f b m d h h1 h2 h3 h4
theorem card_dLess : FnOKs Try.prog [] 44 (specDD false lessC lessR) :=
  FnOKs_DD (iv := fun a n c f b m d h => [(4, .inv (invLess b m d h n (LessP (vn n f) (vn m h) n)))]) cx_R sl_nil Try.func44 (by kernel_rfl) (by kernel_rfl) (fun _ _ _ _ => closed_s) fun a n c f b m d h ⟨h1, h2, h3, h4, h5, _⟩ => ok_dLess a n c f b m d h h1 h2 h3 h4 h5
theorem card_dShorn : FnOKs Try.prog [] 48 (specD true dgsC shornR) :=
  FnOKs_D (iv := fun a n c f => [(1, .inv (invShorn f fun k => k ≤ n ∧ vn n f < 4294967296 ^ k))]) cx_R sl_nil Try.func48 (by kernel_rfl) (by kernel_rfl) (fun _ _ => closed_s) fun a n c f ⟨h1, h2, _⟩ => ok_shorn a n c f h1 h2
theorem sl_shorn : ∀ p ∈ slShorn, FnOKs Try.prog [] p.1 p.2 := fun p hp => by
  simp only [slShorn, List.mem_cons, List.not_mem_nil, or_false] at hp
  subst hp
  exact card_dShorn
theorem card_dSmall : FnOKs Try.prog [] 49 (specD false dgsC smallR) :=
  FnOKs_D (iv := fun _ _ _ _ => []) cx_R sl_shorn Try.func49 (by kernel_rfl) (by kernel_rfl) (fun _ _ x hx => by simp only [smallR, List.mem_cons, List.not_mem_nil, or_false] at hx; rcases hx with rfl | rfl <;> trivial) fun a n c f ⟨h1, h2, _⟩ => ok_small a n c f h1 h2
theorem card_dWide : FnOKs Try.prog [] 39 (specD false dgsC wideR) :=
  FnOKs_D (iv := fun a n c f => [(4, .inv (invWide a n c f (fun y => vn n f % 4294967296 ^ min y 8) (fun y => decide (M256 ≤ vn n f % 4294967296 ^ y))))]) cx_R sl_nil Try.func39 (by kernel_rfl) (by kernel_rfl) (fun _ _ x hx => by
    simp only [wideR, List.mem_cons, List.not_mem_nil, or_false] at hx
    rcases hx with rfl | rfl
    · exact bnd_Un _
    · trivial) fun a n c f ⟨h1, h2, _⟩ => ok_wide a n c f h1 h2
theorem sl_wide : ∀ p ∈ slWide, FnOKs Try.prog [] p.1 p.2 := fun p hp => by
  simp only [slWide, List.mem_cons, List.not_mem_nil, or_false] at hp
  subst hp
  exact card_dWide
theorem card_dCut : FnOKs Try.prog [] 43 (specD false dgsC cutR) :=
  FnOKs_D (iv := fun _ _ _ _ => []) cx_R sl_wide Try.func43 (by kernel_rfl) (by kernel_rfl) (fun _ _ x hx => by simp only [cutR, List.mem_singleton] at hx; subst hx; exact bnd_Un _) fun a n c f ⟨h1, h2, _⟩ => ok_cut a n c f h1 h2
theorem sl_dg : ∀ p ∈ slDg, FnOKs Try.prog [] p.1 p.2 := fun p hp => by
  simp only [slDg, List.mem_cons, List.not_mem_nil, or_false] at hp
  rcases hp with rfl | rfl | rfl | rfl | rfl | rfl | rfl | rfl | rfl
  · exact card_dOf
  · exact card_dPlus
  · exact card_dTimes
  · exact card_dCompare
  · exact card_dLess
  · exact card_dShorn
  · exact card_dSmall
  · exact card_dWide
  · exact card_dCut
theorem card_dDivided : FnOKs Try.prog [] 46 (specDD true dvdC dvdR) :=
  FnOKs_DD (iv := fun a n c f b m d h => [(6, .inv (invD1 a n c f b m d h (D1P (vn n f) (vn m h) n))), (13, .inv (invD2 a n c f b m d h (D2P (vn n f) (vn m h) n))), (15, .cut (cutD a n c f b m d h (DcP (vn n f) (vn m h) n)) (fun y z => z.1 = y.1)), (17, .invR (invD3 a n c f b m d h (D3P (vn n f) (vn m h) n)) (fun y z => z.1 = y.1))]) cx_R sl_dg Try.func46 (by kernel_rfl) (by kernel_rfl) (fun _ _ _ _ x hx => by simp only [dvdR, List.mem_cons, List.not_mem_nil, or_false] at hx; rcases hx with rfl | rfl <;> trivial) fun a n c f b m d h ⟨h1, h2, h3, h4, h5, _⟩ => ok_divided a n c f b m d h h1 h2 h3 h4 h5
/-- All of them. -/
def slAll : List (Nat × SSpec) := (46, specDD true dvdC dvdR) :: slDg
theorem sl_all : ∀ p ∈ slAll, FnOKs Try.prog [] p.1 p.2 := fun p hp => by
  rcases List.mem_cons.1 hp with rfl | hp
  · exact card_dDivided
  · exact sl_dg p hp
end Go.Proofs.Ytbjdchpncbgpnaa
end

section
/-
  The reference's wide numbers, and those by a modulus: reckoned by the kernel. (Laid by program.)
-/
namespace Go.Proofs.Ytbjdchpncbgpnaa
open Go Go.Sx Go.RowKit
set_option maxRecDepth 100000
def restUC (n : Nat) (f : Nat → Int) (m : Nat) : List Prop := [dgs n f, n ≤ 1000, m % M256 ≠ 0]
def restUR (n : Nat) (f : Nat → Int) (m : Nat) : List RS := [.v (sU (vn n f % (m % M256)))]
def slRest : List (Nat × SSpec) := (79, specDU restUC restUR) :: slAll
def modC (_ _ m : Nat) : List Prop := [m % M256 ≠ 0]
def totG (a b m : Nat) : SV := .one (sU ((a % M256 + b % M256) % (m % M256)))
def proC (a b m : Nat) : List Prop := [m % M256 ≠ 0, a % M256 < m % M256, b % M256 < m % M256]
def proG (a b m : Nat) : SV := .one (sU (a % M256 * (b % M256) % (m % M256)))
def oppC (a m : Nat) : List Prop := [a % M256 ≤ m % M256]
def oppG (a m : Nat) : SV := .one (sU (if a % M256 = 0 then 0 else m % M256 - a % M256))
def ordG (a b : Nat) : SV := .one (sI .i64 (cmpI (a % M256) (b % M256)))
def cxMod : Cx := [(78, specUU ordG), (59, specUUU modC totG), (60, specUUC oppC oppG), (61, specUUU proC proG)]
-- VC vc_refOrd HASH ba0331c4e576a38c
theorem vc_refOrd (a b : Nat) :
    OwesV Try.prog .none slAll [] 4 Try.f78 [sU a, sU b] (ordG a b) =
    (let x1 : Nat := a % Go.Sx.M256; let x2 : Nat := b % Go.Sx.M256; ((∀ (a : Option Go.Addr) (cap : Nat), (a = Option.none → (8 : Nat) = (0 : Nat) ∧ cap = (0 : Nat)) → (8 : Nat) ≤ cap → ∀ (a : Option Go.Addr) (cap : Nat), (a = Option.none → (8 : Nat) = (0 : Nat) ∧ cap = (0 : Nat)) → (8 : Nat) ≤ cap → (∀ (i : Nat), True) ∧ (∀ (i : Nat), True) ∧ (Go.Sx.dgs (8 : Nat) fun (i : Nat) => Go.Sx.intsC (Go.Sx.SC.val (Go.Value.int Go.IntKind.u64 (Go.Sx.dg x1 i)))) ∧ (8 : Nat) ≤ (1000 : Nat) ∧ (Go.Sx.dgs (8 : Nat) fun (i : Nat) => Go.Sx.intsC (Go.Sx.SC.val (Go.Value.int Go.IntKind.u64 (Go.Sx.dg x2 i)))) ∧ (8 : Nat) ≤ (1000 : Nat) ∧ Go.Sx.cmpI (Go.Sx.vn (8 : Nat) fun (i : Nat) => Go.Sx.dg x1 i) (Go.Sx.vn (8 : Nat) fun (i : Nat) => Go.Sx.dg x2 i) = Go.Sx.cmpI x1 x2) ∧ ∀ (a : Option Go.Addr) (cap : Nat), (a = Option.none → (8 : Nat) = (0 : Nat) ∧ cap = (0 : Nat)) → (8 : Nat) ≤ cap → ∀ (a : Option Go.Addr) (cap : Nat), (a = Option.none → (8 : Nat) = (0 : Nat) ∧ cap = (0 : Nat)) → (8 : Nat) ≤ cap → (∀ (i : Nat), True) ∧ (∀ (i : Nat), True) ∧ (Go.Sx.dgs (8 : Nat) fun (i : Nat) => Go.Sx.intsC (Go.Sx.SC.val (Go.Value.int Go.IntKind.u64 (Go.Sx.dg x1 i)))) ∧ (8 : Nat) ≤ (1000 : Nat) ∧ (Go.Sx.dgs (8 : Nat) fun (i : Nat) => Go.Sx.intsC (Go.Sx.SC.val (Go.Value.int Go.IntKind.u64 (Go.Sx.dg x2 i)))) ∧ (8 : Nat) ≤ (1000 : Nat) ∧ Go.Sx.cmpI (Go.Sx.vn (8 : Nat) fun (i : Nat) => Go.Sx.dg x1 i) (Go.Sx.vn (8 : Nat) fun (i : Nat) => Go.Sx.dg x2 i) = Go.Sx.cmpI x1 x2) ∧ ∀ (a : Option Go.Addr) (cap : Nat), (a = Option.none → (8 : Nat) = (0 : Nat) ∧ cap = (0 : Nat)) → (8 : Nat) ≤ cap → ∀ (a : Option Go.Addr) (cap : Nat), (a = Option.none → (8 : Nat) = (0 : Nat) ∧ cap = (0 : Nat)) → (8 : Nat) ≤ cap → (∀ (i : Nat), True) ∧ (∀ (i : Nat), True) ∧ (Go.Sx.dgs (8 : Nat) fun (i : Nat) => Go.Sx.intsC (Go.Sx.SC.val (Go.Value.int Go.IntKind.u64 (Go.Sx.dg x1 i)))) ∧ (8 : Nat) ≤ (1000 : Nat) ∧ (Go.Sx.dgs (8 : Nat) fun (i : Nat) => Go.Sx.intsC (Go.Sx.SC.val (Go.Value.int Go.IntKind.u64 (Go.Sx.dg x2 i)))) ∧ (8 : Nat) ≤ (1000 : Nat) ∧ Go.Sx.cmpI (Go.Sx.vn (8 : Nat) fun (i : Nat) => Go.Sx.dg x1 i) (Go.Sx.vn (8 : Nat) fun (i : Nat) => Go.Sx.dg x2 i) = Go.Sx.cmpI x1 x2) := by kernel_rfl
-- END VC
-- VC vc_refRest HASH c3736961cf1d2ee5
theorem vc_refRest (a : Option Addr) (n c : Nat) (f : Nat → Int) (m : Nat) :
    OwesR Try.prog .none slAll [] 4 Try.f79 [xsI a n c .u64 f, sU m] false (restUR n f m) =
    (let x1 : Nat := m % Go.Sx.M256; let x2 : Nat := Go.Sx.vn (8 : Nat) fun (i : Nat) => Go.Sx.dg x1 i; let x3 : Nat := Go.Sx.remL (Go.Sx.vn n fun (i : Nat) => f i) x2 n; let x4 : Nat := Go.Sx.vn n fun (i : Nat) => Go.Sx.intsC (Go.Sx.SC.val (Go.Value.int Go.IntKind.u64 (f i))); let x5 : Nat := Go.Sx.vn (8 : Nat) fun (i : Nat) => Go.Sx.intsC (Go.Sx.SC.val (Go.Value.int Go.IntKind.u64 (Go.Sx.dg x1 i))); ∀ (a : Option Go.Addr) (cap : Nat), (a = Option.none → (8 : Nat) = (0 : Nat) ∧ cap = (0 : Nat)) → (8 : Nat) ≤ cap → (∀ (i : Nat), True) ∧ (∀ (i : Nat), True) ∧ (Go.Sx.dgs n fun (i : Nat) => Go.Sx.intsC (Go.Sx.SC.val (Go.Value.int Go.IntKind.u64 (f i)))) ∧ n ≤ (1000 : Nat) ∧ (Go.Sx.dgs (8 : Nat) fun (i : Nat) => Go.Sx.intsC (Go.Sx.SC.val (Go.Value.int Go.IntKind.u64 (Go.Sx.dg x1 i)))) ∧ (8 : Nat) ≤ (900 : Nat) ∧ x2 ≠ (0 : Nat) ∧ ∀ (a : Option Go.Addr) (cap : Nat), (a = Option.none → n = (0 : Nat) ∧ cap = (0 : Nat)) → n ≤ cap → ∀ (a : Option Go.Addr) (cap : Nat), (a = Option.none → x3 = (0 : Nat) ∧ cap = (0 : Nat)) → x3 ≤ cap → (∀ (i : Nat), True) ∧ (Go.Sx.dgs (Go.Sx.remL x4 x5 n) fun (i : Nat) => Go.Sx.intsC (Go.Sx.SC.val (Go.Value.int Go.IntKind.u64 (Go.Sx.dg (x4 % x5) i)))) ∧ x3 ≤ (1000 : Nat) ∧ (Go.Sx.vn x3 fun (i : Nat) => Go.Sx.dg ((Go.Sx.vn n fun (i : Nat) => f i) % x2) i) % Go.Sx.M256 % Go.Sx.M256 = Go.Sx.vn n f % x1 % Go.Sx.M256 ∧ True) := by kernel_rfl
-- END VC
-- VC vc_refTot HASH a168cc965ef49cbe
theorem vc_refTot (a b m : Nat) :
    OwesV Try.prog .none slRest [] 4 Try.f59 [sU a, sU b, sU m] (totG a b m) =
    (let x1 : Nat := a % Go.Sx.M256; let x2 : Nat := b % Go.Sx.M256; let x3 : Nat := m % Go.Sx.M256; ((∀ (a : Option Go.Addr) (cap : Nat), (a = Option.none → (8 : Nat) = (0 : Nat) ∧ cap = (0 : Nat)) → (8 : Nat) ≤ cap → ((∀ (a : Option Go.Addr) (cap : Nat), (a = Option.none → (8 : Nat) = (0 : Nat) ∧ cap = (0 : Nat)) → (8 : Nat) ≤ cap → ((∀ (i : Nat), True) ∧ (∀ (i : Nat), True) ∧ (Go.Sx.dgs (8 : Nat) fun (i : Nat) => Go.Sx.intsC (Go.Sx.SC.val (Go.Value.int Go.IntKind.u64 (Go.Sx.dg x1 i)))) ∧ (8 : Nat) ≤ (1000 : Nat) ∧ (Go.Sx.dgs (8 : Nat) fun (i : Nat) => Go.Sx.intsC (Go.Sx.SC.val (Go.Value.int Go.IntKind.u64 (Go.Sx.dg x2 i)))) ∧ (8 : Nat) ≤ (1000 : Nat) ∧ ∀ (a : Option Go.Addr) (cap : Nat), (a = Option.none → (9 : Nat) = (0 : Nat) ∧ cap = (0 : Nat)) → (9 : Nat) ≤ cap → (∀ (i : Nat), True) ∧ (Go.Sx.dgs (9 : Nat) fun (i : Nat) => Go.Sx.intsC (Go.Sx.SC.val (Go.Value.int Go.IntKind.u64 (Go.Sx.dg ((Go.Sx.vn (8 : Nat) fun (i : Nat) => Go.Sx.intsC (Go.Sx.SC.val (Go.Value.int Go.IntKind.u64 (Go.Sx.dg x1 i)))) + Go.Sx.vn (8 : Nat) fun (i : Nat) => Go.Sx.intsC (Go.Sx.SC.val (Go.Value.int Go.IntKind.u64 (Go.Sx.dg x2 i)))) i)))) ∧ (9 : Nat) ≤ (1000 : Nat) ∧ x3 ≠ (0 : Nat) ∧ (Go.Sx.vn (9 : Nat) fun (i : Nat) => Go.Sx.dg ((Go.Sx.vn (8 : Nat) fun (i : Nat) => Go.Sx.dg x1 i) + Go.Sx.vn (8 : Nat) fun (i : Nat) => Go.Sx.dg x2 i) i) % x3 % Go.Sx.M256 = (x1 + x2) % x3 % Go.Sx.M256 ∧ True) ∧ (∀ (i : Nat), True) ∧ (∀ (i : Nat), True) ∧ (Go.Sx.dgs (8 : Nat) fun (i : Nat) => Go.Sx.intsC (Go.Sx.SC.val (Go.Value.int Go.IntKind.u64 (Go.Sx.dg x1 i)))) ∧ (8 : Nat) ≤ (1000 : Nat) ∧ (Go.Sx.dgs (8 : Nat) fun (i : Nat) => Go.Sx.intsC (Go.Sx.SC.val (Go.Value.int Go.IntKind.u64 (Go.Sx.dg x2 i)))) ∧ (8 : Nat) ≤ (1000 : Nat) ∧ ∀ (a : Option Go.Addr) (cap : Nat), (a = Option.none → (9 : Nat) = (0 : Nat) ∧ cap = (0 : Nat)) → (9 : Nat) ≤ cap → (∀ (i : Nat), True) ∧ (Go.Sx.dgs (9 : Nat) fun (i : Nat) => Go.Sx.intsC (Go.Sx.SC.val (Go.Value.int Go.IntKind.u64 (Go.Sx.dg ((Go.Sx.vn (8 : Nat) fun (i : Nat) => Go.Sx.intsC (Go.Sx.SC.val (Go.Value.int Go.IntKind.u64 (Go.Sx.dg x1 i)))) + Go.Sx.vn (8 : Nat) fun (i : Nat) => Go.Sx.intsC (Go.Sx.SC.val (Go.Value.int Go.IntKind.u64 (Go.Sx.dg x2 i)))) i)))) ∧ (9 : Nat) ≤ (1000 : Nat) ∧ x3 ≠ (0 : Nat) ∧ (Go.Sx.vn (9 : Nat) fun (i : Nat) => Go.Sx.dg ((Go.Sx.vn (8 : Nat) fun (i : Nat) => Go.Sx.dg x1 i) + Go.Sx.vn (8 : Nat) fun (i : Nat) => Go.Sx.dg x2 i) i) % x3 % Go.Sx.M256 = (x1 + x2) % x3 % Go.Sx.M256 ∧ True) ∧ ∀ (a : Option Go.Addr) (cap : Nat), (a = Option.none → (8 : Nat) = (0 : Nat) ∧ cap = (0 : Nat)) → (8 : Nat) ≤ cap → (∀ (i : Nat), True) ∧ (∀ (i : Nat), True) ∧ (Go.Sx.dgs (8 : Nat) fun (i : Nat) => Go.Sx.intsC (Go.Sx.SC.val (Go.Value.int Go.IntKind.u64 (Go.Sx.dg x1 i)))) ∧ (8 : Nat) ≤ (1000 : Nat) ∧ (Go.Sx.dgs (8 : Nat) fun (i : Nat) => Go.Sx.intsC (Go.Sx.SC.val (Go.Value.int Go.IntKind.u64 (Go.Sx.dg x2 i)))) ∧ (8 : Nat) ≤ (1000 : Nat) ∧ ∀ (a : Option Go.Addr) (cap : Nat), (a = Option.none → (9 : Nat) = (0 : Nat) ∧ cap = (0 : Nat)) → (9 : Nat) ≤ cap → (∀ (i : Nat), True) ∧ (Go.Sx.dgs (9 : Nat) fun (i : Nat) => Go.Sx.intsC (Go.Sx.SC.val (Go.Value.int Go.IntKind.u64 (Go.Sx.dg ((Go.Sx.vn (8 : Nat) fun (i : Nat) => Go.Sx.intsC (Go.Sx.SC.val (Go.Value.int Go.IntKind.u64 (Go.Sx.dg x1 i)))) + Go.Sx.vn (8 : Nat) fun (i : Nat) => Go.Sx.intsC (Go.Sx.SC.val (Go.Value.int Go.IntKind.u64 (Go.Sx.dg x2 i)))) i)))) ∧ (9 : Nat) ≤ (1000 : Nat) ∧ x3 ≠ (0 : Nat) ∧ (Go.Sx.vn (9 : Nat) fun (i : Nat) => Go.Sx.dg ((Go.Sx.vn (8 : Nat) fun (i : Nat) => Go.Sx.dg x1 i) + Go.Sx.vn (8 : Nat) fun (i : Nat) => Go.Sx.dg x2 i) i) % x3 % Go.Sx.M256 = (x1 + x2) % x3 % Go.Sx.M256 ∧ True) ∧ ∀ (a : Option Go.Addr) (cap : Nat), (a = Option.none → (8 : Nat) = (0 : Nat) ∧ cap = (0 : Nat)) → (8 : Nat) ≤ cap → (∀ (i : Nat), True) ∧ (∀ (i : Nat), True) ∧ (Go.Sx.dgs (8 : Nat) fun (i : Nat) => Go.Sx.intsC (Go.Sx.SC.val (Go.Value.int Go.IntKind.u64 (Go.Sx.dg x1 i)))) ∧ (8 : Nat) ≤ (1000 : Nat) ∧ (Go.Sx.dgs (8 : Nat) fun (i : Nat) => Go.Sx.intsC (Go.Sx.SC.val (Go.Value.int Go.IntKind.u64 (Go.Sx.dg x2 i)))) ∧ (8 : Nat) ≤ (1000 : Nat) ∧ ∀ (a : Option Go.Addr) (cap : Nat), (a = Option.none → (9 : Nat) = (0 : Nat) ∧ cap = (0 : Nat)) → (9 : Nat) ≤ cap → (∀ (i : Nat), True) ∧ (Go.Sx.dgs (9 : Nat) fun (i : Nat) => Go.Sx.intsC (Go.Sx.SC.val (Go.Value.int Go.IntKind.u64 (Go.Sx.dg ((Go.Sx.vn (8 : Nat) fun (i : Nat) => Go.Sx.intsC (Go.Sx.SC.val (Go.Value.int Go.IntKind.u64 (Go.Sx.dg x1 i)))) + Go.Sx.vn (8 : Nat) fun (i : Nat) => Go.Sx.intsC (Go.Sx.SC.val (Go.Value.int Go.IntKind.u64 (Go.Sx.dg x2 i)))) i)))) ∧ (9 : Nat) ≤ (1000 : Nat) ∧ x3 ≠ (0 : Nat) ∧ (Go.Sx.vn (9 : Nat) fun (i : Nat) => Go.Sx.dg ((Go.Sx.vn (8 : Nat) fun (i : Nat) => Go.Sx.dg x1 i) + Go.Sx.vn (8 : Nat) fun (i : Nat) => Go.Sx.dg x2 i) i) % x3 % Go.Sx.M256 = (x1 + x2) % x3 % Go.Sx.M256 ∧ True) ∧ ((∀ (a : Option Go.Addr) (cap : Nat), (a = Option.none → (8 : Nat) = (0 : Nat) ∧ cap = (0 : Nat)) → (8 : Nat) ≤ cap → (∀ (a : Option Go.Addr) (cap : Nat), (a = Option.none → (8 : Nat) = (0 : Nat) ∧ cap = (0 : Nat)) → (8 : Nat) ≤ cap → ((∀ (i : Nat), True) ∧ (∀ (i : Nat), True) ∧ (Go.Sx.dgs (8 : Nat) fun (i : Nat) => Go.Sx.intsC (Go.Sx.SC.val (Go.Value.int Go.IntKind.u64 (Go.Sx.dg x1 i)))) ∧ (8 : Nat) ≤ (1000 : Nat) ∧ (Go.Sx.dgs (8 : Nat) fun (i : Nat) => Go.Sx.intsC (Go.Sx.SC.val (Go.Value.int Go.IntKind.u64 (Go.Sx.dg x2 i)))) ∧ (8 : Nat) ≤ (1000 : Nat) ∧ ∀ (a : Option Go.Addr) (cap : Nat), (a = Option.none → (9 : Nat) = (0 : Nat) ∧ cap = (0 : Nat)) → (9 : Nat) ≤ cap → (∀ (i : Nat), True) ∧ (Go.Sx.dgs (9 : Nat) fun (i : Nat) => Go.Sx.intsC (Go.Sx.SC.val (Go.Value.int Go.IntKind.u64 (Go.Sx.dg ((Go.Sx.vn (8 : Nat) fun (i : Nat) => Go.Sx.intsC (Go.Sx.SC.val (Go.Value.int Go.IntKind.u64 (Go.Sx.dg x1 i)))) + Go.Sx.vn (8 : Nat) fun (i : Nat) => Go.Sx.intsC (Go.Sx.SC.val (Go.Value.int Go.IntKind.u64 (Go.Sx.dg x2 i)))) i)))) ∧ (9 : Nat) ≤ (1000 : Nat) ∧ x3 ≠ (0 : Nat) ∧ (Go.Sx.vn (9 : Nat) fun (i : Nat) => Go.Sx.dg ((Go.Sx.vn (8 : Nat) fun (i : Nat) => Go.Sx.dg x1 i) + Go.Sx.vn (8 : Nat) fun (i : Nat) => Go.Sx.dg x2 i) i) % x3 % Go.Sx.M256 = (x1 + x2) % x3 % Go.Sx.M256 ∧ True) ∧ (∀ (i : Nat), True) ∧ (∀ (i : Nat), True) ∧ (Go.Sx.dgs (8 : Nat) fun (i : Nat) => Go.Sx.intsC (Go.Sx.SC.val (Go.Value.int Go.IntKind.u64 (Go.Sx.dg x1 i)))) ∧ (8 : Nat) ≤ (1000 : Nat) ∧ (Go.Sx.dgs (8 : Nat) fun (i : Nat) => Go.Sx.intsC (Go.Sx.SC.val (Go.Value.int Go.IntKind.u64 (Go.Sx.dg x2 i)))) ∧ (8 : Nat) ≤ (1000 : Nat) ∧ ∀ (a : Option Go.Addr) (cap : Nat), (a = Option.none → (9 : Nat) = (0 : Nat) ∧ cap = (0 : Nat)) → (9 : Nat) ≤ cap → (∀ (i : Nat), True) ∧ (Go.Sx.dgs (9 : Nat) fun (i : Nat) => Go.Sx.intsC (Go.Sx.SC.val (Go.Value.int Go.IntKind.u64 (Go.Sx.dg ((Go.Sx.vn (8 : Nat) fun (i : Nat) => Go.Sx.intsC (Go.Sx.SC.val (Go.Value.int Go.IntKind.u64 (Go.Sx.dg x1 i)))) + Go.Sx.vn (8 : Nat) fun (i : Nat) => Go.Sx.intsC (Go.Sx.SC.val (Go.Value.int Go.IntKind.u64 (Go.Sx.dg x2 i)))) i)))) ∧ (9 : Nat) ≤ (1000 : Nat) ∧ x3 ≠ (0 : Nat) ∧ (Go.Sx.vn (9 : Nat) fun (i : Nat) => Go.Sx.dg ((Go.Sx.vn (8 : Nat) fun (i : Nat) => Go.Sx.dg x1 i) + Go.Sx.vn (8 : Nat) fun (i : Nat) => Go.Sx.dg x2 i) i) % x3 % Go.Sx.M256 = (x1 + x2) % x3 % Go.Sx.M256 ∧ True) ∧ ∀ (a : Option Go.Addr) (cap : Nat), (a = Option.none → (8 : Nat) = (0 : Nat) ∧ cap = (0 : Nat)) → (8 : Nat) ≤ cap → (∀ (i : Nat), True) ∧ (∀ (i : Nat), True) ∧ (Go.Sx.dgs (8 : Nat) fun (i : Nat) => Go.Sx.intsC (Go.Sx.SC.val (Go.Value.int Go.IntKind.u64 (Go.Sx.dg x1 i)))) ∧ (8 : Nat) ≤ (1000 : Nat) ∧ (Go.Sx.dgs (8 : Nat) fun (i : Nat) => Go.Sx.intsC (Go.Sx.SC.val (Go.Value.int Go.IntKind.u64 (Go.Sx.dg x2 i)))) ∧ (8 : Nat) ≤ (1000 : Nat) ∧ ∀ (a : Option Go.Addr) (cap : Nat), (a = Option.none → (9 : Nat) = (0 : Nat) ∧ cap = (0 : Nat)) → (9 : Nat) ≤ cap → (∀ (i : Nat), True) ∧ (Go.Sx.dgs (9 : Nat) fun (i : Nat) => Go.Sx.intsC (Go.Sx.SC.val (Go.Value.int Go.IntKind.u64 (Go.Sx.dg ((Go.Sx.vn (8 : Nat) fun (i : Nat) => Go.Sx.intsC (Go.Sx.SC.val (Go.Value.int Go.IntKind.u64 (Go.Sx.dg x1 i)))) + Go.Sx.vn (8 : Nat) fun (i : Nat) => Go.Sx.intsC (Go.Sx.SC.val (Go.Value.int Go.IntKind.u64 (Go.Sx.dg x2 i)))) i)))) ∧ (9 : Nat) ≤ (1000 : Nat) ∧ x3 ≠ (0 : Nat) ∧ (Go.Sx.vn (9 : Nat) fun (i : Nat) => Go.Sx.dg ((Go.Sx.vn (8 : Nat) fun (i : Nat) => Go.Sx.dg x1 i) + Go.Sx.vn (8 : Nat) fun (i : Nat) => Go.Sx.dg x2 i) i) % x3 % Go.Sx.M256 = (x1 + x2) % x3 % Go.Sx.M256 ∧ True) ∧ ∀ (a : Option Go.Addr) (cap : Nat), (a = Option.none → (8 : Nat) = (0 : Nat) ∧ cap = (0 : Nat)) → (8 : Nat) ≤ cap → ∀ (a : Option Go.Addr) (cap : Nat), (a = Option.none → (8 : Nat) = (0 : Nat) ∧ cap = (0 : Nat)) → (8 : Nat) ≤ cap → (∀ (i : Nat), True) ∧ (∀ (i : Nat), True) ∧ (Go.Sx.dgs (8 : Nat) fun (i : Nat) => Go.Sx.intsC (Go.Sx.SC.val (Go.Value.int Go.IntKind.u64 (Go.Sx.dg x1 i)))) ∧ (8 : Nat) ≤ (1000 : Nat) ∧ (Go.Sx.dgs (8 : Nat) fun (i : Nat) => Go.Sx.intsC (Go.Sx.SC.val (Go.Value.int Go.IntKind.u64 (Go.Sx.dg x2 i)))) ∧ (8 : Nat) ≤ (1000 : Nat) ∧ ∀ (a : Option Go.Addr) (cap : Nat), (a = Option.none → (9 : Nat) = (0 : Nat) ∧ cap = (0 : Nat)) → (9 : Nat) ≤ cap → (∀ (i : Nat), True) ∧ (Go.Sx.dgs (9 : Nat) fun (i : Nat) => Go.Sx.intsC (Go.Sx.SC.val (Go.Value.int Go.IntKind.u64 (Go.Sx.dg ((Go.Sx.vn (8 : Nat) fun (i : Nat) => Go.Sx.intsC (Go.Sx.SC.val (Go.Value.int Go.IntKind.u64 (Go.Sx.dg x1 i)))) + Go.Sx.vn (8 : Nat) fun (i : Nat) => Go.Sx.intsC (Go.Sx.SC.val (Go.Value.int Go.IntKind.u64 (Go.Sx.dg x2 i)))) i)))) ∧ (9 : Nat) ≤ (1000 : Nat) ∧ x3 ≠ (0 : Nat) ∧ (Go.Sx.vn (9 : Nat) fun (i : Nat) => Go.Sx.dg ((Go.Sx.vn (8 : Nat) fun (i : Nat) => Go.Sx.dg x1 i) + Go.Sx.vn (8 : Nat) fun (i : Nat) => Go.Sx.dg x2 i) i) % x3 % Go.Sx.M256 = (x1 + x2) % x3 % Go.Sx.M256 ∧ True) ∧ (∀ (a : Option Go.Addr) (cap : Nat), (a = Option.none → (8 : Nat) = (0 : Nat) ∧ cap = (0 : Nat)) → (8 : Nat) ≤ cap → ∀ (a : Option Go.Addr) (cap : Nat), (a = Option.none → (8 : Nat) = (0 : Nat) ∧ cap = (0 : Nat)) → (8 : Nat) ≤ cap → (∀ (i : Nat), True) ∧ (∀ (i : Nat), True) ∧ (Go.Sx.dgs (8 : Nat) fun (i : Nat) => Go.Sx.intsC (Go.Sx.SC.val (Go.Value.int Go.IntKind.u64 (Go.Sx.dg x1 i)))) ∧ (8 : Nat) ≤ (1000 : Nat) ∧ (Go.Sx.dgs (8 : Nat) fun (i : Nat) => Go.Sx.intsC (Go.Sx.SC.val (Go.Value.int Go.IntKind.u64 (Go.Sx.dg x2 i)))) ∧ (8 : Nat) ≤ (1000 : Nat) ∧ ∀ (a : Option Go.Addr) (cap : Nat), (a = Option.none → (9 : Nat) = (0 : Nat) ∧ cap = (0 : Nat)) → (9 : Nat) ≤ cap → (∀ (i : Nat), True) ∧ (Go.Sx.dgs (9 : Nat) fun (i : Nat) => Go.Sx.intsC (Go.Sx.SC.val (Go.Value.int Go.IntKind.u64 (Go.Sx.dg ((Go.Sx.vn (8 : Nat) fun (i : Nat) => Go.Sx.intsC (Go.Sx.SC.val (Go.Value.int Go.IntKind.u64 (Go.Sx.dg x1 i)))) + Go.Sx.vn (8 : Nat) fun (i : Nat) => Go.Sx.intsC (Go.Sx.SC.val (Go.Value.int Go.IntKind.u64 (Go.Sx.dg x2 i)))) i)))) ∧ (9 : Nat) ≤ (1000 : Nat) ∧ x3 ≠ (0 : Nat) ∧ (Go.Sx.vn (9 : Nat) fun (i : Nat) => Go.Sx.dg ((Go.Sx.vn (8 : Nat) fun (i : Nat) => Go.Sx.dg x1 i) + Go.Sx.vn (8 : Nat) fun (i : Nat) => Go.Sx.dg x2 i) i) % x3 % Go.Sx.M256 = (x1 + x2) % x3 % Go.Sx.M256 ∧ True) ∧ ∀ (a : Option Go.Addr) (cap : Nat), (a = Option.none → (8 : Nat) = (0 : Nat) ∧ cap = (0 : Nat)) → (8 : Nat) ≤ cap → ∀ (a : Option Go.Addr) (cap : Nat), (a = Option.none → (8 : Nat) = (0 : Nat) ∧ cap = (0 : Nat)) → (8 : Nat) ≤ cap → (∀ (i : Nat), True) ∧ (∀ (i : Nat), True) ∧ (Go.Sx.dgs (8 : Nat) fun (i : Nat) => Go.Sx.intsC (Go.Sx.SC.val (Go.Value.int Go.IntKind.u64 (Go.Sx.dg x1 i)))) ∧ (8 : Nat) ≤ (1000 : Nat) ∧ (Go.Sx.dgs (8 : Nat) fun (i : Nat) => Go.Sx.intsC (Go.Sx.SC.val (Go.Value.int Go.IntKind.u64 (Go.Sx.dg x2 i)))) ∧ (8 : Nat) ≤ (1000 : Nat) ∧ ∀ (a : Option Go.Addr) (cap : Nat), (a = Option.none → (9 : Nat) = (0 : Nat) ∧ cap = (0 : Nat)) → (9 : Nat) ≤ cap → (∀ (i : Nat), True) ∧ (Go.Sx.dgs (9 : Nat) fun (i : Nat) => Go.Sx.intsC (Go.Sx.SC.val (Go.Value.int Go.IntKind.u64 (Go.Sx.dg ((Go.Sx.vn (8 : Nat) fun (i : Nat) => Go.Sx.intsC (Go.Sx.SC.val (Go.Value.int Go.IntKind.u64 (Go.Sx.dg x1 i)))) + Go.Sx.vn (8 : Nat) fun (i : Nat) => Go.Sx.intsC (Go.Sx.SC.val (Go.Value.int Go.IntKind.u64 (Go.Sx.dg x2 i)))) i)))) ∧ (9 : Nat) ≤ (1000 : Nat) ∧ x3 ≠ (0 : Nat) ∧ (Go.Sx.vn (9 : Nat) fun (i : Nat) => Go.Sx.dg ((Go.Sx.vn (8 : Nat) fun (i : Nat) => Go.Sx.dg x1 i) + Go.Sx.vn (8 : Nat) fun (i : Nat) => Go.Sx.dg x2 i) i) % x3 % Go.Sx.M256 = (x1 + x2) % x3 % Go.Sx.M256 ∧ True) ∧ (((∀ (a : Option Go.Addr) (cap : Nat), (a = Option.none → (8 : Nat) = (0 : Nat) ∧ cap = (0 : Nat)) → (8 : Nat) ≤ cap → (∀ (a : Option Go.Addr) (cap : Nat), (a = Option.none → (8 : Nat) = (0 : Nat) ∧ cap = (0 : Nat)) → (8 : Nat) ≤ cap → ((∀ (i : Nat), True) ∧ (∀ (i : Nat), True) ∧ (Go.Sx.dgs (8 : Nat) fun (i : Nat) => Go.Sx.intsC (Go.Sx.SC.val (Go.Value.int Go.IntKind.u64 (Go.Sx.dg x1 i)))) ∧ (8 : Nat) ≤ (1000 : Nat) ∧ (Go.Sx.dgs (8 : Nat) fun (i : Nat) => Go.Sx.intsC (Go.Sx.SC.val (Go.Value.int Go.IntKind.u64 (Go.Sx.dg x2 i)))) ∧ (8 : Nat) ≤ (1000 : Nat) ∧ ∀ (a : Option Go.Addr) (cap : Nat), (a = Option.none → (9 : Nat) = (0 : Nat) ∧ cap = (0 : Nat)) → (9 : Nat) ≤ cap → (∀ (i : Nat), True) ∧ (Go.Sx.dgs (9 : Nat) fun (i : Nat) => Go.Sx.intsC (Go.Sx.SC.val (Go.Value.int Go.IntKind.u64 (Go.Sx.dg ((Go.Sx.vn (8 : Nat) fun (i : Nat) => Go.Sx.intsC (Go.Sx.SC.val (Go.Value.int Go.IntKind.u64 (Go.Sx.dg x1 i)))) + Go.Sx.vn (8 : Nat) fun (i : Nat) => Go.Sx.intsC (Go.Sx.SC.val (Go.Value.int Go.IntKind.u64 (Go.Sx.dg x2 i)))) i)))) ∧ (9 : Nat) ≤ (1000 : Nat) ∧ x3 ≠ (0 : Nat) ∧ (Go.Sx.vn (9 : Nat) fun (i : Nat) => Go.Sx.dg ((Go.Sx.vn (8 : Nat) fun (i : Nat) => Go.Sx.dg x1 i) + Go.Sx.vn (8 : Nat) fun (i : Nat) => Go.Sx.dg x2 i) i) % x3 % Go.Sx.M256 = (x1 + x2) % x3 % Go.Sx.M256 ∧ True) ∧ (∀ (i : Nat), True) ∧ (∀ (i : Nat), True) ∧ (Go.Sx.dgs (8 : Nat) fun (i : Nat) => Go.Sx.intsC (Go.Sx.SC.val (Go.Value.int Go.IntKind.u64 (Go.Sx.dg x1 i)))) ∧ (8 : Nat) ≤ (1000 : Nat) ∧ (Go.Sx.dgs (8 : Nat) fun (i : Nat) => Go.Sx.intsC (Go.Sx.SC.val (Go.Value.int Go.IntKind.u64 (Go.Sx.dg x2 i)))) ∧ (8 : Nat) ≤ (1000 : Nat) ∧ ∀ (a : Option Go.Addr) (cap : Nat), (a = Option.none → (9 : Nat) = (0 : Nat) ∧ cap = (0 : Nat)) → (9 : Nat) ≤ cap → (∀ (i : Nat), True) ∧ (Go.Sx.dgs (9 : Nat) fun (i : Nat) => Go.Sx.intsC (Go.Sx.SC.val (Go.Value.int Go.IntKind.u64 (Go.Sx.dg ((Go.Sx.vn (8 : Nat) fun (i : Nat) => Go.Sx.intsC (Go.Sx.SC.val (Go.Value.int Go.IntKind.u64 (Go.Sx.dg x1 i)))) + Go.Sx.vn (8 : Nat) fun (i : Nat) => Go.Sx.intsC (Go.Sx.SC.val (Go.Value.int Go.IntKind.u64 (Go.Sx.dg x2 i)))) i)))) ∧ (9 : Nat) ≤ (1000 : Nat) ∧ x3 ≠ (0 : Nat) ∧ (Go.Sx.vn (9 : Nat) fun (i : Nat) => Go.Sx.dg ((Go.Sx.vn (8 : Nat) fun (i : Nat) => Go.Sx.dg x1 i) + Go.Sx.vn (8 : Nat) fun (i : Nat) => Go.Sx.dg x2 i) i) % x3 % Go.Sx.M256 = (x1 + x2) % x3 % Go.Sx.M256 ∧ True) ∧ ∀ (a : Option Go.Addr) (cap : Nat), (a = Option.none → (8 : Nat) = (0 : Nat) ∧ cap = (0 : Nat)) → (8 : Nat) ≤ cap → (∀ (i : Nat), True) ∧ (∀ (i : Nat), True) ∧ (Go.Sx.dgs (8 : Nat) fun (i : Nat) => Go.Sx.intsC (Go.Sx.SC.val (Go.Value.int Go.IntKind.u64 (Go.Sx.dg x1 i)))) ∧ (8 : Nat) ≤ (1000 : Nat) ∧ (Go.Sx.dgs (8 : Nat) fun (i : Nat) => Go.Sx.intsC (Go.Sx.SC.val (Go.Value.int Go.IntKind.u64 (Go.Sx.dg x2 i)))) ∧ (8 : Nat) ≤ (1000 : Nat) ∧ ∀ (a : Option Go.Addr) (cap : Nat), (a = Option.none → (9 : Nat) = (0 : Nat) ∧ cap = (0 : Nat)) → (9 : Nat) ≤ cap → (∀ (i : Nat), True) ∧ (Go.Sx.dgs (9 : Nat) fun (i : Nat) => Go.Sx.intsC (Go.Sx.SC.val (Go.Value.int Go.IntKind.u64 (Go.Sx.dg ((Go.Sx.vn (8 : Nat) fun (i : Nat) => Go.Sx.intsC (Go.Sx.SC.val (Go.Value.int Go.IntKind.u64 (Go.Sx.dg x1 i)))) + Go.Sx.vn (8 : Nat) fun (i : Nat) => Go.Sx.intsC (Go.Sx.SC.val (Go.Value.int Go.IntKind.u64 (Go.Sx.dg x2 i)))) i)))) ∧ (9 : Nat) ≤ (1000 : Nat) ∧ x3 ≠ (0 : Nat) ∧ (Go.Sx.vn (9 : Nat) fun (i : Nat) => Go.Sx.dg ((Go.Sx.vn (8 : Nat) fun (i : Nat) => Go.Sx.dg x1 i) + Go.Sx.vn (8 : Nat) fun (i : Nat) => Go.Sx.dg x2 i) i) % x3 % Go.Sx.M256 = (x1 + x2) % x3 % Go.Sx.M256 ∧ True) ∧ ∀ (a : Option Go.Addr) (cap : Nat), (a = Option.none → (8 : Nat) = (0 : Nat) ∧ cap = (0 : Nat)) → (8 : Nat) ≤ cap → ∀ (a : Option Go.Addr) (cap : Nat), (a = Option.none → (8 : Nat) = (0 : Nat) ∧ cap = (0 : Nat)) → (8 : Nat) ≤ cap → (∀ (i : Nat), True) ∧ (∀ (i : Nat), True) ∧ (Go.Sx.dgs (8 : Nat) fun (i : Nat) => Go.Sx.intsC (Go.Sx.SC.val (Go.Value.int Go.IntKind.u64 (Go.Sx.dg x1 i)))) ∧ (8 : Nat) ≤ (1000 : Nat) ∧ (Go.Sx.dgs (8 : Nat) fun (i : Nat) => Go.Sx.intsC (Go.Sx.SC.val (Go.Value.int Go.IntKind.u64 (Go.Sx.dg x2 i)))) ∧ (8 : Nat) ≤ (1000 : Nat) ∧ ∀ (a : Option Go.Addr) (cap : Nat), (a = Option.none → (9 : Nat) = (0 : Nat) ∧ cap = (0 : Nat)) → (9 : Nat) ≤ cap → (∀ (i : Nat), True) ∧ (Go.Sx.dgs (9 : Nat) fun (i : Nat) => Go.Sx.intsC (Go.Sx.SC.val (Go.Value.int Go.IntKind.u64 (Go.Sx.dg ((Go.Sx.vn (8 : Nat) fun (i : Nat) => Go.Sx.intsC (Go.Sx.SC.val (Go.Value.int Go.IntKind.u64 (Go.Sx.dg x1 i)))) + Go.Sx.vn (8 : Nat) fun (i : Nat) => Go.Sx.intsC (Go.Sx.SC.val (Go.Value.int Go.IntKind.u64 (Go.Sx.dg x2 i)))) i)))) ∧ (9 : Nat) ≤ (1000 : Nat) ∧ x3 ≠ (0 : Nat) ∧ (Go.Sx.vn (9 : Nat) fun (i : Nat) => Go.Sx.dg ((Go.Sx.vn (8 : Nat) fun (i : Nat) => Go.Sx.dg x1 i) + Go.Sx.vn (8 : Nat) fun (i : Nat) => Go.Sx.dg x2 i) i) % x3 % Go.Sx.M256 = (x1 + x2) % x3 % Go.Sx.M256 ∧ True) ∧ ∀ (a : Option Go.Addr) (cap : Nat), (a = Option.none → (8 : Nat) = (0 : Nat) ∧ cap = (0 : Nat)) → (8 : Nat) ≤ cap → ∀ (a : Option Go.Addr) (cap : Nat), (a = Option.none → (8 : Nat) = (0 : Nat) ∧ cap = (0 : Nat)) → (8 : Nat) ≤ cap → (∀ (i : Nat), True) ∧ (∀ (i : Nat), True) ∧ (Go.Sx.dgs (8 : Nat) fun (i : Nat) => Go.Sx.intsC (Go.Sx.SC.val (Go.Value.int Go.IntKind.u64 (Go.Sx.dg x1 i)))) ∧ (8 : Nat) ≤ (1000 : Nat) ∧ (Go.Sx.dgs (8 : Nat) fun (i : Nat) => Go.Sx.intsC (Go.Sx.SC.val (Go.Value.int Go.IntKind.u64 (Go.Sx.dg x2 i)))) ∧ (8 : Nat) ≤ (1000 : Nat) ∧ ∀ (a : Option Go.Addr) (cap : Nat), (a = Option.none → (9 : Nat) = (0 : Nat) ∧ cap = (0 : Nat)) → (9 : Nat) ≤ cap → (∀ (i : Nat), True) ∧ (Go.Sx.dgs (9 : Nat) fun (i : Nat) => Go.Sx.intsC (Go.Sx.SC.val (Go.Value.int Go.IntKind.u64 (Go.Sx.dg ((Go.Sx.vn (8 : Nat) fun (i : Nat) => Go.Sx.intsC (Go.Sx.SC.val (Go.Value.int Go.IntKind.u64 (Go.Sx.dg x1 i)))) + Go.Sx.vn (8 : Nat) fun (i : Nat) => Go.Sx.intsC (Go.Sx.SC.val (Go.Value.int Go.IntKind.u64 (Go.Sx.dg x2 i)))) i)))) ∧ (9 : Nat) ≤ (1000 : Nat) ∧ x3 ≠ (0 : Nat) ∧ (Go.Sx.vn (9 : Nat) fun (i : Nat) => Go.Sx.dg ((Go.Sx.vn (8 : Nat) fun (i : Nat) => Go.Sx.dg x1 i) + Go.Sx.vn (8 : Nat) fun (i : Nat) => Go.Sx.dg x2 i) i) % x3 % Go.Sx.M256 = (x1 + x2) % x3 % Go.Sx.M256 ∧ True) ∧ ((∀ (a : Option Go.Addr) (cap : Nat), (a = Option.none → (8 : Nat) = (0 : Nat) ∧ cap = (0 : Nat)) → (8 : Nat) ≤ cap → ∀ (a : Option Go.Addr) (cap : Nat), (a = Option.none → (8 : Nat) = (0 : Nat) ∧ cap = (0 : Nat)) → (8 : Nat) ≤ cap → (∀ (i : Nat), True) ∧ (∀ (i : Nat), True) ∧ (Go.Sx.dgs (8 : Nat) fun (i : Nat) => Go.Sx.intsC (Go.Sx.SC.val (Go.Value.int Go.IntKind.u64 (Go.Sx.dg x1 i)))) ∧ (8 : Nat) ≤ (1000 : Nat) ∧ (Go.Sx.dgs (8 : Nat) fun (i : Nat) => Go.Sx.intsC (Go.Sx.SC.val (Go.Value.int Go.IntKind.u64 (Go.Sx.dg x2 i)))) ∧ (8 : Nat) ≤ (1000 : Nat) ∧ ∀ (a : Option Go.Addr) (cap : Nat), (a = Option.none → (9 : Nat) = (0 : Nat) ∧ cap = (0 : Nat)) → (9 : Nat) ≤ cap → (∀ (i : Nat), True) ∧ (Go.Sx.dgs (9 : Nat) fun (i : Nat) => Go.Sx.intsC (Go.Sx.SC.val (Go.Value.int Go.IntKind.u64 (Go.Sx.dg ((Go.Sx.vn (8 : Nat) fun (i : Nat) => Go.Sx.intsC (Go.Sx.SC.val (Go.Value.int Go.IntKind.u64 (Go.Sx.dg x1 i)))) + Go.Sx.vn (8 : Nat) fun (i : Nat) => Go.Sx.intsC (Go.Sx.SC.val (Go.Value.int Go.IntKind.u64 (Go.Sx.dg x2 i)))) i)))) ∧ (9 : Nat) ≤ (1000 : Nat) ∧ x3 ≠ (0 : Nat) ∧ (Go.Sx.vn (9 : Nat) fun (i : Nat) => Go.Sx.dg ((Go.Sx.vn (8 : Nat) fun (i : Nat) => Go.Sx.dg x1 i) + Go.Sx.vn (8 : Nat) fun (i : Nat) => Go.Sx.dg x2 i) i) % x3 % Go.Sx.M256 = (x1 + x2) % x3 % Go.Sx.M256 ∧ True) ∧ ∀ (a : Option Go.Addr) (cap : Nat), (a = Option.none → (8 : Nat) = (0 : Nat) ∧ cap = (0 : Nat)) → (8 : Nat) ≤ cap → ∀ (a : Option Go.Addr) (cap : Nat), (a = Option.none → (8 : Nat) = (0 : Nat) ∧ cap = (0 : Nat)) → (8 : Nat) ≤ cap → (∀ (i : Nat), True) ∧ (∀ (i : Nat), True) ∧ (Go.Sx.dgs (8 : Nat) fun (i : Nat) => Go.Sx.intsC (Go.Sx.SC.val (Go.Value.int Go.IntKind.u64 (Go.Sx.dg x1 i)))) ∧ (8 : Nat) ≤ (1000 : Nat) ∧ (Go.Sx.dgs (8 : Nat) fun (i : Nat) => Go.Sx.intsC (Go.Sx.SC.val (Go.Value.int Go.IntKind.u64 (Go.Sx.dg x2 i)))) ∧ (8 : Nat) ≤ (1000 : Nat) ∧ ∀ (a : Option Go.Addr) (cap : Nat), (a = Option.none → (9 : Nat) = (0 : Nat) ∧ cap = (0 : Nat)) → (9 : Nat) ≤ cap → (∀ (i : Nat), True) ∧ (Go.Sx.dgs (9 : Nat) fun (i : Nat) => Go.Sx.intsC (Go.Sx.SC.val (Go.Value.int Go.IntKind.u64 (Go.Sx.dg ((Go.Sx.vn (8 : Nat) fun (i : Nat) => Go.Sx.intsC (Go.Sx.SC.val (Go.Value.int Go.IntKind.u64 (Go.Sx.dg x1 i)))) + Go.Sx.vn (8 : Nat) fun (i : Nat) => Go.Sx.intsC (Go.Sx.SC.val (Go.Value.int Go.IntKind.u64 (Go.Sx.dg x2 i)))) i)))) ∧ (9 : Nat) ≤ (1000 : Nat) ∧ x3 ≠ (0 : Nat) ∧ (Go.Sx.vn (9 : Nat) fun (i : Nat) => Go.Sx.dg ((Go.Sx.vn (8 : Nat) fun (i : Nat) => Go.Sx.dg x1 i) + Go.Sx.vn (8 : Nat) fun (i : Nat) => Go.Sx.dg x2 i) i) % x3 % Go.Sx.M256 = (x1 + x2) % x3 % Go.Sx.M256 ∧ True) ∧ ∀ (a : Option Go.Addr) (cap : Nat), (a = Option.none → (8 : Nat) = (0 : Nat) ∧ cap = (0 : Nat)) → (8 : Nat) ≤ cap → ∀ (a : Option Go.Addr) (cap : Nat), (a = Option.none → (8 : Nat) = (0 : Nat) ∧ cap = (0 : Nat)) → (8 : Nat) ≤ cap → (∀ (i : Nat), True) ∧ (∀ (i : Nat), True) ∧ (Go.Sx.dgs (8 : Nat) fun (i : Nat) => Go.Sx.intsC (Go.Sx.SC.val (Go.Value.int Go.IntKind.u64 (Go.Sx.dg x1 i)))) ∧ (8 : Nat) ≤ (1000 : Nat) ∧ (Go.Sx.dgs (8 : Nat) fun (i : Nat) => Go.Sx.intsC (Go.Sx.SC.val (Go.Value.int Go.IntKind.u64 (Go.Sx.dg x2 i)))) ∧ (8 : Nat) ≤ (1000 : Nat) ∧ ∀ (a : Option Go.Addr) (cap : Nat), (a = Option.none → (9 : Nat) = (0 : Nat) ∧ cap = (0 : Nat)) → (9 : Nat) ≤ cap → (∀ (i : Nat), True) ∧ (Go.Sx.dgs (9 : Nat) fun (i : Nat) => Go.Sx.intsC (Go.Sx.SC.val (Go.Value.int Go.IntKind.u64 (Go.Sx.dg ((Go.Sx.vn (8 : Nat) fun (i : Nat) => Go.Sx.intsC (Go.Sx.SC.val (Go.Value.int Go.IntKind.u64 (Go.Sx.dg x1 i)))) + Go.Sx.vn (8 : Nat) fun (i : Nat) => Go.Sx.intsC (Go.Sx.SC.val (Go.Value.int Go.IntKind.u64 (Go.Sx.dg x2 i)))) i)))) ∧ (9 : Nat) ≤ (1000 : Nat) ∧ x3 ≠ (0 : Nat) ∧ (Go.Sx.vn (9 : Nat) fun (i : Nat) => Go.Sx.dg ((Go.Sx.vn (8 : Nat) fun (i : Nat) => Go.Sx.dg x1 i) + Go.Sx.vn (8 : Nat) fun (i : Nat) => Go.Sx.dg x2 i) i) % x3 % Go.Sx.M256 = (x1 + x2) % x3 % Go.Sx.M256 ∧ True) := by kernel_rfl
-- END VC
-- VC vc_refOpp HASH 2fd1eaa10966e4e6
theorem vc_refOpp (a m : Nat) (r : Nat) :
    OwesV Try.prog .none slAll [] 4 Try.f60 [sU a, sU m] (.one (sU r)) =
    (let x1 : Nat := a % Go.Sx.M256; let x2 : Nat := r % Go.Sx.M256; let x3 : Nat := Go.Sx.vn (8 : Nat) fun (i : Nat) => Go.Sx.dg x1 i; let x4 : Nat := Go.Sx.vn (8 : Nat) fun (i : Nat) => Go.Sx.dg (m % Go.Sx.M256) i; (Go.Sx.conj [x1 == (0 : Nat)] = Bool.true → x1 = x2 ∧ True) ∧ (Go.Sx.conj [x1 == (0 : Nat)] = Bool.false → ((∀ (a : Option Go.Addr) (cap : Nat), (a = Option.none → (8 : Nat) = (0 : Nat) ∧ cap = (0 : Nat)) → (8 : Nat) ≤ cap → ∀ (a : Option Go.Addr) (cap : Nat), (a = Option.none → (8 : Nat) = (0 : Nat) ∧ cap = (0 : Nat)) → (8 : Nat) ≤ cap → (∀ (i : Nat), True) ∧ (∀ (i : Nat), True) ∧ (Go.Sx.dgs (8 : Nat) fun (i : Nat) => Go.Sx.intsC (Go.Sx.SC.val (Go.Value.int Go.IntKind.u64 (Go.Sx.dg (m % Go.Sx.M256) i)))) ∧ (8 : Nat) ≤ (1000 : Nat) ∧ (Go.Sx.dgs (8 : Nat) fun (i : Nat) => Go.Sx.intsC (Go.Sx.SC.val (Go.Value.int Go.IntKind.u64 (Go.Sx.dg x1 i)))) ∧ (8 : Nat) ≤ (1000 : Nat) ∧ x3 ≤ x4 ∧ ∀ (a : Option Go.Addr) (cap : Nat), (a = Option.none → (8 : Nat) = (0 : Nat) ∧ cap = (0 : Nat)) → (8 : Nat) ≤ cap → (∀ (i : Nat), True) ∧ (Go.Sx.dgs (8 : Nat) fun (i : Nat) => Go.Sx.intsC (Go.Sx.SC.val (Go.Value.int Go.IntKind.u64 (Go.Sx.dg ((Go.Sx.vn (8 : Nat) fun (i : Nat) => Go.Sx.intsC (Go.Sx.SC.val (Go.Value.int Go.IntKind.u64 (Go.Sx.dg (m % Go.Sx.M256) i)))) - Go.Sx.vn (8 : Nat) fun (i : Nat) => Go.Sx.intsC (Go.Sx.SC.val (Go.Value.int Go.IntKind.u64 (Go.Sx.dg x1 i)))) i)))) ∧ (8 : Nat) ≤ (1000 : Nat) ∧ (Go.Sx.vn (8 : Nat) fun (i : Nat) => Go.Sx.dg (x4 - x3) i) % Go.Sx.M256 % Go.Sx.M256 = x2 ∧ True) ∧ ∀ (a : Option Go.Addr) (cap : Nat), (a = Option.none → (8 : Nat) = (0 : Nat) ∧ cap = (0 : Nat)) → (8 : Nat) ≤ cap → ∀ (a : Option Go.Addr) (cap : Nat), (a = Option.none → (8 : Nat) = (0 : Nat) ∧ cap = (0 : Nat)) → (8 : Nat) ≤ cap → (∀ (i : Nat), True) ∧ (∀ (i : Nat), True) ∧ (Go.Sx.dgs (8 : Nat) fun (i : Nat) => Go.Sx.intsC (Go.Sx.SC.val (Go.Value.int Go.IntKind.u64 (Go.Sx.dg (m % Go.Sx.M256) i)))) ∧ (8 : Nat) ≤ (1000 : Nat) ∧ (Go.Sx.dgs (8 : Nat) fun (i : Nat) => Go.Sx.intsC (Go.Sx.SC.val (Go.Value.int Go.IntKind.u64 (Go.Sx.dg x1 i)))) ∧ (8 : Nat) ≤ (1000 : Nat) ∧ x3 ≤ x4 ∧ ∀ (a : Option Go.Addr) (cap : Nat), (a = Option.none → (8 : Nat) = (0 : Nat) ∧ cap = (0 : Nat)) → (8 : Nat) ≤ cap → (∀ (i : Nat), True) ∧ (Go.Sx.dgs (8 : Nat) fun (i : Nat) => Go.Sx.intsC (Go.Sx.SC.val (Go.Value.int Go.IntKind.u64 (Go.Sx.dg ((Go.Sx.vn (8 : Nat) fun (i : Nat) => Go.Sx.intsC (Go.Sx.SC.val (Go.Value.int Go.IntKind.u64 (Go.Sx.dg (m % Go.Sx.M256) i)))) - Go.Sx.vn (8 : Nat) fun (i : Nat) => Go.Sx.intsC (Go.Sx.SC.val (Go.Value.int Go.IntKind.u64 (Go.Sx.dg x1 i)))) i)))) ∧ (8 : Nat) ≤ (1000 : Nat) ∧ (Go.Sx.vn (8 : Nat) fun (i : Nat) => Go.Sx.dg (x4 - x3) i) % Go.Sx.M256 % Go.Sx.M256 = x2 ∧ True) ∧ ∀ (a : Option Go.Addr) (cap : Nat), (a = Option.none → (8 : Nat) = (0 : Nat) ∧ cap = (0 : Nat)) → (8 : Nat) ≤ cap → ∀ (a : Option Go.Addr) (cap : Nat), (a = Option.none → (8 : Nat) = (0 : Nat) ∧ cap = (0 : Nat)) → (8 : Nat) ≤ cap → (∀ (i : Nat), True) ∧ (∀ (i : Nat), True) ∧ (Go.Sx.dgs (8 : Nat) fun (i : Nat) => Go.Sx.intsC (Go.Sx.SC.val (Go.Value.int Go.IntKind.u64 (Go.Sx.dg (m % Go.Sx.M256) i)))) ∧ (8 : Nat) ≤ (1000 : Nat) ∧ (Go.Sx.dgs (8 : Nat) fun (i : Nat) => Go.Sx.intsC (Go.Sx.SC.val (Go.Value.int Go.IntKind.u64 (Go.Sx.dg x1 i)))) ∧ (8 : Nat) ≤ (1000 : Nat) ∧ x3 ≤ x4 ∧ ∀ (a : Option Go.Addr) (cap : Nat), (a = Option.none → (8 : Nat) = (0 : Nat) ∧ cap = (0 : Nat)) → (8 : Nat) ≤ cap → (∀ (i : Nat), True) ∧ (Go.Sx.dgs (8 : Nat) fun (i : Nat) => Go.Sx.intsC (Go.Sx.SC.val (Go.Value.int Go.IntKind.u64 (Go.Sx.dg ((Go.Sx.vn (8 : Nat) fun (i : Nat) => Go.Sx.intsC (Go.Sx.SC.val (Go.Value.int Go.IntKind.u64 (Go.Sx.dg (m % Go.Sx.M256) i)))) - Go.Sx.vn (8 : Nat) fun (i : Nat) => Go.Sx.intsC (Go.Sx.SC.val (Go.Value.int Go.IntKind.u64 (Go.Sx.dg x1 i)))) i)))) ∧ (8 : Nat) ≤ (1000 : Nat) ∧ (Go.Sx.vn (8 : Nat) fun (i : Nat) => Go.Sx.dg (x4 - x3) i) % Go.Sx.M256 % Go.Sx.M256 = x2 ∧ True)) := by kernel_rfl
-- END VC
-- VC vc_refPro HASH e132123069220130
theorem vc_refPro (a b m : Nat) (r : Nat) :
    OwesV Try.prog .none slRest [] 4 Try.f61 [sU a, sU b, sU m] (.one (sU r)) =
    (let x1 : Bool := Go.IntKind.u64.wrap (↑(BitVec.ofInt (64 : Nat) (Go.IntKind.u64.wrap (↑(BitVec.ofInt (64 : Nat) (Go.Sx.limb m (1 : Nat)) ||| BitVec.ofInt (64 : Nat) (Go.Sx.limb m (2 : Nat))).toNat : Int)) ||| BitVec.ofInt (64 : Nat) (Go.Sx.limb m (3 : Nat))).toNat : Int) == (0 : Int); let x2 : Int := (Go.IntKind.u64.wrap (Go.Sx.limb a (0 : Nat) * Go.Sx.limb b (0 : Nat))).tmod (Go.Sx.limb m (0 : Nat)); let x3 : Nat := r % Go.Sx.M256; let x4 : Nat := m % Go.Sx.M256; (x1 = Bool.true → x1 = Bool.true) ∧ (x1 = Bool.true → x1 = Bool.true) ∧ (x1 = Bool.true → x1 = Bool.true) ∧ ((x1 && Decidable.decide (Go.Sx.limb m (0 : Nat) < (4294967296 : Int))) = Bool.true → Go.Sx.limb m (0 : Nat) ≠ (0 : Int) ∧ ((0 : Int) ≤ x2 ∧ x2 < (18446744073709551616 : Int)) ∧ ((0 : Int) ≤ (0 : Int) ∧ (0 : Int) < (18446744073709551616 : Int)) ∧ ((0 : Int) ≤ (0 : Int) ∧ (0 : Int) < (18446744073709551616 : Int)) ∧ ((0 : Int) ≤ (0 : Int) ∧ (0 : Int) < (18446744073709551616 : Int)) ∧ Go.Sx.join x2 (0 : Int) (0 : Int) (0 : Int) % Go.Sx.M256 = x3 ∧ True) ∧ ((x1 && Decidable.decide (Go.Sx.limb m (0 : Nat) < (4294967296 : Int))) = Bool.false → ((∀ (a_2 : Option Go.Addr) (cap : Nat), (a_2 = Option.none → (8 : Nat) = (0 : Nat) ∧ cap = (0 : Nat)) → (8 : Nat) ≤ cap → ((∀ (a_5 : Option Go.Addr) (cap : Nat), (a_5 = Option.none → (8 : Nat) = (0 : Nat) ∧ cap = (0 : Nat)) → (8 : Nat) ≤ cap → ((∀ (i : Nat), True) ∧ (∀ (i : Nat), True) ∧ (Go.Sx.dgs (8 : Nat) fun (i : Nat) => Go.Sx.intsC (Go.Sx.SC.val (Go.Value.int Go.IntKind.u64 (Go.Sx.dg (a % Go.Sx.M256) i)))) ∧ (8 : Nat) ≤ (1000 : Nat) ∧ (Go.Sx.dgs (8 : Nat) fun (i : Nat) => Go.Sx.intsC (Go.Sx.SC.val (Go.Value.int Go.IntKind.u64 (Go.Sx.dg (b % Go.Sx.M256) i)))) ∧ (8 : Nat) ≤ (1000 : Nat) ∧ ∀ (a_8 : Option Go.Addr) (cap : Nat), (a_8 = Option.none → (16 : Nat) = (0 : Nat) ∧ cap = (0 : Nat)) → (16 : Nat) ≤ cap → (∀ (i : Nat), True) ∧ (Go.Sx.dgs (16 : Nat) fun (i : Nat) => Go.Sx.intsC (Go.Sx.SC.val (Go.Value.int Go.IntKind.u64 (Go.Sx.dg ((Go.Sx.vn (8 : Nat) fun (i : Nat) => Go.Sx.intsC (Go.Sx.SC.val (Go.Value.int Go.IntKind.u64 (Go.Sx.dg (a % Go.Sx.M256) i)))) * Go.Sx.vn (8 : Nat) fun (i : Nat) => Go.Sx.intsC (Go.Sx.SC.val (Go.Value.int Go.IntKind.u64 (Go.Sx.dg (b % Go.Sx.M256) i)))) i)))) ∧ (16 : Nat) ≤ (1000 : Nat) ∧ x4 ≠ (0 : Nat) ∧ (Go.Sx.vn (16 : Nat) fun (i : Nat) => Go.Sx.dg ((Go.Sx.vn (8 : Nat) fun (i : Nat) => Go.Sx.dg (a % Go.Sx.M256) i) * Go.Sx.vn (8 : Nat) fun (i : Nat) => Go.Sx.dg (b % Go.Sx.M256) i) i) % x4 % Go.Sx.M256 = x3 ∧ True) ∧ (∀ (i : Nat), True) ∧ (∀ (i : Nat), True) ∧ (Go.Sx.dgs (8 : Nat) fun (i : Nat) => Go.Sx.intsC (Go.Sx.SC.val (Go.Value.int Go.IntKind.u64 (Go.Sx.dg (a % Go.Sx.M256) i)))) ∧ (8 : Nat) ≤ (1000 : Nat) ∧ (Go.Sx.dgs (8 : Nat) fun (i : Nat) => Go.Sx.intsC (Go.Sx.SC.val (Go.Value.int Go.IntKind.u64 (Go.Sx.dg (b % Go.Sx.M256) i)))) ∧ (8 : Nat) ≤ (1000 : Nat) ∧ ∀ (a_8 : Option Go.Addr) (cap : Nat), (a_8 = Option.none → (16 : Nat) = (0 : Nat) ∧ cap = (0 : Nat)) → (16 : Nat) ≤ cap → (∀ (i : Nat), True) ∧ (Go.Sx.dgs (16 : Nat) fun (i : Nat) => Go.Sx.intsC (Go.Sx.SC.val (Go.Value.int Go.IntKind.u64 (Go.Sx.dg ((Go.Sx.vn (8 : Nat) fun (i : Nat) => Go.Sx.intsC (Go.Sx.SC.val (Go.Value.int Go.IntKind.u64 (Go.Sx.dg (a % Go.Sx.M256) i)))) * Go.Sx.vn (8 : Nat) fun (i : Nat) => Go.Sx.intsC (Go.Sx.SC.val (Go.Value.int Go.IntKind.u64 (Go.Sx.dg (b % Go.Sx.M256) i)))) i)))) ∧ (16 : Nat) ≤ (1000 : Nat) ∧ x4 ≠ (0 : Nat) ∧ (Go.Sx.vn (16 : Nat) fun (i : Nat) => Go.Sx.dg ((Go.Sx.vn (8 : Nat) fun (i : Nat) => Go.Sx.dg (a % Go.Sx.M256) i) * Go.Sx.vn (8 : Nat) fun (i : Nat) => Go.Sx.dg (b % Go.Sx.M256) i) i) % x4 % Go.Sx.M256 = x3 ∧ True) ∧ ∀ (a_5 : Option Go.Addr) (cap : Nat), (a_5 = Option.none → (8 : Nat) = (0 : Nat) ∧ cap = (0 : Nat)) → (8 : Nat) ≤ cap → (∀ (i : Nat), True) ∧ (∀ (i : Nat), True) ∧ (Go.Sx.dgs (8 : Nat) fun (i : Nat) => Go.Sx.intsC (Go.Sx.SC.val (Go.Value.int Go.IntKind.u64 (Go.Sx.dg (a % Go.Sx.M256) i)))) ∧ (8 : Nat) ≤ (1000 : Nat) ∧ (Go.Sx.dgs (8 : Nat) fun (i : Nat) => Go.Sx.intsC (Go.Sx.SC.val (Go.Value.int Go.IntKind.u64 (Go.Sx.dg (b % Go.Sx.M256) i)))) ∧ (8 : Nat) ≤ (1000 : Nat) ∧ ∀ (a_8 : Option Go.Addr) (cap : Nat), (a_8 = Option.none → (16 : Nat) = (0 : Nat) ∧ cap = (0 : Nat)) → (16 : Nat) ≤ cap → (∀ (i : Nat), True) ∧ (Go.Sx.dgs (16 : Nat) fun (i : Nat) => Go.Sx.intsC (Go.Sx.SC.val (Go.Value.int Go.IntKind.u64 (Go.Sx.dg ((Go.Sx.vn (8 : Nat) fun (i : Nat) => Go.Sx.intsC (Go.Sx.SC.val (Go.Value.int Go.IntKind.u64 (Go.Sx.dg (a % Go.Sx.M256) i)))) * Go.Sx.vn (8 : Nat) fun (i : Nat) => Go.Sx.intsC (Go.Sx.SC.val (Go.Value.int Go.IntKind.u64 (Go.Sx.dg (b % Go.Sx.M256) i)))) i)))) ∧ (16 : Nat) ≤ (1000 : Nat) ∧ x4 ≠ (0 : Nat) ∧ (Go.Sx.vn (16 : Nat) fun (i : Nat) => Go.Sx.dg ((Go.Sx.vn (8 : Nat) fun (i : Nat) => Go.Sx.dg (a % Go.Sx.M256) i) * Go.Sx.vn (8 : Nat) fun (i : Nat) => Go.Sx.dg (b % Go.Sx.M256) i) i) % x4 % Go.Sx.M256 = x3 ∧ True) ∧ ∀ (a_5 : Option Go.Addr) (cap : Nat), (a_5 = Option.none → (8 : Nat) = (0 : Nat) ∧ cap = (0 : Nat)) → (8 : Nat) ≤ cap → (∀ (i : Nat), True) ∧ (∀ (i : Nat), True) ∧ (Go.Sx.dgs (8 : Nat) fun (i : Nat) => Go.Sx.intsC (Go.Sx.SC.val (Go.Value.int Go.IntKind.u64 (Go.Sx.dg (a % Go.Sx.M256) i)))) ∧ (8 : Nat) ≤ (1000 : Nat) ∧ (Go.Sx.dgs (8 : Nat) fun (i : Nat) => Go.Sx.intsC (Go.Sx.SC.val (Go.Value.int Go.IntKind.u64 (Go.Sx.dg (b % Go.Sx.M256) i)))) ∧ (8 : Nat) ≤ (1000 : Nat) ∧ ∀ (a_8 : Option Go.Addr) (cap : Nat), (a_8 = Option.none → (16 : Nat) = (0 : Nat) ∧ cap = (0 : Nat)) → (16 : Nat) ≤ cap → (∀ (i : Nat), True) ∧ (Go.Sx.dgs (16 : Nat) fun (i : Nat) => Go.Sx.intsC (Go.Sx.SC.val (Go.Value.int Go.IntKind.u64 (Go.Sx.dg ((Go.Sx.vn (8 : Nat) fun (i : Nat) => Go.Sx.intsC (Go.Sx.SC.val (Go.Value.int Go.IntKind.u64 (Go.Sx.dg (a % Go.Sx.M256) i)))) * Go.Sx.vn (8 : Nat) fun (i : Nat) => Go.Sx.intsC (Go.Sx.SC.val (Go.Value.int Go.IntKind.u64 (Go.Sx.dg (b % Go.Sx.M256) i)))) i)))) ∧ (16 : Nat) ≤ (1000 : Nat) ∧ x4 ≠ (0 : Nat) ∧ (Go.Sx.vn (16 : Nat) fun (i : Nat) => Go.Sx.dg ((Go.Sx.vn (8 : Nat) fun (i : Nat) => Go.Sx.dg (a % Go.Sx.M256) i) * Go.Sx.vn (8 : Nat) fun (i : Nat) => Go.Sx.dg (b % Go.Sx.M256) i) i) % x4 % Go.Sx.M256 = x3 ∧ True) ∧ ((∀ (a_2 : Option Go.Addr) (cap : Nat), (a_2 = Option.none → (8 : Nat) = (0 : Nat) ∧ cap = (0 : Nat)) → (8 : Nat) ≤ cap → (∀ (a_5 : Option Go.Addr) (cap : Nat), (a_5 = Option.none → (8 : Nat) = (0 : Nat) ∧ cap = (0 : Nat)) → (8 : Nat) ≤ cap → ((∀ (i : Nat), True) ∧ (∀ (i : Nat), True) ∧ (Go.Sx.dgs (8 : Nat) fun (i : Nat) => Go.Sx.intsC (Go.Sx.SC.val (Go.Value.int Go.IntKind.u64 (Go.Sx.dg (a % Go.Sx.M256) i)))) ∧ (8 : Nat) ≤ (1000 : Nat) ∧ (Go.Sx.dgs (8 : Nat) fun (i : Nat) => Go.Sx.intsC (Go.Sx.SC.val (Go.Value.int Go.IntKind.u64 (Go.Sx.dg (b % Go.Sx.M256) i)))) ∧ (8 : Nat) ≤ (1000 : Nat) ∧ ∀ (a_8 : Option Go.Addr) (cap : Nat), (a_8 = Option.none → (16 : Nat) = (0 : Nat) ∧ cap = (0 : Nat)) → (16 : Nat) ≤ cap → (∀ (i : Nat), True) ∧ (Go.Sx.dgs (16 : Nat) fun (i : Nat) => Go.Sx.intsC (Go.Sx.SC.val (Go.Value.int Go.IntKind.u64 (Go.Sx.dg ((Go.Sx.vn (8 : Nat) fun (i : Nat) => Go.Sx.intsC (Go.Sx.SC.val (Go.Value.int Go.IntKind.u64 (Go.Sx.dg (a % Go.Sx.M256) i)))) * Go.Sx.vn (8 : Nat) fun (i : Nat) => Go.Sx.intsC (Go.Sx.SC.val (Go.Value.int Go.IntKind.u64 (Go.Sx.dg (b % Go.Sx.M256) i)))) i)))) ∧ (16 : Nat) ≤ (1000 : Nat) ∧ x4 ≠ (0 : Nat) ∧ (Go.Sx.vn (16 : Nat) fun (i : Nat) => Go.Sx.dg ((Go.Sx.vn (8 : Nat) fun (i : Nat) => Go.Sx.dg (a % Go.Sx.M256) i) * Go.Sx.vn (8 : Nat) fun (i : Nat) => Go.Sx.dg (b % Go.Sx.M256) i) i) % x4 % Go.Sx.M256 = x3 ∧ True) ∧ (∀ (i : Nat), True) ∧ (∀ (i : Nat), True) ∧ (Go.Sx.dgs (8 : Nat) fun (i : Nat) => Go.Sx.intsC (Go.Sx.SC.val (Go.Value.int Go.IntKind.u64 (Go.Sx.dg (a % Go.Sx.M256) i)))) ∧ (8 : Nat) ≤ (1000 : Nat) ∧ (Go.Sx.dgs (8 : Nat) fun (i : Nat) => Go.Sx.intsC (Go.Sx.SC.val (Go.Value.int Go.IntKind.u64 (Go.Sx.dg (b % Go.Sx.M256) i)))) ∧ (8 : Nat) ≤ (1000 : Nat) ∧ ∀ (a_8 : Option Go.Addr) (cap : Nat), (a_8 = Option.none → (16 : Nat) = (0 : Nat) ∧ cap = (0 : Nat)) → (16 : Nat) ≤ cap → (∀ (i : Nat), True) ∧ (Go.Sx.dgs (16 : Nat) fun (i : Nat) => Go.Sx.intsC (Go.Sx.SC.val (Go.Value.int Go.IntKind.u64 (Go.Sx.dg ((Go.Sx.vn (8 : Nat) fun (i : Nat) => Go.Sx.intsC (Go.Sx.SC.val (Go.Value.int Go.IntKind.u64 (Go.Sx.dg (a % Go.Sx.M256) i)))) * Go.Sx.vn (8 : Nat) fun (i : Nat) => Go.Sx.intsC (Go.Sx.SC.val (Go.Value.int Go.IntKind.u64 (Go.Sx.dg (b % Go.Sx.M256) i)))) i)))) ∧ (16 : Nat) ≤ (1000 : Nat) ∧ x4 ≠ (0 : Nat) ∧ (Go.Sx.vn (16 : Nat) fun (i : Nat) => Go.Sx.dg ((Go.Sx.vn (8 : Nat) fun (i : Nat) => Go.Sx.dg (a % Go.Sx.M256) i) * Go.Sx.vn (8 : Nat) fun (i : Nat) => Go.Sx.dg (b % Go.Sx.M256) i) i) % x4 % Go.Sx.M256 = x3 ∧ True) ∧ ∀ (a_5 : Option Go.Addr) (cap : Nat), (a_5 = Option.none → (8 : Nat) = (0 : Nat) ∧ cap = (0 : Nat)) → (8 : Nat) ≤ cap → (∀ (i : Nat), True) ∧ (∀ (i : Nat), True) ∧ (Go.Sx.dgs (8 : Nat) fun (i : Nat) => Go.Sx.intsC (Go.Sx.SC.val (Go.Value.int Go.IntKind.u64 (Go.Sx.dg (a % Go.Sx.M256) i)))) ∧ (8 : Nat) ≤ (1000 : Nat) ∧ (Go.Sx.dgs (8 : Nat) fun (i : Nat) => Go.Sx.intsC (Go.Sx.SC.val (Go.Value.int Go.IntKind.u64 (Go.Sx.dg (b % Go.Sx.M256) i)))) ∧ (8 : Nat) ≤ (1000 : Nat) ∧ ∀ (a_8 : Option Go.Addr) (cap : Nat), (a_8 = Option.none → (16 : Nat) = (0 : Nat) ∧ cap = (0 : Nat)) → (16 : Nat) ≤ cap → (∀ (i : Nat), True) ∧ (Go.Sx.dgs (16 : Nat) fun (i : Nat) => Go.Sx.intsC (Go.Sx.SC.val (Go.Value.int Go.IntKind.u64 (Go.Sx.dg ((Go.Sx.vn (8 : Nat) fun (i : Nat) => Go.Sx.intsC (Go.Sx.SC.val (Go.Value.int Go.IntKind.u64 (Go.Sx.dg (a % Go.Sx.M256) i)))) * Go.Sx.vn (8 : Nat) fun (i : Nat) => Go.Sx.intsC (Go.Sx.SC.val (Go.Value.int Go.IntKind.u64 (Go.Sx.dg (b % Go.Sx.M256) i)))) i)))) ∧ (16 : Nat) ≤ (1000 : Nat) ∧ x4 ≠ (0 : Nat) ∧ (Go.Sx.vn (16 : Nat) fun (i : Nat) => Go.Sx.dg ((Go.Sx.vn (8 : Nat) fun (i : Nat) => Go.Sx.dg (a % Go.Sx.M256) i) * Go.Sx.vn (8 : Nat) fun (i : Nat) => Go.Sx.dg (b % Go.Sx.M256) i) i) % x4 % Go.Sx.M256 = x3 ∧ True) ∧ ∀ (a_2 : Option Go.Addr) (cap : Nat), (a_2 = Option.none → (8 : Nat) = (0 : Nat) ∧ cap = (0 : Nat)) → (8 : Nat) ≤ cap → ∀ (a_5 : Option Go.Addr) (cap : Nat), (a_5 = Option.none → (8 : Nat) = (0 : Nat) ∧ cap = (0 : Nat)) → (8 : Nat) ≤ cap → (∀ (i : Nat), True) ∧ (∀ (i : Nat), True) ∧ (Go.Sx.dgs (8 : Nat) fun (i : Nat) => Go.Sx.intsC (Go.Sx.SC.val (Go.Value.int Go.IntKind.u64 (Go.Sx.dg (a % Go.Sx.M256) i)))) ∧ (8 : Nat) ≤ (1000 : Nat) ∧ (Go.Sx.dgs (8 : Nat) fun (i : Nat) => Go.Sx.intsC (Go.Sx.SC.val (Go.Value.int Go.IntKind.u64 (Go.Sx.dg (b % Go.Sx.M256) i)))) ∧ (8 : Nat) ≤ (1000 : Nat) ∧ ∀ (a_8 : Option Go.Addr) (cap : Nat), (a_8 = Option.none → (16 : Nat) = (0 : Nat) ∧ cap = (0 : Nat)) → (16 : Nat) ≤ cap → (∀ (i : Nat), True) ∧ (Go.Sx.dgs (16 : Nat) fun (i : Nat) => Go.Sx.intsC (Go.Sx.SC.val (Go.Value.int Go.IntKind.u64 (Go.Sx.dg ((Go.Sx.vn (8 : Nat) fun (i : Nat) => Go.Sx.intsC (Go.Sx.SC.val (Go.Value.int Go.IntKind.u64 (Go.Sx.dg (a % Go.Sx.M256) i)))) * Go.Sx.vn (8 : Nat) fun (i : Nat) => Go.Sx.intsC (Go.Sx.SC.val (Go.Value.int Go.IntKind.u64 (Go.Sx.dg (b % Go.Sx.M256) i)))) i)))) ∧ (16 : Nat) ≤ (1000 : Nat) ∧ x4 ≠ (0 : Nat) ∧ (Go.Sx.vn (16 : Nat) fun (i : Nat) => Go.Sx.dg ((Go.Sx.vn (8 : Nat) fun (i : Nat) => Go.Sx.dg (a % Go.Sx.M256) i) * Go.Sx.vn (8 : Nat) fun (i : Nat) => Go.Sx.dg (b % Go.Sx.M256) i) i) % x4 % Go.Sx.M256 = x3 ∧ True) ∧ (∀ (a_2 : Option Go.Addr) (cap : Nat), (a_2 = Option.none → (8 : Nat) = (0 : Nat) ∧ cap = (0 : Nat)) → (8 : Nat) ≤ cap → ∀ (a_5 : Option Go.Addr) (cap : Nat), (a_5 = Option.none → (8 : Nat) = (0 : Nat) ∧ cap = (0 : Nat)) → (8 : Nat) ≤ cap → (∀ (i : Nat), True) ∧ (∀ (i : Nat), True) ∧ (Go.Sx.dgs (8 : Nat) fun (i : Nat) => Go.Sx.intsC (Go.Sx.SC.val (Go.Value.int Go.IntKind.u64 (Go.Sx.dg (a % Go.Sx.M256) i)))) ∧ (8 : Nat) ≤ (1000 : Nat) ∧ (Go.Sx.dgs (8 : Nat) fun (i : Nat) => Go.Sx.intsC (Go.Sx.SC.val (Go.Value.int Go.IntKind.u64 (Go.Sx.dg (b % Go.Sx.M256) i)))) ∧ (8 : Nat) ≤ (1000 : Nat) ∧ ∀ (a_8 : Option Go.Addr) (cap : Nat), (a_8 = Option.none → (16 : Nat) = (0 : Nat) ∧ cap = (0 : Nat)) → (16 : Nat) ≤ cap → (∀ (i : Nat), True) ∧ (Go.Sx.dgs (16 : Nat) fun (i : Nat) => Go.Sx.intsC (Go.Sx.SC.val (Go.Value.int Go.IntKind.u64 (Go.Sx.dg ((Go.Sx.vn (8 : Nat) fun (i : Nat) => Go.Sx.intsC (Go.Sx.SC.val (Go.Value.int Go.IntKind.u64 (Go.Sx.dg (a % Go.Sx.M256) i)))) * Go.Sx.vn (8 : Nat) fun (i : Nat) => Go.Sx.intsC (Go.Sx.SC.val (Go.Value.int Go.IntKind.u64 (Go.Sx.dg (b % Go.Sx.M256) i)))) i)))) ∧ (16 : Nat) ≤ (1000 : Nat) ∧ x4 ≠ (0 : Nat) ∧ (Go.Sx.vn (16 : Nat) fun (i : Nat) => Go.Sx.dg ((Go.Sx.vn (8 : Nat) fun (i : Nat) => Go.Sx.dg (a % Go.Sx.M256) i) * Go.Sx.vn (8 : Nat) fun (i : Nat) => Go.Sx.dg (b % Go.Sx.M256) i) i) % x4 % Go.Sx.M256 = x3 ∧ True) ∧ ∀ (a_2 : Option Go.Addr) (cap : Nat), (a_2 = Option.none → (8 : Nat) = (0 : Nat) ∧ cap = (0 : Nat)) → (8 : Nat) ≤ cap → ∀ (a_5 : Option Go.Addr) (cap : Nat), (a_5 = Option.none → (8 : Nat) = (0 : Nat) ∧ cap = (0 : Nat)) → (8 : Nat) ≤ cap → (∀ (i : Nat), True) ∧ (∀ (i : Nat), True) ∧ (Go.Sx.dgs (8 : Nat) fun (i : Nat) => Go.Sx.intsC (Go.Sx.SC.val (Go.Value.int Go.IntKind.u64 (Go.Sx.dg (a % Go.Sx.M256) i)))) ∧ (8 : Nat) ≤ (1000 : Nat) ∧ (Go.Sx.dgs (8 : Nat) fun (i : Nat) => Go.Sx.intsC (Go.Sx.SC.val (Go.Value.int Go.IntKind.u64 (Go.Sx.dg (b % Go.Sx.M256) i)))) ∧ (8 : Nat) ≤ (1000 : Nat) ∧ ∀ (a_8 : Option Go.Addr) (cap : Nat), (a_8 = Option.none → (16 : Nat) = (0 : Nat) ∧ cap = (0 : Nat)) → (16 : Nat) ≤ cap → (∀ (i : Nat), True) ∧ (Go.Sx.dgs (16 : Nat) fun (i : Nat) => Go.Sx.intsC (Go.Sx.SC.val (Go.Value.int Go.IntKind.u64 (Go.Sx.dg ((Go.Sx.vn (8 : Nat) fun (i : Nat) => Go.Sx.intsC (Go.Sx.SC.val (Go.Value.int Go.IntKind.u64 (Go.Sx.dg (a % Go.Sx.M256) i)))) * Go.Sx.vn (8 : Nat) fun (i : Nat) => Go.Sx.intsC (Go.Sx.SC.val (Go.Value.int Go.IntKind.u64 (Go.Sx.dg (b % Go.Sx.M256) i)))) i)))) ∧ (16 : Nat) ≤ (1000 : Nat) ∧ x4 ≠ (0 : Nat) ∧ (Go.Sx.vn (16 : Nat) fun (i : Nat) => Go.Sx.dg ((Go.Sx.vn (8 : Nat) fun (i : Nat) => Go.Sx.dg (a % Go.Sx.M256) i) * Go.Sx.vn (8 : Nat) fun (i : Nat) => Go.Sx.dg (b % Go.Sx.M256) i) i) % x4 % Go.Sx.M256 = x3 ∧ True) ∧ (((∀ (a_2 : Option Go.Addr) (cap : Nat), (a_2 = Option.none → (8 : Nat) = (0 : Nat) ∧ cap = (0 : Nat)) → (8 : Nat) ≤ cap → (∀ (a_5 : Option Go.Addr) (cap : Nat), (a_5 = Option.none → (8 : Nat) = (0 : Nat) ∧ cap = (0 : Nat)) → (8 : Nat) ≤ cap → ((∀ (i : Nat), True) ∧ (∀ (i : Nat), True) ∧ (Go.Sx.dgs (8 : Nat) fun (i : Nat) => Go.Sx.intsC (Go.Sx.SC.val (Go.Value.int Go.IntKind.u64 (Go.Sx.dg (a % Go.Sx.M256) i)))) ∧ (8 : Nat) ≤ (1000 : Nat) ∧ (Go.Sx.dgs (8 : Nat) fun (i : Nat) => Go.Sx.intsC (Go.Sx.SC.val (Go.Value.int Go.IntKind.u64 (Go.Sx.dg (b % Go.Sx.M256) i)))) ∧ (8 : Nat) ≤ (1000 : Nat) ∧ ∀ (a_8 : Option Go.Addr) (cap : Nat), (a_8 = Option.none → (16 : Nat) = (0 : Nat) ∧ cap = (0 : Nat)) → (16 : Nat) ≤ cap → (∀ (i : Nat), True) ∧ (Go.Sx.dgs (16 : Nat) fun (i : Nat) => Go.Sx.intsC (Go.Sx.SC.val (Go.Value.int Go.IntKind.u64 (Go.Sx.dg ((Go.Sx.vn (8 : Nat) fun (i : Nat) => Go.Sx.intsC (Go.Sx.SC.val (Go.Value.int Go.IntKind.u64 (Go.Sx.dg (a % Go.Sx.M256) i)))) * Go.Sx.vn (8 : Nat) fun (i : Nat) => Go.Sx.intsC (Go.Sx.SC.val (Go.Value.int Go.IntKind.u64 (Go.Sx.dg (b % Go.Sx.M256) i)))) i)))) ∧ (16 : Nat) ≤ (1000 : Nat) ∧ x4 ≠ (0 : Nat) ∧ (Go.Sx.vn (16 : Nat) fun (i : Nat) => Go.Sx.dg ((Go.Sx.vn (8 : Nat) fun (i : Nat) => Go.Sx.dg (a % Go.Sx.M256) i) * Go.Sx.vn (8 : Nat) fun (i : Nat) => Go.Sx.dg (b % Go.Sx.M256) i) i) % x4 % Go.Sx.M256 = x3 ∧ True) ∧ (∀ (i : Nat), True) ∧ (∀ (i : Nat), True) ∧ (Go.Sx.dgs (8 : Nat) fun (i : Nat) => Go.Sx.intsC (Go.Sx.SC.val (Go.Value.int Go.IntKind.u64 (Go.Sx.dg (a % Go.Sx.M256) i)))) ∧ (8 : Nat) ≤ (1000 : Nat) ∧ (Go.Sx.dgs (8 : Nat) fun (i : Nat) => Go.Sx.intsC (Go.Sx.SC.val (Go.Value.int Go.IntKind.u64 (Go.Sx.dg (b % Go.Sx.M256) i)))) ∧ (8 : Nat) ≤ (1000 : Nat) ∧ ∀ (a_8 : Option Go.Addr) (cap : Nat), (a_8 = Option.none → (16 : Nat) = (0 : Nat) ∧ cap = (0 : Nat)) → (16 : Nat) ≤ cap → (∀ (i : Nat), True) ∧ (Go.Sx.dgs (16 : Nat) fun (i : Nat) => Go.Sx.intsC (Go.Sx.SC.val (Go.Value.int Go.IntKind.u64 (Go.Sx.dg ((Go.Sx.vn (8 : Nat) fun (i : Nat) => Go.Sx.intsC (Go.Sx.SC.val (Go.Value.int Go.IntKind.u64 (Go.Sx.dg (a % Go.Sx.M256) i)))) * Go.Sx.vn (8 : Nat) fun (i : Nat) => Go.Sx.intsC (Go.Sx.SC.val (Go.Value.int Go.IntKind.u64 (Go.Sx.dg (b % Go.Sx.M256) i)))) i)))) ∧ (16 : Nat) ≤ (1000 : Nat) ∧ x4 ≠ (0 : Nat) ∧ (Go.Sx.vn (16 : Nat) fun (i : Nat) => Go.Sx.dg ((Go.Sx.vn (8 : Nat) fun (i : Nat) => Go.Sx.dg (a % Go.Sx.M256) i) * Go.Sx.vn (8 : Nat) fun (i : Nat) => Go.Sx.dg (b % Go.Sx.M256) i) i) % x4 % Go.Sx.M256 = x3 ∧ True) ∧ ∀ (a_5 : Option Go.Addr) (cap : Nat), (a_5 = Option.none → (8 : Nat) = (0 : Nat) ∧ cap = (0 : Nat)) → (8 : Nat) ≤ cap → (∀ (i : Nat), True) ∧ (∀ (i : Nat), True) ∧ (Go.Sx.dgs (8 : Nat) fun (i : Nat) => Go.Sx.intsC (Go.Sx.SC.val (Go.Value.int Go.IntKind.u64 (Go.Sx.dg (a % Go.Sx.M256) i)))) ∧ (8 : Nat) ≤ (1000 : Nat) ∧ (Go.Sx.dgs (8 : Nat) fun (i : Nat) => Go.Sx.intsC (Go.Sx.SC.val (Go.Value.int Go.IntKind.u64 (Go.Sx.dg (b % Go.Sx.M256) i)))) ∧ (8 : Nat) ≤ (1000 : Nat) ∧ ∀ (a_8 : Option Go.Addr) (cap : Nat), (a_8 = Option.none → (16 : Nat) = (0 : Nat) ∧ cap = (0 : Nat)) → (16 : Nat) ≤ cap → (∀ (i : Nat), True) ∧ (Go.Sx.dgs (16 : Nat) fun (i : Nat) => Go.Sx.intsC (Go.Sx.SC.val (Go.Value.int Go.IntKind.u64 (Go.Sx.dg ((Go.Sx.vn (8 : Nat) fun (i : Nat) => Go.Sx.intsC (Go.Sx.SC.val (Go.Value.int Go.IntKind.u64 (Go.Sx.dg (a % Go.Sx.M256) i)))) * Go.Sx.vn (8 : Nat) fun (i : Nat) => Go.Sx.intsC (Go.Sx.SC.val (Go.Value.int Go.IntKind.u64 (Go.Sx.dg (b % Go.Sx.M256) i)))) i)))) ∧ (16 : Nat) ≤ (1000 : Nat) ∧ x4 ≠ (0 : Nat) ∧ (Go.Sx.vn (16 : Nat) fun (i : Nat) => Go.Sx.dg ((Go.Sx.vn (8 : Nat) fun (i : Nat) => Go.Sx.dg (a % Go.Sx.M256) i) * Go.Sx.vn (8 : Nat) fun (i : Nat) => Go.Sx.dg (b % Go.Sx.M256) i) i) % x4 % Go.Sx.M256 = x3 ∧ True) ∧ ∀ (a_2 : Option Go.Addr) (cap : Nat), (a_2 = Option.none → (8 : Nat) = (0 : Nat) ∧ cap = (0 : Nat)) → (8 : Nat) ≤ cap → ∀ (a_5 : Option Go.Addr) (cap : Nat), (a_5 = Option.none → (8 : Nat) = (0 : Nat) ∧ cap = (0 : Nat)) → (8 : Nat) ≤ cap → (∀ (i : Nat), True) ∧ (∀ (i : Nat), True) ∧ (Go.Sx.dgs (8 : Nat) fun (i : Nat) => Go.Sx.intsC (Go.Sx.SC.val (Go.Value.int Go.IntKind.u64 (Go.Sx.dg (a % Go.Sx.M256) i)))) ∧ (8 : Nat) ≤ (1000 : Nat) ∧ (Go.Sx.dgs (8 : Nat) fun (i : Nat) => Go.Sx.intsC (Go.Sx.SC.val (Go.Value.int Go.IntKind.u64 (Go.Sx.dg (b % Go.Sx.M256) i)))) ∧ (8 : Nat) ≤ (1000 : Nat) ∧ ∀ (a_8 : Option Go.Addr) (cap : Nat), (a_8 = Option.none → (16 : Nat) = (0 : Nat) ∧ cap = (0 : Nat)) → (16 : Nat) ≤ cap → (∀ (i : Nat), True) ∧ (Go.Sx.dgs (16 : Nat) fun (i : Nat) => Go.Sx.intsC (Go.Sx.SC.val (Go.Value.int Go.IntKind.u64 (Go.Sx.dg ((Go.Sx.vn (8 : Nat) fun (i : Nat) => Go.Sx.intsC (Go.Sx.SC.val (Go.Value.int Go.IntKind.u64 (Go.Sx.dg (a % Go.Sx.M256) i)))) * Go.Sx.vn (8 : Nat) fun (i : Nat) => Go.Sx.intsC (Go.Sx.SC.val (Go.Value.int Go.IntKind.u64 (Go.Sx.dg (b % Go.Sx.M256) i)))) i)))) ∧ (16 : Nat) ≤ (1000 : Nat) ∧ x4 ≠ (0 : Nat) ∧ (Go.Sx.vn (16 : Nat) fun (i : Nat) => Go.Sx.dg ((Go.Sx.vn (8 : Nat) fun (i : Nat) => Go.Sx.dg (a % Go.Sx.M256) i) * Go.Sx.vn (8 : Nat) fun (i : Nat) => Go.Sx.dg (b % Go.Sx.M256) i) i) % x4 % Go.Sx.M256 = x3 ∧ True) ∧ ∀ (a_2 : Option Go.Addr) (cap : Nat), (a_2 = Option.none → (8 : Nat) = (0 : Nat) ∧ cap = (0 : Nat)) → (8 : Nat) ≤ cap → ∀ (a_5 : Option Go.Addr) (cap : Nat), (a_5 = Option.none → (8 : Nat) = (0 : Nat) ∧ cap = (0 : Nat)) → (8 : Nat) ≤ cap → (∀ (i : Nat), True) ∧ (∀ (i : Nat), True) ∧ (Go.Sx.dgs (8 : Nat) fun (i : Nat) => Go.Sx.intsC (Go.Sx.SC.val (Go.Value.int Go.IntKind.u64 (Go.Sx.dg (a % Go.Sx.M256) i)))) ∧ (8 : Nat) ≤ (1000 : Nat) ∧ (Go.Sx.dgs (8 : Nat) fun (i : Nat) => Go.Sx.intsC (Go.Sx.SC.val (Go.Value.int Go.IntKind.u64 (Go.Sx.dg (b % Go.Sx.M256) i)))) ∧ (8 : Nat) ≤ (1000 : Nat) ∧ ∀ (a_8 : Option Go.Addr) (cap : Nat), (a_8 = Option.none → (16 : Nat) = (0 : Nat) ∧ cap = (0 : Nat)) → (16 : Nat) ≤ cap → (∀ (i : Nat), True) ∧ (Go.Sx.dgs (16 : Nat) fun (i : Nat) => Go.Sx.intsC (Go.Sx.SC.val (Go.Value.int Go.IntKind.u64 (Go.Sx.dg ((Go.Sx.vn (8 : Nat) fun (i : Nat) => Go.Sx.intsC (Go.Sx.SC.val (Go.Value.int Go.IntKind.u64 (Go.Sx.dg (a % Go.Sx.M256) i)))) * Go.Sx.vn (8 : Nat) fun (i : Nat) => Go.Sx.intsC (Go.Sx.SC.val (Go.Value.int Go.IntKind.u64 (Go.Sx.dg (b % Go.Sx.M256) i)))) i)))) ∧ (16 : Nat) ≤ (1000 : Nat) ∧ x4 ≠ (0 : Nat) ∧ (Go.Sx.vn (16 : Nat) fun (i : Nat) => Go.Sx.dg ((Go.Sx.vn (8 : Nat) fun (i : Nat) => Go.Sx.dg (a % Go.Sx.M256) i) * Go.Sx.vn (8 : Nat) fun (i : Nat) => Go.Sx.dg (b % Go.Sx.M256) i) i) % x4 % Go.Sx.M256 = x3 ∧ True) ∧ ((∀ (a_2 : Option Go.Addr) (cap : Nat), (a_2 = Option.none → (8 : Nat) = (0 : Nat) ∧ cap = (0 : Nat)) → (8 : Nat) ≤ cap → ∀ (a_5 : Option Go.Addr) (cap : Nat), (a_5 = Option.none → (8 : Nat) = (0 : Nat) ∧ cap = (0 : Nat)) → (8 : Nat) ≤ cap → (∀ (i : Nat), True) ∧ (∀ (i : Nat), True) ∧ (Go.Sx.dgs (8 : Nat) fun (i : Nat) => Go.Sx.intsC (Go.Sx.SC.val (Go.Value.int Go.IntKind.u64 (Go.Sx.dg (a % Go.Sx.M256) i)))) ∧ (8 : Nat) ≤ (1000 : Nat) ∧ (Go.Sx.dgs (8 : Nat) fun (i : Nat) => Go.Sx.intsC (Go.Sx.SC.val (Go.Value.int Go.IntKind.u64 (Go.Sx.dg (b % Go.Sx.M256) i)))) ∧ (8 : Nat) ≤ (1000 : Nat) ∧ ∀ (a_8 : Option Go.Addr) (cap : Nat), (a_8 = Option.none → (16 : Nat) = (0 : Nat) ∧ cap = (0 : Nat)) → (16 : Nat) ≤ cap → (∀ (i : Nat), True) ∧ (Go.Sx.dgs (16 : Nat) fun (i : Nat) => Go.Sx.intsC (Go.Sx.SC.val (Go.Value.int Go.IntKind.u64 (Go.Sx.dg ((Go.Sx.vn (8 : Nat) fun (i : Nat) => Go.Sx.intsC (Go.Sx.SC.val (Go.Value.int Go.IntKind.u64 (Go.Sx.dg (a % Go.Sx.M256) i)))) * Go.Sx.vn (8 : Nat) fun (i : Nat) => Go.Sx.intsC (Go.Sx.SC.val (Go.Value.int Go.IntKind.u64 (Go.Sx.dg (b % Go.Sx.M256) i)))) i)))) ∧ (16 : Nat) ≤ (1000 : Nat) ∧ x4 ≠ (0 : Nat) ∧ (Go.Sx.vn (16 : Nat) fun (i : Nat) => Go.Sx.dg ((Go.Sx.vn (8 : Nat) fun (i : Nat) => Go.Sx.dg (a % Go.Sx.M256) i) * Go.Sx.vn (8 : Nat) fun (i : Nat) => Go.Sx.dg (b % Go.Sx.M256) i) i) % x4 % Go.Sx.M256 = x3 ∧ True) ∧ ∀ (a_2 : Option Go.Addr) (cap : Nat), (a_2 = Option.none → (8 : Nat) = (0 : Nat) ∧ cap = (0 : Nat)) → (8 : Nat) ≤ cap → ∀ (a_5 : Option Go.Addr) (cap : Nat), (a_5 = Option.none → (8 : Nat) = (0 : Nat) ∧ cap = (0 : Nat)) → (8 : Nat) ≤ cap → (∀ (i : Nat), True) ∧ (∀ (i : Nat), True) ∧ (Go.Sx.dgs (8 : Nat) fun (i : Nat) => Go.Sx.intsC (Go.Sx.SC.val (Go.Value.int Go.IntKind.u64 (Go.Sx.dg (a % Go.Sx.M256) i)))) ∧ (8 : Nat) ≤ (1000 : Nat) ∧ (Go.Sx.dgs (8 : Nat) fun (i : Nat) => Go.Sx.intsC (Go.Sx.SC.val (Go.Value.int Go.IntKind.u64 (Go.Sx.dg (b % Go.Sx.M256) i)))) ∧ (8 : Nat) ≤ (1000 : Nat) ∧ ∀ (a_8 : Option Go.Addr) (cap : Nat), (a_8 = Option.none → (16 : Nat) = (0 : Nat) ∧ cap = (0 : Nat)) → (16 : Nat) ≤ cap → (∀ (i : Nat), True) ∧ (Go.Sx.dgs (16 : Nat) fun (i : Nat) => Go.Sx.intsC (Go.Sx.SC.val (Go.Value.int Go.IntKind.u64 (Go.Sx.dg ((Go.Sx.vn (8 : Nat) fun (i : Nat) => Go.Sx.intsC (Go.Sx.SC.val (Go.Value.int Go.IntKind.u64 (Go.Sx.dg (a % Go.Sx.M256) i)))) * Go.Sx.vn (8 : Nat) fun (i : Nat) => Go.Sx.intsC (Go.Sx.SC.val (Go.Value.int Go.IntKind.u64 (Go.Sx.dg (b % Go.Sx.M256) i)))) i)))) ∧ (16 : Nat) ≤ (1000 : Nat) ∧ x4 ≠ (0 : Nat) ∧ (Go.Sx.vn (16 : Nat) fun (i : Nat) => Go.Sx.dg ((Go.Sx.vn (8 : Nat) fun (i : Nat) => Go.Sx.dg (a % Go.Sx.M256) i) * Go.Sx.vn (8 : Nat) fun (i : Nat) => Go.Sx.dg (b % Go.Sx.M256) i) i) % x4 % Go.Sx.M256 = x3 ∧ True) ∧ ∀ (a_2 : Option Go.Addr) (cap : Nat), (a_2 = Option.none → (8 : Nat) = (0 : Nat) ∧ cap = (0 : Nat)) → (8 : Nat) ≤ cap → ∀ (a_5 : Option Go.Addr) (cap : Nat), (a_5 = Option.none → (8 : Nat) = (0 : Nat) ∧ cap = (0 : Nat)) → (8 : Nat) ≤ cap → (∀ (i : Nat), True) ∧ (∀ (i : Nat), True) ∧ (Go.Sx.dgs (8 : Nat) fun (i : Nat) => Go.Sx.intsC (Go.Sx.SC.val (Go.Value.int Go.IntKind.u64 (Go.Sx.dg (a % Go.Sx.M256) i)))) ∧ (8 : Nat) ≤ (1000 : Nat) ∧ (Go.Sx.dgs (8 : Nat) fun (i : Nat) => Go.Sx.intsC (Go.Sx.SC.val (Go.Value.int Go.IntKind.u64 (Go.Sx.dg (b % Go.Sx.M256) i)))) ∧ (8 : Nat) ≤ (1000 : Nat) ∧ ∀ (a_8 : Option Go.Addr) (cap : Nat), (a_8 = Option.none → (16 : Nat) = (0 : Nat) ∧ cap = (0 : Nat)) → (16 : Nat) ≤ cap → (∀ (i : Nat), True) ∧ (Go.Sx.dgs (16 : Nat) fun (i : Nat) => Go.Sx.intsC (Go.Sx.SC.val (Go.Value.int Go.IntKind.u64 (Go.Sx.dg ((Go.Sx.vn (8 : Nat) fun (i : Nat) => Go.Sx.intsC (Go.Sx.SC.val (Go.Value.int Go.IntKind.u64 (Go.Sx.dg (a % Go.Sx.M256) i)))) * Go.Sx.vn (8 : Nat) fun (i : Nat) => Go.Sx.intsC (Go.Sx.SC.val (Go.Value.int Go.IntKind.u64 (Go.Sx.dg (b % Go.Sx.M256) i)))) i)))) ∧ (16 : Nat) ≤ (1000 : Nat) ∧ x4 ≠ (0 : Nat) ∧ (Go.Sx.vn (16 : Nat) fun (i : Nat) => Go.Sx.dg ((Go.Sx.vn (8 : Nat) fun (i : Nat) => Go.Sx.dg (a % Go.Sx.M256) i) * Go.Sx.vn (8 : Nat) fun (i : Nat) => Go.Sx.dg (b % Go.Sx.M256) i) i) % x4 % Go.Sx.M256 = x3 ∧ True)) := by kernel_rfl
-- END VC
-- VC vc_refMod HASH 9d1f8bc5a0d96e0c
theorem vc_refMod (i : Int) (a b m : Nat) (r : Nat) (e : Int) :
    OwesV Try.prog cxMod [] [] 4 Try.f31 [sI .i64 i, sU a, sU b, sU m] (.tup [sU r, sI .i64 e]) =
    (let x1 : Nat := m % Go.Sx.M256; let x2 : Nat := r % Go.Sx.M256; let x3 : Nat := a % Go.Sx.M256; let x4 : Int := Go.Sx.cmpI x3 x1; let x5 : Nat := b % Go.Sx.M256; let x6 : Int := Go.Sx.cmpI x5 x1; (Go.Sx.conj [x1 == (0 : Nat)] = Bool.true → ((0 : Nat) = x2 ∧ True) ∧ (7 : Int) = e) ∧ (Go.Sx.conj [x1 == (0 : Nat)] = Bool.false → (Decidable.decide (x4 ≥ (0 : Int)) = Bool.true → ((0 : Nat) = x2 ∧ True) ∧ (6 : Int) = e) ∧ (Decidable.decide (x4 ≥ (0 : Int)) = Bool.false → (Decidable.decide (x6 ≥ (0 : Int)) = Bool.true → ((0 : Nat) = x2 ∧ True) ∧ (6 : Int) = e) ∧ (Decidable.decide (x6 ≥ (0 : Int)) = Bool.false → ((i == (1 : Int)) = Bool.true → x1 ≠ (0 : Nat) ∧ ((x3 + x5) % x1 % Go.Sx.M256 = x2 ∧ True) ∧ (0 : Int) = e) ∧ ((i == (1 : Int)) = Bool.false → ((i == (2 : Int)) = Bool.true → x5 ≤ x1 ∧ x1 ≠ (0 : Nat) ∧ ((x3 + (if x5 = (0 : Nat) then (0 : Nat) else x1 - x5) % Go.Sx.M256) % x1 % Go.Sx.M256 = x2 ∧ True) ∧ (0 : Int) = e) ∧ ((i == (2 : Int)) = Bool.false → x1 ≠ (0 : Nat) ∧ x3 < x1 ∧ x5 < x1 ∧ (x3 * x5 % x1 % Go.Sx.M256 = x2 ∧ True) ∧ (0 : Int) = e)))))) := by kernel_rfl
-- END VC
end Go.Proofs.Ytbjdchpncbgpnaa
end

section
/-
  The reference's wide numbers, and those by a modulus.
-/
namespace Go.Proofs.Ytbjdchpncbgpnaa
open Go Go.Sx Go.RowKit

theorem vn8 {X : Nat} (h : X < M256) : vn 8 (fun i => dg X i) = X := vn_dg' (n := 8) h
theorem vnk {k X : Nat} (h : X < 4294967296 ^ k) : vn k (fun i => dg X i) = X := vn_dg' h
theorem modM (a : Nat) : a % M256 < M256 := Nat.mod_lt _ (by decide)
theorem M9 : (4294967296 : Nat) ^ 9 = M256 * 4294967296 := rfl
theorem M16 : (4294967296 : Nat) ^ 16 = M256 * M256 := rfl

theorem ok_refOrd (a b : Nat) : OwesV Try.prog .none slAll [] 4 Try.f78 [sU a, sU b] (ordG a b) := by
  rw [vc_refOrd]
  intro x1 x2
  have h1 : x1 < M256 := modM a
  have h2 : x2 < M256 := modM b
  have T : ∀ i : Nat, True := fun _ => trivial
  have key : cmpI (vn 8 fun i => dg x1 i) (vn 8 fun i => dg x2 i) = cmpI x1 x2 := by rw [vn8 h1, vn8 h2]
  clear_value x1 x2
  repeat' (first | exact T | exact key | exact dgs_dg _ _ | exact (show (8 : Nat) ≤ 1000 by decide) | (intro _ _ _ _) | (refine And.intro ?_ ?_))
theorem cmpI_ge {A R : Nat} : cmpI A R ≥ 0 ↔ R ≤ A := by
  unfold cmpI
  by_cases h : A < R
  · rw [if_pos h]; omega
  · rw [if_neg h]
    by_cases k : R < A
    · rw [if_pos k]; omega
    · rw [if_neg k]; omega
end Go.Proofs.Ytbjdchpncbgpnaa
end

section
/-
  The reference's quotients, and numbers by a modulus.
-/
namespace Go.Proofs.Ytbjdchpncbgpnaa
open Go Go.Sx Go.RowKit

theorem remL_lt {X Y n : Nat} (hX : X < 4294967296 ^ n) (hY : 0 < Y) : X % Y < 4294967296 ^ remL X Y n := by
  unfold remL
  have hm := Nat.mod_lt X hY
  by_cases h : Y < 4294967296
  · rw [if_pos h]; omega
  · rw [if_neg h]
    by_cases h0 : n = 0
    · subst h0
      rw [if_pos rfl]
      have : X = 0 := by simpa using hX
      subst this
      rw [Nat.zero_mod]; decide
    · rw [if_neg h0]
      obtain ⟨_, e⟩ := quo_digit (X := X) (k := 0) hY
      rw [Nat.pow_zero, Nat.div_one, Nat.zero_add, Nat.pow_one] at e
      have hr := dg_range X 0
      have hl := lenDg_lt (X / 4294967296 % Y)
      rw [e, Nat.add_comm 1, Nat.pow_succ]
      refine Nat.lt_of_le_of_lt (Nat.mod_le _ _) ?_
      have : (X / 4294967296 % Y + 1) * 4294967296 ≤ 4294967296 ^ lenDg (X / 4294967296 % Y) * 4294967296 := Nat.mul_le_mul_right _ hl
      omega
theorem remL_le {X Y n : Nat} (hY : 0 < Y) (hYM : Y < M256) : remL X Y n ≤ 9 := by
  unfold remL
  split
  · decide
  · split
    · decide
    · have : lenDg (X / 4294967296 % Y) ≤ 8 := lenDg_le (Nat.lt_trans (Nat.mod_lt _ hY) hYM)
      omega
theorem eq0_conj {x : Nat} : conj [x == 0] = (x == 0) := by simp [conj]
theorem ok_refRest (a : Option Addr) (n c : Nat) (f : Nat → Int) (m : Nat) (hf : dgs n f) (hn : n ≤ 1000) (hm : m % M256 ≠ 0) : OwesR Try.prog .none slAll [] 4 Try.f79 [xsI a n c .u64 f, sU m] false (restUR n f m) := by
  rw [vc_refRest]
  intro x1 x2 x3 x4 x5
  have hb : x1 < M256 := modM m
  have E2 : x2 = x1 := vn8 hb
  have E3 : x3 = remL (vn n f) x2 n := rfl
  have T : ∀ i : Nat, True := fun _ => trivial
  have hx : x1 ≠ 0 := hm
  have K1 : x2 ≠ 0 := by rw [E2]; exact hx
  have K2 : x3 ≤ 1000 := by
    have := remL_le (X := vn n f) (n := n) (show 0 < x2 by omega) (by omega)
    omega
  have F : (vn x3 fun i => dg ((vn n fun i => f i) % x2) i) % M256 % M256 = vn n f % x1 % M256 ∧ True := by
    rw [E3, show (fun i => f i) = f from rfl, vnk (remL_lt (vn_lt hf) (by omega)), E2, Nat.mod_mod]
    exact ⟨rfl, trivial⟩
  clear E2 E3
  clear_value x1 x2 x3 x4 x5
  repeat' (first | exact T | exact K1 | exact K2 | exact F | exact hf | exact hn | exact dgs_dg _ _ | exact (show (8 : Nat) ≤ 1000 by decide) | exact (show (8 : Nat) ≤ 900 by decide) | (intro _ _ _ _) | (refine And.intro ?_ ?_) | (intro _))
theorem card_refRest : FnOKs Try.prog [] 79 (specDU restUC restUR) :=
  FnOKs_DU (iv := fun _ _ _ _ _ => []) cx_none sl_all Try.func79 (by kernel_rfl) (by kernel_rfl) (fun _ _ _ x hx => by simp only [restUR, List.mem_singleton] at hx; subst hx; exact bnd_Un _) fun a n c f m ⟨h1, h2, h3, _⟩ => ok_refRest a n c f m h1 h2 h3
theorem sl_rest : ∀ p ∈ slRest, FnOKs Try.prog [] p.1 p.2 := fun p hp => by
  rcases List.mem_cons.1 hp with rfl | hp
  · exact card_refRest
  · exact sl_all p hp
theorem ok_refOpp (a m : Nat) (h : a % M256 ≤ m % M256) : OwesV Try.prog .none slAll [] 4 Try.f60 [sU a, sU m] (oppG a m) := by
  unfold oppG
  obtain ⟨r, hr⟩ : ∃ r, r = (if a % M256 = 0 then 0 else m % M256 - a % M256) := ⟨_, rfl⟩
  rw [← hr, vc_refOpp]
  intro x1 x2 x3 x4
  have h1 : x1 < M256 := modM a
  have h2 : m % M256 < M256 := modM m
  have E1 : x1 = a % M256 := rfl
  have E2 : x2 = r % M256 := rfl
  have E3 : x3 = x1 := vn8 h1
  have E4 : x4 = m % M256 := vn8 h2
  have T : ∀ i : Nat, True := fun _ => trivial
  have hM : 0 < M256 := by decide
  have K0 : conj [x1 == 0] = true → x1 = x2 ∧ True := fun h => by
    rw [eq0_conj] at h
    have h := eq_of_beq h
    rw [← E1, if_pos h] at hr
    rw [E2, hr, h, Nat.zero_mod]
    exact ⟨rfl, trivial⟩
  have K1 : x3 ≤ x4 := by rw [E3, E4, E1]; exact h
  have F : conj [x1 == 0] = false → (vn 8 fun i => dg (x4 - x3) i) % M256 % M256 = x2 ∧ True := fun h => by
    rw [eq0_conj] at h
    have h := ne_of_beq_false h
    rw [← E1, if_neg h] at hr
    rw [vn8 (by omega), E2, hr, E4, E3, Nat.mod_mod]
    exact ⟨rfl, trivial⟩
  clear E1 E2 E3 E4 hr h hM
  clear_value x1 x2 x3 x4
  repeat' (first | exact T | exact K0 (by assumption) | exact K1 | exact F (by assumption) | exact dgs_dg _ _ | exact (show (8 : Nat) ≤ 1000 by decide) | (intro _ _ _ _) | (refine And.intro ?_ ?_) | (intro _))
end Go.Proofs.Ytbjdchpncbgpnaa
end

section
/-
  The reference's numbers by a modulus: sums, differences and products.
-/
namespace Go.Proofs.Ytbjdchpncbgpnaa
open Go Go.Sx Go.RowKit

theorem ok_refTot (a b m : Nat) (hm : m % M256 ≠ 0) : OwesV Try.prog .none slRest [] 4 Try.f59 [sU a, sU b, sU m] (totG a b m) := by
  rw [vc_refTot]
  intro x1 x2 x3
  have h1 : x1 < M256 := modM a
  have h2 : x2 < M256 := modM b
  have T : ∀ i : Nat, True := fun _ => trivial
  have K : x3 ≠ 0 := hm
  have F : (vn 9 fun i => dg ((vn 8 fun i => dg x1 i) + vn 8 fun i => dg x2 i) i) % x3 % M256 = (x1 + x2) % x3 % M256 ∧ True := by
    rw [vn8 h1, vn8 h2, vnk (by rw [M9]; omega)]
    exact ⟨rfl, trivial⟩
  clear_value x1 x2 x3
  repeat' (first | exact T | exact K | exact F | exact dgs_dg _ _ | exact (show (8 : Nat) ≤ 1000 by decide) | exact (show (9 : Nat) ≤ 1000 by decide) | (intro _ _ _ _) | (refine And.intro ?_ ?_))
theorem or_zero {a b c : Int} (ha : 0 ≤ a ∧ a < 18446744073709551616) (hb : 0 ≤ b ∧ b < 18446744073709551616) (hc : 0 ≤ c ∧ c < 18446744073709551616)
    (h : (IntKind.u64.wrap (↑(BitVec.ofInt 64 (IntKind.u64.wrap (↑(BitVec.ofInt 64 a ||| BitVec.ofInt 64 b).toNat)) ||| BitVec.ofInt 64 c).toNat) == 0) = true) : a = 0 ∧ b = 0 ∧ c = 0 := by
  have h := eq_of_beq h
  have l : ∀ x : BitVec 64, IntKind.u64.wrap (x.toNat : Int) = (x.toNat : Int) := fun x => wrap64 ⟨Int.natCast_nonneg _, by have := x.isLt; omega⟩
  have e : ∀ x : BitVec 64, BitVec.ofInt 64 (x.toNat : Int) = x := fun x => by
    apply BitVec.eq_of_toNat_eq
    rw [BitVec.toNat_ofInt]
    have := x.isLt
    omega
  rw [l, l, e] at h
  have h : (BitVec.ofInt 64 a ||| BitVec.ofInt 64 b) ||| BitVec.ofInt 64 c = 0#64 := by
    apply BitVec.eq_of_toNat_eq
    show _ = 0
    omega
  rw [BitVec.or_eq_zero_iff, BitVec.or_eq_zero_iff] at h
  have z : ∀ y : Int, 0 ≤ y ∧ y < 18446744073709551616 → BitVec.ofInt 64 y = 0#64 → y = 0 := fun y hy h => by
    have := congrArg BitVec.toNat h
    rw [BitVec.toNat_ofInt] at this
    simp at this
    omega
  exact ⟨z a ha h.1.1, z b hb h.1.2, z c hc h.2⟩
theorem limb_range (a i : Nat) : 0 ≤ limb a i ∧ limb a i < 18446744073709551616 := ⟨limb_nonneg a i, limb_lt a i⟩
theorem small_modD {m : Nat} (h1 : limb m 1 = 0) (h2 : limb m 2 = 0) (h3 : limb m 3 = 0) : ((m % M256 : Nat) : Int) = limb m 0 := by
  have := join_limbs m
  rw [h1, h2, h3] at this
  unfold join at this
  have r := limb_range m 0
  omega
theorem small_limb {a : Nat} (h : a % M256 < 18446744073709551616) : limb a 0 = ((a % M256 : Nat) : Int) := by
  have := join_limbs a
  unfold join at this
  have r0 := limb_range a 0
  have r1 := limb_range a 1
  have r2 := limb_range a 2
  have r3 := limb_range a 3
  omega
theorem ok_refPro (a b m : Nat) (hm : m % M256 ≠ 0) (ha : a % M256 < m % M256) (hb : b % M256 < m % M256) : OwesV Try.prog .none slRest [] 4 Try.f61 [sU a, sU b, sU m] (proG a b m) := by
  unfold proG
  rw [vc_refPro]
  intro x1 x2 x3 x4
  have h1 := modM a
  have h2 := modM b
  have E3 : x3 = a % M256 * (b % M256) % (m % M256) % M256 := rfl
  have E4 : x4 = m % M256 := rfl
  have E1 : x1 = (IntKind.u64.wrap (↑(BitVec.ofInt 64 (IntKind.u64.wrap (↑(BitVec.ofInt 64 (limb m 1) ||| BitVec.ofInt 64 (limb m 2)).toNat)) ||| BitVec.ofInt 64 (limb m 3)).toNat) == 0) := rfl
  have E2 : x2 = (IntKind.u64.wrap (limb a 0 * limb b 0)).tmod (limb m 0) := rfl
  have T : ∀ i : Nat, True := fun _ => trivial
  have K : x4 ≠ 0 := hm
  have Z : (0 : Int) ≤ 0 ∧ (0 : Int) < 18446744073709551616 := by decide
  have F : (vn 16 fun i => dg ((vn 8 fun i => dg (a % M256) i) * vn 8 fun i => dg (b % M256) i) i) % x4 % M256 = x3 ∧ True := by
    rw [vn8 h1, vn8 h2, vnk (by rw [M16]; exact Nat.lt_of_le_of_lt (Nat.mul_le_mul (Nat.le_of_lt h1) (Nat.le_refl _)) (Nat.mul_lt_mul_of_pos_left h2 (by decide))), E3, E4]
    exact ⟨rfl, trivial⟩
  have S : (x1 && decide (limb m 0 < 4294967296)) = true → limb m 0 ≠ 0 ∧ (0 ≤ x2 ∧ x2 < 18446744073709551616) ∧ join x2 0 0 0 % M256 = x3 ∧ True := fun h => by
    rw [Bool.and_eq_true] at h
    obtain ⟨e1, e2⟩ := h
    rw [E1] at e1
    have e2 := of_decide_eq_true e2
    obtain ⟨z1, z2, z3⟩ := or_zero (limb_range m 1) (limb_range m 2) (limb_range m 3) e1
    have em := small_modD z1 z2 z3
    have hA : a % M256 < 4294967296 := by omega
    have hB : b % M256 < 4294967296 := by omega
    have eA := small_limb (a := a) (by omega)
    have eB := small_limb (a := b) (by omega)
    have hp : a % M256 * (b % M256) < 18446744073709551616 := Nat.lt_of_le_of_lt (Nat.mul_le_mul (show a % M256 ≤ 4294967295 by omega) (show b % M256 ≤ 4294967295 by omega)) (by decide)
    have e3 : x2 = ((a % M256 * (b % M256) % (m % M256) : Nat) : Int) := by
      rw [E2, eA, eB, ← em, ← Int.natCast_mul, wrap64 ⟨Int.natCast_nonneg _, by omega⟩, Int.tmod_eq_emod_of_nonneg (Int.natCast_nonneg _)]
      exact (Int.natCast_emod _ _).symm
    have hlt : a % M256 * (b % M256) % (m % M256) < m % M256 := Nat.mod_lt _ (by omega)
    refine ⟨by omega, by omega, ?_, trivial⟩
    rw [E3]
    have : join x2 0 0 0 = a % M256 * (b % M256) % (m % M256) := by
      unfold join
      rw [e3, Int.toNat_natCast]
      rfl
    rw [this]
  clear E1 E2 E3 E4 ha hb h1 h2
  clear_value x1 x2 x3 x4
  refine ⟨id, id, id, fun h => ⟨(S h).1, (S h).2.1, Z, Z, Z, (S h).2.2⟩, fun _ => ?_⟩
  repeat' (first | exact T | exact K | exact F | exact dgs_dg _ _ | exact (show (8 : Nat) ≤ 1000 by decide) | exact (show (16 : Nat) ≤ 1000 by decide) | (intro _ _ _ _) | (refine And.intro ?_ ?_))
theorem card_refOrd : FnOK Try.prog 78 (specUU ordG) :=
  FnOKV_UU (iv := fun _ _ => []) cx_none sl_all Try.func78 (by kernel_rfl) (by kernel_rfl) (fun a b => trivial) ok_refOrd
theorem card_refTot : FnOK Try.prog 59 (specUUU modC totG) :=
  FnOKV_UUU (iv := fun _ _ _ => []) cx_none sl_rest Try.func59 (by kernel_rfl) (by kernel_rfl) (fun _ _ _ => bnd_Un _) fun a b m ⟨h, _⟩ => ok_refTot a b m h
theorem card_refOpp : FnOK Try.prog 60 (specUUC oppC oppG) :=
  FnOKV_UUC (iv := fun _ _ => []) cx_none sl_all Try.func60 (by kernel_rfl) (by kernel_rfl) (fun _ _ => bnd_Un _) fun a m ⟨h, _⟩ => ok_refOpp a m h
theorem card_refPro : FnOK Try.prog 61 (specUUU proC proG) :=
  FnOKV_UUU (iv := fun _ _ _ => []) cx_none sl_rest Try.func61 (by kernel_rfl) (by kernel_rfl) (fun _ _ _ => bnd_Un _) fun a b m ⟨h1, h2, h3, _⟩ => ok_refPro a b m h1 h2 h3
end Go.Proofs.Ytbjdchpncbgpnaa
end
