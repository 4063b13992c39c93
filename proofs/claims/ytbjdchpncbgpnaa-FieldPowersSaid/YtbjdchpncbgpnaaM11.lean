/-
  Texts: P103, Wsp2, Wsp3, Wsp4, Wsp6, P104, V63, P105, P106, P107, V1, V2.
-/
import Derived.Test.YtbjdchpncbgpnaaM1
import Derived.Test.YtbjdchpncbgpnaaM2
import Derived.Test.YtbjdchpncbgpnaaM3
import Derived.Test.YtbjdchpncbgpnaaM4
import Derived.Test.YtbjdchpncbgpnaaM5
import Derived.Test.YtbjdchpncbgpnaaM6
import Derived.Test.YtbjdchpncbgpnaaM7
import Derived.Test.YtbjdchpncbgpnaaM8
import Derived.Test.YtbjdchpncbgpnaaM9
import Derived.Test.YtbjdchpncbgpnaaM10
import Derived.Test.YtbjdchpncbgpnaaChecked
import Derived.Test.YtbjdchpncbgpnaaRows
section
/-
  The reference's rows of digits: divisions.
-/
namespace Go.Proofs.Ytbjdchpncbgpnaa
open Go Go.Sx Go.RowKit

theorem vn_one (z : Int) : vn 1 (fun i => (intsL [SK.c (SC.val (Value.int IntKind.u64 z))]).getD i 0) = z.toNat := by
  simp [vn, vz, intsL, intsC, asI]
theorem dgs_one {z : Int} (hz : 0 ≤ z ∧ z < 4294967296) : dgs 1 fun i => intsC (SC.val (Value.int IntKind.u64 (selG [SK.c (SC.val (Value.int IntKind.u64 z))] i))) := ⟨fun i hi => by
  have : i = 0 := by omega
  subst this
  exact hz⟩
def dvdC (n : Nat) (f : Nat → Int) (m : Nat) (h : Nat → Int) : List Prop := [dgs n f, n ≤ 1000, dgs m h, m ≤ 900, vn m h ≠ 0]
def dvdR (n : Nat) (f : Nat → Int) (m : Nat) (h : Nat → Int) : List RS := [.s n .u64 (dg (vn n f / vn m h)), .s (remL (vn n f) (vn m h) n) .u64 (dg (vn n f % vn m h))]
theorem cmpI_le {A R : Nat} : cmpI A R ≤ 0 ↔ A ≤ R := by
  unfold cmpI
  by_cases h : A < R
  · rw [if_pos h]; omega
  · rw [if_neg h]
    by_cases k : R < A
    · rw [if_pos k]; omega
    · rw [if_neg k]; omega
theorem vn_prod {Y z m : Nat} (hY : Y < 4294967296 ^ m) (hz : z < 4294967296) : vn (m + 1) (fun i => dg (Y * z) i) = Y * z := by
  refine vn_dg' ?_
  rw [Nat.pow_succ]
  exact Nat.lt_of_le_of_lt (Nat.mul_le_mul_left Y (show z ≤ 4294967296 by omega)) (Nat.mul_lt_mul_of_pos_right hY (by decide))
theorem ok_divided (a : Option Addr) (n c : Nat) (f : Nat → Int) (b : Option Addr) (m d : Nat) (h : Nat → Int) (hf : dgs n f) (hn : n ≤ 1000) (hh : dgs m h) (hm : m ≤ 900) (h0 : vn m h ≠ 0) :
    OwesR Try.prog cxR slDg [(6, .inv (invD1 a n c f b m d h (D1P (vn n f) (vn m h) n))), (13, .inv (invD2 a n c f b m d h (D2P (vn n f) (vn m h) n))), (15, .cut (cutD a n c f b m d h (DcP (vn n f) (vn m h) n)) (fun y z => z.1 = y.1)), (17, .invR (invD3 a n c f b m d h (D3P (vn n f) (vn m h) n)) (fun y z => z.1 = y.1))] 4 Try.f46 [xsI a n c .u64 f, xsI b m d .u64 h] true (dvdR n f m h) := by
  unfold dvdR
  rw [vc_divided]
  have hfi : ∀ i, i < n → f i = dg (vn n f) i := fun i hi => dg_in hf hi
  have hX := vn_lt hf
  have hXr := dg_range (vn n f)
  have hYm := vn_lt hh
  rw [show (fun i => h i) = h from rfl]
  generalize vn n f = X at *
  generalize vn m h = Y at *
  have hY : 0 < Y := by omega
  have hL := maxLen_eq
  have AA : (a = a ∧ n = n ∧ c = c ∧ ∀ i, i < n → f i = f i) := ⟨rfl, rfl, rfl, fun _ _ => rfl⟩
  have BB : (b = b ∧ m = m ∧ d = d ∧ ∀ i, i < m → h i = h i) := ⟨rfl, rfl, rfl, fun _ _ => rfl⟩
  have NN : ((0 : Int) ≤ (n : Int) ∧ (n : Int) ≤ (n : Int) ∧ 8 * (n : Int) ≤ 281474976710656 ∧ (n : Int) ≤ 9223372036854775807) := by omega
  have En : ((n : Int)).toNat = n := Int.toNat_natCast n
  intro x1 x2 x3
  have E1 : x1 = dg Y 0 := rfl
  have E2 : x2 = 0 := by simp only [x2]; rw [Nat.sub_self, Nat.zero_mul]
  have E3 : x3 = m + 1 := rfl
  clear_value x1 x2 x3
  subst E1 E2 E3
  refine ⟨fun _ => trivial, hh, by omega, fun h1 => ⟨NN, fun y => rfl, (n, fun _ => 0, 0), ⟨D1P.start hX _, Nat.le_refl _⟩, AA, ⟨rfl, rfl, rfl, En, En⟩, rfl, rfl, wrapi (by omega), En, rfl, fun _ _ => rfl, fun ⟨i, q, l⟩ ⟨hP, hi⟩ => ⟨fun h2 => ?_, fun h2 => ?_⟩⟩, fun h1 => ⟨NN, fun y => rfl, (n, fun _ => 0, none, 0, 0, fun _ => 0), ⟨D2P.start hX _, Nat.le_refl _⟩, AA, BB, ⟨rfl, rfl, rfl, En, En⟩, rfl, rfl, rfl, wrapi (by omega), En, rfl, fun _ _ => rfl, fun ⟨i, q, ra, rn, rc, rf⟩ ⟨hP, hi⟩ => ⟨fun h2 => ?_, fun h2 => ?_⟩⟩⟩
  · have hYs : Y < 4294967296 := of_decide_eq_true h1
    have hP : D1P X Y n i q l := hP
    have hi : i ≤ n := hi
    have h2 : (i : Int) - 1 ≥ 0 := of_decide_eq_true h2
    obtain ⟨k, rfl⟩ : ∃ k, i = k + 1 := ⟨i - 1, by omega⟩
    have Ek : (((k + 1 : Nat) : Int) - 1).toNat = k := by omega
    have Ey : dg Y 0 = (Y : Int) := by
      unfold dg
      rw [Nat.pow_zero, Nat.div_one, Nat.mod_eq_of_lt hYs]
    have A : (0 : Int) ≤ ((k + 1 : Nat) : Int) - 1 ∧ ((k + 1 : Nat) : Int) - 1 < (n : Int) := by omega
    have xr := hXr k
    have hl := hP.left
    have hlt : X / 4294967296 ^ (k + 1) % Y < 4294967296 := Nat.lt_trans (Nat.mod_lt _ hY) hYs
    have T : IntKind.u64.wrap (IntKind.u64.wrap (l * 4294967296) + f (((k + 1 : Nat) : Int) - 1).toNat) = l * 4294967296 + dg X k := by
      rw [Ek, hfi k (by omega), wrap64 (x := l * 4294967296) (by omega), wrap64 (by omega)]
    have h64 : 0 ≤ l * 4294967296 + dg X k ∧ l * 4294967296 + dg X k < 18446744073709551616 := by omega
    have Q := hP.step hY rfl (q' := fun j => if j = k then (l * 4294967296 + dg X k) / (Y : Int) else q j) (fun _ _ => rfl)
    have Ed : IntKind.u64.wrap ((l * 4294967296 + dg X k).tdiv (Y : Int)) = (l * 4294967296 + dg X k) / (Y : Int) := by
      rw [Int.tdiv_eq_ediv_of_nonneg h64.1]
      have a1 : 0 ≤ (l * 4294967296 + dg X k) / (Y : Int) := Int.ediv_nonneg h64.1 (by omega)
      have a2 : (l * 4294967296 + dg X k) / (Y : Int) ≤ l * 4294967296 + dg X k := Int.ediv_le_self _ h64.1
      exact wrap64 (by omega)
    have Em : (l * 4294967296 + dg X k).tmod (Y : Int) = (l * 4294967296 + dg X k) % (Y : Int) := Int.tmod_eq_emod_of_nonneg h64.1
    refine ⟨A, by rw [Ey]; omega, by rw [Ey]; omega, A, by omega, (k, _, _), ⟨?_, by show k ≤ n; omega⟩, AA, ⟨rfl, rfl, rfl, rfl, rfl⟩, rfl, rfl, ?_, rfl, rfl, fun _ _ => rfl, by show k < k + 1; omega⟩
    · show D1P X Y n k (fun j => bif decide (j = 0 + (((k + 1 : Nat) : Int) - 1).toNat) then IntKind.u64.wrap ((IntKind.u64.wrap (IntKind.u64.wrap (l * 4294967296) + f (((k + 1 : Nat) : Int) - 1).toNat)).tdiv (dg Y 0)) else q j) ((IntKind.u64.wrap (IntKind.u64.wrap (l * 4294967296) + f (((k + 1 : Nat) : Int) - 1).toNat)).tmod (dg Y 0))
      rw [T, Ey, Ed, Em, Ek, Nat.zero_add]
      have e5 : (fun j => bif decide (j = k) then (l * 4294967296 + dg X k) / (Y : Int) else q j) = fun j => if j = k then (l * 4294967296 + dg X k) / (Y : Int) else q j := by
        funext j
        by_cases e : j = k <;> simp [e]
      rw [e5]
      exact Q
    · show IntKind.i64.wrap (((k + 1 : Nat) : Int) - 1 - 1) = (k : Int) - 1
      rw [wrapi (by omega)]; omega
  · have hYs : Y < 4294967296 := of_decide_eq_true h1
    have hP : D1P X Y n i q l := hP
    have h2 : ¬ (i : Int) - 1 ≥ 0 := of_decide_eq_false h2
    have : i = 0 := by omega
    subst this
    refine ⟨⟨by omega, rfl, Nat.le_refl _, fun j hj => ?_⟩, ?_, Nat.le_refl _, fun j hj => ?_⟩
    · show q (0 + j) = _
      rw [Nat.zero_add]
      exact hP.qs j (Nat.zero_le _) hj
    · unfold remL; rw [if_pos hYs]
    · have hj : j < remL X Y n := hj
      unfold remL at hj
      rw [if_pos hYs] at hj
      have : j = 0 := by omega
      subst this
      show l = _
      rw [hP.left]
      unfold dg
      rw [Nat.pow_zero, Nat.div_one, Nat.div_one, Nat.mod_eq_of_lt (Nat.lt_trans (Nat.mod_lt _ hY) hYs)]
  · have hP : D2P X Y n i q rn rf := hP
    have hi : i ≤ n := hi
    have h2 : (i : Int) - 1 ≥ 0 := of_decide_eq_true h2
    obtain ⟨k, rfl⟩ : ∃ k, i = k + 1 := ⟨i - 1, by omega⟩
    have Ek : (((k + 1 : Nat) : Int) - 1).toNat = k := by omega
    have A : (0 : Int) ≤ ((k + 1 : Nat) : Int) - 1 ∧ ((k + 1 : Nat) : Int) - 1 < (n : Int) := by omega
    have hlm : lenDg (X / 4294967296 ^ (k + 1) % Y) ≤ m := lenDg_le (Nat.lt_trans (Nat.mod_lt _ hY) hYm)
    refine ⟨fun y => rfl, (k + 1, q, 0, 0, fun _ => 0), fun ⟨i1, q1, rn1, sp1, rf1⟩ ⟨hC, hi1⟩ e1 => ⟨fun y => rfl, (k + 1, q1, rn1, sp1, rf1, 0, 4294967296), ⟨⟨?_, hi⟩, rfl⟩, AA, BB, ⟨rfl, rfl, rfl, rfl, rfl⟩, ⟨rfl, rfl, rfl, rfl, rfl⟩, ?_, rfl, rfl, rfl, rfl, fun _ _ => rfl, rfl, rfl, fun _ _ => rfl, fun ⟨i2, q2, rn2, sp2, rf2, lo, hi2⟩ ⟨hQ, hi2n⟩ e2 => ⟨fun h3 => ?_, fun h3 => ?_⟩⟩, ?_⟩
    · have e1 : i1 = k + 1 := e1
      subst e1
      exact DcP.seek hC hY
    · have e1 : i1 = k + 1 := e1
      subst e1
      rfl
    · have e2 : i2 = k + 1 := e2
      subst e2
      have hQ : D3P X Y n (k + 1) q2 rn2 rf2 lo hi2 := hQ
      have ht := hQ.top
      have hlt := hQ.lt
      have hr2 : rn2 ≤ 1000 := by have := hQ.at'.len; omega
      have E4 : IntKind.u64.wrap ((hi2 : Int) - (lo : Int)) = ((hi2 - lo : Nat) : Int) := by rw [wrap64 (by omega)]; omega
      have h3 : IntKind.u64.wrap ((hi2 : Int) - (lo : Int)) > 1 := of_decide_eq_true h3
      rw [E4] at h3
      have EZ : IntKind.u64.wrap ((IntKind.u64.wrap ((lo : Int) + (hi2 : Int))).tdiv 2) = (((lo + hi2) / 2 : Nat) : Int) := by
        rw [wrap64 (x := (lo : Int) + (hi2 : Int)) (by omega), Int.tdiv_eq_ediv_of_nonneg (by omega), wrap64 (by omega)]
        omega
      have hmid : (lo + hi2) / 2 < 4294967296 := by omega
      have E0 : (fun i => rf2 (0 + i)) = rf2 := by funext i; rw [Nat.zero_add]
      refine ⟨Nat.le_refl _, fun a8 => ⟨fun _ => trivial, fun _ => trivial, hh, by omega, dgs_one (by rw [EZ]; omega), by decide, fun a9 cap _ _ => ⟨by show 0 + rn2 ≤ rn2; omega, Nat.le_add_right _ _, fun a12 => ⟨fun _ => trivial, fun _ => trivial, dgs_dg _ _, by omega, ?_, hr2, fun h4 => ?_, fun h4 => ?_⟩⟩⟩⟩
      · show dgs rn2 fun i => rf2 (0 + i)
        rw [E0]
        exact hQ.at'.ds
      all_goals
        have h4' := h4
        simp only [EZ, vn_one, Int.toNat_natCast, vn_prod hYm hmid, E0] at h4'
      · have h4' := cmpI_le.1 (of_decide_eq_true h4')
        refine ⟨(k + 1, q2, rn2, sp2, rf2, (lo + hi2) / 2, hi2), ⟨⟨hQ.low (by omega) h4', hi⟩, rfl⟩, AA, BB, ⟨rfl, rfl, rfl, rfl, rfl⟩, ⟨rfl, rfl, rfl, rfl, rfl⟩, rfl, EZ, rfl, rfl, rfl, fun _ _ => rfl, rfl, rfl, fun _ _ => rfl, ?_⟩
        show hi2 - (lo + hi2) / 2 < hi2 - lo
        omega
      · have h4' := fun e => of_decide_eq_false h4' (cmpI_le.2 e)
        refine ⟨(k + 1, q2, rn2, sp2, rf2, lo, (lo + hi2) / 2), ⟨⟨hQ.high (by omega) h4', hi⟩, rfl⟩, AA, BB, ⟨rfl, rfl, rfl, rfl, rfl⟩, ⟨rfl, rfl, rfl, rfl, rfl⟩, rfl, rfl, EZ, rfl, rfl, fun _ _ => rfl, rfl, rfl, fun _ _ => rfl, ?_⟩
        show (lo + hi2) / 2 - lo < hi2 - lo
        omega
    · have e2 : i2 = k + 1 := e2
      subst e2
      have hQ : D3P X Y n (k + 1) q2 rn2 rf2 lo hi2 := hQ
      have ht := hQ.top
      have hlt := hQ.lt
      have hr2 : rn2 ≤ 1000 := by have := hQ.at'.len; omega
      have E4 : IntKind.u64.wrap ((hi2 : Int) - (lo : Int)) = ((hi2 - lo : Nat) : Int) := by rw [wrap64 (by omega)]; omega
      have h3 : ¬ IntKind.u64.wrap ((hi2 : Int) - (lo : Int)) > 1 := of_decide_eq_false h3
      rw [E4] at h3
      have hlo : lo < 4294967296 := by omega
      have E0 : (fun i => rf2 (0 + i)) = rf2 := by funext i; rw [Nat.zero_add]
      have D0 : dgs rn2 fun i => rf2 (0 + i) := by rw [E0]; exact hQ.at'.ds
      refine ⟨A, by show 0 + (((k + 1 : Nat) : Int) - 1).toNat < n; omega, Nat.le_refl _, fun a8 => ⟨fun _ => trivial, fun _ => trivial, hh, by omega, dgs_one (z := (lo : Int)) (by omega), by decide, fun a9 cap _ _ => ⟨by show 0 + rn2 ≤ rn2; omega, Nat.le_add_right _ _, fun a12 => ⟨fun _ => trivial, fun _ => trivial, D0, hr2, dgs_dg _ _, by omega, ?_, fun a13 cap' _ _ => ⟨(k, _, a13, rn2, cap', _), ⟨?_, by show k ≤ n; omega⟩, AA, BB, ⟨rfl, rfl, rfl, rfl, rfl⟩, ⟨rfl, rfl, rfl, fun _ _ => rfl⟩, ?_, rfl, rfl, fun _ _ => rfl, by show k < k + 1; omega⟩⟩⟩⟩⟩
      · show vn (m + 1) (fun i => dg (Y * vn 1 fun i => (intsL [SK.c (SC.val (Value.int IntKind.u64 (lo : Int)))]).getD i 0) i) ≤ vn rn2 fun i => rf2 (0 + i)
        rw [vn_one, Int.toNat_natCast, vn_prod hYm hlo, E0]
        exact hQ.below
      · refine D3P.found hQ (by omega) hY hi (fun j hj => ?_) fun j hj => ?_
        · show (bif decide (j = 0 + (((k + 1 : Nat) : Int) - 1).toNat) then (lo : Int) else q2 j) = _
          rw [Ek, Nat.zero_add]
          by_cases e : j = k <;> simp [e]
        · show dg ((vn rn2 fun i => rf2 (0 + i)) - vn (m + 1) fun i => dg (Y * vn 1 fun i => (intsL [SK.c (SC.val (Value.int IntKind.u64 (lo : Int)))]).getD i 0) i) j = _
          rw [vn_one, Int.toNat_natCast, vn_prod hYm hlo, E0]
      · show IntKind.i64.wrap (((k + 1 : Nat) : Int) - 1 - 1) = (k : Int) - 1
        rw [wrapi (by omega)]; omega
    · have hrn : rn ≤ 1000 := by
        rw [hP.len]
        split
        · omega
        · have : lenDg (X / 4294967296 ^ (k + 1 + 1) % Y) ≤ m := lenDg_le (Nat.lt_trans (Nat.mod_lt _ hY) hYm)
          omega
      have hle : lenDg (vn rn rf) ≤ m := by rw [hP.left]; exact hlm
      have C1 : (1 : Nat) ≤ 1 ∧ 1 ≤ maxLen ∧ 1 = 1 := ⟨Nat.le_refl _, by omega, rfl⟩
      have C2 : 1 + lenDg (vn rn rf) ≤ maxLen ∧ (1 + lenDg (vn rn rf)) * 8 ≤ 140737488355328 := by omega
      have T : ∀ i : Nat, True := fun _ => trivial
      have fin : ∀ c1 : Nat, 1 + lenDg (vn rn rf) + c1 ≤ maxLen → ∃ y1 : Nat × (Nat → Int) × Nat × Nat × (Nat → Int), ((DcP X Y n y1.1 y1.2.1 y1.2.2.1 y1.2.2.2.2 ∧ y1.1 ≤ n) ∧ y1.1 = k + 1) ∧ (a = a ∧ n = n ∧ c = c ∧ ∀ i, i < n → f i = f i) ∧ (b = b ∧ m = m ∧ d = d ∧ ∀ i, i < m → h i = h i) ∧ (0 = 0 ∧ 1 = 1 ∧ 0 = 0 ∧ n = n ∧ n = n) ∧ (1 = 1 ∧ 1 = 1 ∧ 0 = 0 ∧ 1 + lenDg (vn rn rf) = y1.2.2.1 ∧ 1 + lenDg (vn rn rf) + c1 = y1.2.2.1 + y1.2.2.2.1) ∧ ((k + 1 : Nat) : Int) - 1 = (y1.1 : Int) - 1 ∧ n = n ∧ 0 = 0 ∧ (∀ i, i < n → q i = y1.2.1 i) ∧ 1 + lenDg (vn rn rf) = y1.2.2.1 ∧ c1 * 1 = y1.2.2.2.1 ∧ (∀ i, i < 1 + lenDg (vn rn rf) → (bif decide (i < 1) then f (((k + 1 : Nat) : Int) - 1).toNat else dg (vn rn rf) (i - 1)) = y1.2.2.2.2 i) ∧ True := by
        intro c1 _
        refine ⟨(k + 1, q, 1 + lenDg (vn rn rf), c1, fun i => bif decide (i < 1) then f (((k + 1 : Nat) : Int) - 1).toNat else dg (vn rn rf) (i - 1)), ⟨⟨?_, hi⟩, rfl⟩, AA, BB, ⟨rfl, rfl, rfl, rfl, rfl⟩, ⟨rfl, rfl, rfl, rfl, rfl⟩, rfl, rfl, rfl, fun _ _ => rfl, rfl, Nat.mul_one _, fun _ _ => rfl, trivial⟩
        refine hP.next fun i _ => ?_
        rw [Ek, hfi k (by omega)]
      have F : ((1 : Nat) ≤ 1 ∧ 1 ≤ maxLen ∧ 1 = 1) ∧ (1 + lenDg (vn rn rf) ≤ maxLen ∧ (1 + lenDg (vn rn rf)) * 8 ≤ 140737488355328) ∧ _ := ⟨C1, C2, fin⟩
      have hds := hP.ds
      clear hP
      repeat' (first | exact A | exact T | exact hds | exact hrn | exact F | (intro _ _ _ _) | (refine And.intro ?_ ?_))
  · have hYs : ¬ Y < 4294967296 := of_decide_eq_false h1
    have hP : D2P X Y n i q rn rf := hP
    have h2 : ¬ (i : Int) - 1 ≥ 0 := of_decide_eq_false h2
    have : i = 0 := by omega
    subst this
    refine ⟨⟨by omega, rfl, Nat.le_refl _, fun j hj => ?_⟩, ?_, fun j hj => ?_⟩
    · show q (0 + j) = _
      rw [Nat.zero_add]
      exact hP.qs j (Nat.zero_le _) hj
    · show rn = _
      rw [hP.len]
      unfold remL
      rw [if_neg hYs]
      by_cases e : n = 0
      · rw [if_pos e.symm, if_pos e]
      · rw [if_neg (fun k => e k.symm), if_neg e, Nat.zero_add, Nat.pow_one]
    · show rf j = _
      have hl := hP.left
      rw [Nat.pow_zero, Nat.div_one] at hl
      have hj : j < remL X Y n := hj
      have hrn : rn = remL X Y n := by
        rw [hP.len]
        unfold remL
        rw [if_neg hYs]
        by_cases e : n = 0
        · rw [if_pos e.symm, if_pos e]
        · rw [if_neg (fun k => e k.symm), if_neg e, Nat.zero_add, Nat.pow_one]
      rw [← hl]
      exact dg_in hP.ds (by omega)
end Go.Proofs.Ytbjdchpncbgpnaa
end

section
/-
  More shapes of cards: a number and a word under a condition; a text.
-/
namespace Go.Sx
open Go.RowKit

end Go.Sx
end

section
/-
  More shapes of cards: two numbers under a condition; a number and an int; a number, a word and a number.
-/
namespace Go.Sx
open Go.RowKit

theorem bnd_sU (a : Nat) : SA.bnd none0 (sU a) := by
  intro k hk; simp only [List.mem_singleton] at hk; subst hk; trivial
/-- A number, a word, a number, under a condition. -/
def specUWU (c : Nat → Int → Nat → List Prop) (g : Nat → Int → Nat → SV) : FSpec := fun args =>
  match args with
  | [x, y, z] => match asU x, asI y, asU z with
    | some (p, a), some (.u64, n), some (q, b) => some ((p ++ q) ++ c a n b, g a n b)
    | _, _, _ => none
  | _ => none
theorem FnOK_UWU {P : Program} {cx : Cx} (hcx : CxOK P cx) {iv : Nat → Int → Nat → List (Nat × Hint)} {N : Nat} {f : Nat} {fn : Func} (hf : P.funcs[f]? = some fn) (hb : fn.body.isSome = true) (hn : (fn.name == "runtime.NumGoroutine") = false) {c : Nat → Int → Nat → List Prop} {g : Nat → Int → Nat → SV} (hg : ∀ a n b, (g a n b).bnd none0)
    (h : ∀ a n b, Ok (c a n b) → Owes P cx (iv a n b) N fn [sU a, sI .u64 n, sU b] (g a n b)) : FnOKg P cx.gl f (specUWU c g) := by
  refine FnOK_of hf hb hn fun args ps sv hs hp => ?_
  unfold specUWU at hs
  split at hs
  · rename_i x y z
    split at hs
    · rename_i p a n q b ha hn' hb'
      simp only [Option.some.injEq, Prod.mk.injEq] at hs
      obtain ⟨rfl, rfl⟩ := hs
      obtain ⟨o12, o3⟩ := Ok.append.1 hp
      obtain ⟨o1, o2⟩ := Ok.append.1 o12
      refine ⟨hg a n b, fun ρ w hzz hgg _ => ?_⟩
      rw [show [x, y, z].map (SA.conc ρ) = [sU a, sI .u64 n, sU b].map (SA.conc ρ) by simp only [List.map_cons, List.map_nil, asU_canon ha o1 ρ, asI_canon hn' ρ, asU_canon hb' o2 ρ]]
      refine (calls_of_owes0 hcx hf hb (args := [sU a, sI .u64 n, sU b]) (by
        intro z hz
        simp only [List.mem_cons, List.not_mem_nil, or_false] at hz
        rcases hz with rfl | rfl | rfl
        · exact bnd_sU _
        · trivial
        · exact bnd_sU _) (h a n b o3) ρ w hzz hgg).mono ?_
      rintro e w' ⟨v, rfl, ⟨ρ', hr⟩, hbl⟩
      exact ⟨v, rfl, rep_none0 (hg a n b) hr, hbl⟩
    · cases hs
  · cases hs
end Go.Sx
end

section
/-
  More shapes of cards: three numbers.
-/
namespace Go.Sx
open Go.RowKit

/-- Three numbers of 256 bits, under a condition. -/
def specUUU (c : Nat → Nat → Nat → List Prop) (g : Nat → Nat → Nat → SV) : FSpec := fun args =>
  match args with
  | [x, y, z] => match asU x, asU y, asU z with
    | some (p, a), some (o, n), some (q, b) => some (((p ++ o) ++ q) ++ c a n b, g a n b)
    | _, _, _ => none
  | _ => none
theorem FnOK_UUU {P : Program} {cx : Cx} (hcx : CxOK P cx) {iv : Nat → Nat → Nat → List (Nat × Hint)} {N : Nat} {f : Nat} {fn : Func} (hf : P.funcs[f]? = some fn) (hb : fn.body.isSome = true) (hn : (fn.name == "runtime.NumGoroutine") = false) {c : Nat → Nat → Nat → List Prop} {g : Nat → Nat → Nat → SV} (hg : ∀ a n b, (g a n b).bnd none0)
    (h : ∀ a n b, Ok (c a n b) → Owes P cx (iv a n b) N fn [sU a, sU n, sU b] (g a n b)) : FnOKg P cx.gl f (specUUU c g) := by
  refine FnOK_of hf hb hn fun args ps sv hs hp => ?_
  unfold specUUU at hs
  split at hs
  · rename_i x y z
    split at hs
    · rename_i p a o n q b ha hn' hb'
      simp only [Option.some.injEq, Prod.mk.injEq] at hs
      obtain ⟨rfl, rfl⟩ := hs
      obtain ⟨o12, o3⟩ := Ok.append.1 hp
      obtain ⟨o1', o2⟩ := Ok.append.1 o12
      obtain ⟨o1, o4⟩ := Ok.append.1 o1'
      refine ⟨hg a n b, fun ρ w hzz hgg _ => ?_⟩
      rw [show [x, y, z].map (SA.conc ρ) = [sU a, sU n, sU b].map (SA.conc ρ) by simp only [List.map_cons, List.map_nil, asU_canon ha o1 ρ, asU_canon hn' o4 ρ, asU_canon hb' o2 ρ]]
      refine (calls_of_owes0 hcx hf hb (args := [sU a, sU n, sU b]) (by
        intro z hz
        simp only [List.mem_cons, List.not_mem_nil, or_false] at hz
        rcases hz with rfl | rfl | rfl <;> exact bnd_sU _) (h a n b o3) ρ w hzz hgg).mono ?_
      rintro e w' ⟨v, rfl, ⟨ρ', hr⟩, hbl⟩
      exact ⟨v, rfl, rep_none0 (hg a n b) hr, hbl⟩
    · cases hs
  · cases hs
end Go.Sx
end

section
/-
  Shapes of cards of functions that may call such as read or answer slices.
-/
namespace Go.Sx
open Go.RowKit
section
variable {P : Program} {cx : Cx} {sl : List (Nat × SSpec)} {f : Nat} {fn : Func}
theorem FnOKV_UU (hcx : CxOK P cx) (hsl : ∀ p ∈ sl, FnOKs P cx.gl p.1 p.2) (hf : P.funcs[f]? = some fn) (hb : fn.body.isSome = true) (hn : (fn.name == "runtime.NumGoroutine") = false) {g : Nat → Nat → SV} {iv : Nat → Nat → List (Nat × Hint)} {N : Nat} (hg : ∀ a b, (g a b).bnd none0)
    (h : ∀ a b, OwesV P cx sl (iv a b) N fn [sU a, sU b] (g a b)) : FnOKg P cx.gl f (specUU g) := by
  refine FnOK_owesV hcx hsl hf hb hn fun args ps sv hs hp => ?_
  unfold specUU at hs
  split at hs
  case h_2 => cases hs
  rename_i x y
  split at hs
  case h_2 => cases hs
  rename_i p a q b ha hb'
  simp only [Option.some.injEq, Prod.mk.injEq] at hs
  obtain ⟨rfl, rfl⟩ := hs
  obtain ⟨o1, o2⟩ := Ok.append.1 hp
  refine ⟨iv a b, N, [sU a, sU b], fun ρ => by simp only [List.map_cons, List.map_nil, asU_canon ha o1 ρ, asU_canon hb' o2 ρ], fun fz _ z hz => ?_, hg a b, h a b⟩
  simp only [List.mem_cons, List.not_mem_nil, or_false] at hz
  rcases hz with rfl | rfl
  · exact bnd_Un a
  · exact bnd_Un b
theorem FnOKV_UUU (hcx : CxOK P cx) (hsl : ∀ p ∈ sl, FnOKs P cx.gl p.1 p.2) (hf : P.funcs[f]? = some fn) (hb : fn.body.isSome = true) (hn : (fn.name == "runtime.NumGoroutine") = false) {c : Nat → Nat → Nat → List Prop} {g : Nat → Nat → Nat → SV} {iv : Nat → Nat → Nat → List (Nat × Hint)} {N : Nat} (hg : ∀ a n b, (g a n b).bnd none0)
    (h : ∀ a n b, Ok (c a n b) → OwesV P cx sl (iv a n b) N fn [sU a, sU n, sU b] (g a n b)) : FnOKg P cx.gl f (specUUU c g) := by
  refine FnOK_owesV hcx hsl hf hb hn fun args ps sv hs hp => ?_
  unfold specUUU at hs
  split at hs
  case h_2 => cases hs
  rename_i x y z
  split at hs
  case h_2 => cases hs
  rename_i p a o n q b ha hn' hb'
  simp only [Option.some.injEq, Prod.mk.injEq] at hs
  obtain ⟨rfl, rfl⟩ := hs
  obtain ⟨o12, o3⟩ := Ok.append.1 hp
  obtain ⟨o1', o2⟩ := Ok.append.1 o12
  obtain ⟨o1, o4⟩ := Ok.append.1 o1'
  refine ⟨iv a n b, N, [sU a, sU n, sU b], fun ρ => by simp only [List.map_cons, List.map_nil, asU_canon ha o1 ρ, asU_canon hn' o4 ρ, asU_canon hb' o2 ρ], fun fz _ z hz => ?_, hg a n b, h a n b o3⟩
  simp only [List.mem_cons, List.not_mem_nil, or_false] at hz
  rcases hz with rfl | rfl | rfl
  · exact bnd_Un a
  · exact bnd_Un n
  · exact bnd_Un b
end
end Go.Sx
end

section
/-
  The reference's rows of digits: cards.
-/
namespace Go.Proofs.Ytbjdchpncbgpnaa
open Go Go.Sx Go.RowKit

theorem cx_none : CxOK Try.prog .none := fun p hp => by cases hp
theorem cx_R : CxOK Try.prog cxR := fun p hp => by
  simp only [cxR, markR, List.mem_cons, List.not_mem_nil, or_false] at hp
  subst hp
  exact fun args ps sv hs => by cases hs
theorem sl_nil : ∀ p ∈ ([] : List (Nat × SSpec)), FnOKs Try.prog [] p.1 p.2 := fun p hp => by cases hp
theorem closed_s {n : Nat} {g : Nat → Int} : ∀ x ∈ [RS.s n .u64 g], x.closed := fun x hx => by
  simp only [List.mem_singleton] at hx
  subst hx
  trivial
theorem card_dOf : FnOKs Try.prog [] 41 (specUR ofR) :=
  FnOKs_UR (iv := fun _ => []) cx_none sl_nil Try.func41 (by kernel_rfl) (by kernel_rfl) (fun _ => closed_s) ok_dOf
theorem card_dPlus : FnOKs Try.prog [] 40 (specDD false dg2C plusR) :=
  FnOKs_DD (iv := fun a n c f b m d h => [(4, .inv1 (invPlus a n c f b m d h (PlusP (vn n f) (vn m h))))]) cx_R sl_nil Try.func40 (by kernel_rfl) (by kernel_rfl) (fun _ _ _ _ => closed_s) fun a n c f b m d h ⟨h1, h2, h3, h4, _⟩ => ok_dPlus a n c f b m d h h1 h2 h3 h4
theorem card_dTimes : FnOKs Try.prog [] 52 (specDD false dg2C timesR) :=
  FnOKs_DD (iv := fun a n c f b m d h => [(3, .inv (invTi a n c f b m d h (TimesP (vn n f) (vn m h) n m))), (7, .invR (invTj a n c f b m d h (TimesQ (vn n f) (vn m h) n m)) fun y z => z.1 = y.1)]) cx_R sl_nil Try.func52 (by kernel_rfl) (by kernel_rfl) (fun _ _ _ _ => closed_s) fun a n c f b m d h ⟨h1, h2, h3, h4, _⟩ => ok_dTimes a n c f b m d h h1 h2 h3 h4
theorem card_dCompare : FnOKs Try.prog [] 42 (specDD false dg2C cmpR) :=
  FnOKs_DD (iv := fun a n c f b m d h => [(2, .inv (invCmp a n c f b m d h fun k => vn n f / 4294967296 ^ k = vn m h / 4294967296 ^ k))]) cx_R sl_nil Try.func42 (by kernel_rfl) (by kernel_rfl) (fun _ _ _ _ x hx => by simp only [cmpR, List.mem_singleton] at hx; subst hx; trivial) fun a n c f b m d h ⟨h1, h2, h3, h4, _⟩ => ok_compare a n c f b m d h h1 h2 h3 h4
theorem card_dLess : FnOKs Try.prog [] 44 (specDD false lessC lessR) :=
  FnOKs_DD (iv := fun a n c f b m d h => [(4, .inv (invLess b m d h n (LessP (vn n f) (vn m h) n)))]) cx_R sl_nil Try.func44 (by kernel_rfl) (by kernel_rfl) (fun _ _ _ _ => closed_s) fun a n c f b m d h ⟨h1, h2, h3, h4, h5, _⟩ => ok_dLess a n c f b m d h h1 h2 h3 h4 h5
theorem card_dShorn : FnOKs Try.prog [] 48 (specD true dgsC shornR) :=
  FnOKs_D (iv := fun a n c f => [(1, .inv (invShorn f fun k => k ≤ n ∧ vn n f < 4294967296 ^ k))]) cx_R sl_nil Try.func48 (by kernel_rfl) (by kernel_rfl) (fun _ _ => closed_s) fun a n c f ⟨h1, h2, _⟩ => ok_shorn a n c f h1 h2
theorem sl_shorn : ∀ p ∈ slShorn, FnOKs Try.prog [] p.1 p.2 := fun p hp => by
  simp only [slShorn, List.mem_cons, List.not_mem_nil, or_false] at hp
  subst hp
  exact card_dShorn
theorem card_dSmall : FnOKs Try.prog [] 49 (specD false dgsC smallR) :=
  FnOKs_D (iv := fun _ _ _ _ => []) cx_R sl_shorn Try.func49 (by kernel_rfl) (by kernel_rfl) (fun _ _ x hx => by simp only [smallR, List.mem_cons, List.not_mem_nil, or_false] at hx; rcases hx with rfl | rfl <;> trivial) fun a n c f ⟨h1, h2, _⟩ => ok_small a n c f h1 h2
theorem card_dWide : FnOKs Try.prog [] 39 (specD false dgsC wideR) :=
  FnOKs_D (iv := fun a n c f => [(4, .inv (invWide a n c f (fun y => vn n f % 4294967296 ^ min y 8) (fun y => decide (M256 ≤ vn n f % 4294967296 ^ y))))]) cx_R sl_nil Try.func39 (by kernel_rfl) (by kernel_rfl) (fun _ _ x hx => by
    simp only [wideR, List.mem_cons, List.not_mem_nil, or_false] at hx
    rcases hx with rfl | rfl
    · exact bnd_Un _
    · trivial) fun a n c f ⟨h1, h2, _⟩ => ok_wide a n c f h1 h2
theorem sl_wide : ∀ p ∈ slWide, FnOKs Try.prog [] p.1 p.2 := fun p hp => by
  simp only [slWide, List.mem_cons, List.not_mem_nil, or_false] at hp
  subst hp
  exact card_dWide
theorem card_dCut : FnOKs Try.prog [] 43 (specD false dgsC cutR) :=
  FnOKs_D (iv := fun _ _ _ _ => []) cx_R sl_wide Try.func43 (by kernel_rfl) (by kernel_rfl) (fun _ _ x hx => by simp only [cutR, List.mem_singleton] at hx; subst hx; exact bnd_Un _) fun a n c f ⟨h1, h2, _⟩ => ok_cut a n c f h1 h2
theorem sl_dg : ∀ p ∈ slDg, FnOKs Try.prog [] p.1 p.2 := fun p hp => by
  simp only [slDg, List.mem_cons, List.not_mem_nil, or_false] at hp
  rcases hp with rfl | rfl | rfl | rfl | rfl | rfl | rfl | rfl | rfl
  · exact card_dOf
  · exact card_dPlus
  · exact card_dTimes
  · exact card_dCompare
  · exact card_dLess
  · exact card_dShorn
  · exact card_dSmall
  · exact card_dWide
  · exact card_dCut
theorem card_dDivided : FnOKs Try.prog [] 46 (specDD true dvdC dvdR) :=
  FnOKs_DD (iv := fun a n c f b m d h => [(6, .inv (invD1 a n c f b m d h (D1P (vn n f) (vn m h) n))), (13, .inv (invD2 a n c f b m d h (D2P (vn n f) (vn m h) n))), (15, .cut (cutD a n c f b m d h (DcP (vn n f) (vn m h) n)) (fun y z => z.1 = y.1)), (17, .invR (invD3 a n c f b m d h (D3P (vn n f) (vn m h) n)) (fun y z => z.1 = y.1))]) cx_R sl_dg Try.func46 (by kernel_rfl) (by kernel_rfl) (fun _ _ _ _ x hx => by simp only [dvdR, List.mem_cons, List.not_mem_nil, or_false] at hx; rcases hx with rfl | rfl <;> trivial) fun a n c f b m d h ⟨h1, h2, h3, h4, h5, _⟩ => ok_divided a n c f b m d h h1 h2 h3 h4 h5
/-- All of them. -/
def slAll : List (Nat × SSpec) := (46, specDD true dvdC dvdR) :: slDg
theorem sl_all : ∀ p ∈ slAll, FnOKs Try.prog [] p.1 p.2 := fun p hp => by
  rcases List.mem_cons.1 hp with rfl | hp
  · exact card_dDivided
  · exact sl_dg p hp
end Go.Proofs.Ytbjdchpncbgpnaa
end

section
/-
  The reference's wide numbers, and those by a modulus: reckoned by the kernel. (Laid by program.)
-/
namespace Go.Proofs.Ytbjdchpncbgpnaa
open Go Go.Sx Go.RowKit
set_option maxRecDepth 100000
def restUC (n : Nat) (f : Nat → Int) (m : Nat) : List Prop := [dgs n f, n ≤ 1000, m % M256 ≠ 0]
def restUR (n : Nat) (f : Nat → Int) (m : Nat) : List RS := [.v (sU (vn n f % (m % M256)))]
def slRest : List (Nat × SSpec) := (79, specDU restUC restUR) :: slAll
def proC (a b m : Nat) : List Prop := [m % M256 ≠ 0, a % M256 < m % M256, b % M256 < m % M256]
def proG (a b m : Nat) : SV := .one (sU (a % M256 * (b % M256) % (m % M256)))
def ordG (a b : Nat) : SV := .one (sI .i64 (cmpI (a % M256) (b % M256)))
-- VC vc_refOrd HASH ba0331c4e576a38c
theorem vc_refOrd (a b : Nat) :
    OwesV Try.prog .none slAll [] 4 Try.f78 [sU a, sU b] (ordG a b) =
    (let x1 : Nat := a % Go.Sx.M256; let x2 : Nat := b % Go.Sx.M256; ((∀ (a : Option Go.Addr) (cap : Nat), (a = Option.none → (8 : Nat) = (0 : Nat) ∧ cap = (0 : Nat)) → (8 : Nat) ≤ cap → ∀ (a : Option Go.Addr) (cap : Nat), (a = Option.none → (8 : Nat) = (0 : Nat) ∧ cap = (0 : Nat)) → (8 : Nat) ≤ cap → (∀ (i : Nat), True) ∧ (∀ (i : Nat), True) ∧ (Go.Sx.dgs (8 : Nat) fun (i : Nat) => Go.Sx.intsC (Go.Sx.SC.val (Go.Value.int Go.IntKind.u64 (Go.Sx.dg x1 i)))) ∧ (8 : Nat) ≤ (1000 : Nat) ∧ (Go.Sx.dgs (8 : Nat) fun (i : Nat) => Go.Sx.intsC (Go.Sx.SC.val (Go.Value.int Go.IntKind.u64 (Go.Sx.dg x2 i)))) ∧ (8 : Nat) ≤ (1000 : Nat) ∧ Go.Sx.cmpI (Go.Sx.vn (8 : Nat) fun (i : Nat) => Go.Sx.dg x1 i) (Go.Sx.vn (8 : Nat) fun (i : Nat) => Go.Sx.dg x2 i) = Go.Sx.cmpI x1 x2) ∧ ∀ (a : Option Go.Addr) (cap : Nat), (a = Option.none → (8 : Nat) = (0 : Nat) ∧ cap = (0 : Nat)) → (8 : Nat) ≤ cap → ∀ (a : Option Go.Addr) (cap : Nat), (a = Option.none → (8 : Nat) = (0 : Nat) ∧ cap = (0 : Nat)) → (8 : Nat) ≤ cap → (∀ (i : Nat), True) ∧ (∀ (i : Nat), True) ∧ (Go.Sx.dgs (8 : Nat) fun (i : Nat) => Go.Sx.intsC (Go.Sx.SC.val (Go.Value.int Go.IntKind.u64 (Go.Sx.dg x1 i)))) ∧ (8 : Nat) ≤ (1000 : Nat) ∧ (Go.Sx.dgs (8 : Nat) fun (i : Nat) => Go.Sx.intsC (Go.Sx.SC.val (Go.Value.int Go.IntKind.u64 (Go.Sx.dg x2 i)))) ∧ (8 : Nat) ≤ (1000 : Nat) ∧ Go.Sx.cmpI (Go.Sx.vn (8 : Nat) fun (i : Nat) => Go.Sx.dg x1 i) (Go.Sx.vn (8 : Nat) fun (i : Nat) => Go.Sx.dg x2 i) = Go.Sx.cmpI x1 x2) ∧ ∀ (a : Option Go.Addr) (cap : Nat), (a = Option.none → (8 : Nat) = (0 : Nat) ∧ cap = (0 : Nat)) → (8 : Nat) ≤ cap → ∀ (a : Option Go.Addr) (cap : Nat), (a = Option.none → (8 : Nat) = (0 : Nat) ∧ cap = (0 : Nat)) → (8 : Nat) ≤ cap → (∀ (i : Nat), True) ∧ (∀ (i : Nat), True) ∧ (Go.Sx.dgs (8 : Nat) fun (i : Nat) => Go.Sx.intsC (Go.Sx.SC.val (Go.Value.int Go.IntKind.u64 (Go.Sx.dg x1 i)))) ∧ (8 : Nat) ≤ (1000 : Nat) ∧ (Go.Sx.dgs (8 : Nat) fun (i : Nat) => Go.Sx.intsC (Go.Sx.SC.val (Go.Value.int Go.IntKind.u64 (Go.Sx.dg x2 i)))) ∧ (8 : Nat) ≤ (1000 : Nat) ∧ Go.Sx.cmpI (Go.Sx.vn (8 : Nat) fun (i : Nat) => Go.Sx.dg x1 i) (Go.Sx.vn (8 : Nat) fun (i : Nat) => Go.Sx.dg x2 i) = Go.Sx.cmpI x1 x2) := by kernel_rfl
-- END VC
-- VC vc_refRest HASH c3736961cf1d2ee5
theorem vc_refRest (a : Option Addr) (n c : Nat) (f : Nat → Int) (m : Nat) :
    OwesR Try.prog .none slAll [] 4 Try.f79 [xsI a n c .u64 f, sU m] false (restUR n f m) =
    (let x1 : Nat := m % Go.Sx.M256; let x2 : Nat := Go.Sx.vn (8 : Nat) fun (i : Nat) => Go.Sx.dg x1 i; let x3 : Nat := Go.Sx.remL (Go.Sx.vn n fun (i : Nat) => f i) x2 n; let x4 : Nat := Go.Sx.vn n fun (i : Nat) => Go.Sx.intsC (Go.Sx.SC.val (Go.Value.int Go.IntKind.u64 (f i))); let x5 : Nat := Go.Sx.vn (8 : Nat) fun (i : Nat) => Go.Sx.intsC (Go.Sx.SC.val (Go.Value.int Go.IntKind.u64 (Go.Sx.dg x1 i))); ∀ (a : Option Go.Addr) (cap : Nat), (a = Option.none → (8 : Nat) = (0 : Nat) ∧ cap = (0 : Nat)) → (8 : Nat) ≤ cap → (∀ (i : Nat), True) ∧ (∀ (i : Nat), True) ∧ (Go.Sx.dgs n fun (i : Nat) => Go.Sx.intsC (Go.Sx.SC.val (Go.Value.int Go.IntKind.u64 (f i)))) ∧ n ≤ (1000 : Nat) ∧ (Go.Sx.dgs (8 : Nat) fun (i : Nat) => Go.Sx.intsC (Go.Sx.SC.val (Go.Value.int Go.IntKind.u64 (Go.Sx.dg x1 i)))) ∧ (8 : Nat) ≤ (900 : Nat) ∧ x2 ≠ (0 : Nat) ∧ ∀ (a : Option Go.Addr) (cap : Nat), (a = Option.none → n = (0 : Nat) ∧ cap = (0 : Nat)) → n ≤ cap → ∀ (a : Option Go.Addr) (cap : Nat), (a = Option.none → x3 = (0 : Nat) ∧ cap = (0 : Nat)) → x3 ≤ cap → (∀ (i : Nat), True) ∧ (Go.Sx.dgs (Go.Sx.remL x4 x5 n) fun (i : Nat) => Go.Sx.intsC (Go.Sx.SC.val (Go.Value.int Go.IntKind.u64 (Go.Sx.dg (x4 % x5) i)))) ∧ x3 ≤ (1000 : Nat) ∧ (Go.Sx.vn x3 fun (i : Nat) => Go.Sx.dg ((Go.Sx.vn n fun (i : Nat) => f i) % x2) i) % Go.Sx.M256 % Go.Sx.M256 = Go.Sx.vn n f % x1 % Go.Sx.M256 ∧ True) := by kernel_rfl
-- END VC
-- VC vc_refPro HASH e132123069220130
theorem vc_refPro (a b m : Nat) (r : Nat) :
    OwesV Try.prog .none slRest [] 4 Try.f61 [sU a, sU b, sU m] (.one (sU r)) =
    (let x1 : Bool := Go.IntKind.u64.wrap (↑(BitVec.ofInt (64 : Nat) (Go.IntKind.u64.wrap (↑(BitVec.ofInt (64 : Nat) (Go.Sx.limb m (1 : Nat)) ||| BitVec.ofInt (64 : Nat) (Go.Sx.limb m (2 : Nat))).toNat : Int)) ||| BitVec.ofInt (64 : Nat) (Go.Sx.limb m (3 : Nat))).toNat : Int) == (0 : Int); let x2 : Int := (Go.IntKind.u64.wrap (Go.Sx.limb a (0 : Nat) * Go.Sx.limb b (0 : Nat))).tmod (Go.Sx.limb m (0 : Nat)); let x3 : Nat := r % Go.Sx.M256; let x4 : Nat := m % Go.Sx.M256; (x1 = Bool.true → x1 = Bool.true) ∧ (x1 = Bool.true → x1 = Bool.true) ∧ (x1 = Bool.true → x1 = Bool.true) ∧ ((x1 && Decidable.decide (Go.Sx.limb m (0 : Nat) < (4294967296 : Int))) = Bool.true → Go.Sx.limb m (0 : Nat) ≠ (0 : Int) ∧ ((0 : Int) ≤ x2 ∧ x2 < (18446744073709551616 : Int)) ∧ ((0 : Int) ≤ (0 : Int) ∧ (0 : Int) < (18446744073709551616 : Int)) ∧ ((0 : Int) ≤ (0 : Int) ∧ (0 : Int) < (18446744073709551616 : Int)) ∧ ((0 : Int) ≤ (0 : Int) ∧ (0 : Int) < (18446744073709551616 : Int)) ∧ Go.Sx.join x2 (0 : Int) (0 : Int) (0 : Int) % Go.Sx.M256 = x3 ∧ True) ∧ ((x1 && Decidable.decide (Go.Sx.limb m (0 : Nat) < (4294967296 : Int))) = Bool.false → ((∀ (a_2 : Option Go.Addr) (cap : Nat), (a_2 = Option.none → (8 : Nat) = (0 : Nat) ∧ cap = (0 : Nat)) → (8 : Nat) ≤ cap → ((∀ (a_5 : Option Go.Addr) (cap : Nat), (a_5 = Option.none → (8 : Nat) = (0 : Nat) ∧ cap = (0 : Nat)) → (8 : Nat) ≤ cap → ((∀ (i : Nat), True) ∧ (∀ (i : Nat), True) ∧ (Go.Sx.dgs (8 : Nat) fun (i : Nat) => Go.Sx.intsC (Go.Sx.SC.val (Go.Value.int Go.IntKind.u64 (Go.Sx.dg (a % Go.Sx.M256) i)))) ∧ (8 : Nat) ≤ (1000 : Nat) ∧ (Go.Sx.dgs (8 : Nat) fun (i : Nat) => Go.Sx.intsC (Go.Sx.SC.val (Go.Value.int Go.IntKind.u64 (Go.Sx.dg (b % Go.Sx.M256) i)))) ∧ (8 : Nat) ≤ (1000 : Nat) ∧ ∀ (a_8 : Option Go.Addr) (cap : Nat), (a_8 = Option.none → (16 : Nat) = (0 : Nat) ∧ cap = (0 : Nat)) → (16 : Nat) ≤ cap → (∀ (i : Nat), True) ∧ (Go.Sx.dgs (16 : Nat) fun (i : Nat) => Go.Sx.intsC (Go.Sx.SC.val (Go.Value.int Go.IntKind.u64 (Go.Sx.dg ((Go.Sx.vn (8 : Nat) fun (i : Nat) => Go.Sx.intsC (Go.Sx.SC.val (Go.Value.int Go.IntKind.u64 (Go.Sx.dg (a % Go.Sx.M256) i)))) * Go.Sx.vn (8 : Nat) fun (i : Nat) => Go.Sx.intsC (Go.Sx.SC.val (Go.Value.int Go.IntKind.u64 (Go.Sx.dg (b % Go.Sx.M256) i)))) i)))) ∧ (16 : Nat) ≤ (1000 : Nat) ∧ x4 ≠ (0 : Nat) ∧ (Go.Sx.vn (16 : Nat) fun (i : Nat) => Go.Sx.dg ((Go.Sx.vn (8 : Nat) fun (i : Nat) => Go.Sx.dg (a % Go.Sx.M256) i) * Go.Sx.vn (8 : Nat) fun (i : Nat) => Go.Sx.dg (b % Go.Sx.M256) i) i) % x4 % Go.Sx.M256 = x3 ∧ True) ∧ (∀ (i : Nat), True) ∧ (∀ (i : Nat), True) ∧ (Go.Sx.dgs (8 : Nat) fun (i : Nat) => Go.Sx.intsC (Go.Sx.SC.val (Go.Value.int Go.IntKind.u64 (Go.Sx.dg (a % Go.Sx.M256) i)))) ∧ (8 : Nat) ≤ (1000 : Nat) ∧ (Go.Sx.dgs (8 : Nat) fun (i : Nat) => Go.Sx.intsC (Go.Sx.SC.val (Go.Value.int Go.IntKind.u64 (Go.Sx.dg (b % Go.Sx.M256) i)))) ∧ (8 : Nat) ≤ (1000 : Nat) ∧ ∀ (a_8 : Option Go.Addr) (cap : Nat), (a_8 = Option.none → (16 : Nat) = (0 : Nat) ∧ cap = (0 : Nat)) → (16 : Nat) ≤ cap → (∀ (i : Nat), True) ∧ (Go.Sx.dgs (16 : Nat) fun (i : Nat) => Go.Sx.intsC (Go.Sx.SC.val (Go.Value.int Go.IntKind.u64 (Go.Sx.dg ((Go.Sx.vn (8 : Nat) fun (i : Nat) => Go.Sx.intsC (Go.Sx.SC.val (Go.Value.int Go.IntKind.u64 (Go.Sx.dg (a % Go.Sx.M256) i)))) * Go.Sx.vn (8 : Nat) fun (i : Nat) => Go.Sx.intsC (Go.Sx.SC.val (Go.Value.int Go.IntKind.u64 (Go.Sx.dg (b % Go.Sx.M256) i)))) i)))) ∧ (16 : Nat) ≤ (1000 : Nat) ∧ x4 ≠ (0 : Nat) ∧ (Go.Sx.vn (16 : Nat) fun (i : Nat) => Go.Sx.dg ((Go.Sx.vn (8 : Nat) fun (i : Nat) => Go.Sx.dg (a % Go.Sx.M256) i) * Go.Sx.vn (8 : Nat) fun (i : Nat) => Go.Sx.dg (b % Go.Sx.M256) i) i) % x4 % Go.Sx.M256 = x3 ∧ True) ∧ ∀ (a_5 : Option Go.Addr) (cap : Nat), (a_5 = Option.none → (8 : Nat) = (0 : Nat) ∧ cap = (0 : Nat)) → (8 : Nat) ≤ cap → (∀ (i : Nat), True) ∧ (∀ (i : Nat), True) ∧ (Go.Sx.dgs (8 : Nat) fun (i : Nat) => Go.Sx.intsC (Go.Sx.SC.val (Go.Value.int Go.IntKind.u64 (Go.Sx.dg (a % Go.Sx.M256) i)))) ∧ (8 : Nat) ≤ (1000 : Nat) ∧ (Go.Sx.dgs (8 : Nat) fun (i : Nat) => Go.Sx.intsC (Go.Sx.SC.val (Go.Value.int Go.IntKind.u64 (Go.Sx.dg (b % Go.Sx.M256) i)))) ∧ (8 : Nat) ≤ (1000 : Nat) ∧ ∀ (a_8 : Option Go.Addr) (cap : Nat), (a_8 = Option.none → (16 : Nat) = (0 : Nat) ∧ cap = (0 : Nat)) → (16 : Nat) ≤ cap → (∀ (i : Nat), True) ∧ (Go.Sx.dgs (16 : Nat) fun (i : Nat) => Go.Sx.intsC (Go.Sx.SC.val (Go.Value.int Go.IntKind.u64 (Go.Sx.dg ((Go.Sx.vn (8 : Nat) fun (i : Nat) => Go.Sx.intsC (Go.Sx.SC.val (Go.Value.int Go.IntKind.u64 (Go.Sx.dg (a % Go.Sx.M256) i)))) * Go.Sx.vn (8 : Nat) fun (i : Nat) => Go.Sx.intsC (Go.Sx.SC.val (Go.Value.int Go.IntKind.u64 (Go.Sx.dg (b % Go.Sx.M256) i)))) i)))) ∧ (16 : Nat) ≤ (1000 : Nat) ∧ x4 ≠ (0 : Nat) ∧ (Go.Sx.vn (16 : Nat) fun (i : Nat) => Go.Sx.dg ((Go.Sx.vn (8 : Nat) fun (i : Nat) => Go.Sx.dg (a % Go.Sx.M256) i) * Go.Sx.vn (8 : Nat) fun (i : Nat) => Go.Sx.dg (b % Go.Sx.M256) i) i) % x4 % Go.Sx.M256 = x3 ∧ True) ∧ ∀ (a_5 : Option Go.Addr) (cap : Nat), (a_5 = Option.none → (8 : Nat) = (0 : Nat) ∧ cap = (0 : Nat)) → (8 : Nat) ≤ cap → (∀ (i : Nat), True) ∧ (∀ (i : Nat), True) ∧ (Go.Sx.dgs (8 : Nat) fun (i : Nat) => Go.Sx.intsC (Go.Sx.SC.val (Go.Value.int Go.IntKind.u64 (Go.Sx.dg (a % Go.Sx.M256) i)))) ∧ (8 : Nat) ≤ (1000 : Nat) ∧ (Go.Sx.dgs (8 : Nat) fun (i : Nat) => Go.Sx.intsC (Go.Sx.SC.val (Go.Value.int Go.IntKind.u64 (Go.Sx.dg (b % Go.Sx.M256) i)))) ∧ (8 : Nat) ≤ (1000 : Nat) ∧ ∀ (a_8 : Option Go.Addr) (cap : Nat), (a_8 = Option.none → (16 : Nat) = (0 : Nat) ∧ cap = (0 : Nat)) → (16 : Nat) ≤ cap → (∀ (i : Nat), True) ∧ (Go.Sx.dgs (16 : Nat) fun (i : Nat) => Go.Sx.intsC (Go.Sx.SC.val (Go.Value.int Go.IntKind.u64 (Go.Sx.dg ((Go.Sx.vn (8 : Nat) fun (i : Nat) => Go.Sx.intsC (Go.Sx.SC.val (Go.Value.int Go.IntKind.u64 (Go.Sx.dg (a % Go.Sx.M256) i)))) * Go.Sx.vn (8 : Nat) fun (i : Nat) => Go.Sx.intsC (Go.Sx.SC.val (Go.Value.int Go.IntKind.u64 (Go.Sx.dg (b % Go.Sx.M256) i)))) i)))) ∧ (16 : Nat) ≤ (1000 : Nat) ∧ x4 ≠ (0 : Nat) ∧ (Go.Sx.vn (16 : Nat) fun (i : Nat) => Go.Sx.dg ((Go.Sx.vn (8 : Nat) fun (i : Nat) => Go.Sx.dg (a % Go.Sx.M256) i) * Go.Sx.vn (8 : Nat) fun (i : Nat) => Go.Sx.dg (b % Go.Sx.M256) i) i) % x4 % Go.Sx.M256 = x3 ∧ True) ∧ ((∀ (a_2 : Option Go.Addr) (cap : Nat), (a_2 = Option.none → (8 : Nat) = (0 : Nat) ∧ cap = (0 : Nat)) → (8 : Nat) ≤ cap → (∀ (a_5 : Option Go.Addr) (cap : Nat), (a_5 = Option.none → (8 : Nat) = (0 : Nat) ∧ cap = (0 : Nat)) → (8 : Nat) ≤ cap → ((∀ (i : Nat), True) ∧ (∀ (i : Nat), True) ∧ (Go.Sx.dgs (8 : Nat) fun (i : Nat) => Go.Sx.intsC (Go.Sx.SC.val (Go.Value.int Go.IntKind.u64 (Go.Sx.dg (a % Go.Sx.M256) i)))) ∧ (8 : Nat) ≤ (1000 : Nat) ∧ (Go.Sx.dgs (8 : Nat) fun (i : Nat) => Go.Sx.intsC (Go.Sx.SC.val (Go.Value.int Go.IntKind.u64 (Go.Sx.dg (b % Go.Sx.M256) i)))) ∧ (8 : Nat) ≤ (1000 : Nat) ∧ ∀ (a_8 : Option Go.Addr) (cap : Nat), (a_8 = Option.none → (16 : Nat) = (0 : Nat) ∧ cap = (0 : Nat)) → (16 : Nat) ≤ cap → (∀ (i : Nat), True) ∧ (Go.Sx.dgs (16 : Nat) fun (i : Nat) => Go.Sx.intsC (Go.Sx.SC.val (Go.Value.int Go.IntKind.u64 (Go.Sx.dg ((Go.Sx.vn (8 : Nat) fun (i : Nat) => Go.Sx.intsC (Go.Sx.SC.val (Go.Value.int Go.IntKind.u64 (Go.Sx.dg (a % Go.Sx.M256) i)))) * Go.Sx.vn (8 : Nat) fun (i : Nat) => Go.Sx.intsC (Go.Sx.SC.val (Go.Value.int Go.IntKind.u64 (Go.Sx.dg (b % Go.Sx.M256) i)))) i)))) ∧ (16 : Nat) ≤ (1000 : Nat) ∧ x4 ≠ (0 : Nat) ∧ (Go.Sx.vn (16 : Nat) fun (i : Nat) => Go.Sx.dg ((Go.Sx.vn (8 : Nat) fun (i : Nat) => Go.Sx.dg (a % Go.Sx.M256) i) * Go.Sx.vn (8 : Nat) fun (i : Nat) => Go.Sx.dg (b % Go.Sx.M256) i) i) % x4 % Go.Sx.M256 = x3 ∧ True) ∧ (∀ (i : Nat), True) ∧ (∀ (i : Nat), True) ∧ (Go.Sx.dgs (8 : Nat) fun (i : Nat) => Go.Sx.intsC (Go.Sx.SC.val (Go.Value.int Go.IntKind.u64 (Go.Sx.dg (a % Go.Sx.M256) i)))) ∧ (8 : Nat) ≤ (1000 : Nat) ∧ (Go.Sx.dgs (8 : Nat) fun (i : Nat) => Go.Sx.intsC (Go.Sx.SC.val (Go.Value.int Go.IntKind.u64 (Go.Sx.dg (b % Go.Sx.M256) i)))) ∧ (8 : Nat) ≤ (1000 : Nat) ∧ ∀ (a_8 : Option Go.Addr) (cap : Nat), (a_8 = Option.none → (16 : Nat) = (0 : Nat) ∧ cap = (0 : Nat)) → (16 : Nat) ≤ cap → (∀ (i : Nat), True) ∧ (Go.Sx.dgs (16 : Nat) fun (i : Nat) => Go.Sx.intsC (Go.Sx.SC.val (Go.Value.int Go.IntKind.u64 (Go.Sx.dg ((Go.Sx.vn (8 : Nat) fun (i : Nat) => Go.Sx.intsC (Go.Sx.SC.val (Go.Value.int Go.IntKind.u64 (Go.Sx.dg (a % Go.Sx.M256) i)))) * Go.Sx.vn (8 : Nat) fun (i : Nat) => Go.Sx.intsC (Go.Sx.SC.val (Go.Value.int Go.IntKind.u64 (Go.Sx.dg (b % Go.Sx.M256) i)))) i)))) ∧ (16 : Nat) ≤ (1000 : Nat) ∧ x4 ≠ (0 : Nat) ∧ (Go.Sx.vn (16 : Nat) fun (i : Nat) => Go.Sx.dg ((Go.Sx.vn (8 : Nat) fun (i : Nat) => Go.Sx.dg (a % Go.Sx.M256) i) * Go.Sx.vn (8 : Nat) fun (i : Nat) => Go.Sx.dg (b % Go.Sx.M256) i) i) % x4 % Go.Sx.M256 = x3 ∧ True) ∧ ∀ (a_5 : Option Go.Addr) (cap : Nat), (a_5 = Option.none → (8 : Nat) = (0 : Nat) ∧ cap = (0 : Nat)) → (8 : Nat) ≤ cap → (∀ (i : Nat), True) ∧ (∀ (i : Nat), True) ∧ (Go.Sx.dgs (8 : Nat) fun (i : Nat) => Go.Sx.intsC (Go.Sx.SC.val (Go.Value.int Go.IntKind.u64 (Go.Sx.dg (a % Go.Sx.M256) i)))) ∧ (8 : Nat) ≤ (1000 : Nat) ∧ (Go.Sx.dgs (8 : Nat) fun (i : Nat) => Go.Sx.intsC (Go.Sx.SC.val (Go.Value.int Go.IntKind.u64 (Go.Sx.dg (b % Go.Sx.M256) i)))) ∧ (8 : Nat) ≤ (1000 : Nat) ∧ ∀ (a_8 : Option Go.Addr) (cap : Nat), (a_8 = Option.none → (16 : Nat) = (0 : Nat) ∧ cap = (0 : Nat)) → (16 : Nat) ≤ cap → (∀ (i : Nat), True) ∧ (Go.Sx.dgs (16 : Nat) fun (i : Nat) => Go.Sx.intsC (Go.Sx.SC.val (Go.Value.int Go.IntKind.u64 (Go.Sx.dg ((Go.Sx.vn (8 : Nat) fun (i : Nat) => Go.Sx.intsC (Go.Sx.SC.val (Go.Value.int Go.IntKind.u64 (Go.Sx.dg (a % Go.Sx.M256) i)))) * Go.Sx.vn (8 : Nat) fun (i : Nat) => Go.Sx.intsC (Go.Sx.SC.val (Go.Value.int Go.IntKind.u64 (Go.Sx.dg (b % Go.Sx.M256) i)))) i)))) ∧ (16 : Nat) ≤ (1000 : Nat) ∧ x4 ≠ (0 : Nat) ∧ (Go.Sx.vn (16 : Nat) fun (i : Nat) => Go.Sx.dg ((Go.Sx.vn (8 : Nat) fun (i : Nat) => Go.Sx.dg (a % Go.Sx.M256) i) * Go.Sx.vn (8 : Nat) fun (i : Nat) => Go.Sx.dg (b % Go.Sx.M256) i) i) % x4 % Go.Sx.M256 = x3 ∧ True) ∧ ∀ (a_2 : Option Go.Addr) (cap : Nat), (a_2 = Option.none → (8 : Nat) = (0 : Nat) ∧ cap = (0 : Nat)) → (8 : Nat) ≤ cap → ∀ (a_5 : Option Go.Addr) (cap : Nat), (a_5 = Option.none → (8 : Nat) = (0 : Nat) ∧ cap = (0 : Nat)) → (8 : Nat) ≤ cap → (∀ (i : Nat), True) ∧ (∀ (i : Nat), True) ∧ (Go.Sx.dgs (8 : Nat) fun (i : Nat) => Go.Sx.intsC (Go.Sx.SC.val (Go.Value.int Go.IntKind.u64 (Go.Sx.dg (a % Go.Sx.M256) i)))) ∧ (8 : Nat) ≤ (1000 : Nat) ∧ (Go.Sx.dgs (8 : Nat) fun (i : Nat) => Go.Sx.intsC (Go.Sx.SC.val (Go.Value.int Go.IntKind.u64 (Go.Sx.dg (b % Go.Sx.M256) i)))) ∧ (8 : Nat) ≤ (1000 : Nat) ∧ ∀ (a_8 : Option Go.Addr) (cap : Nat), (a_8 = Option.none → (16 : Nat) = (0 : Nat) ∧ cap = (0 : Nat)) → (16 : Nat) ≤ cap → (∀ (i : Nat), True) ∧ (Go.Sx.dgs (16 : Nat) fun (i : Nat) => Go.Sx.intsC (Go.Sx.SC.val (Go.Value.int Go.IntKind.u64 (Go.Sx.dg ((Go.Sx.vn (8 : Nat) fun (i : Nat) => Go.Sx.intsC (Go.Sx.SC.val (Go.Value.int Go.IntKind.u64 (Go.Sx.dg (a % Go.Sx.M256) i)))) * Go.Sx.vn (8 : Nat) fun (i : Nat) => Go.Sx.intsC (Go.Sx.SC.val (Go.Value.int Go.IntKind.u64 (Go.Sx.dg (b % Go.Sx.M256) i)))) i)))) ∧ (16 : Nat) ≤ (1000 : Nat) ∧ x4 ≠ (0 : Nat) ∧ (Go.Sx.vn (16 : Nat) fun (i : Nat) => Go.Sx.dg ((Go.Sx.vn (8 : Nat) fun (i : Nat) => Go.Sx.dg (a % Go.Sx.M256) i) * Go.Sx.vn (8 : Nat) fun (i : Nat) => Go.Sx.dg (b % Go.Sx.M256) i) i) % x4 % Go.Sx.M256 = x3 ∧ True) ∧ (∀ (a_2 : Option Go.Addr) (cap : Nat), (a_2 = Option.none → (8 : Nat) = (0 : Nat) ∧ cap = (0 : Nat)) → (8 : Nat) ≤ cap → ∀ (a_5 : Option Go.Addr) (cap : Nat), (a_5 = Option.none → (8 : Nat) = (0 : Nat) ∧ cap = (0 : Nat)) → (8 : Nat) ≤ cap → (∀ (i : Nat), True) ∧ (∀ (i : Nat), True) ∧ (Go.Sx.dgs (8 : Nat) fun (i : Nat) => Go.Sx.intsC (Go.Sx.SC.val (Go.Value.int Go.IntKind.u64 (Go.Sx.dg (a % Go.Sx.M256) i)))) ∧ (8 : Nat) ≤ (1000 : Nat) ∧ (Go.Sx.dgs (8 : Nat) fun (i : Nat) => Go.Sx.intsC (Go.Sx.SC.val (Go.Value.int Go.IntKind.u64 (Go.Sx.dg (b % Go.Sx.M256) i)))) ∧ (8 : Nat) ≤ (1000 : Nat) ∧ ∀ (a_8 : Option Go.Addr) (cap : Nat), (a_8 = Option.none → (16 : Nat) = (0 : Nat) ∧ cap = (0 : Nat)) → (16 : Nat) ≤ cap → (∀ (i : Nat), True) ∧ (Go.Sx.dgs (16 : Nat) fun (i : Nat) => Go.Sx.intsC (Go.Sx.SC.val (Go.Value.int Go.IntKind.u64 (Go.Sx.dg ((Go.Sx.vn (8 : Nat) fun (i : Nat) => Go.Sx.intsC (Go.Sx.SC.val (Go.Value.int Go.IntKind.u64 (Go.Sx.dg (a % Go.Sx.M256) i)))) * Go.Sx.vn (8 : Nat) fun (i : Nat) => Go.Sx.intsC (Go.Sx.SC.val (Go.Value.int Go.IntKind.u64 (Go.Sx.dg (b % Go.Sx.M256) i)))) i)))) ∧ (16 : Nat) ≤ (1000 : Nat) ∧ x4 ≠ (0 : Nat) ∧ (Go.Sx.vn (16 : Nat) fun (i : Nat) => Go.Sx.dg ((Go.Sx.vn (8 : Nat) fun (i : Nat) => Go.Sx.dg (a % Go.Sx.M256) i) * Go.Sx.vn (8 : Nat) fun (i : Nat) => Go.Sx.dg (b % Go.Sx.M256) i) i) % x4 % Go.Sx.M256 = x3 ∧ True) ∧ ∀ (a_2 : Option Go.Addr) (cap : Nat), (a_2 = Option.none → (8 : Nat) = (0 : Nat) ∧ cap = (0 : Nat)) → (8 : Nat) ≤ cap → ∀ (a_5 : Option Go.Addr) (cap : Nat), (a_5 = Option.none → (8 : Nat) = (0 : Nat) ∧ cap = (0 : Nat)) → (8 : Nat) ≤ cap → (∀ (i : Nat), True) ∧ (∀ (i : Nat), True) ∧ (Go.Sx.dgs (8 : Nat) fun (i : Nat) => Go.Sx.intsC (Go.Sx.SC.val (Go.Value.int Go.IntKind.u64 (Go.Sx.dg (a % Go.Sx.M256) i)))) ∧ (8 : Nat) ≤ (1000 : Nat) ∧ (Go.Sx.dgs (8 : Nat) fun (i : Nat) => Go.Sx.intsC (Go.Sx.SC.val (Go.Value.int Go.IntKind.u64 (Go.Sx.dg (b % Go.Sx.M256) i)))) ∧ (8 : Nat) ≤ (1000 : Nat) ∧ ∀ (a_8 : Option Go.Addr) (cap : Nat), (a_8 = Option.none → (16 : Nat) = (0 : Nat) ∧ cap = (0 : Nat)) → (16 : Nat) ≤ cap → (∀ (i : Nat), True) ∧ (Go.Sx.dgs (16 : Nat) fun (i : Nat) => Go.Sx.intsC (Go.Sx.SC.val (Go.Value.int Go.IntKind.u64 (Go.Sx.dg ((Go.Sx.vn (8 : Nat) fun (i : Nat) => Go.Sx.intsC (Go.Sx.SC.val (Go.Value.int Go.IntKind.u64 (Go.Sx.dg (a % Go.Sx.M256) i)))) * Go.Sx.vn (8 : Nat) fun (i : Nat) => Go.Sx.intsC (Go.Sx.SC.val (Go.Value.int Go.IntKind.u64 (Go.Sx.dg (b % Go.Sx.M256) i)))) i)))) ∧ (16 : Nat) ≤ (1000 : Nat) ∧ x4 ≠ (0 : Nat) ∧ (Go.Sx.vn (16 : Nat) fun (i : Nat) => Go.Sx.dg ((Go.Sx.vn (8 : Nat) fun (i : Nat) => Go.Sx.dg (a % Go.Sx.M256) i) * Go.Sx.vn (8 : Nat) fun (i : Nat) => Go.Sx.dg (b % Go.Sx.M256) i) i) % x4 % Go.Sx.M256 = x3 ∧ True) ∧ (((∀ (a_2 : Option Go.Addr) (cap : Nat), (a_2 = Option.none → (8 : Nat) = (0 : Nat) ∧ cap = (0 : Nat)) → (8 : Nat) ≤ cap → (∀ (a_5 : Option Go.Addr) (cap : Nat), (a_5 = Option.none → (8 : Nat) = (0 : Nat) ∧ cap = (0 : Nat)) → (8 : Nat) ≤ cap → ((∀ (i : Nat), True) ∧ (∀ (i : Nat), True) ∧ (Go.Sx.dgs (8 : Nat) fun (i : Nat) => Go.Sx.intsC (Go.Sx.SC.val (Go.Value.int Go.IntKind.u64 (Go.Sx.dg (a % Go.Sx.M256) i)))) ∧ (8 : Nat) ≤ (1000 : Nat) ∧ (Go.Sx.dgs (8 : Nat) fun (i : Nat) => Go.Sx.intsC (Go.Sx.SC.val (Go.Value.int Go.IntKind.u64 (Go.Sx.dg (b % Go.Sx.M256) i)))) ∧ (8 : Nat) ≤ (1000 : Nat) ∧ ∀ (a_8 : Option Go.Addr) (cap : Nat), (a_8 = Option.none → (16 : Nat) = (0 : Nat) ∧ cap = (0 : Nat)) → (16 : Nat) ≤ cap → (∀ (i : Nat), True) ∧ (Go.Sx.dgs (16 : Nat) fun (i : Nat) => Go.Sx.intsC (Go.Sx.SC.val (Go.Value.int Go.IntKind.u64 (Go.Sx.dg ((Go.Sx.vn (8 : Nat) fun (i : Nat) => Go.Sx.intsC (Go.Sx.SC.val (Go.Value.int Go.IntKind.u64 (Go.Sx.dg (a % Go.Sx.M256) i)))) * Go.Sx.vn (8 : Nat) fun (i : Nat) => Go.Sx.intsC (Go.Sx.SC.val (Go.Value.int Go.IntKind.u64 (Go.Sx.dg (b % Go.Sx.M256) i)))) i)))) ∧ (16 : Nat) ≤ (1000 : Nat) ∧ x4 ≠ (0 : Nat) ∧ (Go.Sx.vn (16 : Nat) fun (i : Nat) => Go.Sx.dg ((Go.Sx.vn (8 : Nat) fun (i : Nat) => Go.Sx.dg (a % Go.Sx.M256) i) * Go.Sx.vn (8 : Nat) fun (i : Nat) => Go.Sx.dg (b % Go.Sx.M256) i) i) % x4 % Go.Sx.M256 = x3 ∧ True) ∧ (∀ (i : Nat), True) ∧ (∀ (i : Nat), True) ∧ (Go.Sx.dgs (8 : Nat) fun (i : Nat) => Go.Sx.intsC (Go.Sx.SC.val (Go.Value.int Go.IntKind.u64 (Go.Sx.dg (a % Go.Sx.M256) i)))) ∧ (8 : Nat) ≤ (1000 : Nat) ∧ (Go.Sx.dgs (8 : Nat) fun (i : Nat) => Go.Sx.intsC (Go.Sx.SC.val (Go.Value.int Go.IntKind.u64 (Go.Sx.dg (b % Go.Sx.M256) i)))) ∧ (8 : Nat) ≤ (1000 : Nat) ∧ ∀ (a_8 : Option Go.Addr) (cap : Nat), (a_8 = Option.none → (16 : Nat) = (0 : Nat) ∧ cap = (0 : Nat)) → (16 : Nat) ≤ cap → (∀ (i : Nat), True) ∧ (Go.Sx.dgs (16 : Nat) fun (i : Nat) => Go.Sx.intsC (Go.Sx.SC.val (Go.Value.int Go.IntKind.u64 (Go.Sx.dg ((Go.Sx.vn (8 : Nat) fun (i : Nat) => Go.Sx.intsC (Go.Sx.SC.val (Go.Value.int Go.IntKind.u64 (Go.Sx.dg (a % Go.Sx.M256) i)))) * Go.Sx.vn (8 : Nat) fun (i : Nat) => Go.Sx.intsC (Go.Sx.SC.val (Go.Value.int Go.IntKind.u64 (Go.Sx.dg (b % Go.Sx.M256) i)))) i)))) ∧ (16 : Nat) ≤ (1000 : Nat) ∧ x4 ≠ (0 : Nat) ∧ (Go.Sx.vn (16 : Nat) fun (i : Nat) => Go.Sx.dg ((Go.Sx.vn (8 : Nat) fun (i : Nat) => Go.Sx.dg (a % Go.Sx.M256) i) * Go.Sx.vn (8 : Nat) fun (i : Nat) => Go.Sx.dg (b % Go.Sx.M256) i) i) % x4 % Go.Sx.M256 = x3 ∧ True) ∧ ∀ (a_5 : Option Go.Addr) (cap : Nat), (a_5 = Option.none → (8 : Nat) = (0 : Nat) ∧ cap = (0 : Nat)) → (8 : Nat) ≤ cap → (∀ (i : Nat), True) ∧ (∀ (i : Nat), True) ∧ (Go.Sx.dgs (8 : Nat) fun (i : Nat) => Go.Sx.intsC (Go.Sx.SC.val (Go.Value.int Go.IntKind.u64 (Go.Sx.dg (a % Go.Sx.M256) i)))) ∧ (8 : Nat) ≤ (1000 : Nat) ∧ (Go.Sx.dgs (8 : Nat) fun (i : Nat) => Go.Sx.intsC (Go.Sx.SC.val (Go.Value.int Go.IntKind.u64 (Go.Sx.dg (b % Go.Sx.M256) i)))) ∧ (8 : Nat) ≤ (1000 : Nat) ∧ ∀ (a_8 : Option Go.Addr) (cap : Nat), (a_8 = Option.none → (16 : Nat) = (0 : Nat) ∧ cap = (0 : Nat)) → (16 : Nat) ≤ cap → (∀ (i : Nat), True) ∧ (Go.Sx.dgs (16 : Nat) fun (i : Nat) => Go.Sx.intsC (Go.Sx.SC.val (Go.Value.int Go.IntKind.u64 (Go.Sx.dg ((Go.Sx.vn (8 : Nat) fun (i : Nat) => Go.Sx.intsC (Go.Sx.SC.val (Go.Value.int Go.IntKind.u64 (Go.Sx.dg (a % Go.Sx.M256) i)))) * Go.Sx.vn (8 : Nat) fun (i : Nat) => Go.Sx.intsC (Go.Sx.SC.val (Go.Value.int Go.IntKind.u64 (Go.Sx.dg (b % Go.Sx.M256) i)))) i)))) ∧ (16 : Nat) ≤ (1000 : Nat) ∧ x4 ≠ (0 : Nat) ∧ (Go.Sx.vn (16 : Nat) fun (i : Nat) => Go.Sx.dg ((Go.Sx.vn (8 : Nat) fun (i : Nat) => Go.Sx.dg (a % Go.Sx.M256) i) * Go.Sx.vn (8 : Nat) fun (i : Nat) => Go.Sx.dg (b % Go.Sx.M256) i) i) % x4 % Go.Sx.M256 = x3 ∧ True) ∧ ∀ (a_2 : Option Go.Addr) (cap : Nat), (a_2 = Option.none → (8 : Nat) = (0 : Nat) ∧ cap = (0 : Nat)) → (8 : Nat) ≤ cap → ∀ (a_5 : Option Go.Addr) (cap : Nat), (a_5 = Option.none → (8 : Nat) = (0 : Nat) ∧ cap = (0 : Nat)) → (8 : Nat) ≤ cap → (∀ (i : Nat), True) ∧ (∀ (i : Nat), True) ∧ (Go.Sx.dgs (8 : Nat) fun (i : Nat) => Go.Sx.intsC (Go.Sx.SC.val (Go.Value.int Go.IntKind.u64 (Go.Sx.dg (a % Go.Sx.M256) i)))) ∧ (8 : Nat) ≤ (1000 : Nat) ∧ (Go.Sx.dgs (8 : Nat) fun (i : Nat) => Go.Sx.intsC (Go.Sx.SC.val (Go.Value.int Go.IntKind.u64 (Go.Sx.dg (b % Go.Sx.M256) i)))) ∧ (8 : Nat) ≤ (1000 : Nat) ∧ ∀ (a_8 : Option Go.Addr) (cap : Nat), (a_8 = Option.none → (16 : Nat) = (0 : Nat) ∧ cap = (0 : Nat)) → (16 : Nat) ≤ cap → (∀ (i : Nat), True) ∧ (Go.Sx.dgs (16 : Nat) fun (i : Nat) => Go.Sx.intsC (Go.Sx.SC.val (Go.Value.int Go.IntKind.u64 (Go.Sx.dg ((Go.Sx.vn (8 : Nat) fun (i : Nat) => Go.Sx.intsC (Go.Sx.SC.val (Go.Value.int Go.IntKind.u64 (Go.Sx.dg (a % Go.Sx.M256) i)))) * Go.Sx.vn (8 : Nat) fun (i : Nat) => Go.Sx.intsC (Go.Sx.SC.val (Go.Value.int Go.IntKind.u64 (Go.Sx.dg (b % Go.Sx.M256) i)))) i)))) ∧ (16 : Nat) ≤ (1000 : Nat) ∧ x4 ≠ (0 : Nat) ∧ (Go.Sx.vn (16 : Nat) fun (i : Nat) => Go.Sx.dg ((Go.Sx.vn (8 : Nat) fun (i : Nat) => Go.Sx.dg (a % Go.Sx.M256) i) * Go.Sx.vn (8 : Nat) fun (i : Nat) => Go.Sx.dg (b % Go.Sx.M256) i) i) % x4 % Go.Sx.M256 = x3 ∧ True) ∧ ∀ (a_2 : Option Go.Addr) (cap : Nat), (a_2 = Option.none → (8 : Nat) = (0 : Nat) ∧ cap = (0 : Nat)) → (8 : Nat) ≤ cap → ∀ (a_5 : Option Go.Addr) (cap : Nat), (a_5 = Option.none → (8 : Nat) = (0 : Nat) ∧ cap = (0 : Nat)) → (8 : Nat) ≤ cap → (∀ (i : Nat), True) ∧ (∀ (i : Nat), True) ∧ (Go.Sx.dgs (8 : Nat) fun (i : Nat) => Go.Sx.intsC (Go.Sx.SC.val (Go.Value.int Go.IntKind.u64 (Go.Sx.dg (a % Go.Sx.M256) i)))) ∧ (8 : Nat) ≤ (1000 : Nat) ∧ (Go.Sx.dgs (8 : Nat) fun (i : Nat) => Go.Sx.intsC (Go.Sx.SC.val (Go.Value.int Go.IntKind.u64 (Go.Sx.dg (b % Go.Sx.M256) i)))) ∧ (8 : Nat) ≤ (1000 : Nat) ∧ ∀ (a_8 : Option Go.Addr) (cap : Nat), (a_8 = Option.none → (16 : Nat) = (0 : Nat) ∧ cap = (0 : Nat)) → (16 : Nat) ≤ cap → (∀ (i : Nat), True) ∧ (Go.Sx.dgs (16 : Nat) fun (i : Nat) => Go.Sx.intsC (Go.Sx.SC.val (Go.Value.int Go.IntKind.u64 (Go.Sx.dg ((Go.Sx.vn (8 : Nat) fun (i : Nat) => Go.Sx.intsC (Go.Sx.SC.val (Go.Value.int Go.IntKind.u64 (Go.Sx.dg (a % Go.Sx.M256) i)))) * Go.Sx.vn (8 : Nat) fun (i : Nat) => Go.Sx.intsC (Go.Sx.SC.val (Go.Value.int Go.IntKind.u64 (Go.Sx.dg (b % Go.Sx.M256) i)))) i)))) ∧ (16 : Nat) ≤ (1000 : Nat) ∧ x4 ≠ (0 : Nat) ∧ (Go.Sx.vn (16 : Nat) fun (i : Nat) => Go.Sx.dg ((Go.Sx.vn (8 : Nat) fun (i : Nat) => Go.Sx.dg (a % Go.Sx.M256) i) * Go.Sx.vn (8 : Nat) fun (i : Nat) => Go.Sx.dg (b % Go.Sx.M256) i) i) % x4 % Go.Sx.M256 = x3 ∧ True) ∧ ((∀ (a_2 : Option Go.Addr) (cap : Nat), (a_2 = Option.none → (8 : Nat) = (0 : Nat) ∧ cap = (0 : Nat)) → (8 : Nat) ≤ cap → ∀ (a_5 : Option Go.Addr) (cap : Nat), (a_5 = Option.none → (8 : Nat) = (0 : Nat) ∧ cap = (0 : Nat)) → (8 : Nat) ≤ cap → (∀ (i : Nat), True) ∧ (∀ (i : Nat), True) ∧ (Go.Sx.dgs (8 : Nat) fun (i : Nat) => Go.Sx.intsC (Go.Sx.SC.val (Go.Value.int Go.IntKind.u64 (Go.Sx.dg (a % Go.Sx.M256) i)))) ∧ (8 : Nat) ≤ (1000 : Nat) ∧ (Go.Sx.dgs (8 : Nat) fun (i : Nat) => Go.Sx.intsC (Go.Sx.SC.val (Go.Value.int Go.IntKind.u64 (Go.Sx.dg (b % Go.Sx.M256) i)))) ∧ (8 : Nat) ≤ (1000 : Nat) ∧ ∀ (a_8 : Option Go.Addr) (cap : Nat), (a_8 = Option.none → (16 : Nat) = (0 : Nat) ∧ cap = (0 : Nat)) → (16 : Nat) ≤ cap → (∀ (i : Nat), True) ∧ (Go.Sx.dgs (16 : Nat) fun (i : Nat) => Go.Sx.intsC (Go.Sx.SC.val (Go.Value.int Go.IntKind.u64 (Go.Sx.dg ((Go.Sx.vn (8 : Nat) fun (i : Nat) => Go.Sx.intsC (Go.Sx.SC.val (Go.Value.int Go.IntKind.u64 (Go.Sx.dg (a % Go.Sx.M256) i)))) * Go.Sx.vn (8 : Nat) fun (i : Nat) => Go.Sx.intsC (Go.Sx.SC.val (Go.Value.int Go.IntKind.u64 (Go.Sx.dg (b % Go.Sx.M256) i)))) i)))) ∧ (16 : Nat) ≤ (1000 : Nat) ∧ x4 ≠ (0 : Nat) ∧ (Go.Sx.vn (16 : Nat) fun (i : Nat) => Go.Sx.dg ((Go.Sx.vn (8 : Nat) fun (i : Nat) => Go.Sx.dg (a % Go.Sx.M256) i) * Go.Sx.vn (8 : Nat) fun (i : Nat) => Go.Sx.dg (b % Go.Sx.M256) i) i) % x4 % Go.Sx.M256 = x3 ∧ True) ∧ ∀ (a_2 : Option Go.Addr) (cap : Nat), (a_2 = Option.none → (8 : Nat) = (0 : Nat) ∧ cap = (0 : Nat)) → (8 : Nat) ≤ cap → ∀ (a_5 : Option Go.Addr) (cap : Nat), (a_5 = Option.none → (8 : Nat) = (0 : Nat) ∧ cap = (0 : Nat)) → (8 : Nat) ≤ cap → (∀ (i : Nat), True) ∧ (∀ (i : Nat), True) ∧ (Go.Sx.dgs (8 : Nat) fun (i : Nat) => Go.Sx.intsC (Go.Sx.SC.val (Go.Value.int Go.IntKind.u64 (Go.Sx.dg (a % Go.Sx.M256) i)))) ∧ (8 : Nat) ≤ (1000 : Nat) ∧ (Go.Sx.dgs (8 : Nat) fun (i : Nat) => Go.Sx.intsC (Go.Sx.SC.val (Go.Value.int Go.IntKind.u64 (Go.Sx.dg (b % Go.Sx.M256) i)))) ∧ (8 : Nat) ≤ (1000 : Nat) ∧ ∀ (a_8 : Option Go.Addr) (cap : Nat), (a_8 = Option.none → (16 : Nat) = (0 : Nat) ∧ cap = (0 : Nat)) → (16 : Nat) ≤ cap → (∀ (i : Nat), True) ∧ (Go.Sx.dgs (16 : Nat) fun (i : Nat) => Go.Sx.intsC (Go.Sx.SC.val (Go.Value.int Go.IntKind.u64 (Go.Sx.dg ((Go.Sx.vn (8 : Nat) fun (i : Nat) => Go.Sx.intsC (Go.Sx.SC.val (Go.Value.int Go.IntKind.u64 (Go.Sx.dg (a % Go.Sx.M256) i)))) * Go.Sx.vn (8 : Nat) fun (i : Nat) => Go.Sx.intsC (Go.Sx.SC.val (Go.Value.int Go.IntKind.u64 (Go.Sx.dg (b % Go.Sx.M256) i)))) i)))) ∧ (16 : Nat) ≤ (1000 : Nat) ∧ x4 ≠ (0 : Nat) ∧ (Go.Sx.vn (16 : Nat) fun (i : Nat) => Go.Sx.dg ((Go.Sx.vn (8 : Nat) fun (i : Nat) => Go.Sx.dg (a % Go.Sx.M256) i) * Go.Sx.vn (8 : Nat) fun (i : Nat) => Go.Sx.dg (b % Go.Sx.M256) i) i) % x4 % Go.Sx.M256 = x3 ∧ True) ∧ ∀ (a_2 : Option Go.Addr) (cap : Nat), (a_2 = Option.none → (8 : Nat) = (0 : Nat) ∧ cap = (0 : Nat)) → (8 : Nat) ≤ cap → ∀ (a_5 : Option Go.Addr) (cap : Nat), (a_5 = Option.none → (8 : Nat) = (0 : Nat) ∧ cap = (0 : Nat)) → (8 : Nat) ≤ cap → (∀ (i : Nat), True) ∧ (∀ (i : Nat), True) ∧ (Go.Sx.dgs (8 : Nat) fun (i : Nat) => Go.Sx.intsC (Go.Sx.SC.val (Go.Value.int Go.IntKind.u64 (Go.Sx.dg (a % Go.Sx.M256) i)))) ∧ (8 : Nat) ≤ (1000 : Nat) ∧ (Go.Sx.dgs (8 : Nat) fun (i : Nat) => Go.Sx.intsC (Go.Sx.SC.val (Go.Value.int Go.IntKind.u64 (Go.Sx.dg (b % Go.Sx.M256) i)))) ∧ (8 : Nat) ≤ (1000 : Nat) ∧ ∀ (a_8 : Option Go.Addr) (cap : Nat), (a_8 = Option.none → (16 : Nat) = (0 : Nat) ∧ cap = (0 : Nat)) → (16 : Nat) ≤ cap → (∀ (i : Nat), True) ∧ (Go.Sx.dgs (16 : Nat) fun (i : Nat) => Go.Sx.intsC (Go.Sx.SC.val (Go.Value.int Go.IntKind.u64 (Go.Sx.dg ((Go.Sx.vn (8 : Nat) fun (i : Nat) => Go.Sx.intsC (Go.Sx.SC.val (Go.Value.int Go.IntKind.u64 (Go.Sx.dg (a % Go.Sx.M256) i)))) * Go.Sx.vn (8 : Nat) fun (i : Nat) => Go.Sx.intsC (Go.Sx.SC.val (Go.Value.int Go.IntKind.u64 (Go.Sx.dg (b % Go.Sx.M256) i)))) i)))) ∧ (16 : Nat) ≤ (1000 : Nat) ∧ x4 ≠ (0 : Nat) ∧ (Go.Sx.vn (16 : Nat) fun (i : Nat) => Go.Sx.dg ((Go.Sx.vn (8 : Nat) fun (i : Nat) => Go.Sx.dg (a % Go.Sx.M256) i) * Go.Sx.vn (8 : Nat) fun (i : Nat) => Go.Sx.dg (b % Go.Sx.M256) i) i) % x4 % Go.Sx.M256 = x3 ∧ True)) := by kernel_rfl
-- END VC
end Go.Proofs.Ytbjdchpncbgpnaa
end

section
/-
  The reference's wide numbers, and those by a modulus.
-/
namespace Go.Proofs.Ytbjdchpncbgpnaa
open Go Go.Sx Go.RowKit

theorem vn8 {X : Nat} (h : X < M256) : vn 8 (fun i => dg X i) = X := vn_dg' (n := 8) h
theorem vnk {k X : Nat} (h : X < 4294967296 ^ k) : vn k (fun i => dg X i) = X := vn_dg' h
theorem modM (a : Nat) : a % M256 < M256 := Nat.mod_lt _ (by decide)
theorem M16 : (4294967296 : Nat) ^ 16 = M256 * M256 := rfl

theorem ok_refOrd (a b : Nat) : OwesV Try.prog .none slAll [] 4 Try.f78 [sU a, sU b] (ordG a b) := by
  rw [vc_refOrd]
  intro x1 x2
  have h1 : x1 < M256 := modM a
  have h2 : x2 < M256 := modM b
  have T : ∀ i : Nat, True := fun _ => trivial
  have key : cmpI (vn 8 fun i => dg x1 i) (vn 8 fun i => dg x2 i) = cmpI x1 x2 := by rw [vn8 h1, vn8 h2]
  clear_value x1 x2
  repeat' (first | exact T | exact key | exact dgs_dg _ _ | exact (show (8 : Nat) ≤ 1000 by decide) | (intro _ _ _ _) | (refine And.intro ?_ ?_))
theorem cmpI_ge {A R : Nat} : cmpI A R ≥ 0 ↔ R ≤ A := by
  unfold cmpI
  by_cases h : A < R
  · rw [if_pos h]; omega
  · rw [if_neg h]
    by_cases k : R < A
    · rw [if_pos k]; omega
    · rw [if_neg k]; omega
end Go.Proofs.Ytbjdchpncbgpnaa
end

section
/-
  The reference's quotients, and numbers by a modulus.
-/
namespace Go.Proofs.Ytbjdchpncbgpnaa
open Go Go.Sx Go.RowKit

theorem remL_lt {X Y n : Nat} (hX : X < 4294967296 ^ n) (hY : 0 < Y) : X % Y < 4294967296 ^ remL X Y n := by
  unfold remL
  have hm := Nat.mod_lt X hY
  by_cases h : Y < 4294967296
  · rw [if_pos h]; omega
  · rw [if_neg h]
    by_cases h0 : n = 0
    · subst h0
      rw [if_pos rfl]
      have : X = 0 := by simpa using hX
      subst this
      rw [Nat.zero_mod]; decide
    · rw [if_neg h0]
      obtain ⟨_, e⟩ := quo_digit (X := X) (k := 0) hY
      rw [Nat.pow_zero, Nat.div_one, Nat.zero_add, Nat.pow_one] at e
      have hr := dg_range X 0
      have hl := lenDg_lt (X / 4294967296 % Y)
      rw [e, Nat.add_comm 1, Nat.pow_succ]
      refine Nat.lt_of_le_of_lt (Nat.mod_le _ _) ?_
      have : (X / 4294967296 % Y + 1) * 4294967296 ≤ 4294967296 ^ lenDg (X / 4294967296 % Y) * 4294967296 := Nat.mul_le_mul_right _ hl
      omega
theorem remL_le {X Y n : Nat} (hY : 0 < Y) (hYM : Y < M256) : remL X Y n ≤ 9 := by
  unfold remL
  split
  · decide
  · split
    · decide
    · have : lenDg (X / 4294967296 % Y) ≤ 8 := lenDg_le (Nat.lt_trans (Nat.mod_lt _ hY) hYM)
      omega
theorem eq0_conj {x : Nat} : conj [x == 0] = (x == 0) := by simp [conj]
theorem ok_refRest (a : Option Addr) (n c : Nat) (f : Nat → Int) (m : Nat) (hf : dgs n f) (hn : n ≤ 1000) (hm : m % M256 ≠ 0) : OwesR Try.prog .none slAll [] 4 Try.f79 [xsI a n c .u64 f, sU m] false (restUR n f m) := by
  rw [vc_refRest]
  intro x1 x2 x3 x4 x5
  have hb : x1 < M256 := modM m
  have E2 : x2 = x1 := vn8 hb
  have E3 : x3 = remL (vn n f) x2 n := rfl
  have T : ∀ i : Nat, True := fun _ => trivial
  have hx : x1 ≠ 0 := hm
  have K1 : x2 ≠ 0 := by rw [E2]; exact hx
  have K2 : x3 ≤ 1000 := by
    have := remL_le (X := vn n f) (n := n) (show 0 < x2 by omega) (by omega)
    omega
  have F : (vn x3 fun i => dg ((vn n fun i => f i) % x2) i) % M256 % M256 = vn n f % x1 % M256 ∧ True := by
    rw [E3, show (fun i => f i) = f from rfl, vnk (remL_lt (vn_lt hf) (by omega)), E2, Nat.mod_mod]
    exact ⟨rfl, trivial⟩
  clear E2 E3
  clear_value x1 x2 x3 x4 x5
  repeat' (first | exact T | exact K1 | exact K2 | exact F | exact hf | exact hn | exact dgs_dg _ _ | exact (show (8 : Nat) ≤ 1000 by decide) | exact (show (8 : Nat) ≤ 900 by decide) | (intro _ _ _ _) | (refine And.intro ?_ ?_) | (intro _))
theorem card_refRest : FnOKs Try.prog [] 79 (specDU restUC restUR) :=
  FnOKs_DU (iv := fun _ _ _ _ _ => []) cx_none sl_all Try.func79 (by kernel_rfl) (by kernel_rfl) (fun _ _ _ x hx => by simp only [restUR, List.mem_singleton] at hx; subst hx; exact bnd_Un _) fun a n c f m ⟨h1, h2, h3, _⟩ => ok_refRest a n c f m h1 h2 h3
theorem sl_rest : ∀ p ∈ slRest, FnOKs Try.prog [] p.1 p.2 := fun p hp => by
  rcases List.mem_cons.1 hp with rfl | hp
  · exact card_refRest
  · exact sl_all p hp
end Go.Proofs.Ytbjdchpncbgpnaa
end

section
/-
  The reference's numbers by a modulus: sums, differences and products.
-/
namespace Go.Proofs.Ytbjdchpncbgpnaa
open Go Go.Sx Go.RowKit

theorem or_zero {a b c : Int} (ha : 0 ≤ a ∧ a < 18446744073709551616) (hb : 0 ≤ b ∧ b < 18446744073709551616) (hc : 0 ≤ c ∧ c < 18446744073709551616)
    (h : (IntKind.u64.wrap (↑(BitVec.ofInt 64 (IntKind.u64.wrap (↑(BitVec.ofInt 64 a ||| BitVec.ofInt 64 b).toNat)) ||| BitVec.ofInt 64 c).toNat) == 0) = true) : a = 0 ∧ b = 0 ∧ c = 0 := by
  have h := eq_of_beq h
  have l : ∀ x : BitVec 64, IntKind.u64.wrap (x.toNat : Int) = (x.toNat : Int) := fun x => wrap64 ⟨Int.natCast_nonneg _, by have := x.isLt; omega⟩
  have e : ∀ x : BitVec 64, BitVec.ofInt 64 (x.toNat : Int) = x := fun x => by
    apply BitVec.eq_of_toNat_eq
    rw [BitVec.toNat_ofInt]
    have := x.isLt
    omega
  rw [l, l, e] at h
  have h : (BitVec.ofInt 64 a ||| BitVec.ofInt 64 b) ||| BitVec.ofInt 64 c = 0#64 := by
    apply BitVec.eq_of_toNat_eq
    show _ = 0
    omega
  rw [BitVec.or_eq_zero_iff, BitVec.or_eq_zero_iff] at h
  have z : ∀ y : Int, 0 ≤ y ∧ y < 18446744073709551616 → BitVec.ofInt 64 y = 0#64 → y = 0 := fun y hy h => by
    have := congrArg BitVec.toNat h
    rw [BitVec.toNat_ofInt] at this
    simp at this
    omega
  exact ⟨z a ha h.1.1, z b hb h.1.2, z c hc h.2⟩
theorem limb_range (a i : Nat) : 0 ≤ limb a i ∧ limb a i < 18446744073709551616 := ⟨limb_nonneg a i, limb_lt a i⟩
theorem small_modD {m : Nat} (h1 : limb m 1 = 0) (h2 : limb m 2 = 0) (h3 : limb m 3 = 0) : ((m % M256 : Nat) : Int) = limb m 0 := by
  have := join_limbs m
  rw [h1, h2, h3] at this
  unfold join at this
  have r := limb_range m 0
  omega
theorem small_limb {a : Nat} (h : a % M256 < 18446744073709551616) : limb a 0 = ((a % M256 : Nat) : Int) := by
  have := join_limbs a
  unfold join at this
  have r0 := limb_range a 0
  have r1 := limb_range a 1
  have r2 := limb_range a 2
  have r3 := limb_range a 3
  omega
theorem ok_refPro (a b m : Nat) (hm : m % M256 ≠ 0) (ha : a % M256 < m % M256) (hb : b % M256 < m % M256) : OwesV Try.prog .none slRest [] 4 Try.f61 [sU a, sU b, sU m] (proG a b m) := by
  unfold proG
  rw [vc_refPro]
  intro x1 x2 x3 x4
  have h1 := modM a
  have h2 := modM b
  have E3 : x3 = a % M256 * (b % M256) % (m % M256) % M256 := rfl
  have E4 : x4 = m % M256 := rfl
  have E1 : x1 = (IntKind.u64.wrap (↑(BitVec.ofInt 64 (IntKind.u64.wrap (↑(BitVec.ofInt 64 (limb m 1) ||| BitVec.ofInt 64 (limb m 2)).toNat)) ||| BitVec.ofInt 64 (limb m 3)).toNat) == 0) := rfl
  have E2 : x2 = (IntKind.u64.wrap (limb a 0 * limb b 0)).tmod (limb m 0) := rfl
  have T : ∀ i : Nat, True := fun _ => trivial
  have K : x4 ≠ 0 := hm
  have Z : (0 : Int) ≤ 0 ∧ (0 : Int) < 18446744073709551616 := by decide
  have F : (vn 16 fun i => dg ((vn 8 fun i => dg (a % M256) i) * vn 8 fun i => dg (b % M256) i) i) % x4 % M256 = x3 ∧ True := by
    rw [vn8 h1, vn8 h2, vnk (by rw [M16]; exact Nat.lt_of_le_of_lt (Nat.mul_le_mul (Nat.le_of_lt h1) (Nat.le_refl _)) (Nat.mul_lt_mul_of_pos_left h2 (by decide))), E3, E4]
    exact ⟨rfl, trivial⟩
  have S : (x1 && decide (limb m 0 < 4294967296)) = true → limb m 0 ≠ 0 ∧ (0 ≤ x2 ∧ x2 < 18446744073709551616) ∧ join x2 0 0 0 % M256 = x3 ∧ True := fun h => by
    rw [Bool.and_eq_true] at h
    obtain ⟨e1, e2⟩ := h
    rw [E1] at e1
    have e2 := of_decide_eq_true e2
    obtain ⟨z1, z2, z3⟩ := or_zero (limb_range m 1) (limb_range m 2) (limb_range m 3) e1
    have em := small_modD z1 z2 z3
    have hA : a % M256 < 4294967296 := by omega
    have hB : b % M256 < 4294967296 := by omega
    have eA := small_limb (a := a) (by omega)
    have eB := small_limb (a := b) (by omega)
    have hp : a % M256 * (b % M256) < 18446744073709551616 := Nat.lt_of_le_of_lt (Nat.mul_le_mul (show a % M256 ≤ 4294967295 by omega) (show b % M256 ≤ 4294967295 by omega)) (by decide)
    have e3 : x2 = ((a % M256 * (b % M256) % (m % M256) : Nat) : Int) := by
      rw [E2, eA, eB, ← em, ← Int.natCast_mul, wrap64 ⟨Int.natCast_nonneg _, by omega⟩, Int.tmod_eq_emod_of_nonneg (Int.natCast_nonneg _)]
      exact (Int.natCast_emod _ _).symm
    have hlt : a % M256 * (b % M256) % (m % M256) < m % M256 := Nat.mod_lt _ (by omega)
    refine ⟨by omega, by omega, ?_, trivial⟩
    rw [E3]
    have : join x2 0 0 0 = a % M256 * (b % M256) % (m % M256) := by
      unfold join
      rw [e3, Int.toNat_natCast]
      rfl
    rw [this]
  clear E1 E2 E3 E4 ha hb h1 h2
  clear_value x1 x2 x3 x4
  refine ⟨id, id, id, fun h => ⟨(S h).1, (S h).2.1, Z, Z, Z, (S h).2.2⟩, fun _ => ?_⟩
  repeat' (first | exact T | exact K | exact F | exact dgs_dg _ _ | exact (show (8 : Nat) ≤ 1000 by decide) | exact (show (16 : Nat) ≤ 1000 by decide) | (intro _ _ _ _) | (refine And.intro ?_ ?_))
theorem card_refOrd : FnOK Try.prog 78 (specUU ordG) :=
  FnOKV_UU (iv := fun _ _ => []) cx_none sl_all Try.func78 (by kernel_rfl) (by kernel_rfl) (fun a b => trivial) ok_refOrd
theorem card_refPro : FnOK Try.prog 61 (specUUU proC proG) :=
  FnOKV_UUU (iv := fun _ _ _ => []) cx_none sl_rest Try.func61 (by kernel_rfl) (by kernel_rfl) (fun _ _ _ => bnd_Un _) fun a b m ⟨h1, h2, h3, _⟩ => ok_refPro a b m h1 h2 h3
end Go.Proofs.Ytbjdchpncbgpnaa
end

section
/-
  What the functions of package wide, and of the laws on it, come to: reckoned by the kernel. (Laid by program.)
-/
namespace Go.Proofs.Ytbjdchpncbgpnaa
open Go.Sx
set_option maxRecDepth 100000
def cxPlus : Cx := [(68, specAdd64)]
def cxAdd : Cx := [(37, specUU plusG)]
-- VC vc_plus HASH 178c7781736d42d5
theorem vc_plus (a b : Nat) :
    Owes Try.prog cxPlus [] 100 Try.f37 [sU a, sU b] (plusG a b) =
    ((0 : Int) ≤ Go.Sx.limb a (0 : Nat) ∧ (0 : Int) ≤ Go.Sx.limb b (0 : Nat) ∧ ((0 : Int) ≤ (0 : Int) ∧ (0 : Int) ≤ (1 : Int)) ∧ (0 : Int) ≤ Go.Sx.limb a (1 : Nat) ∧ (0 : Int) ≤ Go.Sx.limb b (1 : Nat) ∧ ((0 : Int) ≤ (Go.Sx.limb a (0 : Nat) + Go.Sx.limb b (0 : Nat) + (0 : Int)) / (18446744073709551616 : Int) ∧ (Go.Sx.limb a (0 : Nat) + Go.Sx.limb b (0 : Nat) + (0 : Int)) / (18446744073709551616 : Int) ≤ (1 : Int)) ∧ (0 : Int) ≤ Go.Sx.limb a (2 : Nat) ∧ (0 : Int) ≤ Go.Sx.limb b (2 : Nat) ∧ ((0 : Int) ≤ (Go.Sx.limb a (1 : Nat) + Go.Sx.limb b (1 : Nat) + (Go.Sx.limb a (0 : Nat) + Go.Sx.limb b (0 : Nat) + (0 : Int)) / (18446744073709551616 : Int)) / (18446744073709551616 : Int) ∧ (Go.Sx.limb a (1 : Nat) + Go.Sx.limb b (1 : Nat) + (Go.Sx.limb a (0 : Nat) + Go.Sx.limb b (0 : Nat) + (0 : Int)) / (18446744073709551616 : Int)) / (18446744073709551616 : Int) ≤ (1 : Int)) ∧ (0 : Int) ≤ Go.Sx.limb a (3 : Nat) ∧ (0 : Int) ≤ Go.Sx.limb b (3 : Nat) ∧ ((0 : Int) ≤ (Go.Sx.limb a (2 : Nat) + Go.Sx.limb b (2 : Nat) + (Go.Sx.limb a (1 : Nat) + Go.Sx.limb b (1 : Nat) + (Go.Sx.limb a (0 : Nat) + Go.Sx.limb b (0 : Nat) + (0 : Int)) / (18446744073709551616 : Int)) / (18446744073709551616 : Int)) / (18446744073709551616 : Int) ∧ (Go.Sx.limb a (2 : Nat) + Go.Sx.limb b (2 : Nat) + (Go.Sx.limb a (1 : Nat) + Go.Sx.limb b (1 : Nat) + (Go.Sx.limb a (0 : Nat) + Go.Sx.limb b (0 : Nat) + (0 : Int)) / (18446744073709551616 : Int)) / (18446744073709551616 : Int)) / (18446744073709551616 : Int) ≤ (1 : Int)) ∧ (((0 : Int) ≤ (Go.Sx.limb a (0 : Nat) + Go.Sx.limb b (0 : Nat) + (0 : Int)) % (18446744073709551616 : Int) ∧ (Go.Sx.limb a (0 : Nat) + Go.Sx.limb b (0 : Nat) + (0 : Int)) % (18446744073709551616 : Int) < (2 : Int) ^ (64 : Nat)) ∧ ((0 : Int) ≤ (Go.Sx.limb a (1 : Nat) + Go.Sx.limb b (1 : Nat) + (Go.Sx.limb a (0 : Nat) + Go.Sx.limb b (0 : Nat) + (0 : Int)) / (18446744073709551616 : Int)) % (18446744073709551616 : Int) ∧ (Go.Sx.limb a (1 : Nat) + Go.Sx.limb b (1 : Nat) + (Go.Sx.limb a (0 : Nat) + Go.Sx.limb b (0 : Nat) + (0 : Int)) / (18446744073709551616 : Int)) % (18446744073709551616 : Int) < (2 : Int) ^ (64 : Nat)) ∧ ((0 : Int) ≤ (Go.Sx.limb a (2 : Nat) + Go.Sx.limb b (2 : Nat) + (Go.Sx.limb a (1 : Nat) + Go.Sx.limb b (1 : Nat) + (Go.Sx.limb a (0 : Nat) + Go.Sx.limb b (0 : Nat) + (0 : Int)) / (18446744073709551616 : Int)) / (18446744073709551616 : Int)) % (18446744073709551616 : Int) ∧ (Go.Sx.limb a (2 : Nat) + Go.Sx.limb b (2 : Nat) + (Go.Sx.limb a (1 : Nat) + Go.Sx.limb b (1 : Nat) + (Go.Sx.limb a (0 : Nat) + Go.Sx.limb b (0 : Nat) + (0 : Int)) / (18446744073709551616 : Int)) / (18446744073709551616 : Int)) % (18446744073709551616 : Int) < (2 : Int) ^ (64 : Nat)) ∧ ((0 : Int) ≤ (Go.Sx.limb a (3 : Nat) + Go.Sx.limb b (3 : Nat) + (Go.Sx.limb a (2 : Nat) + Go.Sx.limb b (2 : Nat) + (Go.Sx.limb a (1 : Nat) + Go.Sx.limb b (1 : Nat) + (Go.Sx.limb a (0 : Nat) + Go.Sx.limb b (0 : Nat) + (0 : Int)) / (18446744073709551616 : Int)) / (18446744073709551616 : Int)) / (18446744073709551616 : Int)) % (18446744073709551616 : Int) ∧ (Go.Sx.limb a (3 : Nat) + Go.Sx.limb b (3 : Nat) + (Go.Sx.limb a (2 : Nat) + Go.Sx.limb b (2 : Nat) + (Go.Sx.limb a (1 : Nat) + Go.Sx.limb b (1 : Nat) + (Go.Sx.limb a (0 : Nat) + Go.Sx.limb b (0 : Nat) + (0 : Int)) / (18446744073709551616 : Int)) / (18446744073709551616 : Int)) / (18446744073709551616 : Int)) % (18446744073709551616 : Int) < (2 : Int) ^ (64 : Nat)) ∧ Go.Sx.join ((Go.Sx.limb a (0 : Nat) + Go.Sx.limb b (0 : Nat) + (0 : Int)) % (18446744073709551616 : Int)) ((Go.Sx.limb a (1 : Nat) + Go.Sx.limb b (1 : Nat) + (Go.Sx.limb a (0 : Nat) + Go.Sx.limb b (0 : Nat) + (0 : Int)) / (18446744073709551616 : Int)) % (18446744073709551616 : Int)) ((Go.Sx.limb a (2 : Nat) + Go.Sx.limb b (2 : Nat) + (Go.Sx.limb a (1 : Nat) + Go.Sx.limb b (1 : Nat) + (Go.Sx.limb a (0 : Nat) + Go.Sx.limb b (0 : Nat) + (0 : Int)) / (18446744073709551616 : Int)) / (18446744073709551616 : Int)) % (18446744073709551616 : Int)) ((Go.Sx.limb a (3 : Nat) + Go.Sx.limb b (3 : Nat) + (Go.Sx.limb a (2 : Nat) + Go.Sx.limb b (2 : Nat) + (Go.Sx.limb a (1 : Nat) + Go.Sx.limb b (1 : Nat) + (Go.Sx.limb a (0 : Nat) + Go.Sx.limb b (0 : Nat) + (0 : Int)) / (18446744073709551616 : Int)) / (18446744073709551616 : Int)) / (18446744073709551616 : Int)) % (18446744073709551616 : Int)) % Go.Sx.M256 = (a + b) % Go.Sx.M256 ∧ True) ∧ (Go.Sx.limb a (3 : Nat) + Go.Sx.limb b (3 : Nat) + (Go.Sx.limb a (2 : Nat) + Go.Sx.limb b (2 : Nat) + (Go.Sx.limb a (1 : Nat) + Go.Sx.limb b (1 : Nat) + (Go.Sx.limb a (0 : Nat) + Go.Sx.limb b (0 : Nat) + (0 : Int)) / (18446744073709551616 : Int)) / (18446744073709551616 : Int)) / (18446744073709551616 : Int)) / (18446744073709551616 : Int) = (↑((a % Go.Sx.M256 + b % Go.Sx.M256) / Go.Sx.M256) : Int)) := by kernel_rfl
-- END VC
-- VC vc_Add HASH f007b94b00e223b1
theorem vc_Add (a b : Nat) :
    Owes Try.prog cxAdd [] 100 Try.f13 [sU a, sU b] (addG a b) =
    (((a + b) % Go.Sx.M256 = (a + b) % Go.Sx.M256 ∧ True) ∧ ((↑((a % Go.Sx.M256 + b % Go.Sx.M256) / Go.Sx.M256) : Int) != (0 : Int)) = Decidable.decide (Go.Sx.M256 ≤ a % Go.Sx.M256 + b % Go.Sx.M256)) := by kernel_rfl
-- END VC
-- VC vc_Cmp HASH 7612095f625b123f
theorem vc_Cmp (a b : Nat) :
    Owes Try.prog Cx.none [] 100 Try.f77 [sU a, sU b] (cmpG a b) =
    ((Decidable.decide (Go.Sx.limb a (3 : Nat) < Go.Sx.limb b (3 : Nat)) = Bool.true → (-1 : Int) = Go.Sx.cmpN a b) ∧ (Decidable.decide (Go.Sx.limb a (3 : Nat) < Go.Sx.limb b (3 : Nat)) = Bool.false → (Decidable.decide (Go.Sx.limb a (3 : Nat) > Go.Sx.limb b (3 : Nat)) = Bool.true → (1 : Int) = Go.Sx.cmpN a b) ∧ (Decidable.decide (Go.Sx.limb a (3 : Nat) > Go.Sx.limb b (3 : Nat)) = Bool.false → (Decidable.decide (Go.Sx.limb a (2 : Nat) < Go.Sx.limb b (2 : Nat)) = Bool.true → (-1 : Int) = Go.Sx.cmpN a b) ∧ (Decidable.decide (Go.Sx.limb a (2 : Nat) < Go.Sx.limb b (2 : Nat)) = Bool.false → (Decidable.decide (Go.Sx.limb a (2 : Nat) > Go.Sx.limb b (2 : Nat)) = Bool.true → (1 : Int) = Go.Sx.cmpN a b) ∧ (Decidable.decide (Go.Sx.limb a (2 : Nat) > Go.Sx.limb b (2 : Nat)) = Bool.false → (Decidable.decide (Go.Sx.limb a (1 : Nat) < Go.Sx.limb b (1 : Nat)) = Bool.true → (-1 : Int) = Go.Sx.cmpN a b) ∧ (Decidable.decide (Go.Sx.limb a (1 : Nat) < Go.Sx.limb b (1 : Nat)) = Bool.false → (Decidable.decide (Go.Sx.limb a (1 : Nat) > Go.Sx.limb b (1 : Nat)) = Bool.true → (1 : Int) = Go.Sx.cmpN a b) ∧ (Decidable.decide (Go.Sx.limb a (1 : Nat) > Go.Sx.limb b (1 : Nat)) = Bool.false → (Decidable.decide (Go.Sx.limb a (0 : Nat) < Go.Sx.limb b (0 : Nat)) = Bool.true → (-1 : Int) = Go.Sx.cmpN a b) ∧ (Decidable.decide (Go.Sx.limb a (0 : Nat) < Go.Sx.limb b (0 : Nat)) = Bool.false → (Decidable.decide (Go.Sx.limb a (0 : Nat) > Go.Sx.limb b (0 : Nat)) = Bool.true → (1 : Int) = Go.Sx.cmpN a b) ∧ (Decidable.decide (Go.Sx.limb a (0 : Nat) > Go.Sx.limb b (0 : Nat)) = Bool.false → (0 : Int) = Go.Sx.cmpN a b))))))))) := by kernel_rfl
-- END VC
end Go.Proofs.Ytbjdchpncbgpnaa
end

section
/-
  What products come to: reckoned by the kernel. (Laid by program.)
-/
namespace Go.Proofs.Ytbjdchpncbgpnaa
open Go.Sx
set_option maxRecDepth 100000
def cxMul2 : Cx := [(75, specWW mul64G), (68, specAdd64)]
-- VC vc_Mul64 HASH 9811843492575cc1
theorem vc_Mul64 (a b : Int) :
    Owes Try.prog Cx.none [] 100 Try.f75 [sI .u64 a, sI .u64 b] (mul64G a b) =
    (let x1 : Int := Go.IntKind.u64.wrap (↑(BitVec.ofInt (64 : Nat) b &&& BitVec.ofInt (64 : Nat) (4294967295 : Int)).toNat : Int); let x2 : Int := Go.IntKind.u64.wrap (Go.IntKind.u64.wrap (a.fdiv (4294967296 : Int) * x1) + (Go.IntKind.u64.wrap (Go.IntKind.u64.wrap (↑(BitVec.ofInt (64 : Nat) a &&& BitVec.ofInt (64 : Nat) (4294967295 : Int)).toNat : Int) * x1)).fdiv (4294967296 : Int)); let x3 : Int := a * b; Go.IntKind.u64.wrap (Go.IntKind.u64.wrap (Go.IntKind.u64.wrap (a.fdiv (4294967296 : Int) * b.fdiv (4294967296 : Int)) + x2.fdiv (4294967296 : Int)) + (Go.IntKind.u64.wrap (Go.IntKind.u64.wrap (↑(BitVec.ofInt (64 : Nat) x2 &&& BitVec.ofInt (64 : Nat) (4294967295 : Int)).toNat : Int) + Go.IntKind.u64.wrap (Go.IntKind.u64.wrap (↑(BitVec.ofInt (64 : Nat) a &&& BitVec.ofInt (64 : Nat) (4294967295 : Int)).toNat : Int) * b.fdiv (4294967296 : Int)))).fdiv (4294967296 : Int)) = x3 / (18446744073709551616 : Int) ∧ Go.IntKind.u64.wrap x3 = x3 % (18446744073709551616 : Int)) := by kernel_rfl
-- END VC
-- VC vc_Mul HASH 171788dfa6d62cfa
theorem vc_Mul (a b : Nat) :
    Owes Try.prog cxMul2 [] 100 Try.f82 [sU a, sU b] (mulG a b) =
    (let x1 : Int := Go.Sx.limb a (0 : Nat) * Go.Sx.limb b (0 : Nat); let x2 : Int := x1 % (18446744073709551616 : Int); let x3 : Int := x2 + (0 : Int) + (0 : Int); let x4 : Int := x3 % (18446744073709551616 : Int); let x5 : Int := Go.Sx.limb a (0 : Nat) * Go.Sx.limb b (1 : Nat); let x6 : Int := x5 % (18446744073709551616 : Int); let x7 : Int := (0 : Int) + x4 + (0 : Int); let x8 : Int := Go.IntKind.u64.wrap (Go.IntKind.u64.wrap (x1 / (18446744073709551616 : Int) + x3 / (18446744073709551616 : Int)) + x7 / (18446744073709551616 : Int)); let x9 : Int := x6 + x8 + (0 : Int); let x10 : Int := x9 % (18446744073709551616 : Int); let x11 : Int := Go.Sx.limb a (0 : Nat) * Go.Sx.limb b (2 : Nat); let x12 : Int := x11 % (18446744073709551616 : Int); let x13 : Int := (0 : Int) + x10 + (0 : Int); let x14 : Int := Go.IntKind.u64.wrap (Go.IntKind.u64.wrap (x5 / (18446744073709551616 : Int) + x9 / (18446744073709551616 : Int)) + x13 / (18446744073709551616 : Int)); let x15 : Int := x12 + x14 + (0 : Int); let x16 : Int := x15 % (18446744073709551616 : Int); let x17 : Int := Go.Sx.limb a (0 : Nat) * Go.Sx.limb b (3 : Nat); let x18 : Int := x17 % (18446744073709551616 : Int); let x19 : Int := (0 : Int) + x16 + (0 : Int); let x20 : Int := Go.IntKind.u64.wrap (Go.IntKind.u64.wrap (x11 / (18446744073709551616 : Int) + x15 / (18446744073709551616 : Int)) + x19 / (18446744073709551616 : Int)); let x21 : Int := x18 + x20 + (0 : Int); let x22 : Int := x21 % (18446744073709551616 : Int); let x23 : Int := Go.Sx.limb a (1 : Nat) * Go.Sx.limb b (0 : Nat); let x24 : Int := x23 % (18446744073709551616 : Int); let x25 : Int := x13 % (18446744073709551616 : Int); let x26 : Int := x24 + (0 : Int) + (0 : Int); let x27 : Int := x26 % (18446744073709551616 : Int); let x28 : Int := Go.Sx.limb a (1 : Nat) * Go.Sx.limb b (1 : Nat); let x29 : Int := x28 % (18446744073709551616 : Int); let x30 : Int := x25 + x27 + (0 : Int); let x31 : Int := Go.IntKind.u64.wrap (Go.IntKind.u64.wrap (x23 / (18446744073709551616 : Int) + x26 / (18446744073709551616 : Int)) + x30 / (18446744073709551616 : Int)); let x32 : Int := x19 % (18446744073709551616 : Int); let x33 : Int := x29 + x31 + (0 : Int); let x34 : Int := x33 % (18446744073709551616 : Int); let x35 : Int := Go.Sx.limb a (1 : Nat) * Go.Sx.limb b (2 : Nat); let x36 : Int := x35 % (18446744073709551616 : Int); let x37 : Int := x32 + x34 + (0 : Int); let x38 : Int := Go.IntKind.u64.wrap (Go.IntKind.u64.wrap (x28 / (18446744073709551616 : Int) + x33 / (18446744073709551616 : Int)) + x37 / (18446744073709551616 : Int)); let x39 : Int := (0 : Int) + x22 + (0 : Int); let x40 : Int := x39 % (18446744073709551616 : Int); let x41 : Int := x36 + x38 + (0 : Int); let x42 : Int := x41 % (18446744073709551616 : Int); let x43 : Int := Go.Sx.limb a (1 : Nat) * Go.Sx.limb b (3 : Nat); let x44 : Int := x43 % (18446744073709551616 : Int); let x45 : Int := x40 + x42 + (0 : Int); let x46 : Int := Go.IntKind.u64.wrap (Go.IntKind.u64.wrap (x35 / (18446744073709551616 : Int) + x41 / (18446744073709551616 : Int)) + x45 / (18446744073709551616 : Int)); let x47 : Int := Go.IntKind.u64.wrap (Go.IntKind.u64.wrap (x17 / (18446744073709551616 : Int) + x21 / (18446744073709551616 : Int)) + x39 / (18446744073709551616 : Int)); let x48 : Int := x44 + x46 + (0 : Int); let x49 : Int := x48 % (18446744073709551616 : Int); let x50 : Int := Go.Sx.limb a (2 : Nat) * Go.Sx.limb b (0 : Nat); let x51 : Int := x50 % (18446744073709551616 : Int); let x52 : Int := x37 % (18446744073709551616 : Int); let x53 : Int := x51 + (0 : Int) + (0 : Int); let x54 : Int := x53 % (18446744073709551616 : Int); let x55 : Int := Go.Sx.limb a (2 : Nat) * Go.Sx.limb b (1 : Nat); let x56 : Int := x55 % (18446744073709551616 : Int); let x57 : Int := x52 + x54 + (0 : Int); let x58 : Int := Go.IntKind.u64.wrap (Go.IntKind.u64.wrap (x50 / (18446744073709551616 : Int) + x53 / (18446744073709551616 : Int)) + x57 / (18446744073709551616 : Int)); let x59 : Int := x45 % (18446744073709551616 : Int); let x60 : Int := x56 + x58 + (0 : Int); let x61 : Int := x60 % (18446744073709551616 : Int); let x62 : Int := Go.Sx.limb a (2 : Nat) * Go.Sx.limb b (2 : Nat); let x63 : Int := x62 % (18446744073709551616 : Int); let x64 : Int := x59 + x61 + (0 : Int); let x65 : Int := Go.IntKind.u64.wrap (Go.IntKind.u64.wrap (x55 / (18446744073709551616 : Int) + x60 / (18446744073709551616 : Int)) + x64 / (18446744073709551616 : Int)); let x66 : Int := x47 + x49 + (0 : Int); let x67 : Int := x66 % (18446744073709551616 : Int); let x68 : Int := x63 + x65 + (0 : Int); let x69 : Int := x68 % (18446744073709551616 : Int); let x70 : Int := Go.Sx.limb a (2 : Nat) * Go.Sx.limb b (3 : Nat); let x71 : Int := x70 % (18446744073709551616 : Int); let x72 : Int := x67 + x69 + (0 : Int); let x73 : Int := Go.IntKind.u64.wrap (Go.IntKind.u64.wrap (x62 / (18446744073709551616 : Int) + x68 / (18446744073709551616 : Int)) + x72 / (18446744073709551616 : Int)); let x74 : Int := Go.IntKind.u64.wrap (Go.IntKind.u64.wrap (x43 / (18446744073709551616 : Int) + x48 / (18446744073709551616 : Int)) + x66 / (18446744073709551616 : Int)); let x75 : Int := x71 + x73 + (0 : Int); let x76 : Int := x75 % (18446744073709551616 : Int); let x77 : Int := Go.Sx.limb a (3 : Nat) * Go.Sx.limb b (0 : Nat); let x78 : Int := x77 % (18446744073709551616 : Int); let x79 : Int := x64 % (18446744073709551616 : Int); let x80 : Int := x78 + (0 : Int) + (0 : Int); let x81 : Int := x80 % (18446744073709551616 : Int); let x82 : Int := Go.Sx.limb a (3 : Nat) * Go.Sx.limb b (1 : Nat); let x83 : Int := x82 % (18446744073709551616 : Int); let x84 : Int := x79 + x81 + (0 : Int); let x85 : Int := Go.IntKind.u64.wrap (Go.IntKind.u64.wrap (x77 / (18446744073709551616 : Int) + x80 / (18446744073709551616 : Int)) + x84 / (18446744073709551616 : Int)); let x86 : Int := x72 % (18446744073709551616 : Int); let x87 : Int := x83 + x85 + (0 : Int); let x88 : Int := x87 % (18446744073709551616 : Int); let x89 : Int := Go.Sx.limb a (3 : Nat) * Go.Sx.limb b (2 : Nat); let x90 : Int := x89 % (18446744073709551616 : Int); let x91 : Int := x86 + x88 + (0 : Int); let x92 : Int := Go.IntKind.u64.wrap (Go.IntKind.u64.wrap (x82 / (18446744073709551616 : Int) + x87 / (18446744073709551616 : Int)) + x91 / (18446744073709551616 : Int)); let x93 : Int := x74 + x76 + (0 : Int); let x94 : Int := x93 % (18446744073709551616 : Int); let x95 : Int := x90 + x92 + (0 : Int); let x96 : Int := x95 % (18446744073709551616 : Int); let x97 : Int := Go.Sx.limb a (3 : Nat) * Go.Sx.limb b (3 : Nat); let x98 : Int := x97 % (18446744073709551616 : Int); let x99 : Int := x94 + x96 + (0 : Int); let x100 : Int := Go.IntKind.u64.wrap (Go.IntKind.u64.wrap (x89 / (18446744073709551616 : Int) + x95 / (18446744073709551616 : Int)) + x99 / (18446744073709551616 : Int)); let x101 : Int := Go.IntKind.u64.wrap (Go.IntKind.u64.wrap (x70 / (18446744073709551616 : Int) + x75 / (18446744073709551616 : Int)) + x93 / (18446744073709551616 : Int)); let x102 : Int := x98 + x100 + (0 : Int); let x103 : Int := x102 % (18446744073709551616 : Int); let x104 : Int := x7 % (18446744073709551616 : Int); let x105 : Int := x30 % (18446744073709551616 : Int); let x106 : Int := x57 % (18446744073709551616 : Int); let x107 : Int := x84 % (18446744073709551616 : Int); let x108 : Int := x91 % (18446744073709551616 : Int); let x109 : Int := x99 % (18446744073709551616 : Int); let x110 : Int := x101 + x103 + (0 : Int); let x111 : Int := x110 % (18446744073709551616 : Int); let x112 : Int := Go.IntKind.u64.wrap (Go.IntKind.u64.wrap (x97 / (18446744073709551616 : Int) + x102 / (18446744073709551616 : Int)) + x110 / (18446744073709551616 : Int)); ((0 : Int) ≤ Go.Sx.limb a (0 : Nat) ∧ Go.Sx.limb a (0 : Nat) < (18446744073709551616 : Int)) ∧ ((0 : Int) ≤ Go.Sx.limb b (0 : Nat) ∧ Go.Sx.limb b (0 : Nat) < (18446744073709551616 : Int)) ∧ (0 : Int) ≤ x2 ∧ (0 : Int) ≤ (0 : Int) ∧ ((0 : Int) ≤ (0 : Int) ∧ (0 : Int) ≤ (1 : Int)) ∧ (0 : Int) ≤ (0 : Int) ∧ (0 : Int) ≤ x4 ∧ ((0 : Int) ≤ (0 : Int) ∧ (0 : Int) ≤ (1 : Int)) ∧ ((0 : Int) ≤ Go.Sx.limb a (0 : Nat) ∧ Go.Sx.limb a (0 : Nat) < (18446744073709551616 : Int)) ∧ ((0 : Int) ≤ Go.Sx.limb b (1 : Nat) ∧ Go.Sx.limb b (1 : Nat) < (18446744073709551616 : Int)) ∧ (0 : Int) ≤ x6 ∧ (0 : Int) ≤ x8 ∧ ((0 : Int) ≤ (0 : Int) ∧ (0 : Int) ≤ (1 : Int)) ∧ (0 : Int) ≤ (0 : Int) ∧ (0 : Int) ≤ x10 ∧ ((0 : Int) ≤ (0 : Int) ∧ (0 : Int) ≤ (1 : Int)) ∧ ((0 : Int) ≤ Go.Sx.limb a (0 : Nat) ∧ Go.Sx.limb a (0 : Nat) < (18446744073709551616 : Int)) ∧ ((0 : Int) ≤ Go.Sx.limb b (2 : Nat) ∧ Go.Sx.limb b (2 : Nat) < (18446744073709551616 : Int)) ∧ (0 : Int) ≤ x12 ∧ (0 : Int) ≤ x14 ∧ ((0 : Int) ≤ (0 : Int) ∧ (0 : Int) ≤ (1 : Int)) ∧ (0 : Int) ≤ (0 : Int) ∧ (0 : Int) ≤ x16 ∧ ((0 : Int) ≤ (0 : Int) ∧ (0 : Int) ≤ (1 : Int)) ∧ ((0 : Int) ≤ Go.Sx.limb a (0 : Nat) ∧ Go.Sx.limb a (0 : Nat) < (18446744073709551616 : Int)) ∧ ((0 : Int) ≤ Go.Sx.limb b (3 : Nat) ∧ Go.Sx.limb b (3 : Nat) < (18446744073709551616 : Int)) ∧ (0 : Int) ≤ x18 ∧ (0 : Int) ≤ x20 ∧ ((0 : Int) ≤ (0 : Int) ∧ (0 : Int) ≤ (1 : Int)) ∧ (0 : Int) ≤ (0 : Int) ∧ (0 : Int) ≤ x22 ∧ ((0 : Int) ≤ (0 : Int) ∧ (0 : Int) ≤ (1 : Int)) ∧ ((0 : Int) ≤ Go.Sx.limb a (1 : Nat) ∧ Go.Sx.limb a (1 : Nat) < (18446744073709551616 : Int)) ∧ ((0 : Int) ≤ Go.Sx.limb b (0 : Nat) ∧ Go.Sx.limb b (0 : Nat) < (18446744073709551616 : Int)) ∧ (0 : Int) ≤ x24 ∧ (0 : Int) ≤ (0 : Int) ∧ ((0 : Int) ≤ (0 : Int) ∧ (0 : Int) ≤ (1 : Int)) ∧ (0 : Int) ≤ x25 ∧ (0 : Int) ≤ x27 ∧ ((0 : Int) ≤ (0 : Int) ∧ (0 : Int) ≤ (1 : Int)) ∧ ((0 : Int) ≤ Go.Sx.limb a (1 : Nat) ∧ Go.Sx.limb a (1 : Nat) < (18446744073709551616 : Int)) ∧ ((0 : Int) ≤ Go.Sx.limb b (1 : Nat) ∧ Go.Sx.limb b (1 : Nat) < (18446744073709551616 : Int)) ∧ (0 : Int) ≤ x29 ∧ (0 : Int) ≤ x31 ∧ ((0 : Int) ≤ (0 : Int) ∧ (0 : Int) ≤ (1 : Int)) ∧ (0 : Int) ≤ x32 ∧ (0 : Int) ≤ x34 ∧ ((0 : Int) ≤ (0 : Int) ∧ (0 : Int) ≤ (1 : Int)) ∧ ((0 : Int) ≤ Go.Sx.limb a (1 : Nat) ∧ Go.Sx.limb a (1 : Nat) < (18446744073709551616 : Int)) ∧ ((0 : Int) ≤ Go.Sx.limb b (2 : Nat) ∧ Go.Sx.limb b (2 : Nat) < (18446744073709551616 : Int)) ∧ (0 : Int) ≤ x36 ∧ (0 : Int) ≤ x38 ∧ ((0 : Int) ≤ (0 : Int) ∧ (0 : Int) ≤ (1 : Int)) ∧ (0 : Int) ≤ x40 ∧ (0 : Int) ≤ x42 ∧ ((0 : Int) ≤ (0 : Int) ∧ (0 : Int) ≤ (1 : Int)) ∧ ((0 : Int) ≤ Go.Sx.limb a (1 : Nat) ∧ Go.Sx.limb a (1 : Nat) < (18446744073709551616 : Int)) ∧ ((0 : Int) ≤ Go.Sx.limb b (3 : Nat) ∧ Go.Sx.limb b (3 : Nat) < (18446744073709551616 : Int)) ∧ (0 : Int) ≤ x44 ∧ (0 : Int) ≤ x46 ∧ ((0 : Int) ≤ (0 : Int) ∧ (0 : Int) ≤ (1 : Int)) ∧ (0 : Int) ≤ x47 ∧ (0 : Int) ≤ x49 ∧ ((0 : Int) ≤ (0 : Int) ∧ (0 : Int) ≤ (1 : Int)) ∧ ((0 : Int) ≤ Go.Sx.limb a (2 : Nat) ∧ Go.Sx.limb a (2 : Nat) < (18446744073709551616 : Int)) ∧ ((0 : Int) ≤ Go.Sx.limb b (0 : Nat) ∧ Go.Sx.limb b (0 : Nat) < (18446744073709551616 : Int)) ∧ (0 : Int) ≤ x51 ∧ (0 : Int) ≤ (0 : Int) ∧ ((0 : Int) ≤ (0 : Int) ∧ (0 : Int) ≤ (1 : Int)) ∧ (0 : Int) ≤ x52 ∧ (0 : Int) ≤ x54 ∧ ((0 : Int) ≤ (0 : Int) ∧ (0 : Int) ≤ (1 : Int)) ∧ ((0 : Int) ≤ Go.Sx.limb a (2 : Nat) ∧ Go.Sx.limb a (2 : Nat) < (18446744073709551616 : Int)) ∧ ((0 : Int) ≤ Go.Sx.limb b (1 : Nat) ∧ Go.Sx.limb b (1 : Nat) < (18446744073709551616 : Int)) ∧ (0 : Int) ≤ x56 ∧ (0 : Int) ≤ x58 ∧ ((0 : Int) ≤ (0 : Int) ∧ (0 : Int) ≤ (1 : Int)) ∧ (0 : Int) ≤ x59 ∧ (0 : Int) ≤ x61 ∧ ((0 : Int) ≤ (0 : Int) ∧ (0 : Int) ≤ (1 : Int)) ∧ ((0 : Int) ≤ Go.Sx.limb a (2 : Nat) ∧ Go.Sx.limb a (2 : Nat) < (18446744073709551616 : Int)) ∧ ((0 : Int) ≤ Go.Sx.limb b (2 : Nat) ∧ Go.Sx.limb b (2 : Nat) < (18446744073709551616 : Int)) ∧ (0 : Int) ≤ x63 ∧ (0 : Int) ≤ x65 ∧ ((0 : Int) ≤ (0 : Int) ∧ (0 : Int) ≤ (1 : Int)) ∧ (0 : Int) ≤ x67 ∧ (0 : Int) ≤ x69 ∧ ((0 : Int) ≤ (0 : Int) ∧ (0 : Int) ≤ (1 : Int)) ∧ ((0 : Int) ≤ Go.Sx.limb a (2 : Nat) ∧ Go.Sx.limb a (2 : Nat) < (18446744073709551616 : Int)) ∧ ((0 : Int) ≤ Go.Sx.limb b (3 : Nat) ∧ Go.Sx.limb b (3 : Nat) < (18446744073709551616 : Int)) ∧ (0 : Int) ≤ x71 ∧ (0 : Int) ≤ x73 ∧ ((0 : Int) ≤ (0 : Int) ∧ (0 : Int) ≤ (1 : Int)) ∧ (0 : Int) ≤ x74 ∧ (0 : Int) ≤ x76 ∧ ((0 : Int) ≤ (0 : Int) ∧ (0 : Int) ≤ (1 : Int)) ∧ ((0 : Int) ≤ Go.Sx.limb a (3 : Nat) ∧ Go.Sx.limb a (3 : Nat) < (18446744073709551616 : Int)) ∧ ((0 : Int) ≤ Go.Sx.limb b (0 : Nat) ∧ Go.Sx.limb b (0 : Nat) < (18446744073709551616 : Int)) ∧ (0 : Int) ≤ x78 ∧ (0 : Int) ≤ (0 : Int) ∧ ((0 : Int) ≤ (0 : Int) ∧ (0 : Int) ≤ (1 : Int)) ∧ (0 : Int) ≤ x79 ∧ (0 : Int) ≤ x81 ∧ ((0 : Int) ≤ (0 : Int) ∧ (0 : Int) ≤ (1 : Int)) ∧ ((0 : Int) ≤ Go.Sx.limb a (3 : Nat) ∧ Go.Sx.limb a (3 : Nat) < (18446744073709551616 : Int)) ∧ ((0 : Int) ≤ Go.Sx.limb b (1 : Nat) ∧ Go.Sx.limb b (1 : Nat) < (18446744073709551616 : Int)) ∧ (0 : Int) ≤ x83 ∧ (0 : Int) ≤ x85 ∧ ((0 : Int) ≤ (0 : Int) ∧ (0 : Int) ≤ (1 : Int)) ∧ (0 : Int) ≤ x86 ∧ (0 : Int) ≤ x88 ∧ ((0 : Int) ≤ (0 : Int) ∧ (0 : Int) ≤ (1 : Int)) ∧ ((0 : Int) ≤ Go.Sx.limb a (3 : Nat) ∧ Go.Sx.limb a (3 : Nat) < (18446744073709551616 : Int)) ∧ ((0 : Int) ≤ Go.Sx.limb b (2 : Nat) ∧ Go.Sx.limb b (2 : Nat) < (18446744073709551616 : Int)) ∧ (0 : Int) ≤ x90 ∧ (0 : Int) ≤ x92 ∧ ((0 : Int) ≤ (0 : Int) ∧ (0 : Int) ≤ (1 : Int)) ∧ (0 : Int) ≤ x94 ∧ (0 : Int) ≤ x96 ∧ ((0 : Int) ≤ (0 : Int) ∧ (0 : Int) ≤ (1 : Int)) ∧ ((0 : Int) ≤ Go.Sx.limb a (3 : Nat) ∧ Go.Sx.limb a (3 : Nat) < (18446744073709551616 : Int)) ∧ ((0 : Int) ≤ Go.Sx.limb b (3 : Nat) ∧ Go.Sx.limb b (3 : Nat) < (18446744073709551616 : Int)) ∧ (0 : Int) ≤ x98 ∧ (0 : Int) ≤ x100 ∧ ((0 : Int) ≤ (0 : Int) ∧ (0 : Int) ≤ (1 : Int)) ∧ (0 : Int) ≤ x101 ∧ (0 : Int) ≤ x103 ∧ ((0 : Int) ≤ (0 : Int) ∧ (0 : Int) ≤ (1 : Int)) ∧ (((0 : Int) ≤ x104 ∧ x104 < (18446744073709551616 : Int)) ∧ ((0 : Int) ≤ x105 ∧ x105 < (18446744073709551616 : Int)) ∧ ((0 : Int) ≤ x106 ∧ x106 < (18446744073709551616 : Int)) ∧ ((0 : Int) ≤ x107 ∧ x107 < (18446744073709551616 : Int)) ∧ Go.Sx.join x104 x105 x106 x107 % Go.Sx.M256 = a * b % Go.Sx.M256 ∧ True) ∧ ((0 : Int) ≤ x108 ∧ x108 < (18446744073709551616 : Int)) ∧ ((0 : Int) ≤ x109 ∧ x109 < (18446744073709551616 : Int)) ∧ ((0 : Int) ≤ x111 ∧ x111 < (18446744073709551616 : Int)) ∧ ((0 : Int) ≤ x112 ∧ x112 < (18446744073709551616 : Int)) ∧ Go.Sx.join x108 x109 x111 x112 % Go.Sx.M256 = a % Go.Sx.M256 * (b % Go.Sx.M256) / Go.Sx.M256 % Go.Sx.M256 ∧ True) := by kernel_rfl
-- END VC
end Go.Proofs.Ytbjdchpncbgpnaa
end
