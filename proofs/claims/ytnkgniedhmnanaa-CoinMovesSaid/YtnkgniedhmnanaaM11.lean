/-
  Texts: P102, DgB, V62, P103, P104, V63, P105, P106, V162, P262, V164, P266, V165.
-/
import Derived.Test.YtnkgniedhmnanaaM1
import Derived.Test.YtnkgniedhmnanaaM2
import Derived.Test.YtnkgniedhmnanaaM3
import Derived.Test.YtnkgniedhmnanaaM4
import Derived.Test.YtnkgniedhmnanaaM5
import Derived.Test.YtnkgniedhmnanaaM6
import Derived.Test.YtnkgniedhmnanaaM7
import Derived.Test.YtnkgniedhmnanaaM8
import Derived.Test.YtnkgniedhmnanaaM9
import Derived.Test.YtnkgniedhmnanaaM10
import Derived.Test.YtnkgniedhmnanaaChecked
section
namespace Go.Proofs.Ytnkgniedhmnanaa
open Go Go.Sx Go.RowKit
theorem ok_dOf (a : Nat) : OwesR Try.prog .none [] [] 20 Try.f25 [sU a] false [.s 8 .u64 (dg (a % M256))] := by
  rw [vc_dOf]
  have hL := maxLen_eq
  refine fun c1 h1 => ⟨by omega, fun c2 h2 => ⟨by omega, fun c3 h3 => ⟨by omega, fun c4 h4 => ⟨rfl, by omega, fun i hi => ?_⟩⟩⟩⟩
  have e : ∀ j, j ≤ 3 → ∃ l : Nat, limb a j = (l : Int) ∧ l < 18446744073709551616 ∧ dg (a % M256) (2 * j) = ((l % 4294967296 : Nat) : Int) ∧ dg (a % M256) (2 * j + 1) = ((l / 4294967296 : Nat) : Int) := by
    intro j hj
    refine ⟨a / 2 ^ (64 * j) % 2 ^ 64, rfl, Nat.mod_lt _ (by decide), ?_, ?_⟩
    · unfold dg
      have : j = 0 ∨ j = 1 ∨ j = 2 ∨ j = 3 := by omega
      rw [show M256 = 115792089237316195423570985008687907853269984665640564039457584007913129639936 from rfl]
      rcases this with rfl | rfl | rfl | rfl <;> (simp only [Nat.reduceMul, Nat.reducePow, Nat.reduceAdd]; omega)
    · unfold dg
      have : j = 0 ∨ j = 1 ∨ j = 2 ∨ j = 3 := by omega
      rw [show M256 = 115792089237316195423570985008687907853269984665640564039457584007913129639936 from rfl]
      rcases this with rfl | rfl | rfl | rfl <;> (simp only [Nat.reduceMul, Nat.reducePow, Nat.reduceAdd]; omega)
  have lo : ∀ l : Nat, ((l : Int)).tmod 4294967296 = ((l % 4294967296 : Nat) : Int) := fun l => by rw [Int.tmod_eq_emod_of_nonneg (by omega)]; omega
  have hiw : ∀ l : Nat, l < 18446744073709551616 → IntKind.u64.wrap (((l : Int)).tdiv 4294967296) = ((l / 4294967296 : Nat) : Int) := fun l hl => by rw [Int.tdiv_eq_ediv_of_nonneg (by omega), wrap64 (by omega)]; omega
  obtain ⟨l0, a0, b0, c0, d0⟩ := e 0 (by omega)
  obtain ⟨l1, a1, b1, c1', d1⟩ := e 1 (by omega)
  obtain ⟨l2, a2, b2, c2', d2⟩ := e 2 (by omega)
  obtain ⟨l3, a3, b3, c3', d3⟩ := e 3 (by omega)
  rw [a0, a1, a2, a3]
  have : i = 0 ∨ i = 1 ∨ i = 2 ∨ i = 3 ∨ i = 4 ∨ i = 5 ∨ i = 6 ∨ i = 7 := by omega
  rcases this with rfl | rfl | rfl | rfl | rfl | rfl | rfl | rfl
  · exact (lo l0).trans c0.symm
  · exact (hiw l0 b0).trans d0.symm
  · exact (lo l1).trans c1'.symm
  · exact (hiw l1 b1).trans d1.symm
  · exact (lo l2).trans c2'.symm
  · exact (hiw l2 b2).trans d2.symm
  · exact (lo l3).trans c3'.symm
  · exact (hiw l3 b3).trans d3.symm
theorem or_digit (a b k : Nat) (hb : b < 2 ^ k) (h : a * 2 ^ k + b < 18446744073709551616) : IntKind.u64.wrap ((BitVec.ofInt 64 (b : Int) ||| BitVec.ofInt 64 ((a * 2 ^ k : Nat) : Int)).toNat : Int) = ((a * 2 ^ k + b : Nat) : Int) := by
  have b1 : (BitVec.ofInt 64 ((a * 2 ^ k : Nat) : Int)).toNat = a * 2 ^ k := by rw [BitVec.toNat_ofInt]; omega
  have b2 : (BitVec.ofInt 64 (b : Int)).toNat = b := by rw [BitVec.toNat_ofInt]; omega
  rw [BitVec.toNat_or, b1, b2, Nat.or_comm, Nat.mul_comm, ← Nat.two_pow_add_eq_or_of_lt hb, wrap64 ⟨Int.natCast_nonneg _, by rw [Nat.mul_comm]; omega⟩]
theorem wide_step {V D y : Nat} (hy : y < 8) (hV : V < 4294967296 ^ y) (hD : D < 4294967296) : ∃ w : Nat, w < 18446744073709551616 ∧ IntKind.u64.wrap (↑(BitVec.ofInt 64 (limb V (y / 2)) ||| BitVec.ofInt 64 (IntKind.u64.wrap ((D : Int) * 2 ^ Min.min (32 * (y % 2)) 64))).toNat) = (w : Int) ∧
    join (if 0 = y / 2 then (w : Int) else limb V 0) (if 1 = y / 2 then (w : Int) else limb V 1) (if 2 = y / 2 then (w : Int) else limb V 2) (if 3 = y / 2 then (w : Int) else limb V 3) = V + D * 4294967296 ^ y := by
  refine ⟨D * 2 ^ (32 * (y % 2)) + V / 2 ^ (64 * (y / 2)) % 2 ^ 64, ?_, ?_, ?_⟩
  · have : y = 0 ∨ y = 1 ∨ y = 2 ∨ y = 3 ∨ y = 4 ∨ y = 5 ∨ y = 6 ∨ y = 7 := by omega
    rcases this with rfl | rfl | rfl | rfl | rfl | rfl | rfl | rfl <;> (simp only [Nat.reduceMul, Nat.reducePow, Nat.reduceAdd, Nat.reduceDiv, Nat.reduceMod] at hV ⊢; omega)
  · have key : V / 2 ^ (64 * (y / 2)) % 2 ^ 64 < 2 ^ (32 * (y % 2)) ∧ D * 2 ^ (32 * (y % 2)) + V / 2 ^ (64 * (y / 2)) % 2 ^ 64 < 18446744073709551616 := by
      have : y = 0 ∨ y = 1 ∨ y = 2 ∨ y = 3 ∨ y = 4 ∨ y = 5 ∨ y = 6 ∨ y = 7 := by omega
      rcases this with rfl | rfl | rfl | rfl | rfl | rfl | rfl | rfl <;> (simp only [Nat.reduceMul, Nat.reducePow, Nat.reduceAdd, Nat.reduceDiv, Nat.reduceMod] at hV ⊢; omega)
    have e1 : (D : Int) * 2 ^ Min.min (32 * (y % 2)) 64 = ((D * 2 ^ (32 * (y % 2)) : Nat) : Int) := by
      rw [Nat.min_eq_left (by omega), Int.natCast_mul, Int.natCast_pow]; rfl
    rw [e1, wrap64 (x := ((D * 2 ^ (32 * (y % 2)) : Nat) : Int)) ⟨Int.natCast_nonneg _, by omega⟩]
    exact or_digit D _ _ key.1 key.2
  · have : y = 0 ∨ y = 1 ∨ y = 2 ∨ y = 3 ∨ y = 4 ∨ y = 5 ∨ y = 6 ∨ y = 7 := by omega
    unfold join limb
    rcases this with rfl | rfl | rfl | rfl | rfl | rfl | rfl | rfl <;> (simp only [Nat.reduceMul, Nat.reducePow, Nat.reduceAdd, Nat.reduceDiv, Nat.reduceMod, Nat.reduceEqDiff, if_true, if_false, Int.toNat_natCast] at hV ⊢; omega)
theorem M256_pow8 : M256 = 4294967296 ^ 8 := rfl
theorem ok_wide (a : Option Addr) (n c : Nat) (f : Nat → Int) (hf : dgs n f) (hn : n ≤ 1000) :
    OwesR Try.prog cxR [] [(4, .inv (invWide a n c f (fun y => vn n f % 4294967296 ^ min y 8) (fun y => decide (M256 ≤ vn n f % 4294967296 ^ y))))] 4 Try.f39 [xsI a n c .u64 f] false (wideR n f) := by
  unfold wideR
  rw [vc_wide]
  have hfi : ∀ i, i < n → f i = dg (vn n f) i := fun i hi => dg_in hf hi
  have hX := vn_lt hf
  generalize vn n f = X at *
  have rAB : (a = a ∧ n = n ∧ c = c ∧ ∀ i, i < n → f i = f i) := ⟨rfl, rfl, rfl, fun _ _ => rfl⟩
  have hM : 0 < M256 := by decide
  refine ⟨fun y => rfl, 0, Nat.zero_le _, ?_, rAB, rfl, rfl, rfl, ⟨?_, trivial⟩, rfl, fun y hy => ⟨fun h1 => ⟨⟨by omega, of_decide_eq_true h1⟩, fun h2 => ?_, fun h2 => ?_⟩, fun h1 => ?_⟩⟩
  · rw [Nat.pow_zero, Nat.mod_one]
    exact (decide_eq_false (by omega)).symm
  · show 0 = X % 4294967296 ^ 0 % M256
    rw [Nat.pow_zero, Nat.mod_one, Nat.zero_mod]
  · have h1 : (y : Int) < (n : Int) := of_decide_eq_true h1
    have h2 : (y : Int) ≥ 8 := of_decide_eq_true h2
    refine ⟨id, fun h => by rw [h]; rfl, y + 1, by omega, ?_, rAB, rfl, by rw [wrapi (by omega)]; rfl, rfl, ?_, rfl, by omega⟩
    · rw [Int.toNat_natCast, hfi y (by omega)]
      have hs := mod_succ X y
      have xr := dg_range X y
      have hp : (4294967296 : Int) ^ 8 ≤ 4294967296 ^ y := by
        have : (4294967296 : Nat) ^ 8 ≤ 4294967296 ^ y := Nat.pow_le_pow_right (by decide) (by omega)
        have e := Int.ofNat_le.2 this
        rw [Int.natCast_pow, Int.natCast_pow] at e
        exact e
      have hMI : ((M256 : Nat) : Int) = 4294967296 ^ 8 := by rw [M256_pow8, Int.natCast_pow]; rfl
      by_cases e0 : dg X y = 0
      · rw [e0, Int.zero_mul, Int.add_zero] at hs
        have : X % 4294967296 ^ (y + 1) = X % 4294967296 ^ y := by omega
        rw [this, e0]
        simp
      · have hge : (4294967296 : Int) ^ y ≤ dg X y * 4294967296 ^ y := by
          have hpp := pw_pos y
          have := Int.mul_le_mul_of_nonneg_right (show (1 : Int) ≤ dg X y by omega) (Int.le_of_lt hpp)
          rwa [Int.one_mul] at this
        have : M256 ≤ X % 4294967296 ^ (y + 1) := by
          have h0 : (0 : Int) ≤ ((X % 4294967296 ^ y : Nat) : Int) := Int.natCast_nonneg _
          omega
        rw [decide_eq_true this]
        simp [e0]
    · show X % 4294967296 ^ min y 8 % M256 = X % 4294967296 ^ min (y + 1) 8 % M256
      rw [Nat.min_eq_right (by omega), Nat.min_eq_right (by omega)]
  · have h1 : (y : Int) < (n : Int) := of_decide_eq_true h1
    have h2 : ¬ (y : Int) ≥ 8 := of_decide_eq_false h2
    have Q : IntKind.i64.wrap ((y : Int).tdiv 2) = ((y / 2 : Nat) : Int) := by rw [Int.tdiv_eq_ediv_of_nonneg (by omega), wrapi (by omega)]; omega
    have K : IntKind.i64.wrap (32 * (y : Int).tmod 2) = ((32 * (y % 2) : Nat) : Int) := by rw [Int.tmod_eq_emod_of_nonneg (by omega), wrapi (by omega)]; omega
    have A : 0 ≤ IntKind.i64.wrap ((y : Int).tdiv 2) ∧ IntKind.i64.wrap ((y : Int).tdiv 2) < 4 := by rw [Q]; omega
    have xr := dg_range X y
    have hVy : X % 4294967296 ^ y < 4294967296 ^ y := Nat.mod_lt _ (pwN_pos y)
    have hD : dg X y = ((X / 4294967296 ^ y % 4294967296 : Nat) : Int) := rfl
    have hs := mod_succ X y
    obtain ⟨w, w1, w2, w3⟩ := wide_step (V := X % 4294967296 ^ y) (D := X / 4294967296 ^ y % 4294967296) (by omega) hVy (Nat.mod_lt _ (by decide))
    have hpow : ∀ z, z ≤ 8 → X % 4294967296 ^ z < M256 := fun z hz => Nat.lt_of_lt_of_le (Nat.mod_lt _ (pwN_pos z)) (by rw [M256_pow8]; exact Nat.pow_le_pow_right (by decide) hz)
    have hsN : X % 4294967296 ^ y + X / 4294967296 ^ y % 4294967296 * 4294967296 ^ y = X % 4294967296 ^ (y + 1) := by
      have : ((X % 4294967296 ^ y + X / 4294967296 ^ y % 4294967296 * 4294967296 ^ y : Nat) : Int) = ((X % 4294967296 ^ (y + 1) : Nat) : Int) := by
        rw [hs, hD, Int.natCast_add, Int.natCast_mul, Int.natCast_pow]; rfl
      omega
    rw [hsN] at w3
    refine ⟨A, A, by rw [K]; omega, A, A, y + 1, by omega, ?_, rAB, rfl, by rw [wrapi (by omega)]; rfl, rfl, ?_, rfl, by omega⟩
    · have a1 := hpow y (by omega)
      have a2 := hpow (y + 1) (by omega)
      rw [decide_eq_false (by omega), decide_eq_false (by omega)]
    · simp only [Q, K, Int.toNat_natCast]
      rw [hfi y (by omega), hD, show min y 8 = y by omega, show min (y + 1) 8 = y + 1 by omega, w2]
      have r : ∀ k, 0 ≤ (if k = y / 2 then (w : Int) else limb (X % 4294967296 ^ y) k) ∧ (if k = y / 2 then (w : Int) else limb (X % 4294967296 ^ y) k) < 18446744073709551616 := by
        intro k
        split
        · omega
        · exact ⟨limb_nonneg _ _, limb_lt _ _⟩
      refine ⟨r 0, r 1, r 2, r 3, ?_, trivial⟩
      rw [w3]
  · have h1 : ¬ (y : Int) < (n : Int) := of_decide_eq_false h1
    have : y = n := by omega
    subst this
    rw [Nat.mod_eq_of_lt hX]
    refine ⟨⟨?_, trivial⟩, rfl⟩
    by_cases h8 : y ≤ 8
    · rw [Nat.min_eq_left h8, Nat.mod_eq_of_lt hX, Nat.mod_mod]
    · rw [Nat.min_eq_right (by omega), ← M256_pow8]
theorem ok_cut (a : Option Addr) (n c : Nat) (f : Nat → Int) (hf : dgs n f) (hn : n ≤ 1000) :
    OwesR Try.prog cxR slWide [] 4 Try.f41 [xsI a n c .u64 f] false (cutR n f) := by
  rw [vc_cut]
  exact ⟨fun _ => trivial, hf, hn, rfl, trivial⟩
end Go.Proofs.Ytnkgniedhmnanaa
end

section
namespace Go.Sx
open Go.RowKit
structure D2P (X Y n i : Nat) (q : Nat → Int) (rn : Nat) (rf : Nat → Int) : Prop where
  ds : dgs rn rf
  left : vn rn rf = X / 4294967296 ^ i % Y
  len : rn = if i = n then 0 else 1 + lenDg (X / 4294967296 ^ (i + 1) % Y)
  qs : ∀ j, i ≤ j → j < n → q j = dg (X / Y) j
structure DcP (X Y n i : Nat) (q : Nat → Int) (rn : Nat) (rf : Nat → Int) : Prop where
  pos : 0 < i
  ds : dgs rn rf
  left : vn rn rf = X / 4294967296 ^ i % Y * 4294967296 + (dg X (i - 1)).toNat
  len : rn = 1 + lenDg (X / 4294967296 ^ i % Y)
  qs : ∀ j, i ≤ j → j < n → q j = dg (X / Y) j
structure D3P (X Y n i : Nat) (q : Nat → Int) (rn : Nat) (rf : Nat → Int) (lo hi : Nat) : Prop where
  at' : DcP X Y n i q rn rf
  lt : lo < hi
  top : hi ≤ 4294967296
  below : Y * lo ≤ vn rn rf
  above : vn rn rf < Y * hi
theorem vn_cons {v : Int} {g rf : Nat → Int} {l : Nat} (hv : 0 ≤ v ∧ v < 4294967296) (hg : dgs l g) (h : ∀ i, i < 1 + l → rf i = bif decide (i < 1) then v else g (i - 1)) : dgs (1 + l) rf ∧ vn (1 + l) rf = vn l g * 4294967296 + v.toNat := by
  have hd : dgs (1 + l) rf := ⟨fun i hi => by
    rw [h i hi]
    by_cases e : i < 1
    · simp only [e, decide_true, cond_true]; exact hv
    · simp only [e, decide_false, cond_false]; exact hg.at' (i - 1) (by omega)⟩
  refine ⟨hd, ?_⟩
  have key : ∀ k, k ≤ l → vz rf (1 + k) = vz g k * 4294967296 + v := by
    intro k
    induction k with
    | zero =>
      intro _
      simp only [vz, Nat.add_zero]
      rw [h 0 (by omega)]
      simp
    | succ k ih =>
      intro hk
      have e : 1 + (k + 1) = (1 + k) + 1 := by omega
      rw [e]
      simp only [vz]
      rw [ih (by omega), h (1 + k) (by omega)]
      have e1 : ¬ (1 + k < 1) := by omega
      simp only [e1, decide_false, cond_false]
      rw [show 1 + k - 1 = k by omega, Int.pow_add, Int.pow_succ, Int.pow_zero, Int.one_mul]
      generalize (4294967296 : Int) ^ k = w
      grind
  have k1 := key l (Nat.le_refl _)
  have c1 := vn_cast hd
  have c2 := vn_cast hg
  omega
theorem D2P.next {X Y n k rn : Nat} {q rf rf' : Nat → Int} (h : D2P X Y n (k + 1) q rn rf) (hrf : ∀ i, i < 1 + lenDg (vn rn rf) → rf' i = bif decide (i < 1) then dg X k else dg (vn rn rf) (i - 1)) : DcP X Y n (k + 1) q (1 + lenDg (vn rn rf)) rf' := by
  obtain ⟨d1, d2⟩ := vn_cons (dg_range X k) (dgs_dg (lenDg (vn rn rf)) (vn rn rf)) hrf
  refine ⟨by omega, d1, ?_, by rw [h.left], h.qs⟩
  rw [d2, vn_dg' (lenDg_lt _), h.left]
  rfl
theorem DcP.seek {X Y n i rn : Nat} {q rf : Nat → Int} (h : DcP X Y n i q rn rf) (hY : 0 < Y) : D3P X Y n i q rn rf 0 4294967296 := by
  have hr := dg_range X (i - 1)
  have hm := Nat.mod_lt (X / 4294967296 ^ i) hY
  refine ⟨h, by decide, Nat.le_refl _, Nat.zero_le _, ?_⟩
  rw [h.left]
  have : (X / 4294967296 ^ i % Y + 1) * 4294967296 ≤ Y * 4294967296 := Nat.mul_le_mul_right _ hm
  omega
end Go.Sx
end

section
namespace Go.Proofs.Ytnkgniedhmnanaa
open Go Go.Sx Go.RowKit
set_option maxRecDepth 100000
def dg2C (n : Nat) (f : Nat → Int) (m : Nat) (h : Nat → Int) : List Prop := [dgs n f, n ≤ 1000, dgs m h, m ≤ 1000]
def plusR (n : Nat) (f : Nat → Int) (m : Nat) (h : Nat → Int) : List RS := [.s (max n m + 1) .u64 (dg (vn n f + vn m h))]
def cmpR (n : Nat) (f : Nat → Int) (m : Nat) (h : Nat → Int) : List RS := [.v (sI .i64 (cmpI (vn n f) (vn m h)))]
def lessC (n : Nat) (f : Nat → Int) (m : Nat) (h : Nat → Int) : List Prop := [dgs n f, n ≤ 1000, dgs m h, m ≤ 1000, vn m h ≤ vn n f]
def lessR (n : Nat) (f : Nat → Int) (m : Nat) (h : Nat → Int) : List RS := [.s n .u64 (dg (vn n f - vn m h))]
def ofR (a : Nat) : List RS := [.s 8 .u64 (dg (a % M256))]
end Go.Proofs.Ytnkgniedhmnanaa
end

section
namespace Go.Proofs.Ytnkgniedhmnanaa
open Go Go.Sx Go.RowKit
end Go.Proofs.Ytnkgniedhmnanaa
end

section
namespace Go.Proofs.Ytnkgniedhmnanaa
open Go Go.Sx Go.RowKit
theorem cx_none : CxOK Try.prog .none := ⟨fun p hp => (by cases hp), fun p hp => (by cases hp)⟩
theorem cx_R : CxOK Try.prog cxR := by
  refine ⟨fun p hp => ?_, fun p hp => (by cases hp)⟩
  simp only [cxR, markR, List.mem_cons, List.not_mem_nil, or_false] at hp
  subst hp
  exact fun args ps sv hs => by cases hs
theorem sl_nil : ∀ p ∈ ([] : List (Nat × SSpec)), FnOKs Try.prog [] p.1 p.2 := fun p hp => by cases hp
theorem closed_s {n : Nat} {g : Nat → Int} : ∀ x ∈ [RS.s n .u64 g], x.closed := fun x hx => by
  simp only [List.mem_singleton] at hx
  subst hx
  trivial
theorem card_dOf : FnOKs Try.prog [] 25 (specUR ofR) :=
  FnOKs_UR (iv := fun _ => []) cx_none sl_nil Try.func25 (by kernel_rfl) (by kernel_rfl) (fun _ => closed_s) ok_dOf
theorem card_dPlus : FnOKs Try.prog [] 24 (specDD false dg2C plusR) :=
  FnOKs_DD (iv := fun a n c f b m d h => [(4, .inv1 (invPlus a n c f b m d h (PlusP (vn n f) (vn m h))))]) cx_R sl_nil Try.func24 (by kernel_rfl) (by kernel_rfl) (fun _ _ _ _ => closed_s) fun a n c f b m d h ⟨h1, h2, h3, h4, _⟩ => ok_dPlus a n c f b m d h h1 h2 h3 h4
theorem card_dCompare : FnOKs Try.prog [] 26 (specDD false dg2C cmpR) :=
  FnOKs_DD (iv := fun a n c f b m d h => [(2, .inv (invCmp a n c f b m d h fun k => vn n f / 4294967296 ^ k = vn m h / 4294967296 ^ k))]) cx_R sl_nil Try.func26 (by kernel_rfl) (by kernel_rfl) (fun _ _ _ _ x hx => by simp only [cmpR, List.mem_singleton] at hx; subst hx; trivial) fun a n c f b m d h ⟨h1, h2, h3, h4, _⟩ => ok_compare a n c f b m d h h1 h2 h3 h4
theorem card_dLess : FnOKs Try.prog [] 42 (specDD false lessC lessR) :=
  FnOKs_DD (iv := fun a n c f b m d h => [(4, .inv (invLess b m d h n (LessP (vn n f) (vn m h) n)))]) cx_R sl_nil Try.func42 (by kernel_rfl) (by kernel_rfl) (fun _ _ _ _ => closed_s) fun a n c f b m d h ⟨h1, h2, h3, h4, h5, _⟩ => ok_dLess a n c f b m d h h1 h2 h3 h4 h5
theorem card_dShorn : FnOKs Try.prog [] 23 (specD true dgsC shornR) :=
  FnOKs_D (iv := fun a n c f => [(1, .inv (invShorn f fun k => k ≤ n ∧ vn n f < 4294967296 ^ k))]) cx_R sl_nil Try.func23 (by kernel_rfl) (by kernel_rfl) (fun _ _ => closed_s) fun a n c f ⟨h1, h2, _⟩ => ok_shorn a n c f h1 h2
theorem card_dWide : FnOKs Try.prog [] 39 (specD false dgsC wideR) :=
  FnOKs_D (iv := fun a n c f => [(4, .inv (invWide a n c f (fun y => vn n f % 4294967296 ^ min y 8) (fun y => decide (M256 ≤ vn n f % 4294967296 ^ y))))]) cx_R sl_nil Try.func39 (by kernel_rfl) (by kernel_rfl) (fun _ _ x hx => by
    simp only [wideR, List.mem_cons, List.not_mem_nil, or_false] at hx
    rcases hx with rfl | rfl
    · exact bnd_Un _
    · trivial) fun a n c f ⟨h1, h2, _⟩ => ok_wide a n c f h1 h2
theorem sl_wide : ∀ p ∈ slWide, FnOKs Try.prog [] p.1 p.2 := fun p hp => by
  simp only [slWide, List.mem_cons, List.not_mem_nil, or_false] at hp
  subst hp
  exact card_dWide
theorem card_dCut : FnOKs Try.prog [] 41 (specD false dgsC cutR) :=
  FnOKs_D (iv := fun _ _ _ _ => []) cx_R sl_wide Try.func41 (by kernel_rfl) (by kernel_rfl) (fun _ _ x hx => by simp only [cutR, List.mem_singleton] at hx; subst hx; exact bnd_Un _) fun a n c f ⟨h1, h2, _⟩ => ok_cut a n c f h1 h2
end Go.Proofs.Ytnkgniedhmnanaa
end

section
namespace Go.Proofs.Ytnkgniedhmnanaa
open Go Go.Sx Go.RowKit
set_option maxRecDepth 100000
end Go.Proofs.Ytnkgniedhmnanaa
end

section
namespace Go.Proofs.Ytnkgniedhmnanaa
open Go Go.Sx Go.RowKit
end Go.Proofs.Ytnkgniedhmnanaa
end

section
namespace Go.Proofs.Ytnkgniedhmnanaa
open Go Go.Sx Go.RowKit
end Go.Proofs.Ytnkgniedhmnanaa
end

section
namespace Go.Proofs.Ytnkgniedhmnanaa
open Go Go.Sx Go.RowKit
set_option maxRecDepth 100000
structure hkP (a : Option Addr) (n : Nat) (f : Nat → Nat → SC) : Prop where
  k1 : n ≤ maxLen
  k2 : a = none → n = 0
  k3 : ∀ i, i < n → ∀ j, j < 32 → (f i j).conc Rho.nil = .int .u8 (kOf f i j)
  k4 : ∀ i, i < n → ∀ j, j < 4 → (f i (32 + j)).conc Rho.nil = .int .u64 (limb (aH f i) j)
  k5 : ∀ i, i < n → by32 (kOf f i)
  k6 : ∀ i, i < n → aH f i < M256
def hlC : List (List FD) → List Prop
  | [[.x a n _ f]] => [hkP a n f]
  | _ => [False]
def orG : List (List FD) → List RS
  | [[.x _ n _ f]] => [.v (sB (ordB n (kH f) (aH f)))]
  | _ => []
def cOr : SSpec := specQ0 false [.one (.x 36)] hlC orG
def togN (n : Nat) (A : Nat → Nat) : Nat := if sumN A n < M256 then sumN A n else 0
def toG : List (List FD) → List RS
  | [[.x _ n _ f]] => [.v (sU (togN n (aH f))), .v (sB (!decide (sumN (aH f) n < M256)))]
  | _ => []
def cTo : SSpec := specQ0 false [.one (.x 36)] hlC toG
def slCk : List (Nat × SSpec) := [(19, cOr), (20, cTo)]
def isZH (a : Nat) : SV := .one (sB (decide (a % M256 = 0)))
def cxCf : Cx := ⟨[(21, specU isZH), (7, fun _ => none), (1000000008, fun _ => none), (1000000010, fun _ => none), (1000000011, fun _ => none), (1000000012, fun _ => none), (1000000013, fun _ => none), (1000000014, fun _ => none)], [], 0, []⟩
def slRf : List (Nat × SSpec) := [(25, specUR ofR), (24, specDD false dg2C plusR), (26, specDD false dg2C cmpR), (42, specDD false lessC lessR), (23, specD true dgsC shornR), (39, specD false dgsC wideR), (41, specD false dgsC cutR)]
def slCf : List (Nat × SSpec) := (22, cBf) :: slRf
def invCf (a : Option Addr) (n cap : Nat) (W : Nat → Nat → Int) (A : Nat → Nat) (s : Nat) (B : Nat → Bool) : Inv where
  X := Nat × Option Addr × Nat × Addr
  tm y := slotsAt 59 [(1, .one (.sc (.px y.2.2.2 5 (fun c => ([.val (.int .u64 (limb s 0)), .val (.int .u64 (limb s 1)), .val (.int .u64 (limb s 2)), .val (.int .u64 (limb s 3)), .xs a n cap 36 (hoF W A)] : List SC).getD c (.bit false))))), (3, .one (xsI y.2.1 (lenDg (sumN A y.1)) y.2.2.1 .u64 (dg (sumN A y.1)))), (4, .one (sB (B y.1))), (12, .one (sHs a n cap W A)), (13, .one (sI .i64 (n : Int))), (14, .one (sI .i64 (y.1 : Int)))]
  ob _ := []
  holds y := y.1 ≤ n
  less y := n - y.1
theorem vc_ck (s : Nat) (a : Option Addr) (n cap : Nat) (W : Nat → Nat → Int) (A : Nat → Nat) (r : Int) :
    OwesR Try.prog .none slCk [] 10 Try.f8 [sCn s a n cap W A] false [.v (sI .i64 r)] =
    (let x1 : Bool := !Decidable.decide (sumN (aH (hoF W A)) n < M256); (Decidable.decide ((↑n : Int) > (40 : Int)) = Bool.true → (1 : Int) = r) ∧ (Decidable.decide ((↑n : Int) > (40 : Int)) = Bool.false → hkP a n (hoF W A) ∧ ((!ordB n (kH (hoF W A)) (aH (hoF W A))) = Bool.true → (12 : Int) = r) ∧ ((!ordB n (kH (hoF W A)) (aH (hoF W A))) = Bool.false → hkP a n (hoF W A) ∧ ((!x1) = Bool.true → (!x1) = Bool.true) ∧ ((!x1) = Bool.true → (!x1) = Bool.true) ∧ ((!x1) = Bool.true → (!x1) = Bool.true) ∧ (x1 = Bool.false → (!x1) = Bool.true) ∧ ((x1 || !conj [togN n (aH (hoF W A)) % M256 == s % M256]) = Bool.true → (12 : Int) = r) ∧ ((x1 || !conj [togN n (aH (hoF W A)) % M256 == s % M256]) = Bool.false → (0 : Int) = r)))) := by kernel_rfl
theorem vc_isz (a : Nat) :
    Owes Try.prog .none [] 10 Try.f21 [sU a] (isZH a) =
    (let x1 : Nat := a % M256; conj [x1 == 0] = Decidable.decide (x1 = 0)) := by kernel_rfl
set_option maxHeartbeats 4000000 in
theorem vc_cf (s : Nat) (a : Option Addr) (n cap : Nat) (W : Nat → Nat → Int) (A : Nat → Nat) (B : Nat → Bool) (r : Int) :
    OwesR Try.prog cxCf slCf [(6, .inv (invCf a n cap W A s B))] 10 Try.f9 [sCn s a n cap W A] false [.v (sI .i64 r)] =
    (∀ (a_1 : Go.Addr), (Decidable.decide ((↑n : Int) > (40 : Int)) = Bool.true → (1 : Int) = r) ∧ (Decidable.decide ((↑n : Int) > (40 : Int)) = Bool.false → (∀ (y : Nat × Option Go.Addr × Nat × Go.Addr), closedB (slotsAt 59 [(1, SV.one (SA.sc (SC.px y.snd.snd.snd 5 fun (c : Nat) => [SC.val (Go.Value.int Go.IntKind.u64 (limb s 0)), SC.val (Go.Value.int Go.IntKind.u64 (limb s 1)), SC.val (Go.Value.int Go.IntKind.u64 (limb s 2)), SC.val (Go.Value.int Go.IntKind.u64 (limb s 3)), SC.xs a n cap 36 (hoF W A)].getD c (SC.bit Bool.false)))), (3, SV.one (xsI y.snd.fst (lenDg (sumN A y.fst)) y.snd.snd.fst Go.IntKind.u64 (dg (sumN A y.fst)))), (4, SV.one (sB (B y.fst))), (12, SV.one (sHs a n cap W A)), (13, SV.one (sI Go.IntKind.i64 (↑n : Int))), (14, SV.one (sI Go.IntKind.i64 (↑y.fst : Int)))]) [] = Bool.true) ∧ ∃ (y : Nat × Option Go.Addr × Nat × Go.Addr), y.fst ≤ n ∧ (a_1 = y.snd.snd.snd ∧ simC ((flat (toKs (sCn s a n cap W A))).getD 0 (SC.bit Bool.false)) ([SC.val (Go.Value.int Go.IntKind.u64 (limb s 0)), SC.val (Go.Value.int Go.IntKind.u64 (limb s 1)), SC.val (Go.Value.int Go.IntKind.u64 (limb s 2)), SC.val (Go.Value.int Go.IntKind.u64 (limb s 3)), SC.xs a n cap 36 (hoF W A)].getD 0 (SC.bit Bool.false)) ∧ simC ((flat (toKs (sCn s a n cap W A))).getD 1 (SC.bit Bool.false)) ([SC.val (Go.Value.int Go.IntKind.u64 (limb s 0)), SC.val (Go.Value.int Go.IntKind.u64 (limb s 1)), SC.val (Go.Value.int Go.IntKind.u64 (limb s 2)), SC.val (Go.Value.int Go.IntKind.u64 (limb s 3)), SC.xs a n cap 36 (hoF W A)].getD 1 (SC.bit Bool.false)) ∧ simC ((flat (toKs (sCn s a n cap W A))).getD 2 (SC.bit Bool.false)) ([SC.val (Go.Value.int Go.IntKind.u64 (limb s 0)), SC.val (Go.Value.int Go.IntKind.u64 (limb s 1)), SC.val (Go.Value.int Go.IntKind.u64 (limb s 2)), SC.val (Go.Value.int Go.IntKind.u64 (limb s 3)), SC.xs a n cap 36 (hoF W A)].getD 2 (SC.bit Bool.false)) ∧ simC ((flat (toKs (sCn s a n cap W A))).getD 3 (SC.bit Bool.false)) ([SC.val (Go.Value.int Go.IntKind.u64 (limb s 0)), SC.val (Go.Value.int Go.IntKind.u64 (limb s 1)), SC.val (Go.Value.int Go.IntKind.u64 (limb s 2)), SC.val (Go.Value.int Go.IntKind.u64 (limb s 3)), SC.xs a n cap 36 (hoF W A)].getD 3 (SC.bit Bool.false)) ∧ a = a ∧ n = n ∧ cap = cap ∧ ∀ (i : Nat), i < n → simC (hoF W A i 0) (hoF W A i 0) ∧ simC (hoF W A i 1) (hoF W A i 1) ∧ simC (hoF W A i 2) (hoF W A i 2) ∧ simC (hoF W A i 3) (hoF W A i 3) ∧ simC (hoF W A i 4) (hoF W A i 4) ∧ simC (hoF W A i 5) (hoF W A i 5) ∧ simC (hoF W A i 6) (hoF W A i 6) ∧ simC (hoF W A i 7) (hoF W A i 7) ∧ simC (hoF W A i 8) (hoF W A i 8) ∧ simC (hoF W A i 9) (hoF W A i 9) ∧ simC (hoF W A i 10) (hoF W A i 10) ∧ simC (hoF W A i 11) (hoF W A i 11) ∧ simC (hoF W A i 12) (hoF W A i 12) ∧ simC (hoF W A i 13) (hoF W A i 13) ∧ simC (hoF W A i 14) (hoF W A i 14) ∧ simC (hoF W A i 15) (hoF W A i 15) ∧ simC (hoF W A i 16) (hoF W A i 16) ∧ simC (hoF W A i 17) (hoF W A i 17) ∧ simC (hoF W A i 18) (hoF W A i 18) ∧ simC (hoF W A i 19) (hoF W A i 19) ∧ simC (hoF W A i 20) (hoF W A i 20) ∧ simC (hoF W A i 21) (hoF W A i 21) ∧ simC (hoF W A i 22) (hoF W A i 22) ∧ simC (hoF W A i 23) (hoF W A i 23) ∧ simC (hoF W A i 24) (hoF W A i 24) ∧ simC (hoF W A i 25) (hoF W A i 25) ∧ simC (hoF W A i 26) (hoF W A i 26) ∧ simC (hoF W A i 27) (hoF W A i 27) ∧ simC (hoF W A i 28) (hoF W A i 28) ∧ simC (hoF W A i 29) (hoF W A i 29) ∧ simC (hoF W A i 30) (hoF W A i 30) ∧ simC (hoF W A i 31) (hoF W A i 31) ∧ simC (hoF W A i 32) (hoF W A i 32) ∧ simC (hoF W A i 33) (hoF W A i 33) ∧ simC (hoF W A i 34) (hoF W A i 34) ∧ limb (A i) 3 = limb (A i) 3) ∧ y.snd.fst = Option.none ∧ lenDg (sumN A y.fst) = 0 ∧ y.snd.snd.fst = 0 ∧ Bool.true = B y.fst ∧ (a = a ∧ n = n ∧ cap = cap ∧ ∀ (i : Nat), i < n → simC (hoF W A i 0) (hoF W A i 0) ∧ simC (hoF W A i 1) (hoF W A i 1) ∧ simC (hoF W A i 2) (hoF W A i 2) ∧ simC (hoF W A i 3) (hoF W A i 3) ∧ simC (hoF W A i 4) (hoF W A i 4) ∧ simC (hoF W A i 5) (hoF W A i 5) ∧ simC (hoF W A i 6) (hoF W A i 6) ∧ simC (hoF W A i 7) (hoF W A i 7) ∧ simC (hoF W A i 8) (hoF W A i 8) ∧ simC (hoF W A i 9) (hoF W A i 9) ∧ simC (hoF W A i 10) (hoF W A i 10) ∧ simC (hoF W A i 11) (hoF W A i 11) ∧ simC (hoF W A i 12) (hoF W A i 12) ∧ simC (hoF W A i 13) (hoF W A i 13) ∧ simC (hoF W A i 14) (hoF W A i 14) ∧ simC (hoF W A i 15) (hoF W A i 15) ∧ simC (hoF W A i 16) (hoF W A i 16) ∧ simC (hoF W A i 17) (hoF W A i 17) ∧ simC (hoF W A i 18) (hoF W A i 18) ∧ simC (hoF W A i 19) (hoF W A i 19) ∧ simC (hoF W A i 20) (hoF W A i 20) ∧ simC (hoF W A i 21) (hoF W A i 21) ∧ simC (hoF W A i 22) (hoF W A i 22) ∧ simC (hoF W A i 23) (hoF W A i 23) ∧ simC (hoF W A i 24) (hoF W A i 24) ∧ simC (hoF W A i 25) (hoF W A i 25) ∧ simC (hoF W A i 26) (hoF W A i 26) ∧ simC (hoF W A i 27) (hoF W A i 27) ∧ simC (hoF W A i 28) (hoF W A i 28) ∧ simC (hoF W A i 29) (hoF W A i 29) ∧ simC (hoF W A i 30) (hoF W A i 30) ∧ simC (hoF W A i 31) (hoF W A i 31) ∧ simC (hoF W A i 32) (hoF W A i 32) ∧ simC (hoF W A i 33) (hoF W A i 33) ∧ simC (hoF W A i 34) (hoF W A i 34) ∧ limb (A i) 3 = limb (A i) 3) ∧ (↑n : Int) = (↑n : Int) ∧ (0 : Int) = (↑y.fst : Int) ∧ ∀ (y : Nat × Option Go.Addr × Nat × Go.Addr), y.fst ≤ n → (Decidable.decide ((↑y.fst : Int) < (↑n : Int)) = Bool.true → ((0 : Int) ≤ (↑y.fst : Int) ∧ (↑y.fst : Int) < (↑n : Int)) ∧ (B y.fst = Bool.true → B y.fst = Bool.true) ∧ (B y.fst = Bool.true → B y.fst = Bool.true) ∧ (B y.fst = Bool.true → (0 : Int) ≤ limb (A (↑y.fst : Int).toNat) 0 ∧ limb (A (↑y.fst : Int).toNat) 0 < (18446744073709551616 : Int)) ∧ (B y.fst = Bool.true → (0 : Int) ≤ limb (A (↑y.fst : Int).toNat) 1 ∧ limb (A (↑y.fst : Int).toNat) 1 < (18446744073709551616 : Int)) ∧ (B y.fst = Bool.true → (0 : Int) ≤ limb (A (↑y.fst : Int).toNat) 2 ∧ limb (A (↑y.fst : Int).toNat) 2 < (18446744073709551616 : Int)) ∧ (B y.fst = Bool.true → (0 : Int) ≤ limb (A (↑y.fst : Int).toNat) 3 ∧ limb (A (↑y.fst : Int).toNat) 3 < (18446744073709551616 : Int)) ∧ (B y.fst = Bool.true → B y.fst = Bool.true) ∧ (B y.fst = Bool.true → B y.fst = Bool.true) ∧ ((B y.fst && !Decidable.decide (join (limb (A (↑y.fst : Int).toNat) 0) (limb (A (↑y.fst : Int).toNat) 1) (limb (A (↑y.fst : Int).toNat) 2) (limb (A (↑y.fst : Int).toNat) 3) % M256 = 0)) = Bool.true → (B y.fst && !Decidable.decide (join (limb (A (↑y.fst : Int).toNat) 0) (limb (A (↑y.fst : Int).toNat) 1) (limb (A (↑y.fst : Int).toNat) 2) (limb (A (↑y.fst : Int).toNat) 3) % M256 = 0)) = Bool.true) ∧ ((B y.fst && !Decidable.decide (join (limb (A (↑y.fst : Int).toNat) 0) (limb (A (↑y.fst : Int).toNat) 1) (limb (A (↑y.fst : Int).toNat) 2) (limb (A (↑y.fst : Int).toNat) 3) % M256 = 0)) = Bool.true → (B y.fst && !Decidable.decide (join (limb (A (↑y.fst : Int).toNat) 0) (limb (A (↑y.fst : Int).toNat) 1) (limb (A (↑y.fst : Int).toNat) 2) (limb (A (↑y.fst : Int).toNat) 3) % M256 = 0)) = Bool.true) ∧ ((B y.fst && !Decidable.decide (join (limb (A (↑y.fst : Int).toNat) 0) (limb (A (↑y.fst : Int).toNat) 1) (limb (A (↑y.fst : Int).toNat) 2) (limb (A (↑y.fst : Int).toNat) 3) % M256 = 0) && !(↑y.fst : Int) == (0 : Int)) = Bool.true → (B y.fst && !Decidable.decide (join (limb (A (↑y.fst : Int).toNat) 0) (limb (A (↑y.fst : Int).toNat) 1) (limb (A (↑y.fst : Int).toNat) 2) (limb (A (↑y.fst : Int).toNat) 3) % M256 = 0) && !(↑y.fst : Int) == (0 : Int)) = Bool.true) ∧ ((B y.fst && !Decidable.decide (join (limb (A (↑y.fst : Int).toNat) 0) (limb (A (↑y.fst : Int).toNat) 1) (limb (A (↑y.fst : Int).toNat) 2) (limb (A (↑y.fst : Int).toNat) 3) % M256 = 0) && !(↑y.fst : Int) == (0 : Int)) = Bool.true → (B y.fst && !Decidable.decide (join (limb (A (↑y.fst : Int).toNat) 0) (limb (A (↑y.fst : Int).toNat) 1) (limb (A (↑y.fst : Int).toNat) 2) (limb (A (↑y.fst : Int).toNat) 3) % M256 = 0) && !(↑y.fst : Int) == (0 : Int)) = Bool.true) ∧ ((B y.fst && !Decidable.decide (join (limb (A (↑y.fst : Int).toNat) 0) (limb (A (↑y.fst : Int).toNat) 1) (limb (A (↑y.fst : Int).toNat) 2) (limb (A (↑y.fst : Int).toNat) 3) % M256 = 0) && !(↑y.fst : Int) == (0 : Int)) = Bool.true → (B y.fst && !Decidable.decide (join (limb (A (↑y.fst : Int).toNat) 0) (limb (A (↑y.fst : Int).toNat) 1) (limb (A (↑y.fst : Int).toNat) 2) (limb (A (↑y.fst : Int).toNat) 3) % M256 = 0) && !(↑y.fst : Int) == (0 : Int)) = Bool.true) ∧ ((B y.fst && !Decidable.decide (join (limb (A (↑y.fst : Int).toNat) 0) (limb (A (↑y.fst : Int).toNat) 1) (limb (A (↑y.fst : Int).toNat) 2) (limb (A (↑y.fst : Int).toNat) 3) % M256 = 0) && !(↑y.fst : Int) == (0 : Int)) = Bool.true → (B y.fst && !Decidable.decide (join (limb (A (↑y.fst : Int).toNat) 0) (limb (A (↑y.fst : Int).toNat) 1) (limb (A (↑y.fst : Int).toNat) 2) (limb (A (↑y.fst : Int).toNat) 3) % M256 = 0) && !(↑y.fst : Int) == (0 : Int)) = Bool.true) ∧ ((B y.fst && !Decidable.decide (join (limb (A (↑y.fst : Int).toNat) 0) (limb (A (↑y.fst : Int).toNat) 1) (limb (A (↑y.fst : Int).toNat) 2) (limb (A (↑y.fst : Int).toNat) 3) % M256 = 0) && !(↑y.fst : Int) == (0 : Int)) = Bool.true → (0 : Int) ≤ Go.IntKind.i64.wrap ((↑y.fst : Int) - (1 : Int)) ∧ Go.IntKind.i64.wrap ((↑y.fst : Int) - (1 : Int)) < (↑n : Int)) ∧ ((B y.fst && !Decidable.decide (join (limb (A (↑y.fst : Int).toNat) 0) (limb (A (↑y.fst : Int).toNat) 1) (limb (A (↑y.fst : Int).toNat) 2) (limb (A (↑y.fst : Int).toNat) 3) % M256 = 0) && !(↑y.fst : Int) == (0 : Int)) = Bool.true → (B y.fst && !Decidable.decide (join (limb (A (↑y.fst : Int).toNat) 0) (limb (A (↑y.fst : Int).toNat) 1) (limb (A (↑y.fst : Int).toNat) 2) (limb (A (↑y.fst : Int).toNat) 3) % M256 = 0) && !(↑y.fst : Int) == (0 : Int)) = Bool.true) ∧ ((B y.fst && !Decidable.decide (join (limb (A (↑y.fst : Int).toNat) 0) (limb (A (↑y.fst : Int).toNat) 1) (limb (A (↑y.fst : Int).toNat) 2) (limb (A (↑y.fst : Int).toNat) 3) % M256 = 0) && !(↑y.fst : Int) == (0 : Int)) = Bool.true → (B y.fst && !Decidable.decide (join (limb (A (↑y.fst : Int).toNat) 0) (limb (A (↑y.fst : Int).toNat) 1) (limb (A (↑y.fst : Int).toNat) 2) (limb (A (↑y.fst : Int).toNat) 3) % M256 = 0) && !(↑y.fst : Int) == (0 : Int)) = Bool.true) ∧ ((B y.fst && !Decidable.decide (join (limb (A (↑y.fst : Int).toNat) 0) (limb (A (↑y.fst : Int).toNat) 1) (limb (A (↑y.fst : Int).toNat) 2) (limb (A (↑y.fst : Int).toNat) 3) % M256 = 0) && !(↑y.fst : Int) == (0 : Int)) = Bool.true → (B y.fst && !Decidable.decide (join (limb (A (↑y.fst : Int).toNat) 0) (limb (A (↑y.fst : Int).toNat) 1) (limb (A (↑y.fst : Int).toNat) 2) (limb (A (↑y.fst : Int).toNat) 3) % M256 = 0) && !(↑y.fst : Int) == (0 : Int)) = Bool.true) ∧ ((B y.fst && !Decidable.decide (join (limb (A (↑y.fst : Int).toNat) 0) (limb (A (↑y.fst : Int).toNat) 1) (limb (A (↑y.fst : Int).toNat) 2) (limb (A (↑y.fst : Int).toNat) 3) % M256 = 0) && !(↑y.fst : Int) == (0 : Int)) = Bool.true → (B y.fst && !Decidable.decide (join (limb (A (↑y.fst : Int).toNat) 0) (limb (A (↑y.fst : Int).toNat) 1) (limb (A (↑y.fst : Int).toNat) 2) (limb (A (↑y.fst : Int).toNat) 3) % M256 = 0) && !(↑y.fst : Int) == (0 : Int)) = Bool.true ∧ (B y.fst && !Decidable.decide (join (limb (A (↑y.fst : Int).toNat) 0) (limb (A (↑y.fst : Int).toNat) 1) (limb (A (↑y.fst : Int).toNat) 2) (limb (A (↑y.fst : Int).toNat) 3) % M256 = 0) && !(↑y.fst : Int) == (0 : Int)) = Bool.true ∧ (∀ (j : Nat), j < 32 → intsC (hoF W A (Go.IntKind.i64.wrap ((↑y.fst : Int) - (1 : Int))).toNat (0 + (0 + j))) = intsC (hoF W A (Go.IntKind.i64.wrap ((↑y.fst : Int) - (1 : Int))).toNat (0 + (0 + j)))) ∧ (∀ (j : Nat), j < 32 → intsC (hoF W A (↑y.fst : Int).toNat (0 + j)) = intsC (hoF W A (↑y.fst : Int).toNat (0 + j))) ∧ (∀ (j : Nat), j < 32 → (0 : Int) ≤ intsC (hoF W A (Go.IntKind.i64.wrap ((↑y.fst : Int) - (1 : Int))).toNat (0 + (0 + j))) ∧ intsC (hoF W A (Go.IntKind.i64.wrap ((↑y.fst : Int) - (1 : Int))).toNat (0 + (0 + j))) < (256 : Int)) ∧ (∀ (j : Nat), j < 32 → (0 : Int) ≤ intsC (hoF W A (↑y.fst : Int).toNat (0 + j)) ∧ intsC (hoF W A (↑y.fst : Int).toNat (0 + j)) < (256 : Int)) ∧ ((B y.fst && !Decidable.decide (join (limb (A (↑y.fst : Int).toNat) 0) (limb (A (↑y.fst : Int).toNat) 1) (limb (A (↑y.fst : Int).toNat) 2) (limb (A (↑y.fst : Int).toNat) 3) % M256 = 0)) = Bool.true → (B y.fst && !Decidable.decide (join (limb (A (↑y.fst : Int).toNat) 0) (limb (A (↑y.fst : Int).toNat) 1) (limb (A (↑y.fst : Int).toNat) 2) (limb (A (↑y.fst : Int).toNat) 3) % M256 = 0)) = Bool.true) ∧ ((B y.fst && !Decidable.decide (join (limb (A (↑y.fst : Int).toNat) 0) (limb (A (↑y.fst : Int).toNat) 1) (limb (A (↑y.fst : Int).toNat) 2) (limb (A (↑y.fst : Int).toNat) 3) % M256 = 0)) = Bool.true → (B y.fst && !Decidable.decide (join (limb (A (↑y.fst : Int).toNat) 0) (limb (A (↑y.fst : Int).toNat) 1) (limb (A (↑y.fst : Int).toNat) 2) (limb (A (↑y.fst : Int).toNat) 3) % M256 = 0)) = Bool.true) ∧ ((0 : Int) ≤ limb (A (↑y.fst : Int).toNat) 0 ∧ limb (A (↑y.fst : Int).toNat) 0 < (18446744073709551616 : Int)) ∧ ((0 : Int) ≤ limb (A (↑y.fst : Int).toNat) 1 ∧ limb (A (↑y.fst : Int).toNat) 1 < (18446744073709551616 : Int)) ∧ ((0 : Int) ≤ limb (A (↑y.fst : Int).toNat) 2 ∧ limb (A (↑y.fst : Int).toNat) 2 < (18446744073709551616 : Int)) ∧ ((0 : Int) ≤ limb (A (↑y.fst : Int).toNat) 3 ∧ limb (A (↑y.fst : Int).toNat) 3 < (18446744073709551616 : Int)) ∧ ∀ (a_6 : Option Go.Addr) (cap_1 : Nat), (a_6 = Option.none → 8 = 0 ∧ cap_1 = 0) → 8 ≤ cap_1 → (∀ (_ : Nat), True) ∧ (∀ (_ : Nat), True) ∧ (dgs (lenDg (sumN A y.fst)) fun (i : Nat) => dg (sumN A y.fst) i) ∧ lenDg (sumN A y.fst) ≤ 1000 ∧ (dgs 8 fun (i : Nat) => dg (join (limb (A (↑y.fst : Int).toNat) 0) (limb (A (↑y.fst : Int).toNat) 1) (limb (A (↑y.fst : Int).toNat) 2) (limb (A (↑y.fst : Int).toNat) 3) % M256) i) ∧ 8 ≤ 1000 ∧ ∀ (a_9 : Option Go.Addr) (cap_2 : Nat), (a_9 = Option.none → Max.max (lenDg (sumN A y.fst)) 8 + 1 = 0 ∧ cap_2 = 0) → Max.max (lenDg (sumN A y.fst)) 8 + 1 ≤ cap_2 → (∀ (_ : Nat), True) ∧ (dgs (Max.max (lenDg (sumN A y.fst)) 8 + 1) fun (i : Nat) => dg ((vn (lenDg (sumN A y.fst)) fun (i : Nat) => dg (sumN A y.fst) i) + vn 8 fun (i : Nat) => dg (join (limb (A (↑y.fst : Int).toNat) 0) (limb (A (↑y.fst : Int).toNat) 1) (limb (A (↑y.fst : Int).toNat) 2) (limb (A (↑y.fst : Int).toNat) 3) % M256) i) i) ∧ Max.max (lenDg (sumN A y.fst)) 8 + 1 ≤ 1000 ∧ ∀ (a_12 : Option Go.Addr) (cap_3 : Nat), (a_12 = Option.none → lenDg (vn (Max.max (lenDg (sumN A y.fst)) 8 + 1) fun (i : Nat) => dg ((vn (lenDg (sumN A y.fst)) fun (i : Nat) => dg (sumN A y.fst) i) + vn 8 fun (i : Nat) => dg (join (limb (A (↑y.fst : Int).toNat) 0) (limb (A (↑y.fst : Int).toNat) 1) (limb (A (↑y.fst : Int).toNat) 2) (limb (A (↑y.fst : Int).toNat) 3) % M256) i) i) = 0 ∧ cap_3 = 0) → lenDg (vn (Max.max (lenDg (sumN A y.fst)) 8 + 1) fun (i : Nat) => dg ((vn (lenDg (sumN A y.fst)) fun (i : Nat) => dg (sumN A y.fst) i) + vn 8 fun (i : Nat) => dg (join (limb (A (↑y.fst : Int).toNat) 0) (limb (A (↑y.fst : Int).toNat) 1) (limb (A (↑y.fst : Int).toNat) 2) (limb (A (↑y.fst : Int).toNat) 3) % M256) i) i) ≤ cap_3 → ∃ (y' : Nat × Option Go.Addr × Nat × Go.Addr), y'.fst ≤ n ∧ (y.snd.snd.snd = y'.snd.snd.snd ∧ simC ([SC.val (Go.Value.int Go.IntKind.u64 (limb s 0)), SC.val (Go.Value.int Go.IntKind.u64 (limb s 1)), SC.val (Go.Value.int Go.IntKind.u64 (limb s 2)), SC.val (Go.Value.int Go.IntKind.u64 (limb s 3)), SC.xs a n cap 36 (hoF W A)].getD 0 (SC.bit Bool.false)) ([SC.val (Go.Value.int Go.IntKind.u64 (limb s 0)), SC.val (Go.Value.int Go.IntKind.u64 (limb s 1)), SC.val (Go.Value.int Go.IntKind.u64 (limb s 2)), SC.val (Go.Value.int Go.IntKind.u64 (limb s 3)), SC.xs a n cap 36 (hoF W A)].getD 0 (SC.bit Bool.false)) ∧ simC ([SC.val (Go.Value.int Go.IntKind.u64 (limb s 0)), SC.val (Go.Value.int Go.IntKind.u64 (limb s 1)), SC.val (Go.Value.int Go.IntKind.u64 (limb s 2)), SC.val (Go.Value.int Go.IntKind.u64 (limb s 3)), SC.xs a n cap 36 (hoF W A)].getD 1 (SC.bit Bool.false)) ([SC.val (Go.Value.int Go.IntKind.u64 (limb s 0)), SC.val (Go.Value.int Go.IntKind.u64 (limb s 1)), SC.val (Go.Value.int Go.IntKind.u64 (limb s 2)), SC.val (Go.Value.int Go.IntKind.u64 (limb s 3)), SC.xs a n cap 36 (hoF W A)].getD 1 (SC.bit Bool.false)) ∧ simC ([SC.val (Go.Value.int Go.IntKind.u64 (limb s 0)), SC.val (Go.Value.int Go.IntKind.u64 (limb s 1)), SC.val (Go.Value.int Go.IntKind.u64 (limb s 2)), SC.val (Go.Value.int Go.IntKind.u64 (limb s 3)), SC.xs a n cap 36 (hoF W A)].getD 2 (SC.bit Bool.false)) ([SC.val (Go.Value.int Go.IntKind.u64 (limb s 0)), SC.val (Go.Value.int Go.IntKind.u64 (limb s 1)), SC.val (Go.Value.int Go.IntKind.u64 (limb s 2)), SC.val (Go.Value.int Go.IntKind.u64 (limb s 3)), SC.xs a n cap 36 (hoF W A)].getD 2 (SC.bit Bool.false)) ∧ simC ([SC.val (Go.Value.int Go.IntKind.u64 (limb s 0)), SC.val (Go.Value.int Go.IntKind.u64 (limb s 1)), SC.val (Go.Value.int Go.IntKind.u64 (limb s 2)), SC.val (Go.Value.int Go.IntKind.u64 (limb s 3)), SC.xs a n cap 36 (hoF W A)].getD 3 (SC.bit Bool.false)) ([SC.val (Go.Value.int Go.IntKind.u64 (limb s 0)), SC.val (Go.Value.int Go.IntKind.u64 (limb s 1)), SC.val (Go.Value.int Go.IntKind.u64 (limb s 2)), SC.val (Go.Value.int Go.IntKind.u64 (limb s 3)), SC.xs a n cap 36 (hoF W A)].getD 3 (SC.bit Bool.false)) ∧ a = a ∧ n = n ∧ cap = cap ∧ ∀ (i : Nat), i < n → simC (hoF W A i 0) (hoF W A i 0) ∧ simC (hoF W A i 1) (hoF W A i 1) ∧ simC (hoF W A i 2) (hoF W A i 2) ∧ simC (hoF W A i 3) (hoF W A i 3) ∧ simC (hoF W A i 4) (hoF W A i 4) ∧ simC (hoF W A i 5) (hoF W A i 5) ∧ simC (hoF W A i 6) (hoF W A i 6) ∧ simC (hoF W A i 7) (hoF W A i 7) ∧ simC (hoF W A i 8) (hoF W A i 8) ∧ simC (hoF W A i 9) (hoF W A i 9) ∧ simC (hoF W A i 10) (hoF W A i 10) ∧ simC (hoF W A i 11) (hoF W A i 11) ∧ simC (hoF W A i 12) (hoF W A i 12) ∧ simC (hoF W A i 13) (hoF W A i 13) ∧ simC (hoF W A i 14) (hoF W A i 14) ∧ simC (hoF W A i 15) (hoF W A i 15) ∧ simC (hoF W A i 16) (hoF W A i 16) ∧ simC (hoF W A i 17) (hoF W A i 17) ∧ simC (hoF W A i 18) (hoF W A i 18) ∧ simC (hoF W A i 19) (hoF W A i 19) ∧ simC (hoF W A i 20) (hoF W A i 20) ∧ simC (hoF W A i 21) (hoF W A i 21) ∧ simC (hoF W A i 22) (hoF W A i 22) ∧ simC (hoF W A i 23) (hoF W A i 23) ∧ simC (hoF W A i 24) (hoF W A i 24) ∧ simC (hoF W A i 25) (hoF W A i 25) ∧ simC (hoF W A i 26) (hoF W A i 26) ∧ simC (hoF W A i 27) (hoF W A i 27) ∧ simC (hoF W A i 28) (hoF W A i 28) ∧ simC (hoF W A i 29) (hoF W A i 29) ∧ simC (hoF W A i 30) (hoF W A i 30) ∧ simC (hoF W A i 31) (hoF W A i 31) ∧ simC (hoF W A i 32) (hoF W A i 32) ∧ simC (hoF W A i 33) (hoF W A i 33) ∧ simC (hoF W A i 34) (hoF W A i 34) ∧ limb (A i) 3 = limb (A i) 3) ∧ (a_12 = y'.snd.fst ∧ lenDg (vn (Max.max (lenDg (sumN A y.fst)) 8 + 1) fun (i : Nat) => dg ((vn (lenDg (sumN A y.fst)) fun (i : Nat) => dg (sumN A y.fst) i) + vn 8 fun (i : Nat) => dg (join (limb (A (↑y.fst : Int).toNat) 0) (limb (A (↑y.fst : Int).toNat) 1) (limb (A (↑y.fst : Int).toNat) 2) (limb (A (↑y.fst : Int).toNat) 3) % M256) i) i) = lenDg (sumN A y'.fst) ∧ cap_3 = y'.snd.snd.fst ∧ ∀ (i : Nat), i < lenDg (vn (Max.max (lenDg (sumN A y.fst)) 8 + 1) fun (i : Nat) => dg ((vn (lenDg (sumN A y.fst)) fun (i : Nat) => dg (sumN A y.fst) i) + vn 8 fun (i : Nat) => dg (join (limb (A (↑y.fst : Int).toNat) 0) (limb (A (↑y.fst : Int).toNat) 1) (limb (A (↑y.fst : Int).toNat) 2) (limb (A (↑y.fst : Int).toNat) 3) % M256) i) i) → dg (vn (Max.max (lenDg (sumN A y.fst)) 8 + 1) fun (i : Nat) => dg ((vn (lenDg (sumN A y.fst)) fun (i : Nat) => dg (sumN A y.fst) i) + vn 8 fun (i : Nat) => dg (join (limb (A (↑y.fst : Int).toNat) 0) (limb (A (↑y.fst : Int).toNat) 1) (limb (A (↑y.fst : Int).toNat) 2) (limb (A (↑y.fst : Int).toNat) 3) % M256) i) i) i = dg (sumN A y'.fst) i) ∧ (B y.fst && !Decidable.decide (join (limb (A (↑y.fst : Int).toNat) 0) (limb (A (↑y.fst : Int).toNat) 1) (limb (A (↑y.fst : Int).toNat) 2) (limb (A (↑y.fst : Int).toNat) 3) % M256 = 0) && ((↑y.fst : Int) == (0 : Int) || Decidable.decide ((kv fun (j : Nat) => intsC (hoF W A (Go.IntKind.i64.wrap ((↑y.fst : Int) - (1 : Int))).toNat (0 + (0 + j)))) < kv fun (j : Nat) => intsC (hoF W A (↑y.fst : Int).toNat (0 + j))))) = B y'.fst ∧ (a = a ∧ n = n ∧ cap = cap ∧ ∀ (i : Nat), i < n → simC (hoF W A i 0) (hoF W A i 0) ∧ simC (hoF W A i 1) (hoF W A i 1) ∧ simC (hoF W A i 2) (hoF W A i 2) ∧ simC (hoF W A i 3) (hoF W A i 3) ∧ simC (hoF W A i 4) (hoF W A i 4) ∧ simC (hoF W A i 5) (hoF W A i 5) ∧ simC (hoF W A i 6) (hoF W A i 6) ∧ simC (hoF W A i 7) (hoF W A i 7) ∧ simC (hoF W A i 8) (hoF W A i 8) ∧ simC (hoF W A i 9) (hoF W A i 9) ∧ simC (hoF W A i 10) (hoF W A i 10) ∧ simC (hoF W A i 11) (hoF W A i 11) ∧ simC (hoF W A i 12) (hoF W A i 12) ∧ simC (hoF W A i 13) (hoF W A i 13) ∧ simC (hoF W A i 14) (hoF W A i 14) ∧ simC (hoF W A i 15) (hoF W A i 15) ∧ simC (hoF W A i 16) (hoF W A i 16) ∧ simC (hoF W A i 17) (hoF W A i 17) ∧ simC (hoF W A i 18) (hoF W A i 18) ∧ simC (hoF W A i 19) (hoF W A i 19) ∧ simC (hoF W A i 20) (hoF W A i 20) ∧ simC (hoF W A i 21) (hoF W A i 21) ∧ simC (hoF W A i 22) (hoF W A i 22) ∧ simC (hoF W A i 23) (hoF W A i 23) ∧ simC (hoF W A i 24) (hoF W A i 24) ∧ simC (hoF W A i 25) (hoF W A i 25) ∧ simC (hoF W A i 26) (hoF W A i 26) ∧ simC (hoF W A i 27) (hoF W A i 27) ∧ simC (hoF W A i 28) (hoF W A i 28) ∧ simC (hoF W A i 29) (hoF W A i 29) ∧ simC (hoF W A i 30) (hoF W A i 30) ∧ simC (hoF W A i 31) (hoF W A i 31) ∧ simC (hoF W A i 32) (hoF W A i 32) ∧ simC (hoF W A i 33) (hoF W A i 33) ∧ simC (hoF W A i 34) (hoF W A i 34) ∧ limb (A i) 3 = limb (A i) 3) ∧ (↑n : Int) = (↑n : Int) ∧ Go.IntKind.i64.wrap ((↑y.fst : Int) + (1 : Int)) = (↑y'.fst : Int) ∧ (n - y'.fst).succ.le (n - y.fst)) ∧ ((B y.fst && !Decidable.decide (join (limb (A (↑y.fst : Int).toNat) 0) (limb (A (↑y.fst : Int).toNat) 1) (limb (A (↑y.fst : Int).toNat) 2) (limb (A (↑y.fst : Int).toNat) 3) % M256 = 0) && !(↑y.fst : Int) == (0 : Int)) = Bool.false → ((B y.fst && !Decidable.decide (join (limb (A (↑y.fst : Int).toNat) 0) (limb (A (↑y.fst : Int).toNat) 1) (limb (A (↑y.fst : Int).toNat) 2) (limb (A (↑y.fst : Int).toNat) 3) % M256 = 0)) = Bool.true → (B y.fst && !Decidable.decide (join (limb (A (↑y.fst : Int).toNat) 0) (limb (A (↑y.fst : Int).toNat) 1) (limb (A (↑y.fst : Int).toNat) 2) (limb (A (↑y.fst : Int).toNat) 3) % M256 = 0)) = Bool.true) ∧ ((B y.fst && !Decidable.decide (join (limb (A (↑y.fst : Int).toNat) 0) (limb (A (↑y.fst : Int).toNat) 1) (limb (A (↑y.fst : Int).toNat) 2) (limb (A (↑y.fst : Int).toNat) 3) % M256 = 0)) = Bool.true → ((↑y.fst : Int) == (0 : Int)) = Bool.true) ∧ ((B y.fst && !Decidable.decide (join (limb (A (↑y.fst : Int).toNat) 0) (limb (A (↑y.fst : Int).toNat) 1) (limb (A (↑y.fst : Int).toNat) 2) (limb (A (↑y.fst : Int).toNat) 3) % M256 = 0)) = Bool.true → (B y.fst && !Decidable.decide (join (limb (A (↑y.fst : Int).toNat) 0) (limb (A (↑y.fst : Int).toNat) 1) (limb (A (↑y.fst : Int).toNat) 2) (limb (A (↑y.fst : Int).toNat) 3) % M256 = 0)) = Bool.true) ∧ ((0 : Int) ≤ limb (A (↑y.fst : Int).toNat) 0 ∧ limb (A (↑y.fst : Int).toNat) 0 < (18446744073709551616 : Int)) ∧ ((0 : Int) ≤ limb (A (↑y.fst : Int).toNat) 1 ∧ limb (A (↑y.fst : Int).toNat) 1 < (18446744073709551616 : Int)) ∧ ((0 : Int) ≤ limb (A (↑y.fst : Int).toNat) 2 ∧ limb (A (↑y.fst : Int).toNat) 2 < (18446744073709551616 : Int)) ∧ ((0 : Int) ≤ limb (A (↑y.fst : Int).toNat) 3 ∧ limb (A (↑y.fst : Int).toNat) 3 < (18446744073709551616 : Int)) ∧ ∀ (a_6 : Option Go.Addr) (cap_1 : Nat), (a_6 = Option.none → 8 = 0 ∧ cap_1 = 0) → 8 ≤ cap_1 → (∀ (_ : Nat), True) ∧ (∀ (_ : Nat), True) ∧ (dgs (lenDg (sumN A y.fst)) fun (i : Nat) => dg (sumN A y.fst) i) ∧ lenDg (sumN A y.fst) ≤ 1000 ∧ (dgs 8 fun (i : Nat) => dg (join (limb (A (↑y.fst : Int).toNat) 0) (limb (A (↑y.fst : Int).toNat) 1) (limb (A (↑y.fst : Int).toNat) 2) (limb (A (↑y.fst : Int).toNat) 3) % M256) i) ∧ 8 ≤ 1000 ∧ ∀ (a_9 : Option Go.Addr) (cap_2 : Nat), (a_9 = Option.none → Max.max (lenDg (sumN A y.fst)) 8 + 1 = 0 ∧ cap_2 = 0) → Max.max (lenDg (sumN A y.fst)) 8 + 1 ≤ cap_2 → (∀ (_ : Nat), True) ∧ (dgs (Max.max (lenDg (sumN A y.fst)) 8 + 1) fun (i : Nat) => dg ((vn (lenDg (sumN A y.fst)) fun (i : Nat) => dg (sumN A y.fst) i) + vn 8 fun (i : Nat) => dg (join (limb (A (↑y.fst : Int).toNat) 0) (limb (A (↑y.fst : Int).toNat) 1) (limb (A (↑y.fst : Int).toNat) 2) (limb (A (↑y.fst : Int).toNat) 3) % M256) i) i) ∧ Max.max (lenDg (sumN A y.fst)) 8 + 1 ≤ 1000 ∧ ∀ (a_12 : Option Go.Addr) (cap_3 : Nat), (a_12 = Option.none → lenDg (vn (Max.max (lenDg (sumN A y.fst)) 8 + 1) fun (i : Nat) => dg ((vn (lenDg (sumN A y.fst)) fun (i : Nat) => dg (sumN A y.fst) i) + vn 8 fun (i : Nat) => dg (join (limb (A (↑y.fst : Int).toNat) 0) (limb (A (↑y.fst : Int).toNat) 1) (limb (A (↑y.fst : Int).toNat) 2) (limb (A (↑y.fst : Int).toNat) 3) % M256) i) i) = 0 ∧ cap_3 = 0) → lenDg (vn (Max.max (lenDg (sumN A y.fst)) 8 + 1) fun (i : Nat) => dg ((vn (lenDg (sumN A y.fst)) fun (i : Nat) => dg (sumN A y.fst) i) + vn 8 fun (i : Nat) => dg (join (limb (A (↑y.fst : Int).toNat) 0) (limb (A (↑y.fst : Int).toNat) 1) (limb (A (↑y.fst : Int).toNat) 2) (limb (A (↑y.fst : Int).toNat) 3) % M256) i) i) ≤ cap_3 → ∃ (y' : Nat × Option Go.Addr × Nat × Go.Addr), y'.fst ≤ n ∧ (y.snd.snd.snd = y'.snd.snd.snd ∧ simC ([SC.val (Go.Value.int Go.IntKind.u64 (limb s 0)), SC.val (Go.Value.int Go.IntKind.u64 (limb s 1)), SC.val (Go.Value.int Go.IntKind.u64 (limb s 2)), SC.val (Go.Value.int Go.IntKind.u64 (limb s 3)), SC.xs a n cap 36 (hoF W A)].getD 0 (SC.bit Bool.false)) ([SC.val (Go.Value.int Go.IntKind.u64 (limb s 0)), SC.val (Go.Value.int Go.IntKind.u64 (limb s 1)), SC.val (Go.Value.int Go.IntKind.u64 (limb s 2)), SC.val (Go.Value.int Go.IntKind.u64 (limb s 3)), SC.xs a n cap 36 (hoF W A)].getD 0 (SC.bit Bool.false)) ∧ simC ([SC.val (Go.Value.int Go.IntKind.u64 (limb s 0)), SC.val (Go.Value.int Go.IntKind.u64 (limb s 1)), SC.val (Go.Value.int Go.IntKind.u64 (limb s 2)), SC.val (Go.Value.int Go.IntKind.u64 (limb s 3)), SC.xs a n cap 36 (hoF W A)].getD 1 (SC.bit Bool.false)) ([SC.val (Go.Value.int Go.IntKind.u64 (limb s 0)), SC.val (Go.Value.int Go.IntKind.u64 (limb s 1)), SC.val (Go.Value.int Go.IntKind.u64 (limb s 2)), SC.val (Go.Value.int Go.IntKind.u64 (limb s 3)), SC.xs a n cap 36 (hoF W A)].getD 1 (SC.bit Bool.false)) ∧ simC ([SC.val (Go.Value.int Go.IntKind.u64 (limb s 0)), SC.val (Go.Value.int Go.IntKind.u64 (limb s 1)), SC.val (Go.Value.int Go.IntKind.u64 (limb s 2)), SC.val (Go.Value.int Go.IntKind.u64 (limb s 3)), SC.xs a n cap 36 (hoF W A)].getD 2 (SC.bit Bool.false)) ([SC.val (Go.Value.int Go.IntKind.u64 (limb s 0)), SC.val (Go.Value.int Go.IntKind.u64 (limb s 1)), SC.val (Go.Value.int Go.IntKind.u64 (limb s 2)), SC.val (Go.Value.int Go.IntKind.u64 (limb s 3)), SC.xs a n cap 36 (hoF W A)].getD 2 (SC.bit Bool.false)) ∧ simC ([SC.val (Go.Value.int Go.IntKind.u64 (limb s 0)), SC.val (Go.Value.int Go.IntKind.u64 (limb s 1)), SC.val (Go.Value.int Go.IntKind.u64 (limb s 2)), SC.val (Go.Value.int Go.IntKind.u64 (limb s 3)), SC.xs a n cap 36 (hoF W A)].getD 3 (SC.bit Bool.false)) ([SC.val (Go.Value.int Go.IntKind.u64 (limb s 0)), SC.val (Go.Value.int Go.IntKind.u64 (limb s 1)), SC.val (Go.Value.int Go.IntKind.u64 (limb s 2)), SC.val (Go.Value.int Go.IntKind.u64 (limb s 3)), SC.xs a n cap 36 (hoF W A)].getD 3 (SC.bit Bool.false)) ∧ a = a ∧ n = n ∧ cap = cap ∧ ∀ (i : Nat), i < n → simC (hoF W A i 0) (hoF W A i 0) ∧ simC (hoF W A i 1) (hoF W A i 1) ∧ simC (hoF W A i 2) (hoF W A i 2) ∧ simC (hoF W A i 3) (hoF W A i 3) ∧ simC (hoF W A i 4) (hoF W A i 4) ∧ simC (hoF W A i 5) (hoF W A i 5) ∧ simC (hoF W A i 6) (hoF W A i 6) ∧ simC (hoF W A i 7) (hoF W A i 7) ∧ simC (hoF W A i 8) (hoF W A i 8) ∧ simC (hoF W A i 9) (hoF W A i 9) ∧ simC (hoF W A i 10) (hoF W A i 10) ∧ simC (hoF W A i 11) (hoF W A i 11) ∧ simC (hoF W A i 12) (hoF W A i 12) ∧ simC (hoF W A i 13) (hoF W A i 13) ∧ simC (hoF W A i 14) (hoF W A i 14) ∧ simC (hoF W A i 15) (hoF W A i 15) ∧ simC (hoF W A i 16) (hoF W A i 16) ∧ simC (hoF W A i 17) (hoF W A i 17) ∧ simC (hoF W A i 18) (hoF W A i 18) ∧ simC (hoF W A i 19) (hoF W A i 19) ∧ simC (hoF W A i 20) (hoF W A i 20) ∧ simC (hoF W A i 21) (hoF W A i 21) ∧ simC (hoF W A i 22) (hoF W A i 22) ∧ simC (hoF W A i 23) (hoF W A i 23) ∧ simC (hoF W A i 24) (hoF W A i 24) ∧ simC (hoF W A i 25) (hoF W A i 25) ∧ simC (hoF W A i 26) (hoF W A i 26) ∧ simC (hoF W A i 27) (hoF W A i 27) ∧ simC (hoF W A i 28) (hoF W A i 28) ∧ simC (hoF W A i 29) (hoF W A i 29) ∧ simC (hoF W A i 30) (hoF W A i 30) ∧ simC (hoF W A i 31) (hoF W A i 31) ∧ simC (hoF W A i 32) (hoF W A i 32) ∧ simC (hoF W A i 33) (hoF W A i 33) ∧ simC (hoF W A i 34) (hoF W A i 34) ∧ limb (A i) 3 = limb (A i) 3) ∧ (a_12 = y'.snd.fst ∧ lenDg (vn (Max.max (lenDg (sumN A y.fst)) 8 + 1) fun (i : Nat) => dg ((vn (lenDg (sumN A y.fst)) fun (i : Nat) => dg (sumN A y.fst) i) + vn 8 fun (i : Nat) => dg (join (limb (A (↑y.fst : Int).toNat) 0) (limb (A (↑y.fst : Int).toNat) 1) (limb (A (↑y.fst : Int).toNat) 2) (limb (A (↑y.fst : Int).toNat) 3) % M256) i) i) = lenDg (sumN A y'.fst) ∧ cap_3 = y'.snd.snd.fst ∧ ∀ (i : Nat), i < lenDg (vn (Max.max (lenDg (sumN A y.fst)) 8 + 1) fun (i : Nat) => dg ((vn (lenDg (sumN A y.fst)) fun (i : Nat) => dg (sumN A y.fst) i) + vn 8 fun (i : Nat) => dg (join (limb (A (↑y.fst : Int).toNat) 0) (limb (A (↑y.fst : Int).toNat) 1) (limb (A (↑y.fst : Int).toNat) 2) (limb (A (↑y.fst : Int).toNat) 3) % M256) i) i) → dg (vn (Max.max (lenDg (sumN A y.fst)) 8 + 1) fun (i : Nat) => dg ((vn (lenDg (sumN A y.fst)) fun (i : Nat) => dg (sumN A y.fst) i) + vn 8 fun (i : Nat) => dg (join (limb (A (↑y.fst : Int).toNat) 0) (limb (A (↑y.fst : Int).toNat) 1) (limb (A (↑y.fst : Int).toNat) 2) (limb (A (↑y.fst : Int).toNat) 3) % M256) i) i) i = dg (sumN A y'.fst) i) ∧ (B y.fst && !Decidable.decide (join (limb (A (↑y.fst : Int).toNat) 0) (limb (A (↑y.fst : Int).toNat) 1) (limb (A (↑y.fst : Int).toNat) 2) (limb (A (↑y.fst : Int).toNat) 3) % M256 = 0) && Bool.true) = B y'.fst ∧ (a = a ∧ n = n ∧ cap = cap ∧ ∀ (i : Nat), i < n → simC (hoF W A i 0) (hoF W A i 0) ∧ simC (hoF W A i 1) (hoF W A i 1) ∧ simC (hoF W A i 2) (hoF W A i 2) ∧ simC (hoF W A i 3) (hoF W A i 3) ∧ simC (hoF W A i 4) (hoF W A i 4) ∧ simC (hoF W A i 5) (hoF W A i 5) ∧ simC (hoF W A i 6) (hoF W A i 6) ∧ simC (hoF W A i 7) (hoF W A i 7) ∧ simC (hoF W A i 8) (hoF W A i 8) ∧ simC (hoF W A i 9) (hoF W A i 9) ∧ simC (hoF W A i 10) (hoF W A i 10) ∧ simC (hoF W A i 11) (hoF W A i 11) ∧ simC (hoF W A i 12) (hoF W A i 12) ∧ simC (hoF W A i 13) (hoF W A i 13) ∧ simC (hoF W A i 14) (hoF W A i 14) ∧ simC (hoF W A i 15) (hoF W A i 15) ∧ simC (hoF W A i 16) (hoF W A i 16) ∧ simC (hoF W A i 17) (hoF W A i 17) ∧ simC (hoF W A i 18) (hoF W A i 18) ∧ simC (hoF W A i 19) (hoF W A i 19) ∧ simC (hoF W A i 20) (hoF W A i 20) ∧ simC (hoF W A i 21) (hoF W A i 21) ∧ simC (hoF W A i 22) (hoF W A i 22) ∧ simC (hoF W A i 23) (hoF W A i 23) ∧ simC (hoF W A i 24) (hoF W A i 24) ∧ simC (hoF W A i 25) (hoF W A i 25) ∧ simC (hoF W A i 26) (hoF W A i 26) ∧ simC (hoF W A i 27) (hoF W A i 27) ∧ simC (hoF W A i 28) (hoF W A i 28) ∧ simC (hoF W A i 29) (hoF W A i 29) ∧ simC (hoF W A i 30) (hoF W A i 30) ∧ simC (hoF W A i 31) (hoF W A i 31) ∧ simC (hoF W A i 32) (hoF W A i 32) ∧ simC (hoF W A i 33) (hoF W A i 33) ∧ simC (hoF W A i 34) (hoF W A i 34) ∧ limb (A i) 3 = limb (A i) 3) ∧ (↑n : Int) = (↑n : Int) ∧ Go.IntKind.i64.wrap ((↑y.fst : Int) + (1 : Int)) = (↑y'.fst : Int) ∧ (n - y'.fst).succ.le (n - y.fst))) ∧ (Decidable.decide ((↑y.fst : Int) < (↑n : Int)) = Bool.false → ((!!B y.fst) = Bool.true → (!!B y.fst) = Bool.true) ∧ ((!!B y.fst) = Bool.true → (!!B y.fst) = Bool.true ∧ ((0 : Int) ≤ limb s 0 ∧ limb s 0 < (18446744073709551616 : Int)) ∧ ((0 : Int) ≤ limb s 1 ∧ limb s 1 < (18446744073709551616 : Int)) ∧ ((0 : Int) ≤ limb s 2 ∧ limb s 2 < (18446744073709551616 : Int)) ∧ ((0 : Int) ≤ limb s 3 ∧ limb s 3 < (18446744073709551616 : Int)) ∧ ∀ (a : Option Go.Addr) (cap : Nat), (a = Option.none → 8 = 0 ∧ cap = 0) → 8 ≤ cap → (!!B y.fst) = Bool.true ∧ (∀ (_ : Nat), True) ∧ (∀ (_ : Nat), True) ∧ (dgs (lenDg (sumN A y.fst)) fun (i : Nat) => dg (sumN A y.fst) i) ∧ lenDg (sumN A y.fst) ≤ 1000 ∧ (dgs 8 fun (i : Nat) => dg (join (limb s 0) (limb s 1) (limb s 2) (limb s 3) % M256) i) ∧ 8 ≤ 1000 ∧ ((cmpI (vn (lenDg (sumN A y.fst)) fun (i : Nat) => dg (sumN A y.fst) i) (vn 8 fun (i : Nat) => dg (join (limb s 0) (limb s 1) (limb s 2) (limb s 3) % M256) i) != (0 : Int)) = Bool.true → (12 : Int) = r) ∧ ((cmpI (vn (lenDg (sumN A y.fst)) fun (i : Nat) => dg (sumN A y.fst) i) (vn 8 fun (i : Nat) => dg (join (limb s 0) (limb s 1) (limb s 2) (limb s 3) % M256) i) != (0 : Int)) = Bool.false → (0 : Int) = r)) ∧ ((!!B y.fst) = Bool.false → (12 : Int) = r)))) := by kernel_rfl
end Go.Proofs.Ytnkgniedhmnanaa
end

section
namespace Go.Proofs.Ytnkgniedhmnanaa
open Go Go.Sx Go.RowKit
set_option maxRecDepth 100000
theorem hk_ho {a : Option Addr} {n : Nat} {W : Nat → Nat → Int} {A : Nat → Nat} (h : hoP a n W A) : hkP a n (hoF W A) where
  k1 := h.hn
  k2 := h.ha
  k3 i _ j hj := by unfold kOf; rw [ho_lo hj]; rfl
  k4 i _ j hj := by
    rw [aH_ho]
    have e : ∀ j, j < 4 → limb (A i % M256) j = limb (A i) j := fun j hj => by
      have := limbs_eq.1 (Nat.mod_mod (A i) M256)
      match j, hj with
      | 0, _ => exact this.1
      | 1, _ => exact this.2.1
      | 2, _ => exact this.2.2.1
      | 3, _ => exact this.2.2.2
    rw [e j hj]
    match j, hj with
    | 0, _ => rfl
    | 1, _ => rfl
    | 2, _ => rfl
    | 3, _ => rfl
  k5 i hi j hj := by unfold kOf; rw [ho_lo hj]; exact h.hw i hi j hj
  k6 i _ := by rw [aH_ho]; exact Nat.mod_lt _ (by decide)
theorem hk_hoP {a : Option Addr} {n : Nat} {f : Nat → Nat → SC} (h : hkP a n f) : hoP a n (kOf f) (aH f) := ⟨h.k1, h.k2, h.k5, h.k6⟩
theorem hk_bnd {E : Env} {a : Option Addr} {n cap : Nat} {f : Nat → Nat → SC} (h : hkP a n f) (hb : (SC.xs a n cap 36 f).bnd E) : (SC.xs a n cap 36 (hoF (kOf f) (aH f))).bnd E := by
  obtain ⟨h1, h2, h3⟩ := hb
  refine ⟨h1, h2, fun b hb => ⟨(h3 b hb).1, fun i hi c hc => ?_⟩⟩
  obtain ⟨_, _, q⟩ := (h3 b hb).2 i hi c hc
  have e : (hoF (kOf f) (aH f) i c).conc Rho.nil = (f i c).conc Rho.nil := by
    rcases Nat.lt_or_ge c 32 with k | k
    · rw [ho_lo k, h.k3 i hi c k]; rfl
    · obtain ⟨d, rfl⟩ := Nat.exists_eq_add_of_le k
      have hd : d < 4 := by omega
      rw [h.k4 i hi d hd]
      match d, hd with
      | 0, _ => rfl
      | 1, _ => rfl
      | 2, _ => rfl
      | 3, _ => rfl
  refine ⟨?_, ?_, by rw [e]; exact q⟩
  · unfold hoF; split
    · trivial
    · split <;> trivial
  · unfold hoF; split
    · rfl
    · split <;> rfl
theorem kH_f (W : Nat → Nat → Int) (A : Nat → Nat) : kH (hoF W A) = fun i => kv (W i) := funext (kH_ho W A)
theorem ordB_congr {n : Nat} {K A K' A' : Nat → Nat} (hk : ∀ i, i < n → K i = K' i) (ha : ∀ i, i < n → A i = A' i) : ordB n K A = ordB n K' A' := by
  rw [Bool.eq_iff_iff, ordB_iff, ordB_iff]
  constructor
  · intro h i hi
    have := h i hi
    rw [← hk i hi, ← ha i hi, ← hk (i - 1) (by omega)]; exact this
  · intro h i hi
    have := h i hi
    rw [hk i hi, ha i hi, hk (i - 1) (by omega)]; exact this
theorem sumN_congr {A A' : Nat → Nat} : ∀ {n : Nat}, (∀ i, i < n → A i = A' i) → sumN A n = sumN A' n
  | 0, _ => rfl
  | n + 1, h => by rw [sumN, sumN, sumN_congr (n := n) fun i hi => h i (by omega), h n (by omega)]
theorem cnE_congr {n s : Nat} {K A K' A' : Nat → Nat} (hk : ∀ i, i < n → K i = K' i) (ha : ∀ i, i < n → A i = A' i) : cnE n K A s = cnE n K' A' s := by
  unfold cnE; rw [ordB_congr hk ha, sumN_congr ha]
theorem aH_lt {a : Option Addr} {n : Nat} {W : Nat → Nat → Int} {A : Nat → Nat} (h : hoP a n W A) : ∀ i, i < n → aH (hoF W A) i = A i := fun i hi => by
  rw [aH_ho, Nat.mod_eq_of_lt (h.hA i hi)]
theorem ordB_ho {a : Option Addr} {n : Nat} {W : Nat → Nat → Int} {A : Nat → Nat} (h : hoP a n W A) : ordB n (kH (hoF W A)) (aH (hoF W A)) = ordB n (fun i => kv (W i)) A :=
  ordB_congr (fun i _ => kH_ho W A i) (aH_lt h)
theorem sumN_ho {a : Option Addr} {n : Nat} {W : Nat → Nat → Int} {A : Nat → Nat} (h : hoP a n W A) : sumN (aH (hoF W A)) n = sumN A n := sumN_congr (aH_lt h)
theorem okx_14 : CxOK Try.prog cx14 := okx_mark okx_nil
theorem oks_Or : ∀ p ∈ slOr, FnOKs Try.prog cx14.gl p.1 p.2 := oks_cons card_ag oks_nil
theorem card_or {gl : Globs} : FnOKs Try.prog gl 19 cOr := by
  refine FnOKs.up0 (FnOKs_R0 (cx := cx14) okx_14 (sl := slOr) oks_Or Try.func19 (by kernel_rfl) (by kernel_rfl) fun ls hc => ?_) gl
  unfold hlC at hc
  split at hc
  · rename_i a n cap f
    obtain ⟨p, _⟩ := hc
    refine ⟨_, _, [sHs a n cap (kOf f) (aH f)], fun _ => rfl, fun E hE => ?_, fun r hr => ?_, ok_or a n cap (kOf f) (aH f) (hk_hoP p)⟩
    · intro z hz
      rw [List.mem_singleton.1 hz]
      exact hk_bnd p (hE _ (List.mem_cons_self ..))
    · rw [List.mem_singleton.1 hr]; exact trivial
  · exact hc.1.elim
theorem cxok_To : CxOK Try.prog cxTo := CxOK_cons card_Add CxOK_nil
theorem card_to {gl : Globs} : FnOKs Try.prog gl 20 cTo := by
  refine FnOKs.up0 (FnOKs_R0 (cx := cxTo) cxok_To (sl := []) oks_nil Try.func20 (by kernel_rfl) (by kernel_rfl) fun ls hc => ?_) gl
  unfold hlC at hc
  split at hc
  · rename_i a n cap f
    obtain ⟨p, _⟩ := hc
    refine ⟨_, _, [sHs a n cap (kOf f) (aH f)], fun _ => rfl, fun E hE => ?_, fun r hr => ?_, ok_to a n cap (kOf f) (aH f) (hk_hoP p)⟩
    · intro z hz
      rw [List.mem_singleton.1 hz]
      exact hk_bnd p (hE _ (List.mem_cons_self ..))
    · unfold toG at hr
      simp only [List.mem_cons, List.not_mem_nil, or_false] at hr
      rcases hr with rfl | rfl
      · exact bnd_Un _
      · exact trivial
  · exact hc.1.elim
theorem ok_ck (s : Nat) (a : Option Addr) (n cap : Nat) (W : Nat → Nat → Int) (A : Nat → Nat) (h : hoP a n W A) :
    OwesR Try.prog .none slCk [] 10 Try.f8 [sCn s a n cap W A] false [.v (sI .i64 (cnE n (fun i => kv (W i)) A (s % M256)))] := by
  rw [vc_ck]
  intro x1
  have hs : s % M256 < M256 := Nat.mod_lt _ (by decide)
  have e1 : x1 = !decide (sumN A n < M256) := by show (!decide (sumN (aH (hoF W A)) n < M256)) = _; rw [sumN_ho h]
  have e2 : togN n (aH (hoF W A)) = togN n A := by unfold togN; rw [sumN_ho h]
  clear_value x1
  rw [ordB_ho h, e2]
  have k := hk_ho h
  unfold cnE
  refine ⟨fun h0 => ?_, fun h0 => ⟨k, fun h1 => ?_, fun h1 => ⟨k, id, id, id, fun h2 => by rw [h2]; rfl, fun h2 => ?_, fun h2 => ?_⟩⟩⟩
  · have h0 := of_decide_eq_true h0
    rw [if_pos (by omega)]
  all_goals
    have h0 := of_decide_eq_false h0
    rw [if_neg (by omega)]
  · rw [Bool.not_eq_true'] at h1
    rw [h1, if_neg (fun q => by cases q.1)]
  · rw [Bool.not_eq_false'] at h1
    rw [h1, if_neg]
    rintro ⟨_, q⟩
    have hl : sumN A n < M256 := by omega
    rw [e1, decide_eq_true hl] at h2
    unfold togN at h2
    rw [if_pos hl, q, Nat.mod_eq_of_lt hs, conj, beq_self_eq_true] at h2
    cases h2
  · rw [Bool.not_eq_false'] at h1
    rw [Bool.or_eq_false_iff, Bool.not_eq_false'] at h2
    obtain ⟨h2, h3⟩ := h2
    rw [e1, Bool.not_eq_false', decide_eq_true_eq] at h2
    unfold togN at h3
    rw [if_pos h2, Nat.mod_eq_of_lt h2] at h3
    have h3 : sumN A n = s % M256 := beq_iff_eq.1 h3
    rw [if_pos ⟨h1, h3⟩]
theorem card_isZ : FnOK Try.prog 21 (specU isZH) :=
  FnOK_U CxOK_nil (iv := []) (N := 10) Try.func21 (by kernel_rfl) (by kernel_rfl) (fun _ => bnd_one (bnd_B _)) fun a => by
    show Owes _ _ _ _ _ _ (isZH a)
    rw [vc_isz]
    intro x1
    show (x1 == 0) = decide (x1 = 0)
    rw [Bool.eq_iff_iff, beq_iff_eq, decide_eq_true_eq]
def cnC : List (List FD) → List Prop
  | [[.u _, .x a n _ f]] => [hkP a n f]
  | _ => [False]
def cnG : List (List FD) → List RS
  | [[.u s, .x _ n _ f]] => [.v (sI .i64 (cnE n (kH f) (aH f) (s % M256)))]
  | _ => []
def cCn : SSpec := specQ0 false [.st [.u, .x 36]] cnC cnG
theorem oks_Ck : ∀ p ∈ slCk, FnOKs Try.prog [] p.1 p.2 := oks_cons card_or (oks_cons card_to oks_nil)
theorem cn_bnd {E : Env} {s : Nat} {a : Option Addr} {n cap : Nat} {f : Nat → Nat → SC} (h : hkP a n f) (hb : (SA.agg [.u s, .c (.xs a n cap 36 f)]).bnd E) : (sCn s a n cap (kOf f) (aH f)).bnd E := by
  intro k hk
  simp only [List.mem_cons, List.not_mem_nil, or_false] at hk
  rcases hk with rfl | rfl
  · trivial
  · exact hk_bnd h (hb (.c (.xs a n cap 36 f)) (by simp))
theorem card_ck {gl : Globs} : FnOKs Try.prog gl 8 cCn := by
  refine FnOKs.up0 (FnOKs_R0 (cx := Cx.none) ⟨fun _ h => (by cases h), fun _ h => (by cases h)⟩ (sl := slCk) oks_Ck Try.func8 (by kernel_rfl) (by kernel_rfl) fun ls hc => ?_) gl
  unfold cnC at hc
  split at hc
  · rename_i s a n cap f
    obtain ⟨p, _⟩ := hc
    refine ⟨_, _, [sCn s a n cap (kOf f) (aH f)], fun _ => rfl, fun E hE => ?_, fun r hr => ?_, ok_ck s a n cap (kOf f) (aH f) (hk_hoP p)⟩
    · intro z hz
      rw [List.mem_singleton.1 hz]
      exact cn_bnd p (hE _ (List.mem_cons_self ..))
    · rw [List.mem_singleton.1 hr]; exact trivial
  · exact hc.1.elim
end Go.Proofs.Ytnkgniedhmnanaa
end

section
namespace Go.Proofs.Ytnkgniedhmnanaa
open Go Go.Sx Go.RowKit
set_option maxRecDepth 100000
def invBs (a : Option Addr) (n cap : Nat) (W : Nat → Nat → Int) (A : Nat → Nat) (v : Nat → Int) (P : Nat → Nat → Prop) : Inv where
  X := Nat × Nat × Addr
  tm y := slotsAt 49 [(0, .one (sHs a n cap W A)), (2, .one (.sc (.fn 35 []))), (4, .one (.sc (.px y.2.2 32 fun c => .val (.int .u8 (v c))))), (8, .one (sI .i64 (n : Int))), (9, .one (sI .i64 (y.1 : Int))), (10, .one (sI .i64 (y.2.1 : Int)))]
  ob _ := []
  holds y := y.1 ≤ y.2.1 ∧ y.2.1 ≤ n ∧ P y.1 y.2.1
  less y := y.2.1 - y.1
def cx17 : Cx := ⟨[(1000000008, fun _ => none), (1000000010, fun _ => none), (1000000012, fun _ => none), (1000000013, fun _ => none), (1000000014, fun _ => none), (1000000017, fun _ => none)], [], 0, []⟩
def slBs : List (Nat × SSpec) := [(35, cAg)]
set_option maxHeartbeats 4000000 in
theorem vc_fi (a : Option Addr) (n cap : Nat) (W : Nat → Nat → Int) (A : Nat → Nat) (v : Nat → Int) (P : Nat → Nat → Prop) (r : Int) (b : Bool) :
    OwesR Try.prog cx17 slBs [((44 + 1) * 100000 + 3, .inv (invBs a n cap W A v P))] 10 Try.f36 [sHs a n cap W A, sWh v] false [.v (sI .i64 r), .v (sB b)] =
    (let x1 : Nat := kv fun (j : Nat) => v (0 + j); ∀ (a_1 a_2 : Go.Addr), (∀ (y : Nat × Nat × Go.Addr), closedB (slotsAt 49 [(0, SV.one (sHs a n cap W A)), (2, SV.one (SA.sc (SC.fn 35 []))), (4, SV.one (SA.sc (SC.px y.snd.snd 32 fun (c : Nat) => SC.val (Go.Value.int Go.IntKind.u8 (v c))))), (8, SV.one (sI Go.IntKind.i64 (↑n : Int))), (9, SV.one (sI Go.IntKind.i64 (↑y.fst : Int))), (10, SV.one (sI Go.IntKind.i64 (↑y.snd.fst : Int)))]) [] = Bool.true) ∧ ∃ (y : Nat × Nat × Go.Addr), (y.fst ≤ y.snd.fst ∧ y.snd.fst ≤ n ∧ P y.fst y.snd.fst) ∧ (a = a ∧ n = n ∧ cap = cap ∧ ∀ (i : Nat), i < n → simC (hoF W A i 0) (hoF W A i 0) ∧ simC (hoF W A i 1) (hoF W A i 1) ∧ simC (hoF W A i 2) (hoF W A i 2) ∧ simC (hoF W A i 3) (hoF W A i 3) ∧ simC (hoF W A i 4) (hoF W A i 4) ∧ simC (hoF W A i 5) (hoF W A i 5) ∧ simC (hoF W A i 6) (hoF W A i 6) ∧ simC (hoF W A i 7) (hoF W A i 7) ∧ simC (hoF W A i 8) (hoF W A i 8) ∧ simC (hoF W A i 9) (hoF W A i 9) ∧ simC (hoF W A i 10) (hoF W A i 10) ∧ simC (hoF W A i 11) (hoF W A i 11) ∧ simC (hoF W A i 12) (hoF W A i 12) ∧ simC (hoF W A i 13) (hoF W A i 13) ∧ simC (hoF W A i 14) (hoF W A i 14) ∧ simC (hoF W A i 15) (hoF W A i 15) ∧ simC (hoF W A i 16) (hoF W A i 16) ∧ simC (hoF W A i 17) (hoF W A i 17) ∧ simC (hoF W A i 18) (hoF W A i 18) ∧ simC (hoF W A i 19) (hoF W A i 19) ∧ simC (hoF W A i 20) (hoF W A i 20) ∧ simC (hoF W A i 21) (hoF W A i 21) ∧ simC (hoF W A i 22) (hoF W A i 22) ∧ simC (hoF W A i 23) (hoF W A i 23) ∧ simC (hoF W A i 24) (hoF W A i 24) ∧ simC (hoF W A i 25) (hoF W A i 25) ∧ simC (hoF W A i 26) (hoF W A i 26) ∧ simC (hoF W A i 27) (hoF W A i 27) ∧ simC (hoF W A i 28) (hoF W A i 28) ∧ simC (hoF W A i 29) (hoF W A i 29) ∧ simC (hoF W A i 30) (hoF W A i 30) ∧ simC (hoF W A i 31) (hoF W A i 31) ∧ simC (hoF W A i 32) (hoF W A i 32) ∧ simC (hoF W A i 33) (hoF W A i 33) ∧ simC (hoF W A i 34) (hoF W A i 34) ∧ limb (A i) 3 = limb (A i) 3) ∧ (35 = 35 ∧ ([] : List PV) = []) ∧ (a_2 = y.snd.snd ∧ simC ((flat (toKs (SA.agg (grpK (fun (c : Nat) => (flat (toKs (sWh v))).getD c (SC.bit Bool.false)) 0 (segT Try.prog 8 31))))).getD 0 (SC.bit Bool.false)) (SC.val (Go.Value.int Go.IntKind.u8 (v 0))) ∧ simC ((flat (toKs (SA.agg (grpK (fun (c : Nat) => (flat (toKs (sWh v))).getD c (SC.bit Bool.false)) 0 (segT Try.prog 8 31))))).getD 1 (SC.bit Bool.false)) (SC.val (Go.Value.int Go.IntKind.u8 (v 1))) ∧ simC ((flat (toKs (SA.agg (grpK (fun (c : Nat) => (flat (toKs (sWh v))).getD c (SC.bit Bool.false)) 0 (segT Try.prog 8 31))))).getD 2 (SC.bit Bool.false)) (SC.val (Go.Value.int Go.IntKind.u8 (v 2))) ∧ simC ((flat (toKs (SA.agg (grpK (fun (c : Nat) => (flat (toKs (sWh v))).getD c (SC.bit Bool.false)) 0 (segT Try.prog 8 31))))).getD 3 (SC.bit Bool.false)) (SC.val (Go.Value.int Go.IntKind.u8 (v 3))) ∧ simC ((flat (toKs (SA.agg (grpK (fun (c : Nat) => (flat (toKs (sWh v))).getD c (SC.bit Bool.false)) 0 (segT Try.prog 8 31))))).getD 4 (SC.bit Bool.false)) (SC.val (Go.Value.int Go.IntKind.u8 (v 4))) ∧ simC ((flat (toKs (SA.agg (grpK (fun (c : Nat) => (flat (toKs (sWh v))).getD c (SC.bit Bool.false)) 0 (segT Try.prog 8 31))))).getD 5 (SC.bit Bool.false)) (SC.val (Go.Value.int Go.IntKind.u8 (v 5))) ∧ simC ((flat (toKs (SA.agg (grpK (fun (c : Nat) => (flat (toKs (sWh v))).getD c (SC.bit Bool.false)) 0 (segT Try.prog 8 31))))).getD 6 (SC.bit Bool.false)) (SC.val (Go.Value.int Go.IntKind.u8 (v 6))) ∧ simC ((flat (toKs (SA.agg (grpK (fun (c : Nat) => (flat (toKs (sWh v))).getD c (SC.bit Bool.false)) 0 (segT Try.prog 8 31))))).getD 7 (SC.bit Bool.false)) (SC.val (Go.Value.int Go.IntKind.u8 (v 7))) ∧ simC ((flat (toKs (SA.agg (grpK (fun (c : Nat) => (flat (toKs (sWh v))).getD c (SC.bit Bool.false)) 0 (segT Try.prog 8 31))))).getD 8 (SC.bit Bool.false)) (SC.val (Go.Value.int Go.IntKind.u8 (v 8))) ∧ simC ((flat (toKs (SA.agg (grpK (fun (c : Nat) => (flat (toKs (sWh v))).getD c (SC.bit Bool.false)) 0 (segT Try.prog 8 31))))).getD 9 (SC.bit Bool.false)) (SC.val (Go.Value.int Go.IntKind.u8 (v 9))) ∧ simC ((flat (toKs (SA.agg (grpK (fun (c : Nat) => (flat (toKs (sWh v))).getD c (SC.bit Bool.false)) 0 (segT Try.prog 8 31))))).getD 10 (SC.bit Bool.false)) (SC.val (Go.Value.int Go.IntKind.u8 (v 10))) ∧ simC ((flat (toKs (SA.agg (grpK (fun (c : Nat) => (flat (toKs (sWh v))).getD c (SC.bit Bool.false)) 0 (segT Try.prog 8 31))))).getD 11 (SC.bit Bool.false)) (SC.val (Go.Value.int Go.IntKind.u8 (v 11))) ∧ simC ((flat (toKs (SA.agg (grpK (fun (c : Nat) => (flat (toKs (sWh v))).getD c (SC.bit Bool.false)) 0 (segT Try.prog 8 31))))).getD 12 (SC.bit Bool.false)) (SC.val (Go.Value.int Go.IntKind.u8 (v 12))) ∧ simC ((flat (toKs (SA.agg (grpK (fun (c : Nat) => (flat (toKs (sWh v))).getD c (SC.bit Bool.false)) 0 (segT Try.prog 8 31))))).getD 13 (SC.bit Bool.false)) (SC.val (Go.Value.int Go.IntKind.u8 (v 13))) ∧ simC ((flat (toKs (SA.agg (grpK (fun (c : Nat) => (flat (toKs (sWh v))).getD c (SC.bit Bool.false)) 0 (segT Try.prog 8 31))))).getD 14 (SC.bit Bool.false)) (SC.val (Go.Value.int Go.IntKind.u8 (v 14))) ∧ simC ((flat (toKs (SA.agg (grpK (fun (c : Nat) => (flat (toKs (sWh v))).getD c (SC.bit Bool.false)) 0 (segT Try.prog 8 31))))).getD 15 (SC.bit Bool.false)) (SC.val (Go.Value.int Go.IntKind.u8 (v 15))) ∧ simC ((flat (toKs (SA.agg (grpK (fun (c : Nat) => (flat (toKs (sWh v))).getD c (SC.bit Bool.false)) 0 (segT Try.prog 8 31))))).getD 16 (SC.bit Bool.false)) (SC.val (Go.Value.int Go.IntKind.u8 (v 16))) ∧ simC ((flat (toKs (SA.agg (grpK (fun (c : Nat) => (flat (toKs (sWh v))).getD c (SC.bit Bool.false)) 0 (segT Try.prog 8 31))))).getD 17 (SC.bit Bool.false)) (SC.val (Go.Value.int Go.IntKind.u8 (v 17))) ∧ simC ((flat (toKs (SA.agg (grpK (fun (c : Nat) => (flat (toKs (sWh v))).getD c (SC.bit Bool.false)) 0 (segT Try.prog 8 31))))).getD 18 (SC.bit Bool.false)) (SC.val (Go.Value.int Go.IntKind.u8 (v 18))) ∧ simC ((flat (toKs (SA.agg (grpK (fun (c : Nat) => (flat (toKs (sWh v))).getD c (SC.bit Bool.false)) 0 (segT Try.prog 8 31))))).getD 19 (SC.bit Bool.false)) (SC.val (Go.Value.int Go.IntKind.u8 (v 19))) ∧ simC ((flat (toKs (SA.agg (grpK (fun (c : Nat) => (flat (toKs (sWh v))).getD c (SC.bit Bool.false)) 0 (segT Try.prog 8 31))))).getD 20 (SC.bit Bool.false)) (SC.val (Go.Value.int Go.IntKind.u8 (v 20))) ∧ simC ((flat (toKs (SA.agg (grpK (fun (c : Nat) => (flat (toKs (sWh v))).getD c (SC.bit Bool.false)) 0 (segT Try.prog 8 31))))).getD 21 (SC.bit Bool.false)) (SC.val (Go.Value.int Go.IntKind.u8 (v 21))) ∧ simC ((flat (toKs (SA.agg (grpK (fun (c : Nat) => (flat (toKs (sWh v))).getD c (SC.bit Bool.false)) 0 (segT Try.prog 8 31))))).getD 22 (SC.bit Bool.false)) (SC.val (Go.Value.int Go.IntKind.u8 (v 22))) ∧ simC ((flat (toKs (SA.agg (grpK (fun (c : Nat) => (flat (toKs (sWh v))).getD c (SC.bit Bool.false)) 0 (segT Try.prog 8 31))))).getD 23 (SC.bit Bool.false)) (SC.val (Go.Value.int Go.IntKind.u8 (v 23))) ∧ simC ((flat (toKs (SA.agg (grpK (fun (c : Nat) => (flat (toKs (sWh v))).getD c (SC.bit Bool.false)) 0 (segT Try.prog 8 31))))).getD 24 (SC.bit Bool.false)) (SC.val (Go.Value.int Go.IntKind.u8 (v 24))) ∧ simC ((flat (toKs (SA.agg (grpK (fun (c : Nat) => (flat (toKs (sWh v))).getD c (SC.bit Bool.false)) 0 (segT Try.prog 8 31))))).getD 25 (SC.bit Bool.false)) (SC.val (Go.Value.int Go.IntKind.u8 (v 25))) ∧ simC ((flat (toKs (SA.agg (grpK (fun (c : Nat) => (flat (toKs (sWh v))).getD c (SC.bit Bool.false)) 0 (segT Try.prog 8 31))))).getD 26 (SC.bit Bool.false)) (SC.val (Go.Value.int Go.IntKind.u8 (v 26))) ∧ simC ((flat (toKs (SA.agg (grpK (fun (c : Nat) => (flat (toKs (sWh v))).getD c (SC.bit Bool.false)) 0 (segT Try.prog 8 31))))).getD 27 (SC.bit Bool.false)) (SC.val (Go.Value.int Go.IntKind.u8 (v 27))) ∧ simC ((flat (toKs (SA.agg (grpK (fun (c : Nat) => (flat (toKs (sWh v))).getD c (SC.bit Bool.false)) 0 (segT Try.prog 8 31))))).getD 28 (SC.bit Bool.false)) (SC.val (Go.Value.int Go.IntKind.u8 (v 28))) ∧ simC ((flat (toKs (SA.agg (grpK (fun (c : Nat) => (flat (toKs (sWh v))).getD c (SC.bit Bool.false)) 0 (segT Try.prog 8 31))))).getD 29 (SC.bit Bool.false)) (SC.val (Go.Value.int Go.IntKind.u8 (v 29))) ∧ simC ((flat (toKs (SA.agg (grpK (fun (c : Nat) => (flat (toKs (sWh v))).getD c (SC.bit Bool.false)) 0 (segT Try.prog 8 31))))).getD 30 (SC.bit Bool.false)) (SC.val (Go.Value.int Go.IntKind.u8 (v 30))) ∧ v 31 = v 31) ∧ (↑n : Int) = (↑n : Int) ∧ (0 : Int) = (↑y.fst : Int) ∧ (↑n : Int) = (↑y.snd.fst : Int) ∧ ∀ (y : Nat × Nat × Go.Addr), y.fst ≤ y.snd.fst ∧ y.snd.fst ≤ n ∧ P y.fst y.snd.fst → (Decidable.decide ((↑y.fst : Int) < (↑y.snd.fst : Int)) = Bool.true → ((0 : Int) ≤ Go.IntKind.i64.wrap ((Go.IntKind.u64.wrap (Go.IntKind.i64.wrap ((↑y.fst : Int) + (↑y.snd.fst : Int)))).fdiv (2 : Int)) ∧ Go.IntKind.i64.wrap ((Go.IntKind.u64.wrap (Go.IntKind.i64.wrap ((↑y.fst : Int) + (↑y.snd.fst : Int)))).fdiv (2 : Int)) < (↑n : Int)) ∧ ((0 : Int) ≤ limb (A (Go.IntKind.i64.wrap ((Go.IntKind.u64.wrap (Go.IntKind.i64.wrap ((↑y.fst : Int) + (↑y.snd.fst : Int)))).fdiv (2 : Int))).toNat) 0 ∧ limb (A (Go.IntKind.i64.wrap ((Go.IntKind.u64.wrap (Go.IntKind.i64.wrap ((↑y.fst : Int) + (↑y.snd.fst : Int)))).fdiv (2 : Int))).toNat) 0 < (18446744073709551616 : Int)) ∧ ((0 : Int) ≤ limb (A (Go.IntKind.i64.wrap ((Go.IntKind.u64.wrap (Go.IntKind.i64.wrap ((↑y.fst : Int) + (↑y.snd.fst : Int)))).fdiv (2 : Int))).toNat) 1 ∧ limb (A (Go.IntKind.i64.wrap ((Go.IntKind.u64.wrap (Go.IntKind.i64.wrap ((↑y.fst : Int) + (↑y.snd.fst : Int)))).fdiv (2 : Int))).toNat) 1 < (18446744073709551616 : Int)) ∧ ((0 : Int) ≤ limb (A (Go.IntKind.i64.wrap ((Go.IntKind.u64.wrap (Go.IntKind.i64.wrap ((↑y.fst : Int) + (↑y.snd.fst : Int)))).fdiv (2 : Int))).toNat) 2 ∧ limb (A (Go.IntKind.i64.wrap ((Go.IntKind.u64.wrap (Go.IntKind.i64.wrap ((↑y.fst : Int) + (↑y.snd.fst : Int)))).fdiv (2 : Int))).toNat) 2 < (18446744073709551616 : Int)) ∧ ((0 : Int) ≤ limb (A (Go.IntKind.i64.wrap ((Go.IntKind.u64.wrap (Go.IntKind.i64.wrap ((↑y.fst : Int) + (↑y.snd.fst : Int)))).fdiv (2 : Int))).toNat) 3 ∧ limb (A (Go.IntKind.i64.wrap ((Go.IntKind.u64.wrap (Go.IntKind.i64.wrap ((↑y.fst : Int) + (↑y.snd.fst : Int)))).fdiv (2 : Int))).toNat) 3 < (18446744073709551616 : Int)) ∧ (∀ (j : Nat), j < 32 → intsC (hoF W A (Go.IntKind.i64.wrap ((Go.IntKind.u64.wrap (Go.IntKind.i64.wrap ((↑y.fst : Int) + (↑y.snd.fst : Int)))).fdiv (2 : Int))).toNat (0 + j)) = intsC (hoF W A (Go.IntKind.i64.wrap ((Go.IntKind.u64.wrap (Go.IntKind.i64.wrap ((↑y.fst : Int) + (↑y.snd.fst : Int)))).fdiv (2 : Int))).toNat (0 + j))) ∧ join (limb (A (Go.IntKind.i64.wrap ((Go.IntKind.u64.wrap (Go.IntKind.i64.wrap ((↑y.fst : Int) + (↑y.snd.fst : Int)))).fdiv (2 : Int))).toNat) 0) (limb (A (Go.IntKind.i64.wrap ((Go.IntKind.u64.wrap (Go.IntKind.i64.wrap ((↑y.fst : Int) + (↑y.snd.fst : Int)))).fdiv (2 : Int))).toNat) 1) (limb (A (Go.IntKind.i64.wrap ((Go.IntKind.u64.wrap (Go.IntKind.i64.wrap ((↑y.fst : Int) + (↑y.snd.fst : Int)))).fdiv (2 : Int))).toNat) 2) (limb (A (Go.IntKind.i64.wrap ((Go.IntKind.u64.wrap (Go.IntKind.i64.wrap ((↑y.fst : Int) + (↑y.snd.fst : Int)))).fdiv (2 : Int))).toNat) 3) = join (limb (A (Go.IntKind.i64.wrap ((Go.IntKind.u64.wrap (Go.IntKind.i64.wrap ((↑y.fst : Int) + (↑y.snd.fst : Int)))).fdiv (2 : Int))).toNat) 0) (limb (A (Go.IntKind.i64.wrap ((Go.IntKind.u64.wrap (Go.IntKind.i64.wrap ((↑y.fst : Int) + (↑y.snd.fst : Int)))).fdiv (2 : Int))).toNat) 1) (limb (A (Go.IntKind.i64.wrap ((Go.IntKind.u64.wrap (Go.IntKind.i64.wrap ((↑y.fst : Int) + (↑y.snd.fst : Int)))).fdiv (2 : Int))).toNat) 2) (limb (A (Go.IntKind.i64.wrap ((Go.IntKind.u64.wrap (Go.IntKind.i64.wrap ((↑y.fst : Int) + (↑y.snd.fst : Int)))).fdiv (2 : Int))).toNat) 3) ∧ (∀ (j : Nat), j < 32 → v (0 + j) = v (0 + j)) ∧ (∀ (j : Nat), j < 32 → (0 : Int) ≤ intsC (hoF W A (Go.IntKind.i64.wrap ((Go.IntKind.u64.wrap (Go.IntKind.i64.wrap ((↑y.fst : Int) + (↑y.snd.fst : Int)))).fdiv (2 : Int))).toNat (0 + j)) ∧ intsC (hoF W A (Go.IntKind.i64.wrap ((Go.IntKind.u64.wrap (Go.IntKind.i64.wrap ((↑y.fst : Int) + (↑y.snd.fst : Int)))).fdiv (2 : Int))).toNat (0 + j)) < (256 : Int)) ∧ (∀ (j : Nat), j < 32 → (0 : Int) ≤ v (0 + j) ∧ v (0 + j) < (256 : Int)) ∧ (Decidable.decide (cmpK (kv fun (j : Nat) => intsC (hoF W A (Go.IntKind.i64.wrap ((Go.IntKind.u64.wrap (Go.IntKind.i64.wrap ((↑y.fst : Int) + (↑y.snd.fst : Int)))).fdiv (2 : Int))).toNat (0 + j))) x1 < (0 : Int)) = Bool.true → ∃ (y' : Nat × Nat × Go.Addr), (y'.fst ≤ y'.snd.fst ∧ y'.snd.fst ≤ n ∧ P y'.fst y'.snd.fst) ∧ (a = a ∧ n = n ∧ cap = cap ∧ ∀ (i : Nat), i < n → simC (hoF W A i 0) (hoF W A i 0) ∧ simC (hoF W A i 1) (hoF W A i 1) ∧ simC (hoF W A i 2) (hoF W A i 2) ∧ simC (hoF W A i 3) (hoF W A i 3) ∧ simC (hoF W A i 4) (hoF W A i 4) ∧ simC (hoF W A i 5) (hoF W A i 5) ∧ simC (hoF W A i 6) (hoF W A i 6) ∧ simC (hoF W A i 7) (hoF W A i 7) ∧ simC (hoF W A i 8) (hoF W A i 8) ∧ simC (hoF W A i 9) (hoF W A i 9) ∧ simC (hoF W A i 10) (hoF W A i 10) ∧ simC (hoF W A i 11) (hoF W A i 11) ∧ simC (hoF W A i 12) (hoF W A i 12) ∧ simC (hoF W A i 13) (hoF W A i 13) ∧ simC (hoF W A i 14) (hoF W A i 14) ∧ simC (hoF W A i 15) (hoF W A i 15) ∧ simC (hoF W A i 16) (hoF W A i 16) ∧ simC (hoF W A i 17) (hoF W A i 17) ∧ simC (hoF W A i 18) (hoF W A i 18) ∧ simC (hoF W A i 19) (hoF W A i 19) ∧ simC (hoF W A i 20) (hoF W A i 20) ∧ simC (hoF W A i 21) (hoF W A i 21) ∧ simC (hoF W A i 22) (hoF W A i 22) ∧ simC (hoF W A i 23) (hoF W A i 23) ∧ simC (hoF W A i 24) (hoF W A i 24) ∧ simC (hoF W A i 25) (hoF W A i 25) ∧ simC (hoF W A i 26) (hoF W A i 26) ∧ simC (hoF W A i 27) (hoF W A i 27) ∧ simC (hoF W A i 28) (hoF W A i 28) ∧ simC (hoF W A i 29) (hoF W A i 29) ∧ simC (hoF W A i 30) (hoF W A i 30) ∧ simC (hoF W A i 31) (hoF W A i 31) ∧ simC (hoF W A i 32) (hoF W A i 32) ∧ simC (hoF W A i 33) (hoF W A i 33) ∧ simC (hoF W A i 34) (hoF W A i 34) ∧ limb (A i) 3 = limb (A i) 3) ∧ (35 = 35 ∧ ([] : List PV) = []) ∧ (y.snd.snd = y'.snd.snd ∧ simC (SC.val (Go.Value.int Go.IntKind.u8 (v 0))) (SC.val (Go.Value.int Go.IntKind.u8 (v 0))) ∧ simC (SC.val (Go.Value.int Go.IntKind.u8 (v 1))) (SC.val (Go.Value.int Go.IntKind.u8 (v 1))) ∧ simC (SC.val (Go.Value.int Go.IntKind.u8 (v 2))) (SC.val (Go.Value.int Go.IntKind.u8 (v 2))) ∧ simC (SC.val (Go.Value.int Go.IntKind.u8 (v 3))) (SC.val (Go.Value.int Go.IntKind.u8 (v 3))) ∧ simC (SC.val (Go.Value.int Go.IntKind.u8 (v 4))) (SC.val (Go.Value.int Go.IntKind.u8 (v 4))) ∧ simC (SC.val (Go.Value.int Go.IntKind.u8 (v 5))) (SC.val (Go.Value.int Go.IntKind.u8 (v 5))) ∧ simC (SC.val (Go.Value.int Go.IntKind.u8 (v 6))) (SC.val (Go.Value.int Go.IntKind.u8 (v 6))) ∧ simC (SC.val (Go.Value.int Go.IntKind.u8 (v 7))) (SC.val (Go.Value.int Go.IntKind.u8 (v 7))) ∧ simC (SC.val (Go.Value.int Go.IntKind.u8 (v 8))) (SC.val (Go.Value.int Go.IntKind.u8 (v 8))) ∧ simC (SC.val (Go.Value.int Go.IntKind.u8 (v 9))) (SC.val (Go.Value.int Go.IntKind.u8 (v 9))) ∧ simC (SC.val (Go.Value.int Go.IntKind.u8 (v 10))) (SC.val (Go.Value.int Go.IntKind.u8 (v 10))) ∧ simC (SC.val (Go.Value.int Go.IntKind.u8 (v 11))) (SC.val (Go.Value.int Go.IntKind.u8 (v 11))) ∧ simC (SC.val (Go.Value.int Go.IntKind.u8 (v 12))) (SC.val (Go.Value.int Go.IntKind.u8 (v 12))) ∧ simC (SC.val (Go.Value.int Go.IntKind.u8 (v 13))) (SC.val (Go.Value.int Go.IntKind.u8 (v 13))) ∧ simC (SC.val (Go.Value.int Go.IntKind.u8 (v 14))) (SC.val (Go.Value.int Go.IntKind.u8 (v 14))) ∧ simC (SC.val (Go.Value.int Go.IntKind.u8 (v 15))) (SC.val (Go.Value.int Go.IntKind.u8 (v 15))) ∧ simC (SC.val (Go.Value.int Go.IntKind.u8 (v 16))) (SC.val (Go.Value.int Go.IntKind.u8 (v 16))) ∧ simC (SC.val (Go.Value.int Go.IntKind.u8 (v 17))) (SC.val (Go.Value.int Go.IntKind.u8 (v 17))) ∧ simC (SC.val (Go.Value.int Go.IntKind.u8 (v 18))) (SC.val (Go.Value.int Go.IntKind.u8 (v 18))) ∧ simC (SC.val (Go.Value.int Go.IntKind.u8 (v 19))) (SC.val (Go.Value.int Go.IntKind.u8 (v 19))) ∧ simC (SC.val (Go.Value.int Go.IntKind.u8 (v 20))) (SC.val (Go.Value.int Go.IntKind.u8 (v 20))) ∧ simC (SC.val (Go.Value.int Go.IntKind.u8 (v 21))) (SC.val (Go.Value.int Go.IntKind.u8 (v 21))) ∧ simC (SC.val (Go.Value.int Go.IntKind.u8 (v 22))) (SC.val (Go.Value.int Go.IntKind.u8 (v 22))) ∧ simC (SC.val (Go.Value.int Go.IntKind.u8 (v 23))) (SC.val (Go.Value.int Go.IntKind.u8 (v 23))) ∧ simC (SC.val (Go.Value.int Go.IntKind.u8 (v 24))) (SC.val (Go.Value.int Go.IntKind.u8 (v 24))) ∧ simC (SC.val (Go.Value.int Go.IntKind.u8 (v 25))) (SC.val (Go.Value.int Go.IntKind.u8 (v 25))) ∧ simC (SC.val (Go.Value.int Go.IntKind.u8 (v 26))) (SC.val (Go.Value.int Go.IntKind.u8 (v 26))) ∧ simC (SC.val (Go.Value.int Go.IntKind.u8 (v 27))) (SC.val (Go.Value.int Go.IntKind.u8 (v 27))) ∧ simC (SC.val (Go.Value.int Go.IntKind.u8 (v 28))) (SC.val (Go.Value.int Go.IntKind.u8 (v 28))) ∧ simC (SC.val (Go.Value.int Go.IntKind.u8 (v 29))) (SC.val (Go.Value.int Go.IntKind.u8 (v 29))) ∧ simC (SC.val (Go.Value.int Go.IntKind.u8 (v 30))) (SC.val (Go.Value.int Go.IntKind.u8 (v 30))) ∧ v 31 = v 31) ∧ (↑n : Int) = (↑n : Int) ∧ Go.IntKind.i64.wrap (Go.IntKind.i64.wrap ((Go.IntKind.u64.wrap (Go.IntKind.i64.wrap ((↑y.fst : Int) + (↑y.snd.fst : Int)))).fdiv (2 : Int)) + (1 : Int)) = (↑y'.fst : Int) ∧ (↑y.snd.fst : Int) = (↑y'.snd.fst : Int) ∧ (y'.snd.fst - y'.fst).succ.le (y.snd.fst - y.fst)) ∧ (Decidable.decide (cmpK (kv fun (j : Nat) => intsC (hoF W A (Go.IntKind.i64.wrap ((Go.IntKind.u64.wrap (Go.IntKind.i64.wrap ((↑y.fst : Int) + (↑y.snd.fst : Int)))).fdiv (2 : Int))).toNat (0 + j))) x1 < (0 : Int)) = Bool.false → ∃ (y' : Nat × Nat × Go.Addr), (y'.fst ≤ y'.snd.fst ∧ y'.snd.fst ≤ n ∧ P y'.fst y'.snd.fst) ∧ (a = a ∧ n = n ∧ cap = cap ∧ ∀ (i : Nat), i < n → simC (hoF W A i 0) (hoF W A i 0) ∧ simC (hoF W A i 1) (hoF W A i 1) ∧ simC (hoF W A i 2) (hoF W A i 2) ∧ simC (hoF W A i 3) (hoF W A i 3) ∧ simC (hoF W A i 4) (hoF W A i 4) ∧ simC (hoF W A i 5) (hoF W A i 5) ∧ simC (hoF W A i 6) (hoF W A i 6) ∧ simC (hoF W A i 7) (hoF W A i 7) ∧ simC (hoF W A i 8) (hoF W A i 8) ∧ simC (hoF W A i 9) (hoF W A i 9) ∧ simC (hoF W A i 10) (hoF W A i 10) ∧ simC (hoF W A i 11) (hoF W A i 11) ∧ simC (hoF W A i 12) (hoF W A i 12) ∧ simC (hoF W A i 13) (hoF W A i 13) ∧ simC (hoF W A i 14) (hoF W A i 14) ∧ simC (hoF W A i 15) (hoF W A i 15) ∧ simC (hoF W A i 16) (hoF W A i 16) ∧ simC (hoF W A i 17) (hoF W A i 17) ∧ simC (hoF W A i 18) (hoF W A i 18) ∧ simC (hoF W A i 19) (hoF W A i 19) ∧ simC (hoF W A i 20) (hoF W A i 20) ∧ simC (hoF W A i 21) (hoF W A i 21) ∧ simC (hoF W A i 22) (hoF W A i 22) ∧ simC (hoF W A i 23) (hoF W A i 23) ∧ simC (hoF W A i 24) (hoF W A i 24) ∧ simC (hoF W A i 25) (hoF W A i 25) ∧ simC (hoF W A i 26) (hoF W A i 26) ∧ simC (hoF W A i 27) (hoF W A i 27) ∧ simC (hoF W A i 28) (hoF W A i 28) ∧ simC (hoF W A i 29) (hoF W A i 29) ∧ simC (hoF W A i 30) (hoF W A i 30) ∧ simC (hoF W A i 31) (hoF W A i 31) ∧ simC (hoF W A i 32) (hoF W A i 32) ∧ simC (hoF W A i 33) (hoF W A i 33) ∧ simC (hoF W A i 34) (hoF W A i 34) ∧ limb (A i) 3 = limb (A i) 3) ∧ (35 = 35 ∧ ([] : List PV) = []) ∧ (y.snd.snd = y'.snd.snd ∧ simC (SC.val (Go.Value.int Go.IntKind.u8 (v 0))) (SC.val (Go.Value.int Go.IntKind.u8 (v 0))) ∧ simC (SC.val (Go.Value.int Go.IntKind.u8 (v 1))) (SC.val (Go.Value.int Go.IntKind.u8 (v 1))) ∧ simC (SC.val (Go.Value.int Go.IntKind.u8 (v 2))) (SC.val (Go.Value.int Go.IntKind.u8 (v 2))) ∧ simC (SC.val (Go.Value.int Go.IntKind.u8 (v 3))) (SC.val (Go.Value.int Go.IntKind.u8 (v 3))) ∧ simC (SC.val (Go.Value.int Go.IntKind.u8 (v 4))) (SC.val (Go.Value.int Go.IntKind.u8 (v 4))) ∧ simC (SC.val (Go.Value.int Go.IntKind.u8 (v 5))) (SC.val (Go.Value.int Go.IntKind.u8 (v 5))) ∧ simC (SC.val (Go.Value.int Go.IntKind.u8 (v 6))) (SC.val (Go.Value.int Go.IntKind.u8 (v 6))) ∧ simC (SC.val (Go.Value.int Go.IntKind.u8 (v 7))) (SC.val (Go.Value.int Go.IntKind.u8 (v 7))) ∧ simC (SC.val (Go.Value.int Go.IntKind.u8 (v 8))) (SC.val (Go.Value.int Go.IntKind.u8 (v 8))) ∧ simC (SC.val (Go.Value.int Go.IntKind.u8 (v 9))) (SC.val (Go.Value.int Go.IntKind.u8 (v 9))) ∧ simC (SC.val (Go.Value.int Go.IntKind.u8 (v 10))) (SC.val (Go.Value.int Go.IntKind.u8 (v 10))) ∧ simC (SC.val (Go.Value.int Go.IntKind.u8 (v 11))) (SC.val (Go.Value.int Go.IntKind.u8 (v 11))) ∧ simC (SC.val (Go.Value.int Go.IntKind.u8 (v 12))) (SC.val (Go.Value.int Go.IntKind.u8 (v 12))) ∧ simC (SC.val (Go.Value.int Go.IntKind.u8 (v 13))) (SC.val (Go.Value.int Go.IntKind.u8 (v 13))) ∧ simC (SC.val (Go.Value.int Go.IntKind.u8 (v 14))) (SC.val (Go.Value.int Go.IntKind.u8 (v 14))) ∧ simC (SC.val (Go.Value.int Go.IntKind.u8 (v 15))) (SC.val (Go.Value.int Go.IntKind.u8 (v 15))) ∧ simC (SC.val (Go.Value.int Go.IntKind.u8 (v 16))) (SC.val (Go.Value.int Go.IntKind.u8 (v 16))) ∧ simC (SC.val (Go.Value.int Go.IntKind.u8 (v 17))) (SC.val (Go.Value.int Go.IntKind.u8 (v 17))) ∧ simC (SC.val (Go.Value.int Go.IntKind.u8 (v 18))) (SC.val (Go.Value.int Go.IntKind.u8 (v 18))) ∧ simC (SC.val (Go.Value.int Go.IntKind.u8 (v 19))) (SC.val (Go.Value.int Go.IntKind.u8 (v 19))) ∧ simC (SC.val (Go.Value.int Go.IntKind.u8 (v 20))) (SC.val (Go.Value.int Go.IntKind.u8 (v 20))) ∧ simC (SC.val (Go.Value.int Go.IntKind.u8 (v 21))) (SC.val (Go.Value.int Go.IntKind.u8 (v 21))) ∧ simC (SC.val (Go.Value.int Go.IntKind.u8 (v 22))) (SC.val (Go.Value.int Go.IntKind.u8 (v 22))) ∧ simC (SC.val (Go.Value.int Go.IntKind.u8 (v 23))) (SC.val (Go.Value.int Go.IntKind.u8 (v 23))) ∧ simC (SC.val (Go.Value.int Go.IntKind.u8 (v 24))) (SC.val (Go.Value.int Go.IntKind.u8 (v 24))) ∧ simC (SC.val (Go.Value.int Go.IntKind.u8 (v 25))) (SC.val (Go.Value.int Go.IntKind.u8 (v 25))) ∧ simC (SC.val (Go.Value.int Go.IntKind.u8 (v 26))) (SC.val (Go.Value.int Go.IntKind.u8 (v 26))) ∧ simC (SC.val (Go.Value.int Go.IntKind.u8 (v 27))) (SC.val (Go.Value.int Go.IntKind.u8 (v 27))) ∧ simC (SC.val (Go.Value.int Go.IntKind.u8 (v 28))) (SC.val (Go.Value.int Go.IntKind.u8 (v 28))) ∧ simC (SC.val (Go.Value.int Go.IntKind.u8 (v 29))) (SC.val (Go.Value.int Go.IntKind.u8 (v 29))) ∧ simC (SC.val (Go.Value.int Go.IntKind.u8 (v 30))) (SC.val (Go.Value.int Go.IntKind.u8 (v 30))) ∧ v 31 = v 31) ∧ (↑n : Int) = (↑n : Int) ∧ (↑y.fst : Int) = (↑y'.fst : Int) ∧ Go.IntKind.i64.wrap ((Go.IntKind.u64.wrap (Go.IntKind.i64.wrap ((↑y.fst : Int) + (↑y.snd.fst : Int)))).fdiv (2 : Int)) = (↑y'.snd.fst : Int) ∧ (y'.snd.fst - y'.fst).succ.le (y.snd.fst - y.fst))) ∧ (Decidable.decide ((↑y.fst : Int) < (↑y.snd.fst : Int)) = Bool.false → (Decidable.decide ((↑y.fst : Int) < (↑n : Int)) = Bool.true → Decidable.decide ((↑y.fst : Int) < (↑n : Int)) = Bool.true) ∧ (Decidable.decide ((↑y.fst : Int) < (↑n : Int)) = Bool.true → Decidable.decide ((↑y.fst : Int) < (↑n : Int)) = Bool.true) ∧ (Decidable.decide ((↑y.fst : Int) < (↑n : Int)) = Bool.true → (0 : Int) ≤ (↑y.fst : Int) ∧ (↑y.fst : Int) < (↑n : Int)) ∧ (Decidable.decide ((↑y.fst : Int) < (↑n : Int)) = Bool.true → Decidable.decide ((↑y.fst : Int) < (↑n : Int)) = Bool.true) ∧ (Decidable.decide ((↑y.fst : Int) < (↑n : Int)) = Bool.true → Decidable.decide ((↑y.fst : Int) < (↑n : Int)) = Bool.true ∧ Decidable.decide ((↑y.fst : Int) < (↑n : Int)) = Bool.true ∧ Decidable.decide ((↑y.fst : Int) < (↑n : Int)) = Bool.true ∧ ((0 : Int) ≤ limb (A (↑y.fst : Int).toNat) 0 ∧ limb (A (↑y.fst : Int).toNat) 0 < (18446744073709551616 : Int)) ∧ ((0 : Int) ≤ limb (A (↑y.fst : Int).toNat) 1 ∧ limb (A (↑y.fst : Int).toNat) 1 < (18446744073709551616 : Int)) ∧ ((0 : Int) ≤ limb (A (↑y.fst : Int).toNat) 2 ∧ limb (A (↑y.fst : Int).toNat) 2 < (18446744073709551616 : Int)) ∧ ((0 : Int) ≤ limb (A (↑y.fst : Int).toNat) 3 ∧ limb (A (↑y.fst : Int).toNat) 3 < (18446744073709551616 : Int)) ∧ (∀ (j : Nat), j < 32 → intsC (hoF W A (↑y.fst : Int).toNat (0 + j)) = intsC (hoF W A (↑y.fst : Int).toNat (0 + j))) ∧ join (limb (A (↑y.fst : Int).toNat) 0) (limb (A (↑y.fst : Int).toNat) 1) (limb (A (↑y.fst : Int).toNat) 2) (limb (A (↑y.fst : Int).toNat) 3) = join (limb (A (↑y.fst : Int).toNat) 0) (limb (A (↑y.fst : Int).toNat) 1) (limb (A (↑y.fst : Int).toNat) 2) (limb (A (↑y.fst : Int).toNat) 3) ∧ (∀ (j : Nat), j < 32 → v (0 + j) = v (0 + j)) ∧ (∀ (j : Nat), j < 32 → (0 : Int) ≤ intsC (hoF W A (↑y.fst : Int).toNat (0 + j)) ∧ intsC (hoF W A (↑y.fst : Int).toNat (0 + j)) < (256 : Int)) ∧ (∀ (j : Nat), j < 32 → (0 : Int) ≤ v (0 + j) ∧ v (0 + j) < (256 : Int)) ∧ (↑y.fst : Int) = r ∧ (cmpK (kv fun (j : Nat) => intsC (hoF W A (↑y.fst : Int).toNat (0 + j))) x1 == (0 : Int)) = b) ∧ (Decidable.decide ((↑y.fst : Int) < (↑n : Int)) = Bool.false → (↑y.fst : Int) = r ∧ Bool.false = b))) := by kernel_rfl
end Go.Proofs.Ytnkgniedhmnanaa
end

section
namespace Go.Proofs.Ytnkgniedhmnanaa
open Go Go.Sx Go.RowKit
set_option maxRecDepth 100000
def posN (K : Nat → Nat) (k : Nat) : Nat → Nat
  | 0 => 0
  | n + 1 => posN K k n + (if K n < k then 1 else 0)
def isN (K : Nat → Nat) (k n : Nat) : Bool := decide (posN K k n < n) && decide (K (posN K k n) = k)
theorem posN_eq {K : Nat → Nat} {k p : Nat} : ∀ {n : Nat}, p ≤ n → (∀ i, i < p → K i < k) → (∀ i, p ≤ i → i < n → ¬ K i < k) → posN K k n = p
  | 0, h, _, _ => by rw [posN]; omega
  | n + 1, h, h1, h2 => by
    rw [posN]
    rcases Nat.lt_or_ge n p with hp | hp
    · have e : p = n + 1 := by omega
      rw [posN_eq (n := n) (p := n) (Nat.le_refl _) (fun i hi => h1 i (by omega)) (fun i hi hj => by omega), if_pos (h1 n hp), e]
    · rw [posN_eq (n := n) (p := p) hp h1 (fun i hi hj => h2 i hi (by omega)), if_neg (h2 n hp (by omega)), Nat.add_zero]
theorem posN_le (K : Nat → Nat) (k : Nat) : ∀ n, posN K k n ≤ n
  | 0 => Nat.le_refl _
  | n + 1 => by
    have := posN_le K k n
    rw [posN]
    split <;> omega
theorem ord_lt {n : Nat} {K A : Nat → Nat} (h : ordB n K A = true) {i : Nat} : ∀ {j : Nat}, i < j → j < n → K i < K j
  | 0, hij, _ => by omega
  | j + 1, hij, hj => by
    have h1 := (ordB_iff.1 h (j + 1) hj).2
    rw [Nat.add_sub_cancel] at h1
    have h1 : K j < K (j + 1) := by
      rcases h1 with h1 | h1
      · omega
      · exact h1
    rcases Nat.lt_or_ge i j with h2 | h2
    · exact Nat.lt_trans (ord_lt h h2 (by omega)) h1
    · rw [show i = j by omega]; exact h1
theorem ord_le {n : Nat} {K A : Nat → Nat} (h : ordB n K A = true) {i j : Nat} (hij : i ≤ j) (hj : j < n) : K i ≤ K j := by
  rcases Nat.lt_or_ge i j with k | k
  · exact Nat.le_of_lt (ord_lt h k hj)
  · rw [show i = j by omega]; exact Nat.le_refl _
theorem pos_lo {n : Nat} {K A : Nat → Nat} (h : ordB n K A = true) (k : Nat) : (∀ i, i < posN K k n → K i < k) ∧ ∀ i, posN K k n ≤ i → i < n → ¬ K i < k := by
  induction n with
  | zero => exact ⟨fun i hi => absurd hi (Nat.not_lt_zero _), fun i _ hi => absurd hi (Nat.not_lt_zero _)⟩
  | succ n ih =>
    obtain ⟨h1, h2⟩ := ih (ordB_mono (Nat.le_succ n) h)
    have hle := posN_le K k n
    rw [posN]
    by_cases hk : K n < k
    · rw [if_pos hk]
      have e : posN K k n = n := by
        rcases Nat.lt_or_ge (posN K k n) n with q | q
        · exact absurd (Nat.lt_of_le_of_lt (ord_le h (Nat.le_of_lt q) (Nat.lt_succ_self n)) hk) (h2 _ (Nat.le_refl _) q)
        · omega
      rw [e]
      exact ⟨fun i hi => by
        rcases Nat.lt_or_ge i n with q | q
        · exact h1 i (by omega)
        · rw [show i = n by omega]; exact hk, fun i hi hj => by omega⟩
    · rw [if_neg hk, Nat.add_zero]
      exact ⟨h1, fun i hi hj => by
        rcases Nat.lt_or_ge i n with q | q
        · exact h2 i hi q
        · rw [show i = n by omega]; exact hk⟩
theorem seg_wh : segT Try.prog (8 : Nat) (31 : Nat) = [(true, 32)] := by kernel_rfl
theorem wh_at (v : Nat → Int) {c : Nat} (h : c < 32) : (flat (toKs (sWh v))).getD c (SC.bit false) = .val (.int .u8 (v c)) := by
  have e : flat (toKs (sWh v)) = (List.range 32).map fun j => .val (.int .u8 (v j)) := by
    show flat [SK.f .u8 32 v] = _
    rw [flat, flat, List.append_nil]; rfl
  rw [e, List.getD_eq_getElem?_getD, List.getElem?_map, List.getElem?_range h]; rfl
theorem px_wh (v : Nat → Int) {k : Nat} (hk : k < 32) : (flat (toKs (SA.agg (grpK (fun c => (flat (toKs (sWh v))).getD c (SC.bit false)) 0 [(true, 32)])))).getD k (SC.bit false) = .val (.int .u8 (v k)) := by
  have e0 : kindC ((flat (toKs (sWh v))).getD 0 (SC.bit false)) = some .u8 := by rw [wh_at v (by decide)]; rfl
  have e1 : grpK (fun c => (flat (toKs (sWh v))).getD c (SC.bit false)) 0 [(true, 32)] = [.f .u8 32 fun j => intsC ((flat (toKs (sWh v))).getD (0 + j) (SC.bit false))] := by
    rw [grpK, grpK, List.append_nil, rowK]
    simp only [e0]
    rw [if_pos]
    rw [List.all_eq_true]
    intro j hj
    rw [Nat.zero_add, wh_at v (List.mem_range.1 hj)]; rfl
  rw [e1]
  have e2 : flat (toKs (SA.agg [.f .u8 32 fun j => intsC ((flat (toKs (sWh v))).getD (0 + j) (SC.bit false))])) = (List.range 32).map fun j => .val (.int .u8 (intsC ((flat (toKs (sWh v))).getD (0 + j) (SC.bit false)))) := by
    show flat [SK.f .u8 32 _] = _
    rw [flat, flat, List.append_nil]; rfl
  rw [e2, List.getD_eq_getElem?_getD, List.getElem?_map, List.getElem?_range hk, Option.map_some, Option.getD_some, Nat.zero_add, wh_at v hk]
  exact rfl
theorem px_wh' (v : Nat → Int) : ∃ L, L = flat (toKs (SA.agg (grpK (fun c => (flat (toKs (sWh v))).getD c (SC.bit false)) 0 [(true, 32)]))) ∧ ∀ k, k < 32 → L.getD k (SC.bit false) = .val (.int .u8 (v k)) := ⟨_, rfl, fun _ hk => px_wh v hk⟩
theorem mid_eq {i j : Nat} (h : i ≤ j) (hj : j ≤ maxLen) : IntKind.i64.wrap ((IntKind.u64.wrap (IntKind.i64.wrap ((i : Int) + (j : Int)))).fdiv 2) = (((i + j) / 2 : Nat) : Int) := by
  have hML : maxLen = 9223372036854775807 := rfl
  have e : IntKind.u64.wrap (IntKind.i64.wrap ((i : Int) + (j : Int))) = ((i + j : Nat) : Int) := by
    rw [IntKind.wrap_i64, IntKind.wrap_u64]; omega
  rw [e, Int.fdiv_eq_ediv_of_nonneg _ (by decide), IntKind.wrap_i64]
  omega
theorem cmpK_lt {a b : Nat} : cmpK a b < 0 ↔ a < b := by
  unfold cmpK
  by_cases h : a < b
  · rw [if_pos h]; omega
  · rw [if_neg h]
    by_cases k : b < a
    · rw [if_pos k]; omega
    · rw [if_neg k]; omega
theorem cmpK_eq (a b : Nat) : (cmpK a b == 0) = decide (a = b) := by
  unfold cmpK
  by_cases h : a < b
  · rw [if_pos h, decide_eq_false (by omega)]; rfl
  · rw [if_neg h]
    by_cases k : b < a
    · rw [if_pos k, decide_eq_false (by omega)]; rfl
    · rw [if_neg k, decide_eq_true (by omega)]; rfl
abbrev pFi (n : Nat) (K : Nat → Nat) (k i j : Nat) : Prop := (∀ x, x < i → K x < k) ∧ ∀ x, j ≤ x → x < n → ¬ K x < k
theorem ok_fi (a : Option Addr) (n cap : Nat) (W : Nat → Nat → Int) (A : Nat → Nat) (v : Nat → Int) (h : hoP a n W A) (ho : ordB n (fun i => kv (W i)) A = true) (hv : by32 v) :
    OwesR Try.prog cx17 slBs [((44 + 1) * 100000 + 3, .inv (invBs a n cap W A v (pFi n (fun i => kv (W i)) (kv v))))] 10 Try.f36 [sHs a n cap W A, sWh v] false
      [.v (sI .i64 (posN (fun i => kv (W i)) (kv v) n : Nat)), .v (sB (isN (fun i => kv (W i)) (kv v) n))] := by
  obtain ⟨r, hr⟩ : ∃ r : Int, r = (posN (fun i => kv (W i)) (kv v) n : Nat) := ⟨_, rfl⟩
  obtain ⟨b, hb⟩ : ∃ b, b = isN (fun i => kv (W i)) (kv v) n := ⟨_, rfl⟩
  obtain ⟨L, hL, hk⟩ := px_wh' v
  rw [← hr, ← hb, vc_fi, seg_wh, ← hL]
  clear hL
  intro x1 a1 a2
  have e1 : x1 = kv v := kv_congr fun j _ => by rw [Nat.zero_add]
  clear_value x1
  rw [e1]
  clear e1 x1
  have z := sim_ho W A
  have zv : ∀ x : Int, simC (.val (.int .u8 x)) (.val (.int .u8 x)) := fun _ => rfl
  have hML : maxLen = 9223372036854775807 := rfl
  have hv2 : ∀ j, j < 32 → 0 ≤ v (0 + j) ∧ v (0 + j) < 256 := fun j hj => by rw [Nat.zero_add]; exact hv j hj
  simp only [eq_self, implies_true, and_self, true_and, and_true, imp_self, z, zv, lb_in, Int.toNat_natCast, kv_ho, cmpK_eq]
  refine ⟨fun _ => rfl, ?_⟩
  refine ⟨⟨0, n, a2⟩, ?_⟩
  refine ⟨?_, ?_⟩
  · refine ⟨?_, ?_⟩
    · exact Nat.zero_le _
    · refine ⟨?_, ?_⟩
      · exact Nat.le_refl _
      · refine ⟨?_, ?_⟩
        · intro x hx
          exact absurd hx (Nat.not_lt_zero _)
        · intro x hx hx'
          have hx : n ≤ x := hx
          omega
  refine ⟨?_, rfl, rfl, fun y hy => ?_⟩
  · simp only [hk 0 (by decide), hk 1 (by decide), hk 2 (by decide), hk 3 (by decide), hk 4 (by decide), hk 5 (by decide), hk 6 (by decide), hk 7 (by decide), hk 8 (by decide), hk 9 (by decide), hk 10 (by decide), hk 11 (by decide), hk 12 (by decide), hk 13 (by decide), hk 14 (by decide), hk 15 (by decide), hk 16 (by decide), hk 17 (by decide), hk 18 (by decide), hk 19 (by decide), hk 20 (by decide), hk 21 (by decide), hk 22 (by decide), hk 23 (by decide), hk 24 (by decide), hk 25 (by decide), hk 26 (by decide), hk 27 (by decide), hk 28 (by decide), hk 29 (by decide), hk 30 (by decide), zv, and_self]
  obtain ⟨i, j, c⟩ := y
  obtain ⟨y1, y2, y3, y4⟩ := hy
  simp only at y1 y2 y3 y4 ⊢
  rw [mid_eq y1 (by have := h.hn; omega), Int.toNat_natCast]
  refine ⟨fun hl => ?_, fun hl => ?_⟩
  · have hl := of_decide_eq_true hl
    have hl : i < j := by omega
    obtain ⟨m, hm⟩ : ∃ m, m = (i + j) / 2 := ⟨_, rfl⟩
    rw [← hm]
    have m1 : i ≤ m := by omega
    have m2 : m < j := by omega
    have m3 : m < n := by omega
    refine ⟨⟨by omega, by omega⟩, by_ho (h.hw m m3), hv2, fun hd => ⟨⟨m + 1, j, c⟩, ?_⟩, fun hd => ⟨⟨i, m, c⟩, ?_⟩⟩
    · have hd := cmpK_lt.1 (of_decide_eq_true hd)
      refine ⟨⟨?_, y2, ?_, y4⟩, rfl, ?_, rfl, ?_⟩
      · show m + 1 ≤ j; omega
      · intro x hx
        have hx : x < m + 1 := hx
        exact Nat.lt_of_le_of_lt (ord_le ho (by omega) m3) hd
      · exact w_succ m3 h.hn
      · show j - (m + 1) + 1 ≤ j - i; omega
    · have hd := of_decide_eq_false hd
      rw [cmpK_lt] at hd
      refine ⟨⟨m1, ?_, y3, ?_⟩, rfl, rfl, rfl, ?_⟩
      · show m ≤ n; omega
      · intro x hx hx'
        have hx : m ≤ x := hx
        exact fun q => hd (Nat.lt_of_le_of_lt (ord_le ho hx hx') q)
      · show m - i + 1 ≤ j - i; omega
  · have hl := of_decide_eq_false hl
    have e : j = i := by omega
    subst e
    have hp : posN (fun i => kv (W i)) (kv v) n = j := posN_eq y2 y3 y4
    refine ⟨fun hd => ?_, fun hd => ⟨hd, hd, hd, ?_, hv2, ?_, ?_⟩, fun hd => ⟨?_, ?_⟩⟩
    · have hd := of_decide_eq_true hd
      exact ⟨by omega, hd⟩
    · have hd := of_decide_eq_true hd
      exact by_ho (h.hw j (by omega))
    · rw [hr, hp]
    · have hd := of_decide_eq_true hd
      rw [hb]; unfold isN; rw [hp, decide_eq_true (by omega : j < n), Bool.true_and]
    · rw [hr, hp]
    · have hd := of_decide_eq_false hd
      rw [hb]; unfold isN; rw [hp, decide_eq_false (by omega : ¬ j < n), Bool.false_and]
structure fiP (a : Option Addr) (n : Nat) (f : Nat → Nat → SC) (v : Nat → Int) : Prop where
  f1 : hkP a n f
  f2 : ordB n (kH f) (aH f) = true
  f3 : by32 v
def fiC : List (List FD) → List Prop
  | [[.x a n _ f], [.y v]] => [fiP a n f v]
  | _ => [False]
def fiG : List (List FD) → List RS
  | [[.x _ n _ f], [.y v]] => [.v (sI .i64 (posN (kH f) (kv v) n : Nat)), .v (sB (isN (kH f) (kv v) n))]
  | _ => []
def cFi : SSpec := specQ0 false [.one (.x 36), .st [.y 32]] fiC fiG
theorem okx_17 : CxOK Try.prog cx17 := okx_mark (okx_mark (okx_mark (okx_mark (okx_mark (okx_mark okx_nil)))))
theorem oks_Bs : ∀ p ∈ slBs, FnOKs Try.prog cx17.gl p.1 p.2 := oks_cons card_ag oks_nil
theorem card_fi {gl : Globs} : FnOKs Try.prog gl 36 cFi := by
  refine FnOKs.up0 (FnOKs_R0 (cx := cx17) okx_17 (sl := slBs) oks_Bs Try.func36 (by kernel_rfl) (by kernel_rfl) fun ls hc => ?_) gl
  unfold fiC at hc
  split at hc
  · rename_i a n cap f v
    obtain ⟨p, _⟩ := hc
    refine ⟨_, _, [sHs a n cap (kOf f) (aH f), sWh v], fun _ => rfl, fun E hE => ?_, fun r hr => ?_, ok_fi a n cap (kOf f) (aH f) v (hk_hoP p.f1) p.f2 p.f3⟩
    · intro z hz
      simp only [List.mem_cons, List.not_mem_nil, or_false] at hz
      rcases hz with rfl | rfl
      · exact hk_bnd p.f1 (hE _ (List.mem_cons_self ..))
      · exact hE _ (List.mem_cons_of_mem _ (List.mem_cons_self ..))
    · unfold fiG at hr
      simp only [List.mem_cons, List.not_mem_nil, or_false] at hr
      rcases hr with rfl | rfl <;> exact trivial
  · exact hc.1.elim
end Go.Proofs.Ytnkgniedhmnanaa
end

section
namespace Go.Proofs.Ytnkgniedhmnanaa
open Go Go.Sx Go.RowKit
set_option maxRecDepth 100000
def hldN (n : Nat) (K A : Nat → Nat) (k : Nat) : Nat := if isN K k n = true then A (posN K k n) else 0
def slAm : List (Nat × SSpec) := [(36, cFi)]
def amG : List (List FD) → List RS
  | [[.x _ n _ f], [.y v]] => [.v (sU (hldN n (kH f) (aH f) (kv v)))]
  | _ => []
def cAm : SSpec := specQ0 false [.one (.x 36), .st [.y 32]] fiC amG
def slOf : List (Nat × SSpec) := [(8, cCn), (27, cAm)]
theorem vc_am (a : Option Addr) (n cap : Nat) (W : Nat → Nat → Int) (A : Nat → Nat) (v : Nat → Int) (r : Nat) :
    OwesR Try.prog cx14 slAm [] 10 Try.f27 [sHs a n cap W A, sWh v] false [.v (sU r)] =
    (let x1 : Int := (↑(posN (kH (hoF W A)) (kv v) n) : Int); let x2 : Int := limb (A x1.toNat) 0; let x3 : Int := limb (A x1.toNat) 1; let x4 : Int := limb (A x1.toNat) 2; let x5 : Int := limb (A x1.toNat) 3; let x6 : Nat := r % M256; fiP a n (hoF W A) v ∧ (isN (kH (hoF W A)) (kv v) n = Bool.true → ((0 : Int) ≤ x1 ∧ x1 < (↑n : Int)) ∧ ((0 : Int) ≤ x2 ∧ x2 < (18446744073709551616 : Int)) ∧ ((0 : Int) ≤ x3 ∧ x3 < (18446744073709551616 : Int)) ∧ ((0 : Int) ≤ x4 ∧ x4 < (18446744073709551616 : Int)) ∧ ((0 : Int) ≤ x5 ∧ x5 < (18446744073709551616 : Int)) ∧ join x2 x3 x4 x5 % M256 = x6 ∧ True) ∧ (isN (kH (hoF W A)) (kv v) n = Bool.false → 0 = x6 ∧ True)) := by kernel_rfl
theorem vc_of (s : Nat) (a : Option Addr) (n cap : Nat) (W : Nat → Nat → Int) (A : Nat → Nat) (v : Nat → Int) (r : Nat) (e : Int) :
    OwesR Try.prog cx14 slOf [] 10 Try.f10 [sCn s a n cap W A, sWh v] false [.v (sU r), .v (sI .i64 e)] =
    (let x1 : Int := cnE n (kH (hoF W A)) (aH (hoF W A)) (s % M256); let x2 : Nat := r % M256; hkP a n (hoF W A) ∧ ((x1 != (0 : Int)) = Bool.true → (0 = x2 ∧ True) ∧ x1 = e) ∧ ((x1 != (0 : Int)) = Bool.false → fiP a n (hoF W A) v ∧ (hldN n (kH (hoF W A)) (aH (hoF W A)) (kv v) % M256 = x2 ∧ True) ∧ (0 : Int) = e)) := by kernel_rfl
end Go.Proofs.Ytnkgniedhmnanaa
end
