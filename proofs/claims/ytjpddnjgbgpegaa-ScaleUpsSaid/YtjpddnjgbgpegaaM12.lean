/-
  Texts: P100, P101, V61, P102, DgB, V62, P103, Wsp4, Wsp6, P104.
-/
import Derived.Test.YtjpddnjgbgpegaaM1
import Derived.Test.YtjpddnjgbgpegaaM2
import Derived.Test.YtjpddnjgbgpegaaM3
import Derived.Test.YtjpddnjgbgpegaaM4
import Derived.Test.YtjpddnjgbgpegaaM5
import Derived.Test.YtjpddnjgbgpegaaM6
import Derived.Test.YtjpddnjgbgpegaaM7
import Derived.Test.YtjpddnjgbgpegaaM8
import Derived.Test.YtjpddnjgbgpegaaM9
import Derived.Test.YtjpddnjgbgpegaaM10
import Derived.Test.YtjpddnjgbgpegaaM11
import Derived.Test.YtjpddnjgbgpegaaChecked
section
namespace Go.Proofs.Ytjpddnjgbgpegaa
open Go Go.Sx Go.RowKit
theorem wrap64 {x : Int} (h : 0 ≤ x ∧ x < 18446744073709551616) : IntKind.u64.wrap x = x := by rw [IntKind.wrap_u64]; omega
theorem wrapi {x : Int} (h : -9223372036854775808 ≤ x ∧ x < 9223372036854775808) : IntKind.i64.wrap x = x := by rw [IntKind.wrap_i64]; omega
theorem maxLen_eq : maxLen = 9223372036854775807 := rfl
theorem plus_round {a : Option Addr} {n c : Nat} {f : Nat → Int} {b : Option Addr} {m d : Nat} {h : Nat → Int} {X Y i c1 : Nat} {g : Nat → Int} {k s : Int} {M : Nat} (hM : M = max n m) (hn : n ≤ 1000) (hm : m ≤ 1000) (hP : PlusP X Y i g k) (hi : i < M) (hs : s = k + dg X i + dg Y i) (hc : i + 1 + c1 ≤ maxLen) :
    ∃ y' : Nat × (Nat → Int) × Int × Nat, (PlusP X Y y'.1 y'.2.1 y'.2.2.1 ∧ y'.1 ≤ M ∧ y'.1 + y'.2.2.2 ≤ maxLen) ∧ (a = a ∧ n = n ∧ c = c ∧ ∀ i, i < n → f i = f i) ∧ (b = b ∧ m = m ∧ d = d ∧ ∀ i, i < m → h i = h i) ∧ (1 = 1 ∧ 1 = 1 ∧ 0 = 0 ∧ i + 1 = y'.1 ∧ i + 1 + c1 = y'.1 + y'.2.2.2) ∧ IntKind.u64.wrap (s.tdiv 4294967296) = y'.2.2.1 ∧ IntKind.i64.wrap ((i : Int) + 1) = (y'.1 : Int) ∧ i + 1 = y'.1 ∧ c1 * 1 = y'.2.2.2 ∧ (∀ j, j < i + 1 → (bif decide (j < i) then g j else s.tmod 4294967296) = y'.2.1 j) ∧ M - y'.1 < M - i := by
  refine ⟨(i + 1, _, _, c1), ⟨hP.step hs, by show i + 1 ≤ M; omega, hc⟩, ⟨rfl, rfl, rfl, fun _ _ => rfl⟩, ⟨rfl, rfl, rfl, fun _ _ => rfl⟩, ⟨rfl, rfl, rfl, rfl, rfl⟩, rfl, ?_, rfl, Nat.mul_one _, fun _ _ => rfl, by show M - (i + 1) < M - i; omega⟩
  rw [wrapi (by omega)]
  rfl
theorem plus_first {a : Option Addr} {n c : Nat} {f : Nat → Int} {b : Option Addr} {m d : Nat} {h : Nat → Int} {X Y c1 : Nat} {s : Int} {M : Nat} (hi : 0 < M) (hs : s = dg X 0 + dg Y 0) (hc : 1 + c1 ≤ maxLen) :
    ∃ y' : Nat × (Nat → Int) × Int × Nat, (PlusP X Y y'.1 y'.2.1 y'.2.2.1 ∧ y'.1 ≤ M ∧ y'.1 + y'.2.2.2 ≤ maxLen) ∧ (a = a ∧ n = n ∧ c = c ∧ ∀ i, i < n → f i = f i) ∧ (b = b ∧ m = m ∧ d = d ∧ ∀ i, i < m → h i = h i) ∧ (1 = 1 ∧ 1 = 1 ∧ 0 = 0 ∧ 1 = y'.1 ∧ 1 + c1 = y'.1 + y'.2.2.2) ∧ IntKind.u64.wrap (s.tdiv 4294967296) = y'.2.2.1 ∧ (1 : Int) = (y'.1 : Int) ∧ 1 = y'.1 ∧ c1 * 1 = y'.2.2.2 ∧ (∀ j, j < 1 → s.tmod 4294967296 = y'.2.1 j) ∧ True := by
  refine ⟨(1, _, _, c1), ⟨(PlusP.start X Y fun _ => 0).step (s := s) (by rw [hs]; omega), hi, hc⟩, ⟨rfl, rfl, rfl, fun _ _ => rfl⟩, ⟨rfl, rfl, rfl, fun _ _ => rfl⟩, ⟨rfl, rfl, rfl, rfl, rfl⟩, rfl, rfl, rfl, Nat.mul_one _, fun j hj => ?_, trivial⟩
  show _ = (bif decide (j < 0) then (0 : Int) else s.tmod 4294967296)
  simp
theorem ok_dPlus (a : Option Addr) (n c : Nat) (f : Nat → Int) (b : Option Addr) (m d : Nat) (h : Nat → Int) (hf : dgs n f) (hn : n ≤ 1000) (hh : dgs m h) (hm : m ≤ 1000) :
    OwesR Try.prog cxR [] [(4, .inv1 (invPlus a n c f b m d h (PlusP (vn n f) (vn m h))))] 4 Try.f51 [xsI a n c .u64 f, xsI b m d .u64 h] false [.s (max n m + 1) .u64 (dg (vn n f + vn m h))] := by
  rw [vc_dPlus]
  have hfi : ∀ i, i < n → f i = dg (vn n f) i := fun i hi => dg_in hf hi
  have hfo : ∀ i, n ≤ i → dg (vn n f) i = 0 := fun i hi => dg_past hf hi
  have hhi : ∀ i, i < m → h i = dg (vn m h) i := fun i hi => dg_in hh hi
  have hho : ∀ i, m ≤ i → dg (vn m h) i = 0 := fun i hi => dg_past hh hi
  have hXr := dg_range (vn n f)
  have hYr := dg_range (vn m h)
  have hX := vn_lt hf
  have hY := vn_lt hh
  generalize vn n f = X at *
  generalize vn m h = Y at *
  have hL := maxLen_eq
  obtain ⟨M, hM⟩ : ∃ M, M = max n m := ⟨_, rfl⟩
  rw [← hM]
  have hM1 : n ≤ M ∧ m ≤ M ∧ M ≤ 1000 := by omega
  have hXM : X < 4294967296 ^ M := Nat.lt_of_lt_of_le hX (Nat.pow_le_pow_right (by decide) hM1.1)
  have hYM : Y < 4294967296 ^ M := Nat.lt_of_lt_of_le hY (Nat.pow_le_pow_right (by decide) hM1.2.1)
  intro x1 x2 x3 x5 x7 x8 x9 x10
  refine ⟨fun y => rfl, fun ⟨i, g, k, sp⟩ ⟨hP, hi, hs⟩ => ?_, id, id, id, fun h => by rw [h]; rfl, fun hor => ⟨fun h1 => ⟨?_, fun h2 => ?_, fun h2 => ?_⟩, fun h1 => ⟨fun h2 => ?_, fun h2 => ?_⟩⟩, fun h0 => ?_⟩
  · have hP : PlusP X Y i g k := hP
    have hi : i ≤ M := hi
    have hs : i + sp ≤ maxLen := hs
    have hk := hP.c1
    have xr := hXr i
    have yr := hYr i
    have big : i + 1 ≤ maxLen ∧ (i + 1) * 8 ≤ 140737488355328 := by omega
    have cap : i ≤ i + sp ∧ i + sp ≤ maxLen ∧ (i + sp) * 1 = i * 1 + sp := by omega
    refine ⟨id, id, id, fun h => by rw [h]; rfl, fun hor => ⟨fun h1 => ⟨?_, fun h2 => ⟨?_, rfl, rfl, cap, big, fun c1 hc => ?_⟩, fun h2 => ⟨rfl, rfl, cap, big, fun c1 hc => ?_⟩⟩, fun h1 => ⟨fun h2 => ⟨?_, rfl, rfl, cap, big, fun c1 hc => ?_⟩, fun h2 => ?_⟩⟩, fun h0 => ⟨rfl, rfl, cap, big, fun c1 hc => ?_⟩⟩
    · have := of_decide_eq_true h1; exact ⟨by show (0 : Int) ≤ (i : Int); omega, this⟩
    · have := of_decide_eq_true h2; exact ⟨by show (0 : Int) ≤ (i : Int); omega, this⟩
    · have h1 : (i : Int) < (n : Int) := of_decide_eq_true h1
      have h2 : (i : Int) < (m : Int) := of_decide_eq_true h2
      refine plus_round (M := M) hM hn hm hP (by omega) ?_ hc
      simp only [Int.toNat_natCast]
      rw [hfi i (by omega), hhi i (by omega), wrap64 (x := k + dg X i) (by omega), wrap64 (by omega)]
    · have h1 : (i : Int) < (n : Int) := of_decide_eq_true h1
      have h2 : ¬ (i : Int) < (m : Int) := of_decide_eq_false h2
      refine plus_round (M := M) hM hn hm hP (by omega) ?_ hc
      simp only [Int.toNat_natCast]
      rw [hfi i (by omega), hho i (by omega), wrap64 (x := k + dg X i) (by omega), Int.add_zero]
    · have := of_decide_eq_true h2; exact ⟨by show (0 : Int) ≤ (i : Int); omega, this⟩
    · have h1 : ¬ (i : Int) < (n : Int) := of_decide_eq_false h1
      have h2 : (i : Int) < (m : Int) := of_decide_eq_true h2
      refine plus_round (M := M) hM hn hm hP (by omega) ?_ hc
      simp only [Int.toNat_natCast]
      rw [hhi i (by omega), hfo i (by omega), wrap64 (x := k + dg Y i) (by omega), Int.add_zero]
    · exfalso
      simp only at h1 h2 hor
      rw [h1, h2] at hor
      cases hor
    · have hor : (decide ((i : Int) < (n : Int)) || decide ((i : Int) < (m : Int))) = false := h0
      simp only [Bool.or_eq_false_iff, decide_eq_false_iff_not] at hor
      have e : i = M := by omega
      subst e
      refine ⟨by show 0 + (i + 1) ≤ i + 1; omega, rfl, by show i + 1 ≤ i + 1 + c1; omega, ?_⟩
      obtain ⟨q1, q2, q3⟩ := hP
      rw [Nat.mod_eq_of_lt hXM, Nat.mod_eq_of_lt hYM] at q3
      intro j hj
      have key := dg_eq (X := X + Y) (dgs_app (v := k) q1 (by omega)) (by rw [vz_app, q3, Int.natCast_add]) j hj
      rw [← key]
      show (bif decide (0 + j < i) then g (0 + j) else k) = _
      rw [Nat.zero_add]
  · have g1 : (0 : Int) < (n : Int) := of_decide_eq_true h1
    exact ⟨by omega, g1⟩
  · have g1 : (0 : Int) < (n : Int) := of_decide_eq_true h1
    have g2 : (0 : Int) < (m : Int) := of_decide_eq_true h2
    refine ⟨⟨by omega, g2⟩, by omega, fun c1 hc => ?_⟩
    refine plus_first (X := X) (Y := Y) (M := M) (s := x5) (by omega) ?_ hc
    have r1 := hXr 0
    have r2 := hYr 0
    simp only [x5, x3]
    rw [hfi 0 (by omega), hhi 0 (by omega), Int.zero_add, wrap64 (x := dg X 0) (by omega), wrap64 (by omega)]
  · have g1 : (0 : Int) < (n : Int) := of_decide_eq_true h1
    have g2 : ¬ (0 : Int) < (m : Int) := of_decide_eq_false h2
    refine ⟨by omega, fun c1 hc => ?_⟩
    refine plus_first (X := X) (Y := Y) (M := M) (s := x3) (by omega) ?_ hc
    have r1 := hXr 0
    simp only [x3]
    rw [hfi 0 (by omega), hho 0 (by omega), Int.zero_add, wrap64 (x := dg X 0) (by omega), Int.add_zero]
  · have g1 : ¬ (0 : Int) < (n : Int) := of_decide_eq_false h1
    have g2 : (0 : Int) < (m : Int) := of_decide_eq_true h2
    refine ⟨⟨by omega, g2⟩, by omega, fun c1 hc => ?_⟩
    refine plus_first (X := X) (Y := Y) (M := M) (s := x9) (by omega) ?_ hc
    have r1 := hYr 0
    simp only [x9]
    rw [hhi 0 (by omega), hfo 0 (by omega), Int.zero_add, wrap64 (x := dg Y 0) (by omega)]
  · exfalso
    rw [h1, h2] at hor
    cases hor
  · refine ⟨by omega, fun c1 hc => ?_⟩
    have h0 : (decide ((0 : Int) < (n : Int)) || decide ((0 : Int) < (m : Int))) = false := h0
    simp only [Bool.or_eq_false_iff, decide_eq_false_iff_not] at h0
    have e : M = 0 := by omega
    subst e
    have eX : X = 0 := by simpa using hXM
    have eY : Y = 0 := by simpa using hYM
    subst eX eY
    refine ⟨Nat.le_refl _, rfl, by omega, fun i hi => ?_⟩
    rw [dg_out (n := 0) (by decide) (by omega)]
end Go.Proofs.Ytjpddnjgbgpegaa
end

section
namespace Go.Proofs.Ytjpddnjgbgpegaa
open Go Go.Sx Go.RowKit
theorem ok_compare (a : Option Addr) (n c : Nat) (f : Nat → Int) (b : Option Addr) (m d : Nat) (h : Nat → Int) (hf : dgs n f) (hn : n ≤ 1000) (hh : dgs m h) (hm : m ≤ 1000) :
    OwesR Try.prog cxR [] [(2, .inv (invCmp a n c f b m d h fun k => vn n f / 4294967296 ^ k = vn m h / 4294967296 ^ k))] 4 Try.f53 [xsI a n c .u64 f, xsI b m d .u64 h] false [.v (sI .i64 (cmpI (vn n f) (vn m h)))] := by
  rw [vc_compare]
  have hfi : ∀ i, i < n → f i = dg (vn n f) i := fun i hi => dg_in hf hi
  have hfo : ∀ i, n ≤ i → dg (vn n f) i = 0 := fun i hi => dg_past hf hi
  have hhi : ∀ i, i < m → h i = dg (vn m h) i := fun i hi => dg_in hh hi
  have hho : ∀ i, m ≤ i → dg (vn m h) i = 0 := fun i hi => dg_past hh hi
  have hX := vn_lt hf
  have hY := vn_lt hh
  generalize vn n f = X at *
  generalize vn m h = Y at *
  obtain ⟨M, hM⟩ : ∃ M, M = max n m := ⟨_, rfl⟩
  rw [← hM]
  have hM1 : n ≤ M ∧ m ≤ M ∧ M ≤ 1000 := by omega
  have hXM : X < 4294967296 ^ M := Nat.lt_of_lt_of_le hX (Nat.pow_le_pow_right (by decide) hM1.1)
  have hYM : Y < 4294967296 ^ M := Nat.lt_of_lt_of_le hY (Nat.pow_le_pow_right (by decide) hM1.2.1)
  have tl : ∀ k, X / 4294967296 ^ (k + 1) = Y / 4294967296 ^ (k + 1) → dg X k < dg Y k → (-1 : Int) = cmpI X Y := fun k e hd => by
    unfold cmpI; rw [if_pos (cmp_lt e hd)]
  have tg : ∀ k, X / 4294967296 ^ (k + 1) = Y / 4294967296 ^ (k + 1) → dg X k > dg Y k → (1 : Int) = cmpI X Y := fun k e hd => by
    have := cmp_lt e.symm hd
    unfold cmpI; rw [if_neg (by omega), if_pos this]
  have go : ∀ k, k + 1 ≤ M → X / 4294967296 ^ (k + 1) = Y / 4294967296 ^ (k + 1) → dg X k = dg Y k → ∃ y' : Nat, (X / 4294967296 ^ y' = Y / 4294967296 ^ y' ∧ y' ≤ M) ∧ (True ∧ True ∧ True ∧ ∀ i, i < n → True) ∧ (True ∧ True ∧ True ∧ ∀ i, i < m → True) ∧ IntKind.i64.wrap (((k + 1 : Nat) : Int) - 1 - 1) = (y' : Int) - 1 ∧ y' < k + 1 := fun k hk e hd =>
    ⟨k, ⟨cmp_eq e hd, by omega⟩, ⟨trivial, trivial, trivial, fun _ _ => trivial⟩, ⟨trivial, trivial, trivial, fun _ _ => trivial⟩, by rw [wrapi (by omega)]; omega, by omega⟩
  refine ⟨fun y => rfl, M, ⟨?_, Nat.le_refl _⟩, ⟨rfl, rfl, rfl, fun _ _ => rfl⟩, ⟨rfl, rfl, rfl, fun _ _ => rfl⟩, ?_, fun y ⟨e, hy⟩ => ⟨fun h0 => ?_, fun h0 => ?_⟩⟩
  · rw [Nat.div_eq_of_lt hXM, Nat.div_eq_of_lt hYM]
  · rw [show (if (m : Int) > (n : Int) then (m : Int) else (n : Int)) = (M : Int) by split <;> omega]
    exact wrapi (by omega)
  · have h0 : (y : Int) - 1 ≥ 0 := of_decide_eq_true h0
    obtain ⟨k, rfl⟩ : ∃ k, y = k + 1 := ⟨y - 1, by omega⟩
    have ek : (((k + 1 : Nat) : Int) - 1).toNat = k := by omega
    have e1 : X / 4294967296 ^ (k + 1) = Y / 4294967296 ^ (k + 1) := e
    simp only [ek]
    refine ⟨fun h1 => ⟨⟨h0, of_decide_eq_true h1⟩, fun h2 => ⟨⟨h0, of_decide_eq_true h2⟩, fun h3 => ?_, fun h3 => ⟨fun h4 => ?_, fun h4 => ?_⟩⟩, fun h2 => ⟨fun h3 => ?_, fun h3 => ⟨fun h4 => ?_, fun h4 => ?_⟩⟩⟩, fun h1 => ⟨fun h2 => ⟨⟨h0, of_decide_eq_true h2⟩, fun h3 => ?_, fun h3 => ⟨fun h4 => ?_, fun h4 => ?_⟩⟩, fun h2 => ?_⟩⟩
    · have g1 := of_decide_eq_true h1
      have g2 := of_decide_eq_true h2
      have g3 := of_decide_eq_true h3
      exact tl k e1 (by rw [← hfi k (by omega), ← hhi k (by omega)]; exact g3)
    · have g1 := of_decide_eq_true h1
      have g2 := of_decide_eq_true h2
      have g3 := of_decide_eq_true h4
      exact tg k e1 (by rw [← hfi k (by omega), ← hhi k (by omega)]; exact g3)
    · have g1 := of_decide_eq_true h1
      have g2 := of_decide_eq_true h2
      have g3 := of_decide_eq_false h3
      have g4 := of_decide_eq_false h4
      exact go k hy e1 (by rw [← hfi k (by omega), ← hhi k (by omega)]; omega)
    · have g1 := of_decide_eq_true h1
      have g2 := of_decide_eq_false h2
      have g3 := of_decide_eq_true h3
      exact tl k e1 (by rw [← hfi k (by omega), hho k (by omega)]; exact g3)
    · have g1 := of_decide_eq_true h1
      have g2 := of_decide_eq_false h2
      have g3 := of_decide_eq_true h4
      exact tg k e1 (by rw [← hfi k (by omega), hho k (by omega)]; exact g3)
    · have g1 := of_decide_eq_true h1
      have g2 := of_decide_eq_false h2
      have g3 := of_decide_eq_false h3
      have g4 := of_decide_eq_false h4
      exact go k hy e1 (by rw [← hfi k (by omega), hho k (by omega)]; omega)
    · have g1 := of_decide_eq_false h1
      have g2 := of_decide_eq_true h2
      have g3 := of_decide_eq_true h3
      exact tl k e1 (by rw [hfo k (by omega), ← hhi k (by omega)]; exact g3)
    · have g1 := of_decide_eq_false h1
      have g2 := of_decide_eq_true h2
      have g3 := of_decide_eq_true h4
      exact tg k e1 (by rw [hfo k (by omega), ← hhi k (by omega)]; exact g3)
    · have g1 := of_decide_eq_false h1
      have g2 := of_decide_eq_true h2
      have g3 := of_decide_eq_false h3
      have g4 := of_decide_eq_false h4
      exact go k hy e1 (by rw [hfo k (by omega), ← hhi k (by omega)]; omega)
    · have g1 := of_decide_eq_false h1
      have g2 := of_decide_eq_false h2
      exact go k hy e1 (by rw [hfo k (by omega), hho k (by omega)])
  · have h0 : ¬ (y : Int) - 1 ≥ 0 := of_decide_eq_false h0
    have : y = 0 := by omega
    subst this
    have e : X / 4294967296 ^ 0 = Y / 4294967296 ^ 0 := e
    rw [Nat.pow_zero, Nat.div_one, Nat.div_one] at e
    subst e
    unfold cmpI
    rw [if_neg (Nat.lt_irrefl _), if_neg (Nat.lt_irrefl _)]
theorem ok_shorn (a : Option Addr) (n c : Nat) (f : Nat → Int) (hf : dgs n f) (hn : n ≤ 1000) :
    OwesR Try.prog cxR [] [(1, .inv (invShorn f fun k => k ≤ n ∧ vn n f < 4294967296 ^ k))] 4 Try.f50 [xsI a n c .u64 f] true (shornR n f) := by
  unfold shornR
  rw [vc_shorn]
  have hfi : ∀ i, i < n → f i = dg (vn n f) i := fun i hi => dg_in hf hi
  have hX := vn_lt hf
  generalize vn n f = X at *
  refine ⟨fun y => rfl, (a, n, c), ⟨Nat.le_refl _, hX⟩, ⟨rfl, rfl, rfl, fun _ _ => rfl⟩, fun ⟨a', k, c'⟩ ⟨hk, hXk⟩ => ?_⟩
  have hk : k ≤ n := hk
  have hXk : X < 4294967296 ^ k := hXk
  have e1 : ∀ _ : 0 < k, IntKind.i64.wrap ((k : Int) - 1) = ((k - 1 : Nat) : Int) := fun h => by rw [wrapi (by omega)]; omega
  refine ⟨id, id, id, id, fun h => ?_, id, id, id, fun h => ?_, fun h => ?_⟩
  · have h : (k : Int) > 0 := of_decide_eq_true h
    show (0 : Int) ≤ IntKind.i64.wrap ((k : Int) - 1) ∧ IntKind.i64.wrap ((k : Int) - 1) < (k : Int)
    rw [e1 (by omega)]
    omega
  · have h : (decide ((k : Int) > 0) && f (IntKind.i64.wrap ((k : Int) - 1)).toNat == 0) = true := h
    rw [Bool.and_eq_true] at h
    have h1 : (k : Int) > 0 := of_decide_eq_true h.1
    have h2 := eq_of_beq h.2
    rw [e1 (by omega), Int.toNat_natCast] at h2
    show (0 ≤ IntKind.i64.wrap ((k : Int) - 1) ∧ IntKind.i64.wrap ((k : Int) - 1) ≤ (k : Int)) ∧ ∃ y' : Option Addr × Nat × Nat, _ ∧ (a' = y'.1 ∧ (IntKind.i64.wrap ((k : Int) - 1)).toNat = y'.2.1 ∧ c' = y'.2.2 ∧ ∀ i, i < (IntKind.i64.wrap ((k : Int) - 1)).toNat → f i = f i) ∧ y'.2.1 < k
    rw [e1 (by omega), Int.toNat_natCast]
    refine ⟨by omega, (a', k - 1, c'), ⟨by show k - 1 ≤ n; omega, ?_⟩, ⟨rfl, rfl, rfl, fun _ _ => rfl⟩, by show k - 1 < k; omega⟩
    show X < 4294967296 ^ (k - 1)
    rw [hfi (k - 1) (by omega)] at h2
    obtain ⟨j, rfl⟩ : ∃ j, k = j + 1 := ⟨k - 1, by omega⟩
    have hj : j + 1 - 1 = j := by omega
    rw [hj] at h2 ⊢
    have hd := div_succ X j
    rw [Nat.div_eq_of_lt hXk, h2] at hd
    have : X / 4294967296 ^ j = 0 := by omega
    rcases Nat.lt_or_ge X (4294967296 ^ j) with hlt | hge
    · exact hlt
    · have := Nat.div_pos hge (pwN_pos j)
      omega
  · have h : (decide ((k : Int) > 0) && f (IntKind.i64.wrap ((k : Int) - 1)).toNat == 0) = false := h
    have hl : k = lenDg X := by
      refine lenDg_eq hXk ?_
      rcases Nat.eq_zero_or_pos k with h0 | h0
      · exact .inl h0
      · right
        rw [e1 h0, Int.toNat_natCast, hfi (k - 1) (by omega), decide_eq_true (show (k : Int) > 0 by omega), Bool.true_and] at h
        exact ne_of_beq_false h
    refine ⟨hl, fun i hi => hfi i (by omega)⟩
theorem ok_dLess (a : Option Addr) (n c : Nat) (f : Nat → Int) (b : Option Addr) (m d : Nat) (h : Nat → Int) (hf : dgs n f) (hn : n ≤ 1000) (hh : dgs m h) (hm : m ≤ 1000) (hle : vn m h ≤ vn n f) :
    OwesR Try.prog cxR [] [(4, .inv (invLess b m d h n (LessP (vn n f) (vn m h) n)))] 4 Try.f54 [xsI a n c .u64 f, xsI b m d .u64 h] false [.s n .u64 (dg (vn n f - vn m h))] := by
  rw [vc_dLess]
  have hfi : ∀ i, i < n → f i = dg (vn n f) i := fun i hi => dg_in hf hi
  have hhi : ∀ i, i < m → h i = dg (vn m h) i := fun i hi => dg_in hh hi
  have hho : ∀ i, m ≤ i → dg (vn m h) i = 0 := fun i hi => dg_past hh hi
  have hX := vn_lt hf
  have hXr := dg_range (vn n f)
  have hYr := dg_range (vn m h)
  generalize vn n f = X at *
  generalize vn m h = Y at *
  have hL := maxLen_eq
  intro x1
  have ex1 : x1 = n := Nat.zero_add n
  have step : ∀ {i sp : Nat} {g : Nat → Int} {k : Int} (t k' : Int) (g' : Nat → Int), LessP X Y n i g k → i < n → t = k + dg Y i → k' = (if dg X i < t then 1 else 0) → (∀ j, j < n → g' j = if j = i then dg X i - t + k' * 4294967296 else g j) → ∃ y' : Nat × (Nat → Int) × Int × Nat, (LessP X Y n y'.1 y'.2.1 y'.2.2.1 ∧ y'.1 ≤ n) ∧ (b = b ∧ m = m ∧ d = d ∧ ∀ i, i < m → h i = h i) ∧ (0 = 0 ∧ 1 = 1 ∧ 0 = 0 ∧ n = n ∧ n + sp = n + y'.2.2.2) ∧ k' = y'.2.2.1 ∧ (n : Int) = (n : Int) ∧ IntKind.i64.wrap ((i : Int) + 1) = (y'.1 : Int) ∧ n = n ∧ sp = y'.2.2.2 ∧ (∀ j, j < n → g' j = y'.2.1 j) ∧ n - y'.1 < n - i := by
    intro i sp g k t k' g' hP hi ht hk hg
    refine ⟨(i + 1, g', k', sp), ⟨hP.step hi (v := dg X i - t + k' * 4294967296) (by rw [ht]) (by rw [hk, ht]) hg, hi⟩, ⟨rfl, rfl, rfl, fun _ _ => rfl⟩, ⟨rfl, rfl, rfl, rfl, rfl⟩, rfl, rfl, ?_, rfl, rfl, fun _ _ => rfl, by show n - (i + 1) < n - i; omega⟩
    rw [wrapi (by omega)]
    rfl
  clear_value x1
  subst ex1
  refine ⟨⟨Nat.le_refl _, by omega, rfl⟩, ⟨by omega, by omega⟩, fun c1 hc => ⟨fun y => rfl, (0, f, 0, c1), ⟨⟨hf, .inl rfl, fun j _ hj => hfi j hj, by simp [vz, Nat.mod_one]⟩, Nat.zero_le _⟩, ⟨rfl, rfl, rfl, fun _ _ => rfl⟩, ⟨rfl, rfl, rfl, rfl, rfl⟩, rfl, rfl, rfl, rfl, Nat.mul_one _, fun _ _ => rfl, fun ⟨i, g, k, sp⟩ ⟨hP, hi⟩ => ⟨fun h1 => ⟨fun h2 => ?_, fun h2 => ?_⟩, fun h1 => ?_⟩⟩⟩
  · have hP : LessP X Y x1 i g k := hP
    have h1 : (i : Int) < (x1 : Int) := of_decide_eq_true h1
    have h2 : (i : Int) < (m : Int) := of_decide_eq_true h2
    have xr := hXr i
    have yr := hYr i
    have hk := hP.c1
    have hgi := hP.rest i (Nat.le_refl _) (by omega)
    have A : (0 : Int) ≤ (i : Int) ∧ (i : Int) < (x1 : Int) := ⟨by omega, h1⟩
    have B : 0 + ((i : Int)).toNat < x1 := by omega
    have E1 : 0 + ((i : Int)).toNat = i := by omega
    have E2 : IntKind.u64.wrap (k + h ((i : Int)).toNat) = k + dg Y i := by rw [Int.toNat_natCast, hhi i (by omega), wrap64 (by omega)]
    refine ⟨⟨by show (0 : Int) ≤ (i : Int); omega, h2⟩, A, B, fun h3 => ⟨A, B, A, B, A, B, A, B, ?_⟩, fun h3 => ⟨A, B, A, B, ?_⟩⟩
    · have h3 := of_decide_eq_true h3
      simp only [E1, E2] at h3
      rw [hgi] at h3
      refine step (k + dg Y i) 1 _ hP (by omega) rfl (by rw [if_pos h3]) (fun j hj => ?_)
      simp only [E1, E2]
      by_cases e : j = i
      · subst e
        simp only [decide_true, cond_true, if_true]
        rw [hgi, wrap64 (x := dg X j + 4294967296) (by omega), wrap64 (by omega)]
        omega
      · simp only [e, decide_false, cond_false, if_false]
    · have h3 := of_decide_eq_false h3
      simp only [E1, E2] at h3
      rw [hgi] at h3
      refine step (k + dg Y i) 0 _ hP (by omega) rfl (by rw [if_neg h3]) (fun j hj => ?_)
      simp only [E1, E2]
      by_cases e : j = i
      · subst e
        simp only [decide_true, cond_true, if_true]
        rw [hgi, wrap64 (by omega)]
        omega
      · simp only [e, decide_false, cond_false, if_false]
  · have hP : LessP X Y x1 i g k := hP
    have h1 : (i : Int) < (x1 : Int) := of_decide_eq_true h1
    have h2 : ¬ (i : Int) < (m : Int) := of_decide_eq_false h2
    have xr := hXr i
    have hY0 := hho i (by omega)
    have hk := hP.c1
    have hgi := hP.rest i (Nat.le_refl _) (by omega)
    have A : (0 : Int) ≤ (i : Int) ∧ (i : Int) < (x1 : Int) := ⟨by omega, h1⟩
    have B : 0 + ((i : Int)).toNat < x1 := by omega
    have E1 : 0 + ((i : Int)).toNat = i := by omega
    refine ⟨A, B, fun h3 => ⟨A, B, A, B, A, B, A, B, ?_⟩, fun h3 => ⟨A, B, A, B, ?_⟩⟩
    · have h3 := of_decide_eq_true h3
      simp only [E1] at h3
      rw [hgi] at h3
      refine step k 1 _ hP (by omega) (by rw [hY0, Int.add_zero]) (by rw [if_pos h3]) (fun j hj => ?_)
      simp only [E1]
      by_cases e : j = i
      · subst e
        simp only [decide_true, cond_true, if_true]
        rw [hgi, wrap64 (x := dg X j + 4294967296) (by omega), wrap64 (by omega)]
        omega
      · simp only [e, decide_false, cond_false, if_false]
    · have h3 := of_decide_eq_false h3
      simp only [E1] at h3
      rw [hgi] at h3
      refine step k 0 _ hP (by omega) (by rw [hY0, Int.add_zero]) (by rw [if_neg h3]) (fun j hj => ?_)
      simp only [E1]
      by_cases e : j = i
      · subst e
        simp only [decide_true, cond_true, if_true]
        rw [hgi, wrap64 (by omega)]
        omega
      · simp only [e, decide_false, cond_false, if_false]
  · have hP : LessP X Y x1 i g k := hP
    have h1 : ¬ (i : Int) < (x1 : Int) := of_decide_eq_false h1
    have hi : i ≤ x1 := hi
    have : i = x1 := by omega
    subst this
    refine ⟨Nat.le_refl _, rfl, Nat.le_add_right _ _, fun j hj => ?_⟩
    rw [Nat.zero_add]
    exact hP.done hX hle j hj
end Go.Proofs.Ytjpddnjgbgpegaa
end

section
namespace Go.Proofs.Ytjpddnjgbgpegaa
open Go Go.Sx Go.RowKit
set_option maxRecDepth 100000
def invWide (a : Option Addr) (n c : Nat) (f : Nat → Int) (V : Nat → Nat) (o : Nat → Bool) : Inv where
  X := Nat
  tm y := slotsAt 36 [(2, .one (.sc (.ptr 0 0))), (4, .one (.sc (.ptr 1 0))), (5, .one (sB (o y))), (8, .one (xsI a n c .u64 f)), (9, .one (sI .i64 (n : Int))), (10, .one (sI .i64 (y : Int)))]
  ob y := [.cells 24 (List.replicate 4 (.c (.num .u64 0))) 0, .cells 24 [.u (V y)] 0]
  holds y := y ≤ n
  less y := n - y
def wideR (n : Nat) (f : Nat → Int) : List RS := [.v (sU (vn n f % M256)), .v (sB (decide (M256 ≤ vn n f)))]
def cutR (n : Nat) (f : Nat → Int) : List RS := [.v (sU (vn n f % M256))]
def slWide : List (Nat × SSpec) := [(28, specD false dgsC wideR)]
theorem vc_wide (a : Option Addr) (n c : Nat) (f : Nat → Int) (V : Nat → Nat) (o : Nat → Bool) (r : Nat) (z : Bool) :
    OwesR Try.prog cxR [] [(4, .inv (invWide a n c f V o))] 4 Try.f28 [xsI a n c .u64 f] false [.v (sU r), .v (sB z)] =
    ((∀ (y : Nat), closedB (slotsAt 36 [(2, SV.one (SA.sc (SC.ptr 0 0))), (4, SV.one (SA.sc (SC.ptr 1 0))), (5, SV.one (sB (o y))), (8, SV.one (xsI a n c Go.IntKind.u64 f)), (9, SV.one (sI Go.IntKind.i64 (↑n : Int))), (10, SV.one (sI Go.IntKind.i64 (↑y : Int)))]) [SO.cells (24 : Go.TypeId) (List.replicate 4 (SK.c (SC.num Go.IntKind.u64 (0 : Int)))) 0, SO.cells (24 : Go.TypeId) [SK.u (V y)] 0] = Bool.true) ∧ ∃ (y : Nat), y ≤ n ∧ Bool.false = o y ∧ (a = a ∧ n = n ∧ c = c ∧ ∀ (i : Nat), i < n → f i = f i) ∧ (↑n : Int) = (↑n : Int) ∧ (0 : Int) = (↑y : Int) ∧ 0 = 0 ∧ (0 = V y % M256 ∧ True) ∧ 0 = 0 ∧ ∀ (y : Nat), y ≤ n → (Decidable.decide ((↑y : Int) < (↑n : Int)) = Bool.true → ((0 : Int) ≤ (↑y : Int) ∧ (↑y : Int) < (↑n : Int)) ∧ (Decidable.decide ((↑y : Int) ≥ (8 : Int)) = Bool.true → ((!o y) = Bool.true → (!o y) = Bool.true) ∧ (o y = Bool.false → (!o y) = Bool.true) ∧ ∃ (y' : Nat), y' ≤ n ∧ (o y || f (↑y : Int).toNat != (0 : Int)) = o y' ∧ (a = a ∧ n = n ∧ c = c ∧ ∀ (i : Nat), i < n → f i = f i) ∧ (↑n : Int) = (↑n : Int) ∧ Go.IntKind.i64.wrap ((↑y : Int) + (1 : Int)) = (↑y' : Int) ∧ 0 = 0 ∧ V y % M256 = V y' % M256 ∧ 0 = 0 ∧ n - y' < n - y) ∧ (Decidable.decide ((↑y : Int) ≥ (8 : Int)) = Bool.false → ((0 : Int) ≤ Go.IntKind.i64.wrap ((↑y : Int).tdiv (2 : Int)) ∧ Go.IntKind.i64.wrap ((↑y : Int).tdiv (2 : Int)) < (4 : Int)) ∧ ((0 : Int) ≤ Go.IntKind.i64.wrap ((↑y : Int).tdiv (2 : Int)) ∧ Go.IntKind.i64.wrap ((↑y : Int).tdiv (2 : Int)) < (4 : Int)) ∧ (0 : Int) ≤ Go.IntKind.i64.wrap ((32 : Int) * (↑y : Int).tmod (2 : Int)) ∧ ((0 : Int) ≤ Go.IntKind.i64.wrap ((↑y : Int).tdiv (2 : Int)) ∧ Go.IntKind.i64.wrap ((↑y : Int).tdiv (2 : Int)) < (4 : Int)) ∧ ((0 : Int) ≤ Go.IntKind.i64.wrap ((↑y : Int).tdiv (2 : Int)) ∧ Go.IntKind.i64.wrap ((↑y : Int).tdiv (2 : Int)) < (4 : Int)) ∧ ∃ (y' : Nat), y' ≤ n ∧ o y = o y' ∧ (a = a ∧ n = n ∧ c = c ∧ ∀ (i : Nat), i < n → f i = f i) ∧ (↑n : Int) = (↑n : Int) ∧ Go.IntKind.i64.wrap ((↑y : Int) + (1 : Int)) = (↑y' : Int) ∧ 0 = 0 ∧ ((((0 : Int) ≤ if 0 = (Go.IntKind.i64.wrap ((↑y : Int).tdiv (2 : Int))).toNat then Go.IntKind.u64.wrap (↑(BitVec.ofInt 64 (limb (V y) (Go.IntKind.i64.wrap ((↑y : Int).tdiv (2 : Int))).toNat) ||| BitVec.ofInt 64 (Go.IntKind.u64.wrap (f (↑y : Int).toNat * (2 : Int) ^ Min.min (Go.IntKind.i64.wrap ((32 : Int) * (↑y : Int).tmod (2 : Int))).toNat 64))).toNat : Int) else limb (V y) 0) ∧ (if 0 = (Go.IntKind.i64.wrap ((↑y : Int).tdiv (2 : Int))).toNat then Go.IntKind.u64.wrap (↑(BitVec.ofInt 64 (limb (V y) (Go.IntKind.i64.wrap ((↑y : Int).tdiv (2 : Int))).toNat) ||| BitVec.ofInt 64 (Go.IntKind.u64.wrap (f (↑y : Int).toNat * (2 : Int) ^ Min.min (Go.IntKind.i64.wrap ((32 : Int) * (↑y : Int).tmod (2 : Int))).toNat 64))).toNat : Int) else limb (V y) 0) < (18446744073709551616 : Int)) ∧ (((0 : Int) ≤ if 1 = (Go.IntKind.i64.wrap ((↑y : Int).tdiv (2 : Int))).toNat then Go.IntKind.u64.wrap (↑(BitVec.ofInt 64 (limb (V y) (Go.IntKind.i64.wrap ((↑y : Int).tdiv (2 : Int))).toNat) ||| BitVec.ofInt 64 (Go.IntKind.u64.wrap (f (↑y : Int).toNat * (2 : Int) ^ Min.min (Go.IntKind.i64.wrap ((32 : Int) * (↑y : Int).tmod (2 : Int))).toNat 64))).toNat : Int) else limb (V y) 1) ∧ (if 1 = (Go.IntKind.i64.wrap ((↑y : Int).tdiv (2 : Int))).toNat then Go.IntKind.u64.wrap (↑(BitVec.ofInt 64 (limb (V y) (Go.IntKind.i64.wrap ((↑y : Int).tdiv (2 : Int))).toNat) ||| BitVec.ofInt 64 (Go.IntKind.u64.wrap (f (↑y : Int).toNat * (2 : Int) ^ Min.min (Go.IntKind.i64.wrap ((32 : Int) * (↑y : Int).tmod (2 : Int))).toNat 64))).toNat : Int) else limb (V y) 1) < (18446744073709551616 : Int)) ∧ (((0 : Int) ≤ if 2 = (Go.IntKind.i64.wrap ((↑y : Int).tdiv (2 : Int))).toNat then Go.IntKind.u64.wrap (↑(BitVec.ofInt 64 (limb (V y) (Go.IntKind.i64.wrap ((↑y : Int).tdiv (2 : Int))).toNat) ||| BitVec.ofInt 64 (Go.IntKind.u64.wrap (f (↑y : Int).toNat * (2 : Int) ^ Min.min (Go.IntKind.i64.wrap ((32 : Int) * (↑y : Int).tmod (2 : Int))).toNat 64))).toNat : Int) else limb (V y) 2) ∧ (if 2 = (Go.IntKind.i64.wrap ((↑y : Int).tdiv (2 : Int))).toNat then Go.IntKind.u64.wrap (↑(BitVec.ofInt 64 (limb (V y) (Go.IntKind.i64.wrap ((↑y : Int).tdiv (2 : Int))).toNat) ||| BitVec.ofInt 64 (Go.IntKind.u64.wrap (f (↑y : Int).toNat * (2 : Int) ^ Min.min (Go.IntKind.i64.wrap ((32 : Int) * (↑y : Int).tmod (2 : Int))).toNat 64))).toNat : Int) else limb (V y) 2) < (18446744073709551616 : Int)) ∧ (((0 : Int) ≤ if 3 = (Go.IntKind.i64.wrap ((↑y : Int).tdiv (2 : Int))).toNat then Go.IntKind.u64.wrap (↑(BitVec.ofInt 64 (limb (V y) (Go.IntKind.i64.wrap ((↑y : Int).tdiv (2 : Int))).toNat) ||| BitVec.ofInt 64 (Go.IntKind.u64.wrap (f (↑y : Int).toNat * (2 : Int) ^ Min.min (Go.IntKind.i64.wrap ((32 : Int) * (↑y : Int).tmod (2 : Int))).toNat 64))).toNat : Int) else limb (V y) 3) ∧ (if 3 = (Go.IntKind.i64.wrap ((↑y : Int).tdiv (2 : Int))).toNat then Go.IntKind.u64.wrap (↑(BitVec.ofInt 64 (limb (V y) (Go.IntKind.i64.wrap ((↑y : Int).tdiv (2 : Int))).toNat) ||| BitVec.ofInt 64 (Go.IntKind.u64.wrap (f (↑y : Int).toNat * (2 : Int) ^ Min.min (Go.IntKind.i64.wrap ((32 : Int) * (↑y : Int).tmod (2 : Int))).toNat 64))).toNat : Int) else limb (V y) 3) < (18446744073709551616 : Int)) ∧ join (if 0 = (Go.IntKind.i64.wrap ((↑y : Int).tdiv (2 : Int))).toNat then Go.IntKind.u64.wrap (↑(BitVec.ofInt 64 (limb (V y) (Go.IntKind.i64.wrap ((↑y : Int).tdiv (2 : Int))).toNat) ||| BitVec.ofInt 64 (Go.IntKind.u64.wrap (f (↑y : Int).toNat * (2 : Int) ^ Min.min (Go.IntKind.i64.wrap ((32 : Int) * (↑y : Int).tmod (2 : Int))).toNat 64))).toNat : Int) else limb (V y) 0) (if 1 = (Go.IntKind.i64.wrap ((↑y : Int).tdiv (2 : Int))).toNat then Go.IntKind.u64.wrap (↑(BitVec.ofInt 64 (limb (V y) (Go.IntKind.i64.wrap ((↑y : Int).tdiv (2 : Int))).toNat) ||| BitVec.ofInt 64 (Go.IntKind.u64.wrap (f (↑y : Int).toNat * (2 : Int) ^ Min.min (Go.IntKind.i64.wrap ((32 : Int) * (↑y : Int).tmod (2 : Int))).toNat 64))).toNat : Int) else limb (V y) 1) (if 2 = (Go.IntKind.i64.wrap ((↑y : Int).tdiv (2 : Int))).toNat then Go.IntKind.u64.wrap (↑(BitVec.ofInt 64 (limb (V y) (Go.IntKind.i64.wrap ((↑y : Int).tdiv (2 : Int))).toNat) ||| BitVec.ofInt 64 (Go.IntKind.u64.wrap (f (↑y : Int).toNat * (2 : Int) ^ Min.min (Go.IntKind.i64.wrap ((32 : Int) * (↑y : Int).tmod (2 : Int))).toNat 64))).toNat : Int) else limb (V y) 2) (if 3 = (Go.IntKind.i64.wrap ((↑y : Int).tdiv (2 : Int))).toNat then Go.IntKind.u64.wrap (↑(BitVec.ofInt 64 (limb (V y) (Go.IntKind.i64.wrap ((↑y : Int).tdiv (2 : Int))).toNat) ||| BitVec.ofInt 64 (Go.IntKind.u64.wrap (f (↑y : Int).toNat * (2 : Int) ^ Min.min (Go.IntKind.i64.wrap ((32 : Int) * (↑y : Int).tmod (2 : Int))).toNat 64))).toNat : Int) else limb (V y) 3) % M256 = V y' % M256 ∧ True) ∧ 0 = 0 ∧ n - y' < n - y)) ∧ (Decidable.decide ((↑y : Int) < (↑n : Int)) = Bool.false → (V y % M256 = r % M256 ∧ True) ∧ o y = z)) := by kernel_rfl
theorem vc_cut (a : Option Addr) (n c : Nat) (f : Nat → Int) :
    OwesR Try.prog cxR slWide [] 4 Try.f41 [xsI a n c .u64 f] false (cutR n f) =
    ((∀ (_ : Nat), True) ∧ (dgs n fun (i : Nat) => intsC (SC.val (Go.Value.int Go.IntKind.u64 (f i)))) ∧ n ≤ 1000 ∧ (vn n fun (i : Nat) => f i) % M256 % M256 = vn n f % M256 % M256 ∧ True) := by kernel_rfl
end Go.Proofs.Ytjpddnjgbgpegaa
end

section
namespace Go.Proofs.Ytjpddnjgbgpegaa
open Go Go.Sx Go.RowKit
theorem ok_dTimes (a : Option Addr) (n c : Nat) (f : Nat → Int) (b : Option Addr) (m d : Nat) (h : Nat → Int) (hf : dgs n f) (hn : n ≤ 1000) (hh : dgs m h) (hm : m ≤ 1000) :
    OwesR Try.prog cxR [] [(3, .inv (invTi a n c f b m d h (TimesP (vn n f) (vn m h) n m))), (7, .invR (invTj a n c f b m d h (TimesQ (vn n f) (vn m h) n m)) fun y z => z.1 = y.1)] 4 Try.f29 [xsI a n c .u64 f, xsI b m d .u64 h] false [.s (n + m) .u64 (dg (vn n f * vn m h))] := by
  rw [vc_dTimes]
  have hfi : ∀ i, i < n → f i = dg (vn n f) i := fun i hi => dg_in hf hi
  have hhi : ∀ i, i < m → h i = dg (vn m h) i := fun i hi => dg_in hh hi
  have hX := vn_lt hf
  have hY := vn_lt hh
  have hXr := dg_range (vn n f)
  have hYr := dg_range (vn m h)
  generalize vn n f = X at *
  generalize vn m h = Y at *
  have e1 : IntKind.i64.wrap ((n : Int) + (m : Int)) = ((n + m : Nat) : Int) := by rw [wrapi (by omega)]; omega
  intro x1 x2 x3 x4 x5
  have E1 : x1 = ((n + m : Nat) : Int) := e1
  have E3 : x3 = n + m := by simp only [x3]; rw [E1, Int.toNat_natCast]
  have E4 : x4 = 0 := by simp only [x4]; rw [Nat.sub_self, Nat.zero_mul]
  have E5 : x5 = ((n + m : Nat) : Int) := rfl
  have E2 : x2 = n + m := rfl
  clear_value x1 x2 x3 x4 x5
  subst E1 E3 E4 E5 E2
  have rAB : (a = a ∧ n = n ∧ c = c ∧ ∀ i, i < n → f i = f i) := ⟨rfl, rfl, rfl, fun _ _ => rfl⟩
  have rCD : (b = b ∧ m = m ∧ d = d ∧ ∀ i, i < m → h i = h i) := ⟨rfl, rfl, rfl, fun _ _ => rfl⟩
  refine ⟨by omega, fun y => rfl, (0, fun _ => 0), ⟨⟨⟨fun i _ => ⟨Int.le_refl _, show (0 : Int) < 4294967296 by decide⟩⟩, fun _ _ _ => rfl, ?_⟩, Nat.zero_le _⟩, rAB, rCD, ⟨rfl, rfl, rfl, rfl, rfl⟩, rAB, rfl, rfl, rfl, rfl, fun _ _ => rfl, fun ⟨i, o⟩ ⟨hP, hi⟩ => ⟨fun h1 => ⟨⟨?_, of_decide_eq_true h1⟩, fun y => rfl, (i, 0, o, 0), ⟨⟨hP.enter, ?_, Nat.zero_le _⟩, rfl⟩, rAB, rCD, ⟨rfl, rfl, rfl, rfl, rfl⟩, rfl, rfl, rfl, rAB, rfl, rfl, rCD, rfl, rfl, rfl, rfl, fun _ _ => rfl, fun ⟨i', j, o', k⟩ ⟨hQ, hi', hj⟩ hii => ⟨fun h2 => ?_, fun h2 => ?_⟩⟩, fun h1 => ?_⟩⟩
  · rw [Nat.pow_zero, Nat.mod_one]
    have : ∀ l, vz (fun _ => 0) l = 0 := fun l => by
      induction l with
      | zero => rfl
      | succ l ih => simp only [vz, ih]; omega
    rw [this]; omega
  · show (0 : Int) ≤ (i : Int); omega
  · have h1 : (i : Int) < (n : Int) := of_decide_eq_true h1
    show i < n; omega
  · have hQ : TimesQ X Y n m i' j o' k := hQ
    have hi' : i' < n := hi'
    have h2 : (j : Int) < (m : Int) := of_decide_eq_true h2
    have e2 : IntKind.i64.wrap ((i' : Int) + (j : Int)) = ((i' + j : Nat) : Int) := by rw [wrapi (by omega)]; omega
    have A : 0 ≤ IntKind.i64.wrap ((i' : Int) + (j : Int)) ∧ IntKind.i64.wrap ((i' : Int) + (j : Int)) < ((n + m : Nat) : Int) := by rw [e2]; omega
    have B : 0 + (IntKind.i64.wrap ((i' : Int) + (j : Int))).toNat < n + m := by rw [e2]; omega
    have E0 : 0 + (IntKind.i64.wrap ((i' : Int) + (j : Int))).toNat = i' + j := by rw [e2]; omega
    have xr := hXr i'
    have yr := hYr j
    have hor := hQ.ds.at' (i' + j) (by omega)
    have hk := hQ.c1
    have hp : 0 ≤ dg X i' * dg Y j ∧ dg X i' * dg Y j ≤ 4294967295 * 4294967295 := ⟨Int.mul_nonneg xr.1 yr.1, Int.mul_le_mul (by omega) (by omega) yr.1 (by omega)⟩
    have S : IntKind.u64.wrap (IntKind.u64.wrap (IntKind.u64.wrap (f i' * h ((j : Int)).toNat) + o' (0 + (IntKind.i64.wrap ((i' : Int) + (j : Int))).toNat)) + k) = dg X i' * dg Y j + o' (i' + j) + k := by
      rw [E0, Int.toNat_natCast, hfi i' hi', hhi j (by omega), wrap64 (x := dg X i' * dg Y j) (by omega), wrap64 (x := dg X i' * dg Y j + o' (i' + j)) (by omega), wrap64 (by omega)]
    refine ⟨⟨by show (0 : Int) ≤ (j : Int); omega, h2⟩, A, B, A, B, (i', j + 1, _, _), ⟨⟨?_, hi', by show j + 1 ≤ m; omega⟩, hii⟩, rAB, rCD, ⟨rfl, rfl, rfl, rfl, rfl⟩, rfl, rfl, rfl, rAB, rfl, rfl, rCD, rfl, ?_, rfl, rfl, fun _ _ => rfl, by show m - (j + 1) < m - j; omega⟩
    · have T := hQ.step (s := dg X i' * dg Y j + o' (i' + j) + k) (o' := fun l => if l = i' + j then (dg X i' * dg Y j + o' (i' + j) + k) % 4294967296 else o' l) hi' (by omega) rfl (fun _ _ => rfl)
      have e3 : IntKind.u64.wrap ((dg X i' * dg Y j + o' (i' + j) + k).tdiv 4294967296) = (dg X i' * dg Y j + o' (i' + j) + k) / 4294967296 := by
        rw [Int.tdiv_eq_ediv_of_nonneg (by omega), wrap64 (by omega)]
      have e4 : (dg X i' * dg Y j + o' (i' + j) + k).tmod 4294967296 = (dg X i' * dg Y j + o' (i' + j) + k) % 4294967296 := Int.tmod_eq_emod_of_nonneg (by omega)
      show TimesQ X Y n m i' (j + 1) (fun l => bif decide (l = 0 + (IntKind.i64.wrap ((i' : Int) + (j : Int))).toNat) then (IntKind.u64.wrap (IntKind.u64.wrap (IntKind.u64.wrap (f i' * h ((j : Int)).toNat) + o' (0 + (IntKind.i64.wrap ((i' : Int) + (j : Int))).toNat)) + k)).tmod 4294967296 else o' l) (IntKind.u64.wrap ((IntKind.u64.wrap (IntKind.u64.wrap (IntKind.u64.wrap (f i' * h ((j : Int)).toNat) + o' (0 + (IntKind.i64.wrap ((i' : Int) + (j : Int))).toNat)) + k)).tdiv 4294967296))
      rw [S, e3, e4, E0]
      have e5 : (fun l => bif decide (l = i' + j) then (dg X i' * dg Y j + o' (i' + j) + k) % 4294967296 else o' l) = fun l => if l = i' + j then (dg X i' * dg Y j + o' (i' + j) + k) % 4294967296 else o' l := by
        funext l
        by_cases e : l = i' + j <;> simp [e]
      rw [e5]
      exact T
    · show IntKind.i64.wrap ((j : Int) + 1) = ((j + 1 : Nat) : Int)
      rw [wrapi (by omega)]; rfl
  · have hQ : TimesQ X Y n m i' j o' k := hQ
    have hi' : i' < n := hi'
    have hj : j ≤ m := hj
    have h2 : ¬ (j : Int) < (m : Int) := of_decide_eq_false h2
    have : j = m := by omega
    subst this
    have hii : i' = i := hii
    subst hii
    have e2 : IntKind.i64.wrap ((i' : Int) + (j : Int)) = ((i' + j : Nat) : Int) := by rw [wrapi (by omega)]; omega
    have E0 : 0 + (IntKind.i64.wrap ((i' : Int) + (j : Int))).toNat = i' + j := by rw [e2]; omega
    refine ⟨by rw [e2]; omega, by rw [e2]; omega, (i' + 1, _), ⟨?_, hi'⟩, rAB, rCD, ⟨rfl, rfl, rfl, rfl, rfl⟩, rAB, rfl, ?_, rfl, rfl, fun _ _ => rfl, by show n - (i' + 1) < n - i'; omega⟩
    · refine hQ.leave hi' hY fun l hl => ?_
      show (bif decide (l = 0 + (IntKind.i64.wrap ((i' : Int) + (j : Int))).toNat) then k else o' l) = _
      rw [E0]
      by_cases e : l = i' + j <;> simp [e]
    · show IntKind.i64.wrap ((i' : Int) + 1) = ((i' + 1 : Nat) : Int)
      rw [wrapi (by omega)]; rfl
  · have hP : TimesP X Y n m i o := hP
    have h1 : ¬ (i : Int) < (n : Int) := of_decide_eq_false h1
    have hi : i ≤ n := hi
    have : i = n := by omega
    subst this
    refine ⟨by omega, rfl, Nat.le_refl _, fun j hj => ?_⟩
    show o (0 + j) = _
    rw [Nat.zero_add]
    exact hP.done hX j hj
theorem ok_small (a : Option Addr) (n c : Nat) (f : Nat → Int) (hf : dgs n f) (hn : n ≤ 1000) :
    OwesR Try.prog cxR slShorn [] 4 Try.f52 [xsI a n c .u64 f] false [.v (sI .u64 (dg (vn n f) 0)), .v (sB (decide (vn n f < 4294967296)))] := by
  rw [vc_small]
  have hl := lenDg_lt (vn n f)
  have hX := vn_lt hf
  have hff : (fun i => f i) = f := rfl
  rw [hff]
  generalize vn n f = X at *
  have hl2 := lenDg_le hX
  intro x1
  have E1 : x1 = (lenDg X : Int) := rfl
  clear_value x1
  subst E1
  refine ⟨fun _ => trivial, hf, hn, fun a' cap _ _ => ⟨fun h => ?_, fun h => ?_⟩⟩
  · have h := eq_of_beq h
    have e : lenDg X = 0 := by omega
    rw [e] at hl
    have : X = 0 := by simpa using hl
    subst this
    exact ⟨(dg_out (n := 0) (by decide) (by omega)).symm, rfl⟩
  · have h := ne_of_beq_false h
    refine ⟨by omega, rfl, ?_⟩
    by_cases e : X < 4294967296
    · have h1 : lenDg X ≤ 1 := lenDg_le (by simpa using e)
      rw [decide_eq_true e, beq_iff_eq]
      omega
    · rw [decide_eq_false e]
      refine beq_false_of_ne fun h1 => e ?_
      have : lenDg X = 1 := by omega
      rw [this] at hl
      simpa using hl
theorem ok_dOf (a : Nat) : OwesR Try.prog .none [] [] 20 Try.f30 [sU a] false [.s 8 .u64 (dg (a % M256))] := by
  rw [vc_dOf]
  have hL := maxLen_eq
  refine fun c1 h1 => ⟨by omega, fun c2 h2 => ⟨by omega, fun c3 h3 => ⟨by omega, fun c4 h4 => ⟨rfl, by omega, fun i hi => ?_⟩⟩⟩⟩
  have e : ∀ j, j ≤ 3 → ∃ l : Nat, limb a j = (l : Int) ∧ l < 18446744073709551616 ∧ dg (a % M256) (2 * j) = ((l % 4294967296 : Nat) : Int) ∧ dg (a % M256) (2 * j + 1) = ((l / 4294967296 : Nat) : Int) := by
    intro j hj
    refine ⟨a / 2 ^ (64 * j) % 2 ^ 64, rfl, Nat.mod_lt _ (by decide), ?_, ?_⟩
    · unfold dg
      have : j = 0 ∨ j = 1 ∨ j = 2 ∨ j = 3 := by omega
      rw [show M256 = 115792089237316195423570985008687907853269984665640564039457584007913129639936 from rfl]
      rcases this with rfl | rfl | rfl | rfl <;> (simp only [Nat.reduceMul, Nat.reducePow, Nat.reduceAdd]; omega)
    · unfold dg
      have : j = 0 ∨ j = 1 ∨ j = 2 ∨ j = 3 := by omega
      rw [show M256 = 115792089237316195423570985008687907853269984665640564039457584007913129639936 from rfl]
      rcases this with rfl | rfl | rfl | rfl <;> (simp only [Nat.reduceMul, Nat.reducePow, Nat.reduceAdd]; omega)
  have lo : ∀ l : Nat, ((l : Int)).tmod 4294967296 = ((l % 4294967296 : Nat) : Int) := fun l => by rw [Int.tmod_eq_emod_of_nonneg (by omega)]; omega
  have hiw : ∀ l : Nat, l < 18446744073709551616 → IntKind.u64.wrap (((l : Int)).tdiv 4294967296) = ((l / 4294967296 : Nat) : Int) := fun l hl => by rw [Int.tdiv_eq_ediv_of_nonneg (by omega), wrap64 (by omega)]; omega
  obtain ⟨l0, a0, b0, c0, d0⟩ := e 0 (by omega)
  obtain ⟨l1, a1, b1, c1', d1⟩ := e 1 (by omega)
  obtain ⟨l2, a2, b2, c2', d2⟩ := e 2 (by omega)
  obtain ⟨l3, a3, b3, c3', d3⟩ := e 3 (by omega)
  rw [a0, a1, a2, a3]
  have : i = 0 ∨ i = 1 ∨ i = 2 ∨ i = 3 ∨ i = 4 ∨ i = 5 ∨ i = 6 ∨ i = 7 := by omega
  rcases this with rfl | rfl | rfl | rfl | rfl | rfl | rfl | rfl
  · exact (lo l0).trans c0.symm
  · exact (hiw l0 b0).trans d0.symm
  · exact (lo l1).trans c1'.symm
  · exact (hiw l1 b1).trans d1.symm
  · exact (lo l2).trans c2'.symm
  · exact (hiw l2 b2).trans d2.symm
  · exact (lo l3).trans c3'.symm
  · exact (hiw l3 b3).trans d3.symm
theorem or_digit (a b k : Nat) (hb : b < 2 ^ k) (h : a * 2 ^ k + b < 18446744073709551616) : IntKind.u64.wrap ((BitVec.ofInt 64 (b : Int) ||| BitVec.ofInt 64 ((a * 2 ^ k : Nat) : Int)).toNat : Int) = ((a * 2 ^ k + b : Nat) : Int) := by
  have b1 : (BitVec.ofInt 64 ((a * 2 ^ k : Nat) : Int)).toNat = a * 2 ^ k := by rw [BitVec.toNat_ofInt]; omega
  have b2 : (BitVec.ofInt 64 (b : Int)).toNat = b := by rw [BitVec.toNat_ofInt]; omega
  rw [BitVec.toNat_or, b1, b2, Nat.or_comm, Nat.mul_comm, ← Nat.two_pow_add_eq_or_of_lt hb, wrap64 ⟨Int.natCast_nonneg _, by rw [Nat.mul_comm]; omega⟩]
theorem wide_step {V D y : Nat} (hy : y < 8) (hV : V < 4294967296 ^ y) (hD : D < 4294967296) : ∃ w : Nat, w < 18446744073709551616 ∧ IntKind.u64.wrap (↑(BitVec.ofInt 64 (limb V (y / 2)) ||| BitVec.ofInt 64 (IntKind.u64.wrap ((D : Int) * 2 ^ Min.min (32 * (y % 2)) 64))).toNat) = (w : Int) ∧
    join (if 0 = y / 2 then (w : Int) else limb V 0) (if 1 = y / 2 then (w : Int) else limb V 1) (if 2 = y / 2 then (w : Int) else limb V 2) (if 3 = y / 2 then (w : Int) else limb V 3) = V + D * 4294967296 ^ y := by
  refine ⟨D * 2 ^ (32 * (y % 2)) + V / 2 ^ (64 * (y / 2)) % 2 ^ 64, ?_, ?_, ?_⟩
  · have : y = 0 ∨ y = 1 ∨ y = 2 ∨ y = 3 ∨ y = 4 ∨ y = 5 ∨ y = 6 ∨ y = 7 := by omega
    rcases this with rfl | rfl | rfl | rfl | rfl | rfl | rfl | rfl <;> (simp only [Nat.reduceMul, Nat.reducePow, Nat.reduceAdd, Nat.reduceDiv, Nat.reduceMod] at hV ⊢; omega)
  · have key : V / 2 ^ (64 * (y / 2)) % 2 ^ 64 < 2 ^ (32 * (y % 2)) ∧ D * 2 ^ (32 * (y % 2)) + V / 2 ^ (64 * (y / 2)) % 2 ^ 64 < 18446744073709551616 := by
      have : y = 0 ∨ y = 1 ∨ y = 2 ∨ y = 3 ∨ y = 4 ∨ y = 5 ∨ y = 6 ∨ y = 7 := by omega
      rcases this with rfl | rfl | rfl | rfl | rfl | rfl | rfl | rfl <;> (simp only [Nat.reduceMul, Nat.reducePow, Nat.reduceAdd, Nat.reduceDiv, Nat.reduceMod] at hV ⊢; omega)
    have e1 : (D : Int) * 2 ^ Min.min (32 * (y % 2)) 64 = ((D * 2 ^ (32 * (y % 2)) : Nat) : Int) := by
      rw [Nat.min_eq_left (by omega), Int.natCast_mul, Int.natCast_pow]; rfl
    rw [e1, wrap64 (x := ((D * 2 ^ (32 * (y % 2)) : Nat) : Int)) ⟨Int.natCast_nonneg _, by omega⟩]
    exact or_digit D _ _ key.1 key.2
  · have : y = 0 ∨ y = 1 ∨ y = 2 ∨ y = 3 ∨ y = 4 ∨ y = 5 ∨ y = 6 ∨ y = 7 := by omega
    unfold join limb
    rcases this with rfl | rfl | rfl | rfl | rfl | rfl | rfl | rfl <;> (simp only [Nat.reduceMul, Nat.reducePow, Nat.reduceAdd, Nat.reduceDiv, Nat.reduceMod, Nat.reduceEqDiff, if_true, if_false, Int.toNat_natCast] at hV ⊢; omega)
theorem M256_pow8 : M256 = 4294967296 ^ 8 := rfl
theorem ok_wide (a : Option Addr) (n c : Nat) (f : Nat → Int) (hf : dgs n f) (hn : n ≤ 1000) :
    OwesR Try.prog cxR [] [(4, .inv (invWide a n c f (fun y => vn n f % 4294967296 ^ min y 8) (fun y => decide (M256 ≤ vn n f % 4294967296 ^ y))))] 4 Try.f28 [xsI a n c .u64 f] false (wideR n f) := by
  unfold wideR
  rw [vc_wide]
  have hfi : ∀ i, i < n → f i = dg (vn n f) i := fun i hi => dg_in hf hi
  have hX := vn_lt hf
  generalize vn n f = X at *
  have rAB : (a = a ∧ n = n ∧ c = c ∧ ∀ i, i < n → f i = f i) := ⟨rfl, rfl, rfl, fun _ _ => rfl⟩
  have hM : 0 < M256 := by decide
  refine ⟨fun y => rfl, 0, Nat.zero_le _, ?_, rAB, rfl, rfl, rfl, ⟨?_, trivial⟩, rfl, fun y hy => ⟨fun h1 => ⟨⟨by omega, of_decide_eq_true h1⟩, fun h2 => ?_, fun h2 => ?_⟩, fun h1 => ?_⟩⟩
  · rw [Nat.pow_zero, Nat.mod_one]
    exact (decide_eq_false (by omega)).symm
  · show 0 = X % 4294967296 ^ 0 % M256
    rw [Nat.pow_zero, Nat.mod_one, Nat.zero_mod]
  · have h1 : (y : Int) < (n : Int) := of_decide_eq_true h1
    have h2 : (y : Int) ≥ 8 := of_decide_eq_true h2
    refine ⟨id, fun h => by rw [h]; rfl, y + 1, by omega, ?_, rAB, rfl, by rw [wrapi (by omega)]; rfl, rfl, ?_, rfl, by omega⟩
    · rw [Int.toNat_natCast, hfi y (by omega)]
      have hs := mod_succ X y
      have xr := dg_range X y
      have hp : (4294967296 : Int) ^ 8 ≤ 4294967296 ^ y := by
        have : (4294967296 : Nat) ^ 8 ≤ 4294967296 ^ y := Nat.pow_le_pow_right (by decide) (by omega)
        have e := Int.ofNat_le.2 this
        rw [Int.natCast_pow, Int.natCast_pow] at e
        exact e
      have hMI : ((M256 : Nat) : Int) = 4294967296 ^ 8 := by rw [M256_pow8, Int.natCast_pow]; rfl
      by_cases e0 : dg X y = 0
      · rw [e0, Int.zero_mul, Int.add_zero] at hs
        have : X % 4294967296 ^ (y + 1) = X % 4294967296 ^ y := by omega
        rw [this, e0]
        simp
      · have hge : (4294967296 : Int) ^ y ≤ dg X y * 4294967296 ^ y := by
          have hpp := pw_pos y
          have := Int.mul_le_mul_of_nonneg_right (show (1 : Int) ≤ dg X y by omega) (Int.le_of_lt hpp)
          rwa [Int.one_mul] at this
        have : M256 ≤ X % 4294967296 ^ (y + 1) := by
          have h0 : (0 : Int) ≤ ((X % 4294967296 ^ y : Nat) : Int) := Int.natCast_nonneg _
          omega
        rw [decide_eq_true this]
        simp [e0]
    · show X % 4294967296 ^ min y 8 % M256 = X % 4294967296 ^ min (y + 1) 8 % M256
      rw [Nat.min_eq_right (by omega), Nat.min_eq_right (by omega)]
  · have h1 : (y : Int) < (n : Int) := of_decide_eq_true h1
    have h2 : ¬ (y : Int) ≥ 8 := of_decide_eq_false h2
    have Q : IntKind.i64.wrap ((y : Int).tdiv 2) = ((y / 2 : Nat) : Int) := by rw [Int.tdiv_eq_ediv_of_nonneg (by omega), wrapi (by omega)]; omega
    have K : IntKind.i64.wrap (32 * (y : Int).tmod 2) = ((32 * (y % 2) : Nat) : Int) := by rw [Int.tmod_eq_emod_of_nonneg (by omega), wrapi (by omega)]; omega
    have A : 0 ≤ IntKind.i64.wrap ((y : Int).tdiv 2) ∧ IntKind.i64.wrap ((y : Int).tdiv 2) < 4 := by rw [Q]; omega
    have xr := dg_range X y
    have hVy : X % 4294967296 ^ y < 4294967296 ^ y := Nat.mod_lt _ (pwN_pos y)
    have hD : dg X y = ((X / 4294967296 ^ y % 4294967296 : Nat) : Int) := rfl
    have hs := mod_succ X y
    obtain ⟨w, w1, w2, w3⟩ := wide_step (V := X % 4294967296 ^ y) (D := X / 4294967296 ^ y % 4294967296) (by omega) hVy (Nat.mod_lt _ (by decide))
    have hpow : ∀ z, z ≤ 8 → X % 4294967296 ^ z < M256 := fun z hz => Nat.lt_of_lt_of_le (Nat.mod_lt _ (pwN_pos z)) (by rw [M256_pow8]; exact Nat.pow_le_pow_right (by decide) hz)
    have hsN : X % 4294967296 ^ y + X / 4294967296 ^ y % 4294967296 * 4294967296 ^ y = X % 4294967296 ^ (y + 1) := by
      have : ((X % 4294967296 ^ y + X / 4294967296 ^ y % 4294967296 * 4294967296 ^ y : Nat) : Int) = ((X % 4294967296 ^ (y + 1) : Nat) : Int) := by
        rw [hs, hD, Int.natCast_add, Int.natCast_mul, Int.natCast_pow]; rfl
      omega
    rw [hsN] at w3
    refine ⟨A, A, by rw [K]; omega, A, A, y + 1, by omega, ?_, rAB, rfl, by rw [wrapi (by omega)]; rfl, rfl, ?_, rfl, by omega⟩
    · have a1 := hpow y (by omega)
      have a2 := hpow (y + 1) (by omega)
      rw [decide_eq_false (by omega), decide_eq_false (by omega)]
    · simp only [Q, K, Int.toNat_natCast]
      rw [hfi y (by omega), hD, show min y 8 = y by omega, show min (y + 1) 8 = y + 1 by omega, w2]
      have r : ∀ k, 0 ≤ (if k = y / 2 then (w : Int) else limb (X % 4294967296 ^ y) k) ∧ (if k = y / 2 then (w : Int) else limb (X % 4294967296 ^ y) k) < 18446744073709551616 := by
        intro k
        split
        · omega
        · exact ⟨limb_nonneg _ _, limb_lt _ _⟩
      refine ⟨r 0, r 1, r 2, r 3, ?_, trivial⟩
      rw [w3]
  · have h1 : ¬ (y : Int) < (n : Int) := of_decide_eq_false h1
    have : y = n := by omega
    subst this
    rw [Nat.mod_eq_of_lt hX]
    refine ⟨⟨?_, trivial⟩, rfl⟩
    by_cases h8 : y ≤ 8
    · rw [Nat.min_eq_left h8, Nat.mod_eq_of_lt hX, Nat.mod_mod]
    · rw [Nat.min_eq_right (by omega), ← M256_pow8]
theorem ok_cut (a : Option Addr) (n c : Nat) (f : Nat → Int) (hf : dgs n f) (hn : n ≤ 1000) :
    OwesR Try.prog cxR slWide [] 4 Try.f41 [xsI a n c .u64 f] false (cutR n f) := by
  rw [vc_cut]
  exact ⟨fun _ => trivial, hf, hn, rfl, trivial⟩
end Go.Proofs.Ytjpddnjgbgpegaa
end

section
namespace Go.Sx
open Go.RowKit
theorem div_digit {A d Y : Nat} (hY : 0 < Y) (hd : d < 4294967296) : ((A * 4294967296 + d) / Y) % 4294967296 = (A % Y * 4294967296 + d) / Y ∧ (A * 4294967296 + d) % Y = (A % Y * 4294967296 + d) % Y := by
  have hA := Nat.div_add_mod A Y
  have hr := Nat.mod_lt A hY
  have e : A * 4294967296 + d = (A % Y * 4294967296 + d) + Y * (A / Y * 4294967296) := by
    have : A * 4294967296 = (Y * (A / Y) + A % Y) * 4294967296 := by rw [hA]
    rw [this, Nat.add_mul, Nat.mul_assoc]
    omega
  have hlt : (A % Y * 4294967296 + d) / Y < 4294967296 := by
    rw [Nat.div_lt_iff_lt_mul hY]
    have : (A % Y + 1) * 4294967296 ≤ Y * 4294967296 := Nat.mul_le_mul_right _ hr
    rw [Nat.mul_comm 4294967296 Y]
    omega
  rw [e, Nat.add_mul_div_left _ _ hY, Nat.add_mul_mod_self_left, Nat.add_mul_mod_self_right, Nat.mod_eq_of_lt hlt]
  exact ⟨rfl, rfl⟩
theorem quo_digit {X Y k : Nat} (hY : 0 < Y) : dg (X / Y) k = (((X / 4294967296 ^ (k + 1) % Y * 4294967296 + (dg X k).toNat) / Y : Nat) : Int) ∧ X / 4294967296 ^ k % Y = (X / 4294967296 ^ (k + 1) % Y * 4294967296 + (dg X k).toNat) % Y := by
  have hr := dg_range X k
  have hs : X / 4294967296 ^ k = X / 4294967296 ^ (k + 1) * 4294967296 + (dg X k).toNat := by
    have := div_succ X k
    omega
  obtain ⟨e1, e2⟩ := div_digit (A := X / 4294967296 ^ (k + 1)) (d := (dg X k).toNat) hY (by omega)
  refine ⟨?_, by rw [hs, e2]⟩
  rw [← e1, ← hs]
  unfold dg
  rw [Nat.div_div_eq_div_mul, Nat.div_div_eq_div_mul, Nat.mul_comm Y]
structure D1P (X Y n i : Nat) (q : Nat → Int) (l : Int) : Prop where
  left : l = ((X / 4294967296 ^ i % Y : Nat) : Int)
  qs : ∀ j, i ≤ j → j < n → q j = dg (X / Y) j
theorem D1P.start {X Y n : Nat} (hX : X < 4294967296 ^ n) (q : Nat → Int) : D1P X Y n n q 0 := ⟨by rw [Nat.div_eq_of_lt hX, Nat.zero_mod]; rfl, fun j h1 h2 => by omega⟩
theorem D1P.step {X Y n k : Nat} {q q' : Nat → Int} {l t : Int} (h : D1P X Y n (k + 1) q l) (hY : 0 < Y) (ht : t = l * 4294967296 + dg X k) (hq : ∀ j, j < n → q' j = if j = k then t / (Y : Int) else q j) : D1P X Y n k q' (t % (Y : Int)) := by
  obtain ⟨e1, e2⟩ := quo_digit (X := X) (k := k) hY
  have hr := dg_range X k
  have et : t = ((X / 4294967296 ^ (k + 1) % Y * 4294967296 + (dg X k).toNat : Nat) : Int) := by
    rw [ht, h.left, Int.natCast_add, Int.natCast_mul, Int.toNat_of_nonneg hr.1]; rfl
  refine ⟨by rw [e2, et, Int.natCast_emod], fun j h1 h2 => ?_⟩
  rw [hq j h2]
  by_cases e : j = k
  · subst e
    rw [if_pos rfl, et, e1, Int.natCast_ediv]
  · rw [if_neg e]
    exact h.qs j (by omega) h2
def remL (X Y n : Nat) : Nat := if Y < 4294967296 then 1 else if n = 0 then 0 else 1 + lenDg (X / 4294967296 % Y)
structure D2P (X Y n i : Nat) (q : Nat → Int) (rn : Nat) (rf : Nat → Int) : Prop where
  ds : dgs rn rf
  left : vn rn rf = X / 4294967296 ^ i % Y
  len : rn = if i = n then 0 else 1 + lenDg (X / 4294967296 ^ (i + 1) % Y)
  qs : ∀ j, i ≤ j → j < n → q j = dg (X / Y) j
structure DcP (X Y n i : Nat) (q : Nat → Int) (rn : Nat) (rf : Nat → Int) : Prop where
  pos : 0 < i
  ds : dgs rn rf
  left : vn rn rf = X / 4294967296 ^ i % Y * 4294967296 + (dg X (i - 1)).toNat
  len : rn = 1 + lenDg (X / 4294967296 ^ i % Y)
  qs : ∀ j, i ≤ j → j < n → q j = dg (X / Y) j
structure D3P (X Y n i : Nat) (q : Nat → Int) (rn : Nat) (rf : Nat → Int) (lo hi : Nat) : Prop where
  at' : DcP X Y n i q rn rf
  lt : lo < hi
  top : hi ≤ 4294967296
  below : Y * lo ≤ vn rn rf
  above : vn rn rf < Y * hi
theorem D2P.start {X Y n : Nat} (hX : X < 4294967296 ^ n) (q : Nat → Int) : D2P X Y n n q 0 (fun _ => 0) := ⟨⟨fun i hi => by omega⟩, by rw [Nat.div_eq_of_lt hX, Nat.zero_mod]; rfl, (if_pos rfl).symm, fun j h1 h2 => by omega⟩
theorem vn_cons {v : Int} {g rf : Nat → Int} {l : Nat} (hv : 0 ≤ v ∧ v < 4294967296) (hg : dgs l g) (h : ∀ i, i < 1 + l → rf i = bif decide (i < 1) then v else g (i - 1)) : dgs (1 + l) rf ∧ vn (1 + l) rf = vn l g * 4294967296 + v.toNat := by
  have hd : dgs (1 + l) rf := ⟨fun i hi => by
    rw [h i hi]
    by_cases e : i < 1
    · simp only [e, decide_true, cond_true]; exact hv
    · simp only [e, decide_false, cond_false]; exact hg.at' (i - 1) (by omega)⟩
  refine ⟨hd, ?_⟩
  have key : ∀ k, k ≤ l → vz rf (1 + k) = vz g k * 4294967296 + v := by
    intro k
    induction k with
    | zero =>
      intro _
      simp only [vz, Nat.add_zero]
      rw [h 0 (by omega)]
      simp
    | succ k ih =>
      intro hk
      have e : 1 + (k + 1) = (1 + k) + 1 := by omega
      rw [e]
      simp only [vz]
      rw [ih (by omega), h (1 + k) (by omega)]
      have e1 : ¬ (1 + k < 1) := by omega
      simp only [e1, decide_false, cond_false]
      rw [show 1 + k - 1 = k by omega, Int.pow_add, Int.pow_succ, Int.pow_zero, Int.one_mul]
      generalize (4294967296 : Int) ^ k = w
      grind
  have k1 := key l (Nat.le_refl _)
  have c1 := vn_cast hd
  have c2 := vn_cast hg
  omega
theorem D2P.next {X Y n k rn : Nat} {q rf rf' : Nat → Int} (h : D2P X Y n (k + 1) q rn rf) (hrf : ∀ i, i < 1 + lenDg (vn rn rf) → rf' i = bif decide (i < 1) then dg X k else dg (vn rn rf) (i - 1)) : DcP X Y n (k + 1) q (1 + lenDg (vn rn rf)) rf' := by
  obtain ⟨d1, d2⟩ := vn_cons (dg_range X k) (dgs_dg (lenDg (vn rn rf)) (vn rn rf)) hrf
  refine ⟨by omega, d1, ?_, by rw [h.left], h.qs⟩
  rw [d2, vn_dg' (lenDg_lt _), h.left]
  rfl
theorem DcP.seek {X Y n i rn : Nat} {q rf : Nat → Int} (h : DcP X Y n i q rn rf) (hY : 0 < Y) : D3P X Y n i q rn rf 0 4294967296 := by
  have hr := dg_range X (i - 1)
  have hm := Nat.mod_lt (X / 4294967296 ^ i) hY
  refine ⟨h, by decide, Nat.le_refl _, Nat.zero_le _, ?_⟩
  rw [h.left]
  have : (X / 4294967296 ^ i % Y + 1) * 4294967296 ≤ Y * 4294967296 := Nat.mul_le_mul_right _ hm
  omega
theorem D3P.low {X Y n i rn lo hi : Nat} {q rf : Nat → Int} (h : D3P X Y n i q rn rf lo hi) (h1 : 1 < hi - lo) (hc : Y * ((lo + hi) / 2) ≤ vn rn rf) : D3P X Y n i q rn rf ((lo + hi) / 2) hi := ⟨h.at', by omega, h.top, hc, h.above⟩
theorem D3P.high {X Y n i rn lo hi : Nat} {q rf : Nat → Int} (h : D3P X Y n i q rn rf lo hi) (h1 : 1 < hi - lo) (hc : ¬ Y * ((lo + hi) / 2) ≤ vn rn rf) : D3P X Y n i q rn rf lo ((lo + hi) / 2) := ⟨h.at', by omega, by have := h.top; omega, h.below, by omega⟩
theorem D3P.found {X Y n k rn lo hi : Nat} {q q' rf rf' : Nat → Int} (h : D3P X Y n (k + 1) q rn rf lo hi) (h1 : ¬ 1 < hi - lo) (hY : 0 < Y) (hk : k + 1 ≤ n) (hq : ∀ j, j < n → q' j = if j = k then (lo : Int) else q j) (hr : ∀ i, i < rn → rf' i = dg (vn rn rf - Y * lo) i) : D2P X Y n k q' rn rf' := by
  obtain ⟨e1, e2⟩ := quo_digit (X := X) (k := k) hY
  obtain ⟨hc, hlt, htop, hb, ha⟩ := h
  have hhi : hi = lo + 1 := by omega
  subst hhi
  have hl := hc.left
  rw [show k + 1 - 1 = k by omega] at hl
  rw [← hl] at e1 e2
  have hlo : vn rn rf / Y = lo := by
    apply Nat.div_eq_of_lt_le
    · rw [Nat.mul_comm]; exact hb
    · rw [Nat.mul_comm]; exact ha
  have hmod : vn rn rf - Y * lo = vn rn rf % Y := by
    have := Nat.div_add_mod (vn rn rf) Y
    rw [hlo] at this
    omega
  have hds : dgs rn rf' := ⟨fun i hi => by rw [hr i hi]; exact dg_range _ _⟩
  refine ⟨hds, ?_, ?_, fun j h1 h2 => ?_⟩
  · rw [vn_congr hr, vn_dg' (Nat.lt_of_le_of_lt (Nat.sub_le _ _) (vn_lt hc.ds)), hmod, e2]
  · rw [if_neg (by omega)]; exact hc.len
  · rw [hq j h2]
    by_cases e : j = k
    · subst e
      rw [if_pos rfl, e1, hlo]
    · rw [if_neg e]; exact hc.qs j (by omega) h2
end Go.Sx
end

section
namespace Go.Proofs.Ytjpddnjgbgpegaa
open Go Go.Sx Go.RowKit
set_option maxRecDepth 100000
def dg2C (n : Nat) (f : Nat → Int) (m : Nat) (h : Nat → Int) : List Prop := [dgs n f, n ≤ 1000, dgs m h, m ≤ 1000]
def timesR (n : Nat) (f : Nat → Int) (m : Nat) (h : Nat → Int) : List RS := [.s (n + m) .u64 (dg (vn n f * vn m h))]
def plusR (n : Nat) (f : Nat → Int) (m : Nat) (h : Nat → Int) : List RS := [.s (max n m + 1) .u64 (dg (vn n f + vn m h))]
def cmpR (n : Nat) (f : Nat → Int) (m : Nat) (h : Nat → Int) : List RS := [.v (sI .i64 (cmpI (vn n f) (vn m h)))]
def lessC (n : Nat) (f : Nat → Int) (m : Nat) (h : Nat → Int) : List Prop := [dgs n f, n ≤ 1000, dgs m h, m ≤ 1000, vn m h ≤ vn n f]
def lessR (n : Nat) (f : Nat → Int) (m : Nat) (h : Nat → Int) : List RS := [.s n .u64 (dg (vn n f - vn m h))]
def smallR (n : Nat) (f : Nat → Int) : List RS := [.v (sI .u64 (dg (vn n f) 0)), .v (sB (decide (vn n f < 4294967296)))]
def ofR (a : Nat) : List RS := [.s 8 .u64 (dg (a % M256))]
def slDg : List (Nat × SSpec) := [(30, specUR ofR), (51, specDD false dg2C plusR), (29, specDD false dg2C timesR), (53, specDD false dg2C cmpR), (54, specDD false lessC lessR), (50, specD true dgsC shornR), (52, specD false dgsC smallR), (28, specD false dgsC wideR), (41, specD false dgsC cutR)]
def invD1 (a : Option Addr) (n c : Nat) (f : Nat → Int) (b : Option Addr) (m d : Nat) (h : Nat → Int) (P : Nat → (Nat → Int) → Int → Prop) : Inv where
  X := Nat × (Nat → Int) × Int
  tm y := slotsAt 96 [(0, .one (xsI a n c .u64 f)), (4, .one (.sc (.slw 0 1 0 n n))), (6, .one (sI .u64 (dg (vn m h) 0))), (8, .one (sI .u64 y.2.2)), (9, .one (sI .i64 ((y.1 : Int) - 1)))]
  ob y := [.row 22 1 n (r64 y.2.1) 0]
  holds y := P y.1 y.2.1 y.2.2 ∧ y.1 ≤ n
  less y := y.1
def invD2 (a : Option Addr) (n c : Nat) (f : Nat → Int) (b : Option Addr) (m d : Nat) (h : Nat → Int) (P : Nat → (Nat → Int) → Nat → (Nat → Int) → Prop) : Inv where
  X := Nat × (Nat → Int) × Option Addr × Nat × Nat × (Nat → Int)
  tm y := slotsAt 96 [(0, .one (xsI a n c .u64 f)), (1, .one (xsI b m d .u64 h)), (4, .one (.sc (.slw 0 1 0 n n))), (5, .one (xsI y.2.2.1 y.2.2.2.1 y.2.2.2.2.1 .u64 y.2.2.2.2.2)), (10, .one (sI .i64 ((y.1 : Int) - 1)))]
  ob y := [.row 22 1 n (r64 y.2.1) 0]
  holds y := P y.1 y.2.1 y.2.2.2.1 y.2.2.2.2.2 ∧ y.1 ≤ n
  less y := y.1
def cutD (a : Option Addr) (n c : Nat) (f : Nat → Int) (b : Option Addr) (m d : Nat) (h : Nat → Int) (P : Nat → (Nat → Int) → Nat → (Nat → Int) → Prop) : Inv where
  X := Nat × (Nat → Int) × Nat × Nat × (Nat → Int)
  tm y := slotsAt 96 [(0, .one (xsI a n c .u64 f)), (1, .one (xsI b m d .u64 h)), (4, .one (.sc (.slw 0 1 0 n n))), (5, .one (.sc (.slw 1 1 0 y.2.2.1 (y.2.2.1 + y.2.2.2.1)))), (10, .one (sI .i64 ((y.1 : Int) - 1)))]
  ob y := [.row 22 1 n (r64 y.2.1) 0, .row 22 1 y.2.2.1 (r64 y.2.2.2.2) y.2.2.2.1]
  holds y := P y.1 y.2.1 y.2.2.1 y.2.2.2.2 ∧ y.1 ≤ n
  less y := y.1
def invD3 (a : Option Addr) (n c : Nat) (f : Nat → Int) (b : Option Addr) (m d : Nat) (h : Nat → Int) (P : Nat → (Nat → Int) → Nat → (Nat → Int) → Nat → Nat → Prop) : Inv where
  X := Nat × (Nat → Int) × Nat × Nat × (Nat → Int) × Nat × Nat
  tm y := slotsAt 96 [(0, .one (xsI a n c .u64 f)), (1, .one (xsI b m d .u64 h)), (4, .one (.sc (.slw 0 1 0 n n))), (5, .one (.sc (.slw 1 1 0 y.2.2.1 (y.2.2.1 + y.2.2.2.1)))), (10, .one (sI .i64 ((y.1 : Int) - 1))), (11, .one (sI .u64 (y.2.2.2.2.2.1 : Int))), (12, .one (sI .u64 (y.2.2.2.2.2.2 : Int)))]
  ob y := [.row 22 1 n (r64 y.2.1) 0, .row 22 1 y.2.2.1 (r64 y.2.2.2.2.1) y.2.2.2.1]
  holds y := P y.1 y.2.1 y.2.2.1 y.2.2.2.2.1 y.2.2.2.2.2.1 y.2.2.2.2.2.2 ∧ y.1 ≤ n
  less y := y.2.2.2.2.2.2 - y.2.2.2.2.2.1
set_option maxHeartbeats 4000000 in
theorem vc_divided (a : Option Addr) (n c : Nat) (f : Nat → Int) (b : Option Addr) (m d : Nat) (h : Nat → Int) (P1 : Nat → (Nat → Int) → Int → Prop) (P2 Pc : Nat → (Nat → Int) → Nat → (Nat → Int) → Prop) (P3 : Nat → (Nat → Int) → Nat → (Nat → Int) → Nat → Nat → Prop) (k : Nat) (q r : Nat → Int) :
    OwesR Try.prog cxR slDg [(6, .inv (invD1 a n c f b m d h P1)), (13, .inv (invD2 a n c f b m d h P2)), (15, .cut (cutD a n c f b m d h Pc) (fun y z => z.1 = y.1)), (17, .invR (invD3 a n c f b m d h P3) (fun y z => z.1 = y.1))] 4 Try.f40 [xsI a n c .u64 f, xsI b m d .u64 h] true [.s n .u64 q, .s k .u64 r] =
    (let x1 : Int := dg (vn m h) 0; let x2 : Nat := ((↑n : Int).toNat - (↑n : Int).toNat) * 1; let x3 : Nat := m + 1; (∀ (_ : Nat), True) ∧ (dgs m fun (i : Nat) => intsC (SC.val (Go.Value.int Go.IntKind.u64 (h i)))) ∧ m ≤ 1000 ∧ (Decidable.decide ((vn m fun (i : Nat) => h i) < 4294967296) = Bool.true → ((0 : Int) ≤ (↑n : Int) ∧ (↑n : Int) ≤ (↑n : Int) ∧ (8 : Int) * (↑n : Int) ≤ (281474976710656 : Int) ∧ (↑n : Int) ≤ (9223372036854775807 : Int)) ∧ (∀ (y : Nat × (Nat → Int) × Int), closedB (slotsAt 96 [(0, SV.one (xsI a n c Go.IntKind.u64 f)), (4, SV.one (SA.sc (SC.slw 0 1 0 n n))), (6, SV.one (sI Go.IntKind.u64 x1)), (8, SV.one (sI Go.IntKind.u64 y.snd.snd)), (9, SV.one (sI Go.IntKind.i64 ((↑y.fst : Int) - (1 : Int))))]) [SO.row (22 : Go.TypeId) 1 n (r64 y.snd.fst) 0] = Bool.true) ∧ ∃ (y : Nat × (Nat → Int) × Int), (P1 y.fst y.snd.fst y.snd.snd ∧ y.fst ≤ n) ∧ (a = a ∧ n = n ∧ c = c ∧ ∀ (i : Nat), i < n → f i = f i) ∧ (0 = 0 ∧ ([(0 : Int) ≤ (↑n : Int) ∧ (↑n : Int) ≤ (↑n : Int) ∧ (8 : Int) * (↑n : Int) ≤ (281474976710656 : Int) ∧ (↑n : Int) ≤ (9223372036854775807 : Int)], 1, [] ++ [SO.row 22 1 (↑n : Int).toNat (fun (x c : Nat) => (flat (List.map litC (Go.Value.int Go.IntKind.u64 (0 : Int)).cells.toList)).getD c (SC.bit Bool.false)) x2]).snd.fst = 1 ∧ 0 = 0 ∧ (↑n : Int).toNat = n ∧ (↑n : Int).toNat = n) ∧ dg (vn m fun (i : Nat) => h i) 0 = x1 ∧ (0 : Int) = y.snd.snd ∧ Go.IntKind.i64.wrap ((↑n : Int) - (1 : Int)) = (↑y.fst : Int) - (1 : Int) ∧ (↑n : Int).toNat = n ∧ x2 = 0 ∧ (∀ (i : Nat), i < (↑n : Int).toNat → (0 : Int) = y.snd.fst i) ∧ ∀ (y : Nat × (Nat → Int) × Int), P1 y.fst y.snd.fst y.snd.snd ∧ y.fst ≤ n → (Decidable.decide ((↑y.fst : Int) - (1 : Int) ≥ (0 : Int)) = Bool.true → ((0 : Int) ≤ (↑y.fst : Int) - (1 : Int) ∧ (↑y.fst : Int) - (1 : Int) < (↑n : Int)) ∧ x1 ≠ (0 : Int) ∧ x1 ≠ (0 : Int) ∧ ((0 : Int) ≤ (↑y.fst : Int) - (1 : Int) ∧ (↑y.fst : Int) - (1 : Int) < (↑n : Int)) ∧ 0 + ((↑y.fst : Int) - (1 : Int)).toNat < n ∧ ∃ (y' : Nat × (Nat → Int) × Int), (P1 y'.fst y'.snd.fst y'.snd.snd ∧ y'.fst ≤ n) ∧ (a = a ∧ n = n ∧ c = c ∧ ∀ (i : Nat), i < n → f i = f i) ∧ (0 = 0 ∧ 1 = 1 ∧ 0 = 0 ∧ n = n ∧ n = n) ∧ x1 = x1 ∧ (Go.IntKind.u64.wrap (Go.IntKind.u64.wrap (y.snd.snd * (4294967296 : Int)) + f ((↑y.fst : Int) - (1 : Int)).toNat)).tmod x1 = y'.snd.snd ∧ Go.IntKind.i64.wrap ((↑y.fst : Int) - (1 : Int) - (1 : Int)) = (↑y'.fst : Int) - (1 : Int) ∧ n = n ∧ 0 = 0 ∧ (∀ (i : Nat), i < n → (bif Decidable.decide (i = 0 + ((↑y.fst : Int) - (1 : Int)).toNat) then Go.IntKind.u64.wrap ((Go.IntKind.u64.wrap (Go.IntKind.u64.wrap (y.snd.snd * (4294967296 : Int)) + f ((↑y.fst : Int) - (1 : Int)).toNat)).tdiv x1) else y.snd.fst i) = y'.snd.fst i) ∧ y'.fst < y.fst) ∧ (Decidable.decide ((↑y.fst : Int) - (1 : Int) ≥ (0 : Int)) = Bool.false → (0 + n ≤ n ∧ n = n ∧ n ≤ n ∧ ∀ (i : Nat), i < n → y.snd.fst (0 + i) = q i) ∧ 1 = k ∧ 1 ≤ 1 ∧ ∀ (i : Nat), i < k → (intsL [SK.c (SC.val (Go.Value.int Go.IntKind.u64 y.snd.snd))]).getD i (0 : Int) = r i)) ∧ (Decidable.decide ((vn m fun (i : Nat) => h i) < 4294967296) = Bool.false → ((0 : Int) ≤ (↑n : Int) ∧ (↑n : Int) ≤ (↑n : Int) ∧ (8 : Int) * (↑n : Int) ≤ (281474976710656 : Int) ∧ (↑n : Int) ≤ (9223372036854775807 : Int)) ∧ (∀ (y : Nat × (Nat → Int) × Option Go.Addr × Nat × Nat × (Nat → Int)), closedB (slotsAt 96 [(0, SV.one (xsI a n c Go.IntKind.u64 f)), (1, SV.one (xsI b m d Go.IntKind.u64 h)), (4, SV.one (SA.sc (SC.slw 0 1 0 n n))), (5, SV.one (xsI y.snd.snd.fst y.snd.snd.snd.fst y.snd.snd.snd.snd.fst Go.IntKind.u64 y.snd.snd.snd.snd.snd)), (10, SV.one (sI Go.IntKind.i64 ((↑y.fst : Int) - (1 : Int))))]) [SO.row (22 : Go.TypeId) 1 n (r64 y.snd.fst) 0] = Bool.true) ∧ ∃ (y : Nat × (Nat → Int) × Option Go.Addr × Nat × Nat × (Nat → Int)), (P2 y.fst y.snd.fst y.snd.snd.snd.fst y.snd.snd.snd.snd.snd ∧ y.fst ≤ n) ∧ (a = a ∧ n = n ∧ c = c ∧ ∀ (i : Nat), i < n → f i = f i) ∧ (b = b ∧ m = m ∧ d = d ∧ ∀ (i : Nat), i < m → h i = h i) ∧ (0 = 0 ∧ ([(0 : Int) ≤ (↑n : Int) ∧ (↑n : Int) ≤ (↑n : Int) ∧ (8 : Int) * (↑n : Int) ≤ (281474976710656 : Int) ∧ (↑n : Int) ≤ (9223372036854775807 : Int)], 1, [] ++ [SO.row 22 1 (↑n : Int).toNat (fun (x c : Nat) => (flat (List.map litC (Go.Value.int Go.IntKind.u64 (0 : Int)).cells.toList)).getD c (SC.bit Bool.false)) x2]).snd.fst = 1 ∧ 0 = 0 ∧ (↑n : Int).toNat = n ∧ (↑n : Int).toNat = n) ∧ y.snd.snd.fst = Option.none ∧ y.snd.snd.snd.fst = 0 ∧ y.snd.snd.snd.snd.fst = 0 ∧ Go.IntKind.i64.wrap ((↑n : Int) - (1 : Int)) = (↑y.fst : Int) - (1 : Int) ∧ (↑n : Int).toNat = n ∧ x2 = 0 ∧ (∀ (i : Nat), i < (↑n : Int).toNat → (0 : Int) = y.snd.fst i) ∧ ∀ (y : Nat × (Nat → Int) × Option Go.Addr × Nat × Nat × (Nat → Int)), P2 y.fst y.snd.fst y.snd.snd.snd.fst y.snd.snd.snd.snd.snd ∧ y.fst ≤ n → (Decidable.decide ((↑y.fst : Int) - (1 : Int) ≥ (0 : Int)) = Bool.true → (∀ (y : Nat × (Nat → Int) × Nat × Nat × (Nat → Int)), closedB (slotsAt 96 [(0, SV.one (xsI a n c Go.IntKind.u64 f)), (1, SV.one (xsI b m d Go.IntKind.u64 h)), (4, SV.one (SA.sc (SC.slw 0 1 0 n n))), (5, SV.one (SA.sc (SC.slw 1 1 0 y.snd.snd.fst (y.snd.snd.fst + y.snd.snd.snd.fst)))), (10, SV.one (sI Go.IntKind.i64 ((↑y.fst : Int) - (1 : Int))))]) [SO.row (22 : Go.TypeId) 1 n (r64 y.snd.fst) 0, SO.row (22 : Go.TypeId) 1 y.snd.snd.fst (r64 y.snd.snd.snd.snd) y.snd.snd.snd.fst] = Bool.true) ∧ ∃ (y0 : Nat × (Nat → Int) × Nat × Nat × (Nat → Int)), (∀ (y_1 : Nat × (Nat → Int) × Nat × Nat × (Nat → Int)), Pc y_1.fst y_1.snd.fst y_1.snd.snd.fst y_1.snd.snd.snd.snd ∧ y_1.fst ≤ n → y_1.fst = y0.fst → (∀ (y : Nat × (Nat → Int) × Nat × Nat × (Nat → Int) × Nat × Nat), closedB (slotsAt 96 [(0, SV.one (xsI a n c Go.IntKind.u64 f)), (1, SV.one (xsI b m d Go.IntKind.u64 h)), (4, SV.one (SA.sc (SC.slw 0 1 0 n n))), (5, SV.one (SA.sc (SC.slw 1 1 0 y.snd.snd.fst (y.snd.snd.fst + y.snd.snd.snd.fst)))), (10, SV.one (sI Go.IntKind.i64 ((↑y.fst : Int) - (1 : Int)))), (11, SV.one (sI Go.IntKind.u64 (↑y.snd.snd.snd.snd.snd.fst : Int))), (12, SV.one (sI Go.IntKind.u64 (↑y.snd.snd.snd.snd.snd.snd : Int)))]) [SO.row (22 : Go.TypeId) 1 n (r64 y.snd.fst) 0, SO.row (22 : Go.TypeId) 1 y.snd.snd.fst (r64 y.snd.snd.snd.snd.fst) y.snd.snd.snd.fst] = Bool.true) ∧ ∃ (y0 : Nat × (Nat → Int) × Nat × Nat × (Nat → Int) × Nat × Nat), ((P3 y0.fst y0.snd.fst y0.snd.snd.fst y0.snd.snd.snd.snd.fst y0.snd.snd.snd.snd.snd.fst y0.snd.snd.snd.snd.snd.snd ∧ y0.fst ≤ n) ∧ y0.fst = y0.fst) ∧ (a = a ∧ n = n ∧ c = c ∧ ∀ (i : Nat), i < n → f i = f i) ∧ (b = b ∧ m = m ∧ d = d ∧ ∀ (i : Nat), i < m → h i = h i) ∧ (0 = 0 ∧ 1 = 1 ∧ 0 = 0 ∧ n = n ∧ n = n) ∧ (1 = 1 ∧ 1 = 1 ∧ 0 = 0 ∧ y_1.snd.snd.fst = y0.snd.snd.fst ∧ y_1.snd.snd.fst + y_1.snd.snd.snd.fst = y0.snd.snd.fst + y0.snd.snd.snd.fst) ∧ (↑y_1.fst : Int) - (1 : Int) = (↑y0.fst : Int) - (1 : Int) ∧ (0 : Int) = (↑y0.snd.snd.snd.snd.snd.fst : Int) ∧ (4294967296 : Int) = (↑y0.snd.snd.snd.snd.snd.snd : Int) ∧ n = n ∧ 0 = 0 ∧ (∀ (i : Nat), i < n → y_1.snd.fst i = y0.snd.fst i) ∧ y_1.snd.snd.fst = y0.snd.snd.fst ∧ y_1.snd.snd.snd.fst = y0.snd.snd.snd.fst ∧ (∀ (i : Nat), i < y_1.snd.snd.fst → y_1.snd.snd.snd.snd i = y0.snd.snd.snd.snd.fst i) ∧ ∀ (y_2 : Nat × (Nat → Int) × Nat × Nat × (Nat → Int) × Nat × Nat), P3 y_2.fst y_2.snd.fst y_2.snd.snd.fst y_2.snd.snd.snd.snd.fst y_2.snd.snd.snd.snd.snd.fst y_2.snd.snd.snd.snd.snd.snd ∧ y_2.fst ≤ n → y_2.fst = y0.fst → (Decidable.decide (Go.IntKind.u64.wrap ((↑y_2.snd.snd.snd.snd.snd.snd : Int) - (↑y_2.snd.snd.snd.snd.snd.fst : Int)) > (1 : Int)) = Bool.true → 1 ≤ 1 ∧ ∀ (_ : Go.Addr), (∀ (_ : Nat), True) ∧ (∀ (_ : Nat), True) ∧ (dgs m fun (i : Nat) => intsC (SC.val (Go.Value.int Go.IntKind.u64 (h i)))) ∧ m ≤ 1000 ∧ (dgs 1 fun (i : Nat) => intsC (SC.val (Go.Value.int (Go.IntKind.u64, Go.IntKind.u64.wrap ((Go.IntKind.u64.wrap ((↑y_2.snd.snd.snd.snd.snd.fst : Int) + (↑y_2.snd.snd.snd.snd.snd.snd : Int))).tdiv (2 : Int))).fst (selG [SK.c (SC.val (Go.Value.int Go.IntKind.u64 (Go.IntKind.u64.wrap ((Go.IntKind.u64.wrap ((↑y_2.snd.snd.snd.snd.snd.fst : Int) + (↑y_2.snd.snd.snd.snd.snd.snd : Int))).tdiv (2 : Int)))))] i)))) ∧ 1 ≤ 1000 ∧ ∀ (a_10 : Option Go.Addr) (cap : Nat), (a_10 = Option.none → x3 = 0 ∧ cap = 0) → x3 ≤ cap → 0 + y_2.snd.snd.fst ≤ y_2.snd.snd.fst ∧ y_2.snd.snd.fst ≤ y_2.snd.snd.fst + y_2.snd.snd.snd.fst ∧ ∀ (_ : Go.Addr), (∀ (_ : Nat), True) ∧ (∀ (_ : Nat), True) ∧ (dgs x3 fun (i : Nat) => intsC (SC.val (Go.Value.int Go.IntKind.u64 (dg ((vn m fun (i : Nat) => intsC (SC.val (Go.Value.int Go.IntKind.u64 (h i)))) * vn 1 fun (i : Nat) => intsC (SC.val (Go.Value.int (Go.IntKind.u64, Go.IntKind.u64.wrap ((Go.IntKind.u64.wrap ((↑y_2.snd.snd.snd.snd.snd.fst : Int) + (↑y_2.snd.snd.snd.snd.snd.snd : Int))).tdiv (2 : Int))).fst (selG [SK.c (SC.val (Go.Value.int Go.IntKind.u64 (Go.IntKind.u64.wrap ((Go.IntKind.u64.wrap ((↑y_2.snd.snd.snd.snd.snd.fst : Int) + (↑y_2.snd.snd.snd.snd.snd.snd : Int))).tdiv (2 : Int)))))] i)))) i)))) ∧ x3 ≤ 1000 ∧ (dgs y_2.snd.snd.fst fun (i : Nat) => intsC (r64 y_2.snd.snd.snd.snd.fst (0 + i) 0)) ∧ y_2.snd.snd.fst ≤ 1000 ∧ (Decidable.decide (cmpI (vn x3 fun (i : Nat) => dg ((vn m fun (i : Nat) => h i) * vn 1 fun (i : Nat) => (intsL [SK.c (SC.val (Go.Value.int Go.IntKind.u64 (Go.IntKind.u64.wrap ((Go.IntKind.u64.wrap ((↑y_2.snd.snd.snd.snd.snd.fst : Int) + (↑y_2.snd.snd.snd.snd.snd.snd : Int))).tdiv (2 : Int)))))]).getD i (0 : Int)) i) (vn y_2.snd.snd.fst fun (i : Nat) => y_2.snd.snd.snd.snd.fst (0 + i)) ≤ (0 : Int)) = Bool.true → ∃ (y' : Nat × (Nat → Int) × Nat × Nat × (Nat → Int) × Nat × Nat), ((P3 y'.fst y'.snd.fst y'.snd.snd.fst y'.snd.snd.snd.snd.fst y'.snd.snd.snd.snd.snd.fst y'.snd.snd.snd.snd.snd.snd ∧ y'.fst ≤ n) ∧ y'.fst = y0.fst) ∧ (a = a ∧ n = n ∧ c = c ∧ ∀ (i : Nat), i < n → f i = f i) ∧ (b = b ∧ m = m ∧ d = d ∧ ∀ (i : Nat), i < m → h i = h i) ∧ (0 = 0 ∧ 1 = 1 ∧ 0 = 0 ∧ n = n ∧ n = n) ∧ (1 = 1 ∧ 1 = 1 ∧ 0 = 0 ∧ y_2.snd.snd.fst = y'.snd.snd.fst ∧ y_2.snd.snd.fst + y_2.snd.snd.snd.fst = y'.snd.snd.fst + y'.snd.snd.snd.fst) ∧ (↑y_2.fst : Int) - (1 : Int) = (↑y'.fst : Int) - (1 : Int) ∧ Go.IntKind.u64.wrap ((Go.IntKind.u64.wrap ((↑y_2.snd.snd.snd.snd.snd.fst : Int) + (↑y_2.snd.snd.snd.snd.snd.snd : Int))).tdiv (2 : Int)) = (↑y'.snd.snd.snd.snd.snd.fst : Int) ∧ (↑y_2.snd.snd.snd.snd.snd.snd : Int) = (↑y'.snd.snd.snd.snd.snd.snd : Int) ∧ n = n ∧ 0 = 0 ∧ (∀ (i : Nat), i < n → y_2.snd.fst i = y'.snd.fst i) ∧ y_2.snd.snd.fst = y'.snd.snd.fst ∧ y_2.snd.snd.snd.fst = y'.snd.snd.snd.fst ∧ (∀ (i : Nat), i < y_2.snd.snd.fst → y_2.snd.snd.snd.snd.fst i = y'.snd.snd.snd.snd.fst i) ∧ y'.snd.snd.snd.snd.snd.snd - y'.snd.snd.snd.snd.snd.fst < y_2.snd.snd.snd.snd.snd.snd - y_2.snd.snd.snd.snd.snd.fst) ∧ (Decidable.decide (cmpI (vn x3 fun (i : Nat) => dg ((vn m fun (i : Nat) => h i) * vn 1 fun (i : Nat) => (intsL [SK.c (SC.val (Go.Value.int Go.IntKind.u64 (Go.IntKind.u64.wrap ((Go.IntKind.u64.wrap ((↑y_2.snd.snd.snd.snd.snd.fst : Int) + (↑y_2.snd.snd.snd.snd.snd.snd : Int))).tdiv (2 : Int)))))]).getD i (0 : Int)) i) (vn y_2.snd.snd.fst fun (i : Nat) => y_2.snd.snd.snd.snd.fst (0 + i)) ≤ (0 : Int)) = Bool.false → ∃ (y' : Nat × (Nat → Int) × Nat × Nat × (Nat → Int) × Nat × Nat), ((P3 y'.fst y'.snd.fst y'.snd.snd.fst y'.snd.snd.snd.snd.fst y'.snd.snd.snd.snd.snd.fst y'.snd.snd.snd.snd.snd.snd ∧ y'.fst ≤ n) ∧ y'.fst = y0.fst) ∧ (a = a ∧ n = n ∧ c = c ∧ ∀ (i : Nat), i < n → f i = f i) ∧ (b = b ∧ m = m ∧ d = d ∧ ∀ (i : Nat), i < m → h i = h i) ∧ (0 = 0 ∧ 1 = 1 ∧ 0 = 0 ∧ n = n ∧ n = n) ∧ (1 = 1 ∧ 1 = 1 ∧ 0 = 0 ∧ y_2.snd.snd.fst = y'.snd.snd.fst ∧ y_2.snd.snd.fst + y_2.snd.snd.snd.fst = y'.snd.snd.fst + y'.snd.snd.snd.fst) ∧ (↑y_2.fst : Int) - (1 : Int) = (↑y'.fst : Int) - (1 : Int) ∧ (↑y_2.snd.snd.snd.snd.snd.fst : Int) = (↑y'.snd.snd.snd.snd.snd.fst : Int) ∧ Go.IntKind.u64.wrap ((Go.IntKind.u64.wrap ((↑y_2.snd.snd.snd.snd.snd.fst : Int) + (↑y_2.snd.snd.snd.snd.snd.snd : Int))).tdiv (2 : Int)) = (↑y'.snd.snd.snd.snd.snd.snd : Int) ∧ n = n ∧ 0 = 0 ∧ (∀ (i : Nat), i < n → y_2.snd.fst i = y'.snd.fst i) ∧ y_2.snd.snd.fst = y'.snd.snd.fst ∧ y_2.snd.snd.snd.fst = y'.snd.snd.snd.fst ∧ (∀ (i : Nat), i < y_2.snd.snd.fst → y_2.snd.snd.snd.snd.fst i = y'.snd.snd.snd.snd.fst i) ∧ y'.snd.snd.snd.snd.snd.snd - y'.snd.snd.snd.snd.snd.fst < y_2.snd.snd.snd.snd.snd.snd - y_2.snd.snd.snd.snd.snd.fst)) ∧ (Decidable.decide (Go.IntKind.u64.wrap ((↑y_2.snd.snd.snd.snd.snd.snd : Int) - (↑y_2.snd.snd.snd.snd.snd.fst : Int)) > (1 : Int)) = Bool.false → ((0 : Int) ≤ (↑y_2.fst : Int) - (1 : Int) ∧ (↑y_2.fst : Int) - (1 : Int) < (↑n : Int)) ∧ 0 + ((↑y_2.fst : Int) - (1 : Int)).toNat < n ∧ 1 ≤ 1 ∧ ∀ (_ : Go.Addr), (∀ (_ : Nat), True) ∧ (∀ (_ : Nat), True) ∧ (dgs m fun (i : Nat) => intsC (SC.val (Go.Value.int Go.IntKind.u64 (h i)))) ∧ m ≤ 1000 ∧ (dgs 1 fun (i : Nat) => intsC (SC.val (Go.Value.int (Go.IntKind.u64, (↑y_2.snd.snd.snd.snd.snd.fst : Int)).fst (selG [SK.c (SC.val (Go.Value.int Go.IntKind.u64 (↑y_2.snd.snd.snd.snd.snd.fst : Int)))] i)))) ∧ 1 ≤ 1000 ∧ ∀ (a_10 : Option Go.Addr) (cap : Nat), (a_10 = Option.none → x3 = 0 ∧ cap = 0) → x3 ≤ cap → 0 + y_2.snd.snd.fst ≤ y_2.snd.snd.fst ∧ y_2.snd.snd.fst ≤ y_2.snd.snd.fst + y_2.snd.snd.snd.fst ∧ ∀ (_ : Go.Addr), (∀ (_ : Nat), True) ∧ (∀ (_ : Nat), True) ∧ (dgs y_2.snd.snd.fst fun (i : Nat) => intsC (r64 y_2.snd.snd.snd.snd.fst (0 + i) 0)) ∧ y_2.snd.snd.fst ≤ 1000 ∧ (dgs x3 fun (i : Nat) => intsC (SC.val (Go.Value.int Go.IntKind.u64 (dg ((vn m fun (i : Nat) => intsC (SC.val (Go.Value.int Go.IntKind.u64 (h i)))) * vn 1 fun (i : Nat) => intsC (SC.val (Go.Value.int (Go.IntKind.u64, (↑y_2.snd.snd.snd.snd.snd.fst : Int)).fst (selG [SK.c (SC.val (Go.Value.int Go.IntKind.u64 (↑y_2.snd.snd.snd.snd.snd.fst : Int)))] i)))) i)))) ∧ x3 ≤ 1000 ∧ ((vn x3 fun (i : Nat) => dg ((vn m fun (i : Nat) => h i) * vn 1 fun (i : Nat) => (intsL [SK.c (SC.val (Go.Value.int Go.IntKind.u64 (↑y_2.snd.snd.snd.snd.snd.fst : Int)))]).getD i (0 : Int)) i) ≤ vn y_2.snd.snd.fst fun (i : Nat) => y_2.snd.snd.snd.snd.fst (0 + i)) ∧ ∀ (a_14 : Option Go.Addr) (cap : Nat), (a_14 = Option.none → y_2.snd.snd.fst = 0 ∧ cap = 0) → y_2.snd.snd.fst ≤ cap → ∃ (y' : Nat × (Nat → Int) × Option Go.Addr × Nat × Nat × (Nat → Int)), (P2 y'.fst y'.snd.fst y'.snd.snd.snd.fst y'.snd.snd.snd.snd.snd ∧ y'.fst ≤ n) ∧ (a = a ∧ n = n ∧ c = c ∧ ∀ (i : Nat), i < n → f i = f i) ∧ (b = b ∧ m = m ∧ d = d ∧ ∀ (i : Nat), i < m → h i = h i) ∧ (0 = 0 ∧ 1 = 1 ∧ 0 = 0 ∧ n = n ∧ n = n) ∧ (a_14 = y'.snd.snd.fst ∧ y_2.snd.snd.fst = y'.snd.snd.snd.fst ∧ cap = y'.snd.snd.snd.snd.fst ∧ ∀ (i : Nat), i < y_2.snd.snd.fst → dg ((vn y_2.snd.snd.fst fun (i : Nat) => y_2.snd.snd.snd.snd.fst (0 + i)) - vn x3 fun (i : Nat) => dg ((vn m fun (i : Nat) => h i) * vn 1 fun (i : Nat) => (intsL [SK.c (SC.val (Go.Value.int Go.IntKind.u64 (↑y_2.snd.snd.snd.snd.snd.fst : Int)))]).getD i (0 : Int)) i) i = y'.snd.snd.snd.snd.snd i) ∧ Go.IntKind.i64.wrap ((↑y_2.fst : Int) - (1 : Int) - (1 : Int)) = (↑y'.fst : Int) - (1 : Int) ∧ n = n ∧ 0 = 0 ∧ (∀ (i : Nat), i < n → (bif Decidable.decide (i = 0 + ((↑y_2.fst : Int) - (1 : Int)).toNat) then (↑y_2.snd.snd.snd.snd.snd.fst : Int) else y_2.snd.fst i) = y'.snd.fst i) ∧ y'.fst < y.fst)) ∧ (((0 : Int) ≤ (↑y.fst : Int) - (1 : Int) ∧ (↑y.fst : Int) - (1 : Int) < (↑n : Int)) ∧ ((∀ (_ : Nat), True) ∧ (dgs y.snd.snd.snd.fst fun (i : Nat) => intsC (SC.val (Go.Value.int Go.IntKind.u64 (y.snd.snd.snd.snd.snd i)))) ∧ y.snd.snd.snd.fst ≤ 1000 ∧ ∀ (a_4 : Option Go.Addr) (cap : Nat), (a_4 = Option.none → lenDg (vn y.snd.snd.snd.fst fun (i : Nat) => y.snd.snd.snd.snd.snd i) = 0 ∧ cap = 0) → lenDg (vn y.snd.snd.snd.fst fun (i : Nat) => y.snd.snd.snd.snd.snd i) ≤ cap → (1 ≤ 1 ∧ 1 ≤ Go.maxLen ∧ 1 = 1) ∧ (1 + lenDg (vn y.snd.snd.snd.fst fun (i : Nat) => y.snd.snd.snd.snd.snd i) ≤ Go.maxLen ∧ (1 + lenDg (vn y.snd.snd.snd.fst fun (i : Nat) => y.snd.snd.snd.snd.snd i)) * 8 ≤ 140737488355328) ∧ ∀ (c_1 : Nat), 1 + lenDg (vn y.snd.snd.snd.fst fun (i : Nat) => y.snd.snd.snd.snd.snd i) + c_1 ≤ Go.maxLen → ∃ (y_1 : Nat × (Nat → Int) × Nat × Nat × (Nat → Int)), ((Pc y_1.fst y_1.snd.fst y_1.snd.snd.fst y_1.snd.snd.snd.snd ∧ y_1.fst ≤ n) ∧ y_1.fst = y0.fst) ∧ (a = a ∧ n = n ∧ c = c ∧ ∀ (i : Nat), i < n → f i = f i) ∧ (b = b ∧ m = m ∧ d = d ∧ ∀ (i : Nat), i < m → h i = h i) ∧ (0 = 0 ∧ 1 = 1 ∧ 0 = 0 ∧ n = n ∧ n = n) ∧ ((match Bool.false with | Bool.true => 4 | Bool.false => [SO.row (22 : Go.TypeId) 1 n (r64 y.snd.fst) 0].length) = 1 ∧ 1 = 1 ∧ 0 = 0 ∧ 1 + lenDg (vn y.snd.snd.snd.fst fun (i : Nat) => y.snd.snd.snd.snd.snd i) = y_1.snd.snd.fst ∧ 1 + lenDg (vn y.snd.snd.snd.fst fun (i : Nat) => y.snd.snd.snd.snd.snd i) + c_1 = y_1.snd.snd.fst + y_1.snd.snd.snd.fst) ∧ (↑y.fst : Int) - (1 : Int) = (↑y_1.fst : Int) - (1 : Int) ∧ n = n ∧ 0 = 0 ∧ (∀ (i : Nat), i < n → y.snd.fst i = y_1.snd.fst i) ∧ 1 + lenDg (vn y.snd.snd.snd.fst fun (i : Nat) => y.snd.snd.snd.snd.snd i) = y_1.snd.snd.fst ∧ c_1 * 1 = y_1.snd.snd.snd.fst ∧ (∀ (i : Nat), i < 1 + lenDg (vn y.snd.snd.snd.fst fun (i : Nat) => y.snd.snd.snd.snd.snd i) → (bif Decidable.decide (i < 1) then f ((↑y.fst : Int) - (1 : Int)).toNat else dg (vn y.snd.snd.snd.fst fun (i : Nat) => y.snd.snd.snd.snd.snd i) (i - 1)) = y_1.snd.snd.snd.snd i) ∧ True) ∧ (∀ (_ : Nat), True) ∧ (dgs y.snd.snd.snd.fst fun (i : Nat) => intsC (SC.val (Go.Value.int Go.IntKind.u64 (y.snd.snd.snd.snd.snd i)))) ∧ y.snd.snd.snd.fst ≤ 1000 ∧ ∀ (a_4 : Option Go.Addr) (cap : Nat), (a_4 = Option.none → lenDg (vn y.snd.snd.snd.fst fun (i : Nat) => y.snd.snd.snd.snd.snd i) = 0 ∧ cap = 0) → lenDg (vn y.snd.snd.snd.fst fun (i : Nat) => y.snd.snd.snd.snd.snd i) ≤ cap → (1 ≤ 1 ∧ 1 ≤ Go.maxLen ∧ 1 = 1) ∧ (1 + lenDg (vn y.snd.snd.snd.fst fun (i : Nat) => y.snd.snd.snd.snd.snd i) ≤ Go.maxLen ∧ (1 + lenDg (vn y.snd.snd.snd.fst fun (i : Nat) => y.snd.snd.snd.snd.snd i)) * 8 ≤ 140737488355328) ∧ ∀ (c_1 : Nat), 1 + lenDg (vn y.snd.snd.snd.fst fun (i : Nat) => y.snd.snd.snd.snd.snd i) + c_1 ≤ Go.maxLen → ∃ (y_1 : Nat × (Nat → Int) × Nat × Nat × (Nat → Int)), ((Pc y_1.fst y_1.snd.fst y_1.snd.snd.fst y_1.snd.snd.snd.snd ∧ y_1.fst ≤ n) ∧ y_1.fst = y0.fst) ∧ (a = a ∧ n = n ∧ c = c ∧ ∀ (i : Nat), i < n → f i = f i) ∧ (b = b ∧ m = m ∧ d = d ∧ ∀ (i : Nat), i < m → h i = h i) ∧ (0 = 0 ∧ 1 = 1 ∧ 0 = 0 ∧ n = n ∧ n = n) ∧ ((match Bool.false with | Bool.true => 4 | Bool.false => [SO.row (22 : Go.TypeId) 1 n (r64 y.snd.fst) 0].length) = 1 ∧ 1 = 1 ∧ 0 = 0 ∧ 1 + lenDg (vn y.snd.snd.snd.fst fun (i : Nat) => y.snd.snd.snd.snd.snd i) = y_1.snd.snd.fst ∧ 1 + lenDg (vn y.snd.snd.snd.fst fun (i : Nat) => y.snd.snd.snd.snd.snd i) + c_1 = y_1.snd.snd.fst + y_1.snd.snd.snd.fst) ∧ (↑y.fst : Int) - (1 : Int) = (↑y_1.fst : Int) - (1 : Int) ∧ n = n ∧ 0 = 0 ∧ (∀ (i : Nat), i < n → y.snd.fst i = y_1.snd.fst i) ∧ 1 + lenDg (vn y.snd.snd.snd.fst fun (i : Nat) => y.snd.snd.snd.snd.snd i) = y_1.snd.snd.fst ∧ c_1 * 1 = y_1.snd.snd.snd.fst ∧ (∀ (i : Nat), i < 1 + lenDg (vn y.snd.snd.snd.fst fun (i : Nat) => y.snd.snd.snd.snd.snd i) → (bif Decidable.decide (i < 1) then f ((↑y.fst : Int) - (1 : Int)).toNat else dg (vn y.snd.snd.snd.fst fun (i : Nat) => y.snd.snd.snd.snd.snd i) (i - 1)) = y_1.snd.snd.snd.snd i) ∧ True) ∧ (∀ (_ : Nat), True) ∧ (dgs y.snd.snd.snd.fst fun (i : Nat) => intsC (SC.val (Go.Value.int Go.IntKind.u64 (y.snd.snd.snd.snd.snd i)))) ∧ y.snd.snd.snd.fst ≤ 1000 ∧ ∀ (a_4 : Option Go.Addr) (cap : Nat), (a_4 = Option.none → lenDg (vn y.snd.snd.snd.fst fun (i : Nat) => y.snd.snd.snd.snd.snd i) = 0 ∧ cap = 0) → lenDg (vn y.snd.snd.snd.fst fun (i : Nat) => y.snd.snd.snd.snd.snd i) ≤ cap → ((0 : Int) ≤ (↑y.fst : Int) - (1 : Int) ∧ (↑y.fst : Int) - (1 : Int) < (↑n : Int)) ∧ (1 ≤ 1 ∧ 1 ≤ Go.maxLen ∧ 1 = 1) ∧ (1 + lenDg (vn y.snd.snd.snd.fst fun (i : Nat) => y.snd.snd.snd.snd.snd i) ≤ Go.maxLen ∧ (1 + lenDg (vn y.snd.snd.snd.fst fun (i : Nat) => y.snd.snd.snd.snd.snd i)) * 8 ≤ 140737488355328) ∧ ∀ (c_1 : Nat), 1 + lenDg (vn y.snd.snd.snd.fst fun (i : Nat) => y.snd.snd.snd.snd.snd i) + c_1 ≤ Go.maxLen → ∃ (y_1 : Nat × (Nat → Int) × Nat × Nat × (Nat → Int)), ((Pc y_1.fst y_1.snd.fst y_1.snd.snd.fst y_1.snd.snd.snd.snd ∧ y_1.fst ≤ n) ∧ y_1.fst = y0.fst) ∧ (a = a ∧ n = n ∧ c = c ∧ ∀ (i : Nat), i < n → f i = f i) ∧ (b = b ∧ m = m ∧ d = d ∧ ∀ (i : Nat), i < m → h i = h i) ∧ (0 = 0 ∧ 1 = 1 ∧ 0 = 0 ∧ n = n ∧ n = n) ∧ ((match Bool.false with | Bool.true => 4 | Bool.false => [SO.row (22 : Go.TypeId) 1 n (r64 y.snd.fst) 0].length) = 1 ∧ 1 = 1 ∧ 0 = 0 ∧ 1 + lenDg (vn y.snd.snd.snd.fst fun (i : Nat) => y.snd.snd.snd.snd.snd i) = y_1.snd.snd.fst ∧ 1 + lenDg (vn y.snd.snd.snd.fst fun (i : Nat) => y.snd.snd.snd.snd.snd i) + c_1 = y_1.snd.snd.fst + y_1.snd.snd.snd.fst) ∧ (↑y.fst : Int) - (1 : Int) = (↑y_1.fst : Int) - (1 : Int) ∧ n = n ∧ 0 = 0 ∧ (∀ (i : Nat), i < n → y.snd.fst i = y_1.snd.fst i) ∧ 1 + lenDg (vn y.snd.snd.snd.fst fun (i : Nat) => y.snd.snd.snd.snd.snd i) = y_1.snd.snd.fst ∧ c_1 * 1 = y_1.snd.snd.snd.fst ∧ (∀ (i : Nat), i < 1 + lenDg (vn y.snd.snd.snd.fst fun (i : Nat) => y.snd.snd.snd.snd.snd i) → (bif Decidable.decide (i < 1) then f ((↑y.fst : Int) - (1 : Int)).toNat else dg (vn y.snd.snd.snd.fst fun (i : Nat) => y.snd.snd.snd.snd.snd i) (i - 1)) = y_1.snd.snd.snd.snd i) ∧ True) ∧ (Decidable.decide ((↑y.fst : Int) - (1 : Int) ≥ (0 : Int)) = Bool.false → (0 + n ≤ n ∧ n = n ∧ n ≤ n ∧ ∀ (i : Nat), i < n → y.snd.fst (0 + i) = q i) ∧ y.snd.snd.snd.fst = k ∧ ∀ (i : Nat), i < k → y.snd.snd.snd.snd.snd i = r i))) := by kernel_rfl
end Go.Proofs.Ytjpddnjgbgpegaa
end

section
namespace Go.Proofs.Ytjpddnjgbgpegaa
open Go Go.Sx Go.RowKit
theorem vn_one (z : Int) : vn 1 (fun i => (intsL [SK.c (SC.val (Value.int IntKind.u64 z))]).getD i 0) = z.toNat := by
  simp [vn, vz, intsL, intsC, asI]
theorem dgs_one {z : Int} (hz : 0 ≤ z ∧ z < 4294967296) : dgs 1 fun i => intsC (SC.val (Value.int IntKind.u64 (selG [SK.c (SC.val (Value.int IntKind.u64 z))] i))) := ⟨fun i hi => by
  have : i = 0 := by omega
  subst this
  exact hz⟩
def dvdC (n : Nat) (f : Nat → Int) (m : Nat) (h : Nat → Int) : List Prop := [dgs n f, n ≤ 1000, dgs m h, m ≤ 900, vn m h ≠ 0]
def dvdR (n : Nat) (f : Nat → Int) (m : Nat) (h : Nat → Int) : List RS := [.s n .u64 (dg (vn n f / vn m h)), .s (remL (vn n f) (vn m h) n) .u64 (dg (vn n f % vn m h))]
theorem cmpI_le {A R : Nat} : cmpI A R ≤ 0 ↔ A ≤ R := by
  unfold cmpI
  by_cases h : A < R
  · rw [if_pos h]; omega
  · rw [if_neg h]
    by_cases k : R < A
    · rw [if_pos k]; omega
    · rw [if_neg k]; omega
theorem vn_prod {Y z m : Nat} (hY : Y < 4294967296 ^ m) (hz : z < 4294967296) : vn (m + 1) (fun i => dg (Y * z) i) = Y * z := by
  refine vn_dg' ?_
  rw [Nat.pow_succ]
  exact Nat.lt_of_le_of_lt (Nat.mul_le_mul_left Y (show z ≤ 4294967296 by omega)) (Nat.mul_lt_mul_of_pos_right hY (by decide))
theorem ok_divided (a : Option Addr) (n c : Nat) (f : Nat → Int) (b : Option Addr) (m d : Nat) (h : Nat → Int) (hf : dgs n f) (hn : n ≤ 1000) (hh : dgs m h) (hm : m ≤ 900) (h0 : vn m h ≠ 0) :
    OwesR Try.prog cxR slDg [(6, .inv (invD1 a n c f b m d h (D1P (vn n f) (vn m h) n))), (13, .inv (invD2 a n c f b m d h (D2P (vn n f) (vn m h) n))), (15, .cut (cutD a n c f b m d h (DcP (vn n f) (vn m h) n)) (fun y z => z.1 = y.1)), (17, .invR (invD3 a n c f b m d h (D3P (vn n f) (vn m h) n)) (fun y z => z.1 = y.1))] 4 Try.f40 [xsI a n c .u64 f, xsI b m d .u64 h] true (dvdR n f m h) := by
  unfold dvdR
  rw [vc_divided]
  have hfi : ∀ i, i < n → f i = dg (vn n f) i := fun i hi => dg_in hf hi
  have hX := vn_lt hf
  have hXr := dg_range (vn n f)
  have hYm := vn_lt hh
  rw [show (fun i => h i) = h from rfl]
  generalize vn n f = X at *
  generalize vn m h = Y at *
  have hY : 0 < Y := by omega
  have hL := maxLen_eq
  have AA : (a = a ∧ n = n ∧ c = c ∧ ∀ i, i < n → f i = f i) := ⟨rfl, rfl, rfl, fun _ _ => rfl⟩
  have BB : (b = b ∧ m = m ∧ d = d ∧ ∀ i, i < m → h i = h i) := ⟨rfl, rfl, rfl, fun _ _ => rfl⟩
  have NN : ((0 : Int) ≤ (n : Int) ∧ (n : Int) ≤ (n : Int) ∧ 8 * (n : Int) ≤ 281474976710656 ∧ (n : Int) ≤ 9223372036854775807) := by omega
  have En : ((n : Int)).toNat = n := Int.toNat_natCast n
  intro x1 x2 x3
  have E1 : x1 = dg Y 0 := rfl
  have E2 : x2 = 0 := by simp only [x2]; rw [Nat.sub_self, Nat.zero_mul]
  have E3 : x3 = m + 1 := rfl
  clear_value x1 x2 x3
  subst E1 E2 E3
  refine ⟨fun _ => trivial, hh, by omega, fun h1 => ⟨NN, fun y => rfl, (n, fun _ => 0, 0), ⟨D1P.start hX _, Nat.le_refl _⟩, AA, ⟨rfl, rfl, rfl, En, En⟩, rfl, rfl, wrapi (by omega), En, rfl, fun _ _ => rfl, fun ⟨i, q, l⟩ ⟨hP, hi⟩ => ⟨fun h2 => ?_, fun h2 => ?_⟩⟩, fun h1 => ⟨NN, fun y => rfl, (n, fun _ => 0, none, 0, 0, fun _ => 0), ⟨D2P.start hX _, Nat.le_refl _⟩, AA, BB, ⟨rfl, rfl, rfl, En, En⟩, rfl, rfl, rfl, wrapi (by omega), En, rfl, fun _ _ => rfl, fun ⟨i, q, ra, rn, rc, rf⟩ ⟨hP, hi⟩ => ⟨fun h2 => ?_, fun h2 => ?_⟩⟩⟩
  · have hYs : Y < 4294967296 := of_decide_eq_true h1
    have hP : D1P X Y n i q l := hP
    have hi : i ≤ n := hi
    have h2 : (i : Int) - 1 ≥ 0 := of_decide_eq_true h2
    obtain ⟨k, rfl⟩ : ∃ k, i = k + 1 := ⟨i - 1, by omega⟩
    have Ek : (((k + 1 : Nat) : Int) - 1).toNat = k := by omega
    have Ey : dg Y 0 = (Y : Int) := by
      unfold dg
      rw [Nat.pow_zero, Nat.div_one, Nat.mod_eq_of_lt hYs]
    have A : (0 : Int) ≤ ((k + 1 : Nat) : Int) - 1 ∧ ((k + 1 : Nat) : Int) - 1 < (n : Int) := by omega
    have xr := hXr k
    have hl := hP.left
    have hlt : X / 4294967296 ^ (k + 1) % Y < 4294967296 := Nat.lt_trans (Nat.mod_lt _ hY) hYs
    have T : IntKind.u64.wrap (IntKind.u64.wrap (l * 4294967296) + f (((k + 1 : Nat) : Int) - 1).toNat) = l * 4294967296 + dg X k := by
      rw [Ek, hfi k (by omega), wrap64 (x := l * 4294967296) (by omega), wrap64 (by omega)]
    have h64 : 0 ≤ l * 4294967296 + dg X k ∧ l * 4294967296 + dg X k < 18446744073709551616 := by omega
    have Q := hP.step hY rfl (q' := fun j => if j = k then (l * 4294967296 + dg X k) / (Y : Int) else q j) (fun _ _ => rfl)
    have Ed : IntKind.u64.wrap ((l * 4294967296 + dg X k).tdiv (Y : Int)) = (l * 4294967296 + dg X k) / (Y : Int) := by
      rw [Int.tdiv_eq_ediv_of_nonneg h64.1]
      have a1 : 0 ≤ (l * 4294967296 + dg X k) / (Y : Int) := Int.ediv_nonneg h64.1 (by omega)
      have a2 : (l * 4294967296 + dg X k) / (Y : Int) ≤ l * 4294967296 + dg X k := Int.ediv_le_self _ h64.1
      exact wrap64 (by omega)
    have Em : (l * 4294967296 + dg X k).tmod (Y : Int) = (l * 4294967296 + dg X k) % (Y : Int) := Int.tmod_eq_emod_of_nonneg h64.1
    refine ⟨A, by rw [Ey]; omega, by rw [Ey]; omega, A, by omega, (k, _, _), ⟨?_, by show k ≤ n; omega⟩, AA, ⟨rfl, rfl, rfl, rfl, rfl⟩, rfl, rfl, ?_, rfl, rfl, fun _ _ => rfl, by show k < k + 1; omega⟩
    · show D1P X Y n k (fun j => bif decide (j = 0 + (((k + 1 : Nat) : Int) - 1).toNat) then IntKind.u64.wrap ((IntKind.u64.wrap (IntKind.u64.wrap (l * 4294967296) + f (((k + 1 : Nat) : Int) - 1).toNat)).tdiv (dg Y 0)) else q j) ((IntKind.u64.wrap (IntKind.u64.wrap (l * 4294967296) + f (((k + 1 : Nat) : Int) - 1).toNat)).tmod (dg Y 0))
      rw [T, Ey, Ed, Em, Ek, Nat.zero_add]
      have e5 : (fun j => bif decide (j = k) then (l * 4294967296 + dg X k) / (Y : Int) else q j) = fun j => if j = k then (l * 4294967296 + dg X k) / (Y : Int) else q j := by
        funext j
        by_cases e : j = k <;> simp [e]
      rw [e5]
      exact Q
    · show IntKind.i64.wrap (((k + 1 : Nat) : Int) - 1 - 1) = (k : Int) - 1
      rw [wrapi (by omega)]; omega
  · have hYs : Y < 4294967296 := of_decide_eq_true h1
    have hP : D1P X Y n i q l := hP
    have h2 : ¬ (i : Int) - 1 ≥ 0 := of_decide_eq_false h2
    have : i = 0 := by omega
    subst this
    refine ⟨⟨by omega, rfl, Nat.le_refl _, fun j hj => ?_⟩, ?_, Nat.le_refl _, fun j hj => ?_⟩
    · show q (0 + j) = _
      rw [Nat.zero_add]
      exact hP.qs j (Nat.zero_le _) hj
    · unfold remL; rw [if_pos hYs]
    · have hj : j < remL X Y n := hj
      unfold remL at hj
      rw [if_pos hYs] at hj
      have : j = 0 := by omega
      subst this
      show l = _
      rw [hP.left]
      unfold dg
      rw [Nat.pow_zero, Nat.div_one, Nat.div_one, Nat.mod_eq_of_lt (Nat.lt_trans (Nat.mod_lt _ hY) hYs)]
  · have hP : D2P X Y n i q rn rf := hP
    have hi : i ≤ n := hi
    have h2 : (i : Int) - 1 ≥ 0 := of_decide_eq_true h2
    obtain ⟨k, rfl⟩ : ∃ k, i = k + 1 := ⟨i - 1, by omega⟩
    have Ek : (((k + 1 : Nat) : Int) - 1).toNat = k := by omega
    have A : (0 : Int) ≤ ((k + 1 : Nat) : Int) - 1 ∧ ((k + 1 : Nat) : Int) - 1 < (n : Int) := by omega
    have hlm : lenDg (X / 4294967296 ^ (k + 1) % Y) ≤ m := lenDg_le (Nat.lt_trans (Nat.mod_lt _ hY) hYm)
    refine ⟨fun y => rfl, (k + 1, q, 0, 0, fun _ => 0), fun ⟨i1, q1, rn1, sp1, rf1⟩ ⟨hC, hi1⟩ e1 => ⟨fun y => rfl, (k + 1, q1, rn1, sp1, rf1, 0, 4294967296), ⟨⟨?_, hi⟩, rfl⟩, AA, BB, ⟨rfl, rfl, rfl, rfl, rfl⟩, ⟨rfl, rfl, rfl, rfl, rfl⟩, ?_, rfl, rfl, rfl, rfl, fun _ _ => rfl, rfl, rfl, fun _ _ => rfl, fun ⟨i2, q2, rn2, sp2, rf2, lo, hi2⟩ ⟨hQ, hi2n⟩ e2 => ⟨fun h3 => ?_, fun h3 => ?_⟩⟩, ?_⟩
    · have e1 : i1 = k + 1 := e1
      subst e1
      exact DcP.seek hC hY
    · have e1 : i1 = k + 1 := e1
      subst e1
      rfl
    · have e2 : i2 = k + 1 := e2
      subst e2
      have hQ : D3P X Y n (k + 1) q2 rn2 rf2 lo hi2 := hQ
      have ht := hQ.top
      have hlt := hQ.lt
      have hr2 : rn2 ≤ 1000 := by have := hQ.at'.len; omega
      have E4 : IntKind.u64.wrap ((hi2 : Int) - (lo : Int)) = ((hi2 - lo : Nat) : Int) := by rw [wrap64 (by omega)]; omega
      have h3 : IntKind.u64.wrap ((hi2 : Int) - (lo : Int)) > 1 := of_decide_eq_true h3
      rw [E4] at h3
      have EZ : IntKind.u64.wrap ((IntKind.u64.wrap ((lo : Int) + (hi2 : Int))).tdiv 2) = (((lo + hi2) / 2 : Nat) : Int) := by
        rw [wrap64 (x := (lo : Int) + (hi2 : Int)) (by omega), Int.tdiv_eq_ediv_of_nonneg (by omega), wrap64 (by omega)]
        omega
      have hmid : (lo + hi2) / 2 < 4294967296 := by omega
      have E0 : (fun i => rf2 (0 + i)) = rf2 := by funext i; rw [Nat.zero_add]
      refine ⟨Nat.le_refl _, fun a8 => ⟨fun _ => trivial, fun _ => trivial, hh, by omega, dgs_one (by rw [EZ]; omega), by decide, fun a9 cap _ _ => ⟨by show 0 + rn2 ≤ rn2; omega, Nat.le_add_right _ _, fun a12 => ⟨fun _ => trivial, fun _ => trivial, dgs_dg _ _, by omega, ?_, hr2, fun h4 => ?_, fun h4 => ?_⟩⟩⟩⟩
      · show dgs rn2 fun i => rf2 (0 + i)
        rw [E0]
        exact hQ.at'.ds
      all_goals
        have h4' := h4
        simp only [EZ, vn_one, Int.toNat_natCast, vn_prod hYm hmid, E0] at h4'
      · have h4' := cmpI_le.1 (of_decide_eq_true h4')
        refine ⟨(k + 1, q2, rn2, sp2, rf2, (lo + hi2) / 2, hi2), ⟨⟨hQ.low (by omega) h4', hi⟩, rfl⟩, AA, BB, ⟨rfl, rfl, rfl, rfl, rfl⟩, ⟨rfl, rfl, rfl, rfl, rfl⟩, rfl, EZ, rfl, rfl, rfl, fun _ _ => rfl, rfl, rfl, fun _ _ => rfl, ?_⟩
        show hi2 - (lo + hi2) / 2 < hi2 - lo
        omega
      · have h4' := fun e => of_decide_eq_false h4' (cmpI_le.2 e)
        refine ⟨(k + 1, q2, rn2, sp2, rf2, lo, (lo + hi2) / 2), ⟨⟨hQ.high (by omega) h4', hi⟩, rfl⟩, AA, BB, ⟨rfl, rfl, rfl, rfl, rfl⟩, ⟨rfl, rfl, rfl, rfl, rfl⟩, rfl, rfl, EZ, rfl, rfl, fun _ _ => rfl, rfl, rfl, fun _ _ => rfl, ?_⟩
        show (lo + hi2) / 2 - lo < hi2 - lo
        omega
    · have e2 : i2 = k + 1 := e2
      subst e2
      have hQ : D3P X Y n (k + 1) q2 rn2 rf2 lo hi2 := hQ
      have ht := hQ.top
      have hlt := hQ.lt
      have hr2 : rn2 ≤ 1000 := by have := hQ.at'.len; omega
      have E4 : IntKind.u64.wrap ((hi2 : Int) - (lo : Int)) = ((hi2 - lo : Nat) : Int) := by rw [wrap64 (by omega)]; omega
      have h3 : ¬ IntKind.u64.wrap ((hi2 : Int) - (lo : Int)) > 1 := of_decide_eq_false h3
      rw [E4] at h3
      have hlo : lo < 4294967296 := by omega
      have E0 : (fun i => rf2 (0 + i)) = rf2 := by funext i; rw [Nat.zero_add]
      have D0 : dgs rn2 fun i => rf2 (0 + i) := by rw [E0]; exact hQ.at'.ds
      refine ⟨A, by show 0 + (((k + 1 : Nat) : Int) - 1).toNat < n; omega, Nat.le_refl _, fun a8 => ⟨fun _ => trivial, fun _ => trivial, hh, by omega, dgs_one (z := (lo : Int)) (by omega), by decide, fun a9 cap _ _ => ⟨by show 0 + rn2 ≤ rn2; omega, Nat.le_add_right _ _, fun a12 => ⟨fun _ => trivial, fun _ => trivial, D0, hr2, dgs_dg _ _, by omega, ?_, fun a13 cap' _ _ => ⟨(k, _, a13, rn2, cap', _), ⟨?_, by show k ≤ n; omega⟩, AA, BB, ⟨rfl, rfl, rfl, rfl, rfl⟩, ⟨rfl, rfl, rfl, fun _ _ => rfl⟩, ?_, rfl, rfl, fun _ _ => rfl, by show k < k + 1; omega⟩⟩⟩⟩⟩
      · show vn (m + 1) (fun i => dg (Y * vn 1 fun i => (intsL [SK.c (SC.val (Value.int IntKind.u64 (lo : Int)))]).getD i 0) i) ≤ vn rn2 fun i => rf2 (0 + i)
        rw [vn_one, Int.toNat_natCast, vn_prod hYm hlo, E0]
        exact hQ.below
      · refine D3P.found hQ (by omega) hY hi (fun j hj => ?_) fun j hj => ?_
        · show (bif decide (j = 0 + (((k + 1 : Nat) : Int) - 1).toNat) then (lo : Int) else q2 j) = _
          rw [Ek, Nat.zero_add]
          by_cases e : j = k <;> simp [e]
        · show dg ((vn rn2 fun i => rf2 (0 + i)) - vn (m + 1) fun i => dg (Y * vn 1 fun i => (intsL [SK.c (SC.val (Value.int IntKind.u64 (lo : Int)))]).getD i 0) i) j = _
          rw [vn_one, Int.toNat_natCast, vn_prod hYm hlo, E0]
      · show IntKind.i64.wrap (((k + 1 : Nat) : Int) - 1 - 1) = (k : Int) - 1
        rw [wrapi (by omega)]; omega
    · have hrn : rn ≤ 1000 := by
        rw [hP.len]
        split
        · omega
        · have : lenDg (X / 4294967296 ^ (k + 1 + 1) % Y) ≤ m := lenDg_le (Nat.lt_trans (Nat.mod_lt _ hY) hYm)
          omega
      have hle : lenDg (vn rn rf) ≤ m := by rw [hP.left]; exact hlm
      have C1 : (1 : Nat) ≤ 1 ∧ 1 ≤ maxLen ∧ 1 = 1 := ⟨Nat.le_refl _, by omega, rfl⟩
      have C2 : 1 + lenDg (vn rn rf) ≤ maxLen ∧ (1 + lenDg (vn rn rf)) * 8 ≤ 140737488355328 := by omega
      have T : ∀ i : Nat, True := fun _ => trivial
      have fin : ∀ c1 : Nat, 1 + lenDg (vn rn rf) + c1 ≤ maxLen → ∃ y1 : Nat × (Nat → Int) × Nat × Nat × (Nat → Int), ((DcP X Y n y1.1 y1.2.1 y1.2.2.1 y1.2.2.2.2 ∧ y1.1 ≤ n) ∧ y1.1 = k + 1) ∧ (a = a ∧ n = n ∧ c = c ∧ ∀ i, i < n → f i = f i) ∧ (b = b ∧ m = m ∧ d = d ∧ ∀ i, i < m → h i = h i) ∧ (0 = 0 ∧ 1 = 1 ∧ 0 = 0 ∧ n = n ∧ n = n) ∧ (1 = 1 ∧ 1 = 1 ∧ 0 = 0 ∧ 1 + lenDg (vn rn rf) = y1.2.2.1 ∧ 1 + lenDg (vn rn rf) + c1 = y1.2.2.1 + y1.2.2.2.1) ∧ ((k + 1 : Nat) : Int) - 1 = (y1.1 : Int) - 1 ∧ n = n ∧ 0 = 0 ∧ (∀ i, i < n → q i = y1.2.1 i) ∧ 1 + lenDg (vn rn rf) = y1.2.2.1 ∧ c1 * 1 = y1.2.2.2.1 ∧ (∀ i, i < 1 + lenDg (vn rn rf) → (bif decide (i < 1) then f (((k + 1 : Nat) : Int) - 1).toNat else dg (vn rn rf) (i - 1)) = y1.2.2.2.2 i) ∧ True := by
        intro c1 _
        refine ⟨(k + 1, q, 1 + lenDg (vn rn rf), c1, fun i => bif decide (i < 1) then f (((k + 1 : Nat) : Int) - 1).toNat else dg (vn rn rf) (i - 1)), ⟨⟨?_, hi⟩, rfl⟩, AA, BB, ⟨rfl, rfl, rfl, rfl, rfl⟩, ⟨rfl, rfl, rfl, rfl, rfl⟩, rfl, rfl, rfl, fun _ _ => rfl, rfl, Nat.mul_one _, fun _ _ => rfl, trivial⟩
        refine hP.next fun i _ => ?_
        rw [Ek, hfi k (by omega)]
      have F : ((1 : Nat) ≤ 1 ∧ 1 ≤ maxLen ∧ 1 = 1) ∧ (1 + lenDg (vn rn rf) ≤ maxLen ∧ (1 + lenDg (vn rn rf)) * 8 ≤ 140737488355328) ∧ _ := ⟨C1, C2, fin⟩
      have hds := hP.ds
      clear hP
      repeat' (first | exact A | exact T | exact hds | exact hrn | exact F | (intro _ _ _ _) | (refine And.intro ?_ ?_))
  · have hYs : ¬ Y < 4294967296 := of_decide_eq_false h1
    have hP : D2P X Y n i q rn rf := hP
    have h2 : ¬ (i : Int) - 1 ≥ 0 := of_decide_eq_false h2
    have : i = 0 := by omega
    subst this
    refine ⟨⟨by omega, rfl, Nat.le_refl _, fun j hj => ?_⟩, ?_, fun j hj => ?_⟩
    · show q (0 + j) = _
      rw [Nat.zero_add]
      exact hP.qs j (Nat.zero_le _) hj
    · show rn = _
      rw [hP.len]
      unfold remL
      rw [if_neg hYs]
      by_cases e : n = 0
      · rw [if_pos e.symm, if_pos e]
      · rw [if_neg (fun k => e k.symm), if_neg e, Nat.zero_add, Nat.pow_one]
    · show rf j = _
      have hl := hP.left
      rw [Nat.pow_zero, Nat.div_one] at hl
      have hj : j < remL X Y n := hj
      have hrn : rn = remL X Y n := by
        rw [hP.len]
        unfold remL
        rw [if_neg hYs]
        by_cases e : n = 0
        · rw [if_pos e.symm, if_pos e]
        · rw [if_neg (fun k => e k.symm), if_neg e, Nat.zero_add, Nat.pow_one]
      rw [← hl]
      exact dg_in hP.ds (by omega)
end Go.Proofs.Ytjpddnjgbgpegaa
end

section
namespace Go.Sx
open Go.RowKit
end Go.Sx
end

section
namespace Go.Sx
open Go.RowKit
section
variable {P : Program} {cx : Cx} {sl : List (Nat × SSpec)} {f : Nat} {fn : Func}
theorem FnOKV_UU (hcx : CxOK P cx) (hsl : ∀ p ∈ sl, FnOKs P cx.gl p.1 p.2) (hf : P.funcs[f]? = some fn) (hb : fn.body.isSome = true) (hn : (fn.name == "runtime.NumGoroutine") = false) {g : Nat → Nat → SV} {iv : Nat → Nat → List (Nat × Hint)} {N : Nat} (hg : ∀ a b, (g a b).bnd none0)
    (h : ∀ a b, OwesV P cx sl (iv a b) N fn [sU a, sU b] (g a b)) : FnOKg P cx.gl f (specUU g) := by
  refine FnOK_owesV hcx hsl hf hb hn fun args ps sv hs hp => ?_
  unfold specUU at hs
  split at hs
  case h_2 => cases hs
  rename_i x y
  split at hs
  case h_2 => cases hs
  rename_i p a q b ha hb'
  simp only [Option.some.injEq, Prod.mk.injEq] at hs
  obtain ⟨rfl, rfl⟩ := hs
  obtain ⟨o1, o2⟩ := Ok.append.1 hp
  refine ⟨iv a b, N, [sU a, sU b], fun ρ => by simp only [List.map_cons, List.map_nil, asU_canon ha o1 ρ, asU_canon hb' o2 ρ], fun fz _ z hz => ?_, hg a b, h a b⟩
  simp only [List.mem_cons, List.not_mem_nil, or_false] at hz
  rcases hz with rfl | rfl
  · exact bnd_Un a
  · exact bnd_Un b
end
end Go.Sx
end

section
namespace Go.Proofs.Ytjpddnjgbgpegaa
open Go Go.Sx Go.RowKit
theorem cx_none : CxOK Try.prog .none := ⟨fun p hp => (by cases hp), fun p hp => (by cases hp)⟩
theorem cx_R : CxOK Try.prog cxR := by
  refine ⟨fun p hp => ?_, fun p hp => (by cases hp)⟩
  simp only [cxR, markR, List.mem_cons, List.not_mem_nil, or_false] at hp
  subst hp
  exact fun args ps sv hs => by cases hs
theorem sl_nil : ∀ p ∈ ([] : List (Nat × SSpec)), FnOKs Try.prog [] p.1 p.2 := fun p hp => by cases hp
theorem closed_s {n : Nat} {g : Nat → Int} : ∀ x ∈ [RS.s n .u64 g], x.closed := fun x hx => by
  simp only [List.mem_singleton] at hx
  subst hx
  trivial
theorem card_dOf : FnOKs Try.prog [] 30 (specUR ofR) :=
  FnOKs_UR (iv := fun _ => []) cx_none sl_nil Try.func30 (by kernel_rfl) (by kernel_rfl) (fun _ => closed_s) ok_dOf
theorem card_dPlus : FnOKs Try.prog [] 51 (specDD false dg2C plusR) :=
  FnOKs_DD (iv := fun a n c f b m d h => [(4, .inv1 (invPlus a n c f b m d h (PlusP (vn n f) (vn m h))))]) cx_R sl_nil Try.func51 (by kernel_rfl) (by kernel_rfl) (fun _ _ _ _ => closed_s) fun a n c f b m d h ⟨h1, h2, h3, h4, _⟩ => ok_dPlus a n c f b m d h h1 h2 h3 h4
theorem card_dTimes : FnOKs Try.prog [] 29 (specDD false dg2C timesR) :=
  FnOKs_DD (iv := fun a n c f b m d h => [(3, .inv (invTi a n c f b m d h (TimesP (vn n f) (vn m h) n m))), (7, .invR (invTj a n c f b m d h (TimesQ (vn n f) (vn m h) n m)) fun y z => z.1 = y.1)]) cx_R sl_nil Try.func29 (by kernel_rfl) (by kernel_rfl) (fun _ _ _ _ => closed_s) fun a n c f b m d h ⟨h1, h2, h3, h4, _⟩ => ok_dTimes a n c f b m d h h1 h2 h3 h4
theorem card_dCompare : FnOKs Try.prog [] 53 (specDD false dg2C cmpR) :=
  FnOKs_DD (iv := fun a n c f b m d h => [(2, .inv (invCmp a n c f b m d h fun k => vn n f / 4294967296 ^ k = vn m h / 4294967296 ^ k))]) cx_R sl_nil Try.func53 (by kernel_rfl) (by kernel_rfl) (fun _ _ _ _ x hx => by simp only [cmpR, List.mem_singleton] at hx; subst hx; trivial) fun a n c f b m d h ⟨h1, h2, h3, h4, _⟩ => ok_compare a n c f b m d h h1 h2 h3 h4
theorem card_dLess : FnOKs Try.prog [] 54 (specDD false lessC lessR) :=
  FnOKs_DD (iv := fun a n c f b m d h => [(4, .inv (invLess b m d h n (LessP (vn n f) (vn m h) n)))]) cx_R sl_nil Try.func54 (by kernel_rfl) (by kernel_rfl) (fun _ _ _ _ => closed_s) fun a n c f b m d h ⟨h1, h2, h3, h4, h5, _⟩ => ok_dLess a n c f b m d h h1 h2 h3 h4 h5
theorem card_dShorn : FnOKs Try.prog [] 50 (specD true dgsC shornR) :=
  FnOKs_D (iv := fun a n c f => [(1, .inv (invShorn f fun k => k ≤ n ∧ vn n f < 4294967296 ^ k))]) cx_R sl_nil Try.func50 (by kernel_rfl) (by kernel_rfl) (fun _ _ => closed_s) fun a n c f ⟨h1, h2, _⟩ => ok_shorn a n c f h1 h2
theorem sl_shorn : ∀ p ∈ slShorn, FnOKs Try.prog [] p.1 p.2 := fun p hp => by
  simp only [slShorn, List.mem_cons, List.not_mem_nil, or_false] at hp
  subst hp
  exact card_dShorn
theorem card_dSmall : FnOKs Try.prog [] 52 (specD false dgsC smallR) :=
  FnOKs_D (iv := fun _ _ _ _ => []) cx_R sl_shorn Try.func52 (by kernel_rfl) (by kernel_rfl) (fun _ _ x hx => by simp only [smallR, List.mem_cons, List.not_mem_nil, or_false] at hx; rcases hx with rfl | rfl <;> trivial) fun a n c f ⟨h1, h2, _⟩ => ok_small a n c f h1 h2
theorem card_dWide : FnOKs Try.prog [] 28 (specD false dgsC wideR) :=
  FnOKs_D (iv := fun a n c f => [(4, .inv (invWide a n c f (fun y => vn n f % 4294967296 ^ min y 8) (fun y => decide (M256 ≤ vn n f % 4294967296 ^ y))))]) cx_R sl_nil Try.func28 (by kernel_rfl) (by kernel_rfl) (fun _ _ x hx => by
    simp only [wideR, List.mem_cons, List.not_mem_nil, or_false] at hx
    rcases hx with rfl | rfl
    · exact bnd_Un _
    · trivial) fun a n c f ⟨h1, h2, _⟩ => ok_wide a n c f h1 h2
theorem sl_wide : ∀ p ∈ slWide, FnOKs Try.prog [] p.1 p.2 := fun p hp => by
  simp only [slWide, List.mem_cons, List.not_mem_nil, or_false] at hp
  subst hp
  exact card_dWide
theorem card_dCut : FnOKs Try.prog [] 41 (specD false dgsC cutR) :=
  FnOKs_D (iv := fun _ _ _ _ => []) cx_R sl_wide Try.func41 (by kernel_rfl) (by kernel_rfl) (fun _ _ x hx => by simp only [cutR, List.mem_singleton] at hx; subst hx; exact bnd_Un _) fun a n c f ⟨h1, h2, _⟩ => ok_cut a n c f h1 h2
theorem sl_dg : ∀ p ∈ slDg, FnOKs Try.prog [] p.1 p.2 := fun p hp => by
  simp only [slDg, List.mem_cons, List.not_mem_nil, or_false] at hp
  rcases hp with rfl | rfl | rfl | rfl | rfl | rfl | rfl | rfl | rfl
  · exact card_dOf
  · exact card_dPlus
  · exact card_dTimes
  · exact card_dCompare
  · exact card_dLess
  · exact card_dShorn
  · exact card_dSmall
  · exact card_dWide
  · exact card_dCut
theorem card_dDivided : FnOKs Try.prog [] 40 (specDD true dvdC dvdR) :=
  FnOKs_DD (iv := fun a n c f b m d h => [(6, .inv (invD1 a n c f b m d h (D1P (vn n f) (vn m h) n))), (13, .inv (invD2 a n c f b m d h (D2P (vn n f) (vn m h) n))), (15, .cut (cutD a n c f b m d h (DcP (vn n f) (vn m h) n)) (fun y z => z.1 = y.1)), (17, .invR (invD3 a n c f b m d h (D3P (vn n f) (vn m h) n)) (fun y z => z.1 = y.1))]) cx_R sl_dg Try.func40 (by kernel_rfl) (by kernel_rfl) (fun _ _ _ _ x hx => by simp only [dvdR, List.mem_cons, List.not_mem_nil, or_false] at hx; rcases hx with rfl | rfl <;> trivial) fun a n c f b m d h ⟨h1, h2, h3, h4, h5, _⟩ => ok_divided a n c f b m d h h1 h2 h3 h4 h5
def slAll : List (Nat × SSpec) := (40, specDD true dvdC dvdR) :: slDg
theorem sl_all : ∀ p ∈ slAll, FnOKs Try.prog [] p.1 p.2 := fun p hp => by
  rcases List.mem_cons.1 hp with rfl | hp
  · exact card_dDivided
  · exact sl_dg p hp
end Go.Proofs.Ytjpddnjgbgpegaa
end
