/-
  Texts: P147.
-/
import Derived.Test.YtgjjpffaofdpiaaM1
import Derived.Test.YtgjjpffaofdpiaaM2
import Derived.Test.YtgjjpffaofdpiaaM3
import Derived.Test.YtgjjpffaofdpiaaM4
import Derived.Test.YtgjjpffaofdpiaaM5
import Derived.Test.YtgjjpffaofdpiaaM6
import Derived.Test.YtgjjpffaofdpiaaM7
import Derived.Test.YtgjjpffaofdpiaaM8
import Derived.Test.YtgjjpffaofdpiaaM9
import Derived.Test.YtgjjpffaofdpiaaM10
section
namespace Go.Proofs.Ytgjjpffaofdpiaa
open Go.Sx
theorem formE_ok {n : Nat} {f : Nat → Int} (h : formE n f = 0) (hb : ∀ i, i < n → 0 ≤ f i ∧ f i < 256) : 6 ≤ n ∧ f 0 = 1 ∧ (0 ≤ f 5 ∧ f 5 ≤ 19) ∧ 6 + 66 * f 5 + 55 ≤ n := by
  unfold formE at h
  split at h
  · cases h
  · split at h
    · cases h
    · split at h
      · cases h
      · split at h
        · cases h
        · split at h
          · cases h
          · have := hb 5 (by omega)
            exact ⟨by omega, by omega, by omega, by omega⟩
theorem ok_lkf (a : Option Addr) (n cap : Nat) (k : Nat → Nat → Int) (hk : ∀ i, i < n → 0 ≤ k i 0 ∧ k i 0 < 256) :
    OwesR Try.prog Cx.none [] [] 10 Try.f31 [sXb a n cap k] false [.v (sI .i64 (formE n (fun i => k i 0)))] := by
  rw [vc_lkf]
  simp only [eq_self, implies_true, and_self, true_and, and_true]
  unfold formE
  refine ⟨fun h => ?_, fun h => ⟨?_, fun h2 => ?_, fun h2 => ⟨fun h3 => ?_, fun h3 => ⟨?_, ?_⟩⟩⟩⟩
  · rw [if_pos (by grind)]
  · grind
  · rw [if_neg (by grind), if_pos (by grind)]
  · rw [if_neg (by grind), if_neg (by grind), if_pos (by grind)]
  · grind
  · have n6 : 6 ≤ n := by grind
    have b := hk 5 (by omega)
    have w1 : IntKind.i64.wrap (k 5 0) = k 5 0 := by rw [IntKind.wrap_i64]; omega
    have w2 : IntKind.i64.wrap (k 5 0 * 66) = k 5 0 * 66 := by rw [IntKind.wrap_i64]; omega
    have w3 : IntKind.i64.wrap (6 + k 5 0 * 66) = 6 + k 5 0 * 66 := by rw [IntKind.wrap_i64]; omega
    have w4 : IntKind.i64.wrap (6 + k 5 0 * 66 + 55) = 6 + k 5 0 * 66 + 55 := by rw [IntKind.wrap_i64]; omega
    rw [w1, w2, w3, w4, if_neg (by grind), if_neg (by grind), if_neg (by grind)]
    refine ⟨fun h4 => ?_, fun h4 => ⟨fun h5 => ?_, fun h5 => ?_⟩⟩
    · rw [if_pos (of_decide_eq_true h4)]
    · rw [if_neg (of_decide_eq_false h4), if_pos (by have := of_decide_eq_true h5; show (n : Int) < 6 + 66 * k 5 0 + 55; omega)]
    · rw [if_neg (of_decide_eq_false h4), if_neg (by have := of_decide_eq_false h5; show ¬ (n : Int) < 6 + 66 * k 5 0 + 55; omega)]
theorem numB_4 (f : Nat → Int) (o : Nat) : numB f o 4 = ((f o * 256 + f (o + 1)) * 256 + f (o + 2)) * 256 + f (o + 3) := by
  show (((0 * 256 + f (o + 0)) * 256 + f (o + 1)) * 256 + f (o + 2)) * 256 + f (o + 3) = _
  rw [Nat.add_zero]; omega
theorem numB_2 (f : Nat → Int) (o : Nat) : numB f o 2 = f o * 256 + f (o + 1) := by
  show (0 * 256 + f (o + 0)) * 256 + f (o + 1) = _
  rw [Nat.add_zero]; omega
theorem numB_8 (f : Nat → Int) (o : Nat) : numB f o 8 = ((((((f o * 256 + f (o + 1)) * 256 + f (o + 2)) * 256 + f (o + 3)) * 256 + f (o + 4)) * 256 + f (o + 5)) * 256 + f (o + 6)) * 256 + f (o + 7) := by
  show (((((((0 * 256 + f (o + 0)) * 256 + f (o + 1)) * 256 + f (o + 2)) * 256 + f (o + 3)) * 256 + f (o + 4)) * 256 + f (o + 5)) * 256 + f (o + 6)) * 256 + f (o + 7) = _
  rw [Nat.add_zero]; omega
def oB (f : Nat → Int) : Nat := 6 + 66 * (f 5).toNat
def decE (n : Nat) (f : Nat → Int) : Int :=
  if formE n f ≠ 0 then formE n f else papE (numB f 1 4) (f 5).toNat (wD f) (oD f) (i64B f (oB f)) (numB f (oB f + 8) 4) (numB f (oB f + 12) 2) (i64B f (oB f + 46)) (f (oB f + 54)) (n - (oB f + 55))
def dI (n : Nat) (f : Nat → Int) (x : Int) : Int := if decE n f = 0 then x else 0
def dN (n : Nat) (f : Nat → Int) (x : Nat) : Nat := if decE n f = 0 then x else 0
theorem allSg_cut {w o : Nat → Int} {y : Nat} : ∀ z, z ≤ y → allSg (cutI y w) (cutI y o) z = allSg w o z
  | 0, _ => rfl
  | z + 1, h => by
    unfold allSg okSg
    rw [allSg_cut z (by omega)]
    have e1 : cutI y w z = w z := if_pos (by omega)
    have e2 : cutI y o z = o z := if_pos (by omega)
    rw [e1, e2]
theorem papE_cut (s : Int) (y : Nat) (w o : Nat → Int) (t n c u l : Int) (m : Nat) : papE s y (cutI y w) (cutI y o) t n c u l m = papE s y w o t n c u l m := by
  unfold papE
  rw [allSg_cut y (Nat.le_refl _)]
theorem cut_I {f : Nat → Int} {x i : Nat} {v : Int} (h : v = f x) : (bif decide (i = x) then v else cutI x f i) = cutI (x + 1) f i := by
  unfold cutI
  by_cases e : i = x
  · subst e; simp [h]
  · simp only [e, decide_false, cond_false]
    by_cases l : i < x
    · rw [if_pos l, if_pos (by omega)]
    · rw [if_neg l, if_neg (by omega)]
theorem cut_N {f : Nat → Nat} {x i V q : Nat} (h : V = f x) : (bif decide (i = x) then limb V q else limb (cutN x f i) q) = limb (cutN (x + 1) f i) q := by
  unfold cutN
  by_cases e : i = x
  · subst e; simp [h]
  · simp only [e, decide_false, cond_false]
    by_cases l : i < x
    · rw [if_pos l, if_pos (by omega)]
    · rw [if_neg l, if_neg (by omega)]
theorem limb_zero (q : Nat) : limb 0 q = 0 := by unfold limb; simp
theorem ok_dec (a : Option Addr) (n cap : Nat) (k : Nat → Nat → Int) (hk : ∀ i, i < n → 0 ≤ k i 0 ∧ k i 0 < 256) (hn : n ≤ 140737488355327) (F : Nat → Int) (hF : F = fun i => k i 0) :
    OwesQ Try.prog cxDec slDec [] [((32 + 1) * 100000 + 7, .inv (invDec a cap n k (numB F 1 4) (F 5).toNat))] 20 Try.f19 [sXb a n cap k] false
      [.st [.k (.c (.val (.int .i64 (dI n F (numB F 1 4))))), .s (dN n F (F 5).toNat) 10 (sgnF (wD F) (RD F) (SD F) (oD F)), .k (.c (.val (.int .i64 (dI n F (i64B F (oB F)))))), .k (.c (.val (.int .i64 (dI n F (numB F (oB F + 8) 4))))), .k (.c (.val (.int .i64 (dI n F (numB F (oB F + 12) 2))))), .k (.f .u8 32 (fun j => dI n F (F (oB F + 14 + j)))), .k (.c (.val (.int .i64 (dI n F (i64B F (oB F + 46)))))), .k (.c (.val (.int .i64 (dI n F (F (oB F + 54)))))), .s (dN n F (n - (oB F + 55))) 1 (u8F fun i _ => F (oB F + 55 + i))], .v (sI .i64 (decE n F))] := by
  rw [vc_dec]
  simp only [eq_self, implies_true, and_self, true_and, and_true, k_u8F, wOf_e, oOf_e, ROf_e, SOf_e, sgnF_M, id_eq, Nat.zero_add, Nat.mul_one]
  have hFk : ∀ i, k i 0 = F i := fun i => by rw [hF]
  rw [← hF]
  refine ⟨⟨rfl, hk, hn⟩, fun h => ?_, fun h => ?_⟩
  · have h1 : formE n F ≠ 0 := bne_iff_ne.1 h
    have hd : decE n F = formE n F := if_pos h1
    have hz : ∀ x, dI n F x = 0 := fun x => if_neg (by rw [hd]; exact h1)
    have hz2 : ∀ x, dN n F x = 0 := fun x => if_neg (by rw [hd]; exact h1)
    rw [hd]
    simp only [hz, hz2, and_self]
  · have h0 : formE n F = 0 := by simpa using h
    obtain ⟨n6, f0, f5, hlen⟩ := formE_ok h0 (fun i hi => by rw [← hFk]; exact hk i hi)
    have B : ∀ i, i < n → 0 ≤ k i 0 ∧ k i 0 < 256 := hk
    obtain ⟨Y, hY⟩ : ∃ Y : Nat, F 5 = Y := ⟨(F 5).toNat, by omega⟩
    have hYn : 6 + 66 * Y + 55 ≤ n := by omega
    have hY19 : Y ≤ 19 := by omega
    rw [num_1 (B 5 (by omega)), num_4 (B 1 (by omega)) (B 2 (by omega)) (B 3 (by omega)) (B 4 (by omega)), hFk 5, hY]
    simp only [Int.toNat_natCast, eq_self, true_and, and_true, Nat.sub_self, Nat.zero_mul]
    refine ⟨by omega, by omega, by omega, by omega, by omega, by omega, by omega, fun _ => rfl, ?_⟩
    refine ⟨(0, _, _), Nat.zero_le _, rfl, ⟨rfl, by dsimp only; omega, rfl, fun i _ => ?_⟩, ?_, fun i _ => ?_, fun x hx => ⟨fun hl => ?_, fun hl => ?_⟩⟩
    · congr 1; dsimp only; omega
    · rw [numB_4, ← hFk, ← hFk, ← hFk, ← hFk]
    · have e1 : ∀ f : Nat → Int, cutI 0 f i = 0 := fun f => if_neg (Nat.not_lt_zero _)
      have e2 : ∀ f : Nat → Nat, cutN 0 f i = 0 := fun f => if_neg (Nat.not_lt_zero _)
      simp only [e1, e2, limb_zero, and_self]
    · have hl : x.1 < Y := by have := of_decide_eq_true hl; omega
      refine ⟨by omega, by omega, by omega, by omega, fun j hj => B _ (by omega), by omega, by omega, fun j hj => B _ (by omega), by omega, by omega, by omega, hl, (x.1 + 1, _, _), hl, wrap_next hl (by omega), ⟨rfl, by dsimp only; omega, rfl, fun i _ => ?_⟩, fun i _ => ?_, ?_⟩
      · congr 1; dsimp only; omega
      · have eR : fromN (fun j => k (6 + 66 * x.1 + (1 + j)) 0) 32 = RD F x.1 := by
          unfold RD
          congr 1
          funext j
          rw [hFk]
          congr 1
          omega
        have eS : fromN (fun j => k (6 + 66 * x.1 + (1 + (32 + j))) 0) 32 = SD F x.1 := by
          unfold SD
          congr 1
          funext j
          rw [hFk]
          congr 1
          omega
        refine ⟨cut_I ?_, cut_N eR, cut_N eR, cut_N eR, cut_N eR, cut_N eS, cut_N eS, cut_N eS, cut_N eS, cut_I ?_⟩
        · rw [num_1 (B _ (by omega)), hFk]; rfl
        · rw [num_1 (B _ (by omega)), hFk]; unfold oD; congr 1
      · show Y - (x.1 + 1) < Y - x.1
        omega
    · have e : x.1 = Y := by have := of_decide_eq_false hl; omega
      rw [e]
      have w1 : IntKind.i64.wrap ((n : Int) - 6) = (n : Int) - 6 := i64_in (by omega)
      have w2 : IntKind.i64.wrap ((Y : Int) * 66) = (Y : Int) * 66 := i64_in (by omega)
      have w3 : IntKind.i64.wrap ((n : Int) - 6 - (Y : Int) * 66) = (n : Int) - 6 - (Y : Int) * 66 := i64_in (by omega)
      have w4 : IntKind.i64.wrap ((n : Int) - 6 - (Y : Int) * 66 - 55) = (n : Int) - 6 - (Y : Int) * 66 - 55 := i64_in (by omega)
      have w5 : ((n : Int) - 6 - (Y : Int) * 66 - 55).toNat = n - (6 + 66 * Y + 55) := by omega
      have w6 : n - (6 + 66 * Y) - 8 - 4 - 2 - 32 - 8 - 1 = n - (6 + 66 * Y + 55) := by omega
      have oY : oB F = 6 + 66 * Y := by unfold oB; rw [hY, Int.toNat_natCast]
      have M1 := (num_8 (B (6 + 66 * Y + 0) (by omega)) (B (6 + 66 * Y + 1) (by omega)) (B (6 + 66 * Y + 2) (by omega)) (B (6 + 66 * Y + 3) (by omega)) (B (6 + 66 * Y + 4) (by omega)) (B (6 + 66 * Y + 5) (by omega)) (B (6 + 66 * Y + 6) (by omega)) (B (6 + 66 * Y + 7) (by omega))).trans (show _ = numB F (6 + 66 * Y) 8 from by rw [numB_8]; simp only [hFk, Nat.add_zero])
      have M2 := (num_4 (B (6 + 66 * Y + 8) (by omega)) (B (6 + 66 * Y + 9) (by omega)) (B (6 + 66 * Y + 10) (by omega)) (B (6 + 66 * Y + 11) (by omega))).trans (show _ = numB F (6 + 66 * Y + 8) 4 from by rw [numB_4]; simp only [hFk, Nat.add_assoc, Nat.reduceAdd])
      have M3 := (num_2 (B (6 + 66 * Y + 12) (by omega)) (B (6 + 66 * Y + 13) (by omega))).trans (show _ = numB F (6 + 66 * Y + 12) 2 from by rw [numB_2]; simp only [hFk, Nat.add_assoc, Nat.reduceAdd])
      have M4 := (num_8 (B (6 + 66 * Y + 46) (by omega)) (B (6 + 66 * Y + 47) (by omega)) (B (6 + 66 * Y + 48) (by omega)) (B (6 + 66 * Y + 49) (by omega)) (B (6 + 66 * Y + 50) (by omega)) (B (6 + 66 * Y + 51) (by omega)) (B (6 + 66 * Y + 52) (by omega)) (B (6 + 66 * Y + 53) (by omega))).trans (show _ = numB F (6 + 66 * Y + 46) 8 from by rw [numB_8]; simp only [hFk, Nat.add_assoc, Nat.reduceAdd])
      have M5 := (num_1 (B (6 + 66 * Y + 54) (by omega))).trans (hFk _)
      have m0 : ∀ z : Nat, z.min z = z := fun z => Nat.min_self z
      simp only [w1, w2, w3, w4, w5, w6, M1, M2, M3, M4, M5, papE_cut, m0, oY, Nat.le_refl, Int.le_refl, true_and, and_true, Nat.zero_le, decide_true, Bool.true_and, Nat.sub_zero]
      refine ⟨by omega, by omega, by omega, by omega, by omega, by omega, by omega, by omega, by omega, by omega, by omega, by omega, by omega, ?_⟩
      have lm : ∀ (f : Nat → Nat) i q, q < 4 → limb (f i) q = limb (f i % M256) q := fun f i q hq => (limb_M _ _ hq).symm
      have hd : decE n F = papE (numB F 1 4) Y (wD F) (oD F) (IntKind.i64.wrap (numB F (6 + 66 * Y) 8)) (numB F (6 + 66 * Y + 8) 4) (numB F (6 + 66 * Y + 12) 2) (IntKind.i64.wrap (numB F (6 + 66 * Y + 46) 8)) (F (6 + 66 * Y + 54)) (n - (6 + 66 * Y + 55)) := by
        unfold decE
        rw [if_neg (by rw [h0]; decide), hY, Int.toNat_natCast, oY]
        rfl
      have cI : ∀ (f : Nat → Int) i, i < Y → cutI Y f i = f i := fun f i hi => if_pos hi
      have cN : ∀ (f : Nat → Nat) i, i < Y → cutN Y f i = f i := fun f i hi => if_pos hi
      rw [← hd]
      refine ⟨Int.natCast_nonneg _, fun _ _ => ⟨fun i _ => ⟨lm _ _ 0 (by decide), lm _ _ 1 (by decide), lm _ _ 2 (by decide), lm _ _ 3 (by decide), lm _ _ 0 (by decide), lm _ _ 1 (by decide), lm _ _ 2 (by decide), lm _ _ 3 (by decide)⟩, fun i _ => rfl, papP_sgn _ _ _ _ _ (by omega), fun hE => ?_, fun hE => ?_⟩⟩
      · have hE : decE n F ≠ 0 := bne_iff_ne.1 hE
        have hz : ∀ x, dI n F x = 0 := fun x => if_neg hE
        have hz2 : ∀ x, dN n F x = 0 := fun x => if_neg hE
        simp only [hz, hz2, and_self]
      · have hE : decE n F = 0 := by simpa using hE
        have hz : ∀ x, dI n F x = x := fun x => if_pos hE
        have hz2 : ∀ x, dN n F x = x := fun x => if_pos hE
        simp only [hz, hz2, hE, hFk, eq_self, true_and, and_true]
        refine ⟨fun i hi => ?_, rfl, fun j _ => ?_, rfl, fun i hi => ?_⟩
        · simp only [cI _ _ hi, cN _ _ hi, and_self]
        · congr 1; omega
        · rw [decide_eq_true hi]
          show F _ = F _
          congr 1; omega
end Go.Proofs.Ytgjjpffaofdpiaa
end
