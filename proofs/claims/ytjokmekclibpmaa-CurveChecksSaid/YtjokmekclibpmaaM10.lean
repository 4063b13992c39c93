/-
  Texts: P14, P15, P16, P18, P19, P20, P21, P22, P23, P26, P27, P30, P31, P32, P33, P34, P35, P36, Dgs, DgA.
-/
import Derived.Test.YtjokmekclibpmaaM1
import Derived.Test.YtjokmekclibpmaaM2
import Derived.Test.YtjokmekclibpmaaM3
import Derived.Test.YtjokmekclibpmaaM4
import Derived.Test.YtjokmekclibpmaaM5
import Derived.Test.YtjokmekclibpmaaM6
import Derived.Test.YtjokmekclibpmaaM7
import Derived.Test.YtjokmekclibpmaaM8
import Derived.Test.YtjokmekclibpmaaM9
section
/-
  A quotient of two words by one: what the library's text comes to.
-/
namespace Go.Proofs.Ytjokmekclibpmaa
open Go.Sx

theorem wrap_mod (n : Int) : IntKind.u64.wrap n = n % 18446744073709551616 := by
  unfold IntKind.wrap
  simp [IntKind.signed, IntKind.bits]
theorem wsub {a b c v : Int} (h : a + b - c = v) (hv : 0 ≤ v ∧ v < 18446744073709551616) : IntKind.u64.wrap (IntKind.u64.wrap (IntKind.u64.wrap a + b) - IntKind.u64.wrap c) = v := by
  simp only [wrap_mod]
  omega
theorem wsub1 {a c v : Int} (h : a - c = v) (hv : 0 ≤ v ∧ v < 18446744073709551616) : IntKind.u64.wrap (a - IntKind.u64.wrap c) = v := by
  simp only [wrap_mod]
  omega
theorem dig_iff {Y y1 y0 U w q r : Nat} (H : Dig Y y1 y0 U w) : ((q : Int) * (y1 : Int) + (r : Int) = (U : Int) ∧ r < 4294967296 ∧ (((U * 4294967296 : Nat) : Int) + (w : Int)) / (Y : Int) ≤ (q : Int) ∧ q ≤ 4294967297) ↔ DigAt Y y1 y0 U w q r := by
  have e1 : (q : Int) * (y1 : Int) + (r : Int) = ((q * y1 + r : Nat) : Int) := by rw [Int.natCast_add, Int.natCast_mul]
  have e2 : (((U * 4294967296 : Nat) : Int) + (w : Int)) / (Y : Int) = (((U * 4294967296 + w) / Y : Nat) : Int) := by rw [Int.natCast_ediv, Int.natCast_add]
  rw [e1, e2]
  constructor
  · rintro ⟨a, b, c, d⟩
    exact ⟨H, Int.ofNat.inj a, b, Int.ofNat_le.1 c, d⟩
  · intro h
    exact ⟨congrArg _ h.hq, h.hr, Int.ofNat_le.2 h.hQ, h.hq'⟩
theorem cond_iff {q r w y0 : Nat} (hr : r < 4294967296) (hw : w < 4294967296) (h0 : y0 < 4294967296) :
    (decide ((q : Int) ≥ 4294967296) || decide (IntKind.u64.wrap ((q : Int) * (y0 : Int)) > IntKind.u64.wrap (IntKind.u64.wrap (4294967296 * (r : Int)) + (w : Int)))) = true ↔ 4294967296 ≤ q ∨ 4294967296 * r + w < q * y0 := by
  rw [Bool.or_eq_true, decide_eq_true_eq, decide_eq_true_eq]
  have e2 : IntKind.u64.wrap (IntKind.u64.wrap (4294967296 * (r : Int)) + (w : Int)) = 4294967296 * (r : Int) + w := by simp only [wrap_mod]; omega
  rw [e2]
  rcases Nat.lt_or_ge q 4294967296 with hq | hq
  · have hm : q * y0 ≤ 4294967295 * 4294967295 := Nat.mul_le_mul (by omega) (by omega)
    rw [← Int.natCast_mul, wrap_id ⟨Int.natCast_nonneg _, by omega⟩]
    omega
  · exact ⟨fun _ => .inl hq, fun _ => .inl (by omega)⟩

/-- What the text's words come to, as plain numbers. -/
theorem words {h l y s : Nat} (e1 : 64 - lenN y = (s : Int)) (e2 : lenN y = ((64 - s : Nat) : Int)) :
    shY y = ((y * 2 ^ s : Nat) : Int) ∧ shU h l y = ((h * 2 ^ s + l / 2 ^ (64 - s) : Nat) : Int) ∧ shL l y = ((l * 2 ^ s % 18446744073709551616 : Nat) : Int) := by
  unfold shY shU shL
  rw [e1, e2, Int.toNat_natCast, Int.toNat_natCast]
  refine ⟨?_, ?_, ?_⟩
  · rw [Int.natCast_mul, Int.natCast_pow]; rfl
  · rw [Int.natCast_add, Int.natCast_mul, Int.natCast_ediv, Int.natCast_pow, Int.natCast_pow]; rfl
  · rw [Int.natCast_emod, Int.natCast_mul, Int.natCast_pow]; rfl
theorem or_add (a b k : Nat) (hb : b < 2 ^ k) (h : a * 2 ^ k + b < 18446744073709551616) : IntKind.u64.wrap ((BitVec.ofInt 64 ((a * 2 ^ k : Nat) : Int) ||| BitVec.ofInt 64 (b : Int)).toNat : Int) = ((a * 2 ^ k + b : Nat) : Int) := by
  have b1 : (BitVec.ofInt 64 ((a * 2 ^ k : Nat) : Int)).toNat = a * 2 ^ k := by rw [BitVec.toNat_ofInt]; omega
  have b2 : (BitVec.ofInt 64 (b : Int)).toNat = b := by rw [BitVec.toNat_ofInt]; omega
  rw [BitVec.toNat_or, b1, b2, Nat.mul_comm, ← Nat.two_pow_add_eq_or_of_lt hb, wrap_id ⟨Int.natCast_nonneg _, by rw [Nat.mul_comm]; omega⟩]

theorem two_min (n : Nat) (h : n ≤ 64) : (2 : Int) ^ Min.min ((n : Int).toNat) 64 = ((2 ^ n : Nat) : Int) := by
  rw [Int.toNat_natCast, Nat.min_eq_left h, Int.natCast_pow]; rfl
theorem fdiv_nat (a b : Nat) : (a : Int).fdiv (b : Int) = ((a / b : Nat) : Int) := by
  rw [Int.fdiv_eq_ediv_of_nonneg _ (Int.natCast_nonneg _), Int.natCast_ediv]
theorem tdiv_nat (a b : Nat) : (a : Int).tdiv (b : Int) = ((a / b : Nat) : Int) := by
  rw [Int.tdiv_eq_ediv_of_nonneg (Int.natCast_nonneg _), Int.natCast_ediv]

theorem zero_case (h l y : Nat) (e : h = 0) (hl : l < 18446744073709551616) : IntKind.u64.wrap ((l : Int).tdiv (y : Int)) = (((h * 18446744073709551616 + l) / y : Nat) : Int) ∧ (l : Int).tmod (y : Int) = (((h * 18446744073709551616 + l) % y : Nat) : Int) := by
  subst e
  rw [Nat.zero_mul, Nat.zero_add, tdiv_nat, Int.tmod_eq_emod_of_nonneg (Int.natCast_nonneg _), Int.natCast_emod]
  exact ⟨wrap_id ⟨Int.natCast_nonneg _, by have := Nat.div_le_self l y; omega⟩, rfl⟩
@[irreducible] def qd (U L Y : Nat) : Nat := (U * 4294967296 + L / 4294967296) / Y
@[irreducible] def rd (U L Y : Nat) : Nat := (U * 4294967296 + L / 4294967296) % Y
@[irreducible] def qe (V L Y : Nat) : Nat := (V * 4294967296 + L % 4294967296) / Y
@[irreducible] def re (V L Y : Nat) : Nat := (V * 4294967296 + L % 4294967296) % Y
theorem two_of {Y U L : Nat} (hY : 0 < Y) : (U * 18446744073709551616 + L) / Y = qd U L Y * 4294967296 + qe (rd U L Y) L Y ∧ (U * 18446744073709551616 + L) % Y = re (rd U L Y) L Y := by
  unfold qd qe re rd
  exact two_digits hY
theorem dm_of {U L Y : Nat} (hY : 0 < Y) : Y * qd U L Y + rd U L Y = U * 4294967296 + L / 4294967296 ∧ rd U L Y < Y := by
  unfold qd rd
  exact ⟨Nat.div_add_mod _ _, Nat.mod_lt _ hY⟩
theorem dm_of2 {V L Y : Nat} (hY : 0 < Y) : Y * qe V L Y + re V L Y = V * 4294967296 + L % 4294967296 ∧ re V L Y < Y := by
  unfold qe re
  exact ⟨Nat.div_add_mod _ _, Nat.mod_lt _ hY⟩
theorem lt_of {Y y1 y0 U L : Nat} (h : Dig Y y1 y0 U (L / 4294967296)) : qd U L Y < 4294967296 := by
  unfold qd
  exact h.lt
theorem lt_of2 {Y y1 y0 V L : Nat} (h : Dig Y y1 y0 V (L % 4294967296)) : qe V L Y < 4294967296 := by
  unfold qe
  exact h.lt
theorem is_qd {U L Y q : Nat} (h : q = (U * 4294967296 + L / 4294967296) / Y) : q = qd U L Y := by
  unfold qd
  exact h
theorem is_qe {V L Y q : Nat} (h : q = (V * 4294967296 + L % 4294967296) / Y) : q = qe V L Y := by
  unfold qe
  exact h
theorem cast_two (U L Y : Nat) : ((U : Int) * 4294967296 + (L : Int) / 4294967296) / (Y : Int) = ((qd U L Y : Nat) : Int) ∧
    ((U : Int) * 4294967296 + (L : Int) / 4294967296) % (Y : Int) = ((rd U L Y : Nat) : Int) := by
  have e : (U : Int) * 4294967296 + (L : Int) / 4294967296 = ((U * 4294967296 + L / 4294967296 : Nat) : Int) := by
    rw [Int.natCast_add, Int.natCast_mul, Int.natCast_ediv]; rfl
  rw [e]
  unfold qd rd
  exact ⟨(Int.natCast_ediv _ _).symm, (Int.natCast_emod _ _).symm⟩

set_option maxRecDepth 10000 in
theorem ok_Div64 : ∀ h l y, Ok (divC h l y) → Owes Try.prog cxDiv64 (ivDiv h l y) 100 Try.f99 [sI .u64 h, sI .u64 l, sI .u64 y] (divG h l y) := by
  intro h l y hc
  obtain ⟨hh, hl, hy, hlt, _⟩ := hc
  rw [vc_Div64]
  obtain ⟨h, rfl⟩ := Int.eq_ofNat_of_zero_le hh.1
  obtain ⟨l, rfl⟩ := Int.eq_ofNat_of_zero_le hl.1
  obtain ⟨y, rfl⟩ := Int.eq_ofNat_of_zero_le hy.1
  have bh : h < 18446744073709551616 := Int.ofNat_lt.1 hh.2
  have bl : l < 18446744073709551616 := Int.ofNat_lt.1 hl.2
  have bY : y < 18446744073709551616 := Int.ofNat_lt.1 hy.2
  have hlt' : h < y := Int.ofNat_lt.1 hlt
  have hy0 : 0 < y := by omega
  obtain ⟨s, hs, e1, e2, f1, f2⟩ := len_two y hy0 bY
  obtain ⟨w1, w2, w3⟩ := words (h := h) (l := l) e1 e2
  have hDE : 2 ^ s * 2 ^ (64 - s) = 18446744073709551616 := by
    rw [← Nat.pow_add, show s + (64 - s) = 64 by omega]
  obtain ⟨m1, m2, m3⟩ := moved_all h l y (2 ^ s) (2 ^ (64 - s)) hDE bl hlt'
  obtain ⟨g1, g2⟩ := div_moved (h * 18446744073709551616 + l) y (2 ^ s) (Nat.two_pow_pos s)
  rw [m2] at g1 g2
  have hYp : 0 < y * 2 ^ s := by omega
  obtain ⟨t1, t2⟩ := two_of (Y := y * 2 ^ s) (U := h * 2 ^ s + l / 2 ^ (64 - s)) (L := l * 2 ^ s % 18446744073709551616) hYp
  rw [t1] at g1
  rw [t2] at g2
  have hor := or_add h (l / 2 ^ (64 - s)) s m3 (by omega)
  intro x1 x2 x3 x4 x5 x6 x7 x8 x9 x10 x11 x12 x13 x14 x15 x16 x17 x18 x19
  have E4 : x4 = ((s : Nat) : Int) := e1
  have E5 : x5 = ((s : Nat) : Int) := by simp only [x5, E4]; exact wrap_id ⟨Int.natCast_nonneg _, by omega⟩
  have E6 : x6 = ((64 - s : Nat) : Int) := by
    simp only [x6, E5]
    have : (64 : Int) - (s : Int) = ((64 - s : Nat) : Int) := by omega
    rw [this]; exact wrap_id ⟨Int.natCast_nonneg _, by omega⟩
  have E7 : x7 = ((2 ^ s : Nat) : Int) := by simp only [x7, E5]; exact two_min s (by omega)
  have E8 : x8 = ((y * 2 ^ s : Nat) : Int) := by
    simp only [x8, E7]
    rw [← Int.natCast_mul]; exact wrap_id ⟨Int.natCast_nonneg _, by omega⟩
  have E9 : x9 = ((y * 2 ^ s / 4294967296 : Nat) : Int) := by simp only [x9, E8]; exact fdiv_low _
  have E10 : x10 = ((y * 2 ^ s / 4294967296 : Nat) : Int) := by simp only [x10, w1]; rfl
  have E11 : x11 = ((y * 2 ^ s % 4294967296 : Nat) : Int) := by simp only [x11, w1]; rfl
  have E12 : x12 = ((l * 2 ^ s % 18446744073709551616 / 4294967296 : Nat) : Int) := by simp only [x12, w3]; rfl
  have E13 : x13 = ((l * 2 ^ s % 18446744073709551616 % 4294967296 : Nat) : Int) := by simp only [x13, w3]; rfl
  have E14 : x14 = (((h * 2 ^ s + l / 2 ^ (64 - s)) * 4294967296 : Nat) : Int) := by simp only [x14, w2]; rw [Int.natCast_mul]; rfl
  have E15 : x15 = ((h * 2 ^ s + l / 2 ^ (64 - s) : Nat) : Int) := by
    simp only [x15, E7, E6]
    rw [← Int.natCast_mul, wrap_id (n := ((h * 2 ^ s : Nat) : Int)) ⟨Int.natCast_nonneg _, Int.ofNat_lt.2 (Nat.lt_of_le_of_lt (Nat.le_add_right _ _) (Nat.lt_trans m1 f2))⟩, two_min (64 - s) (by omega), fdiv_nat]
    exact hor
  have E16 : x16 = ((l * 2 ^ s % 18446744073709551616 : Nat) : Int) := by
    simp only [x16, E7]
    rw [← Int.natCast_mul, wrap_mod]; rfl
  have E17 : x17 = (((h * 2 ^ s + l / 2 ^ (64 - s)) / (y * 2 ^ s / 4294967296) : Nat) : Int) := by
    simp only [x17, E15, E9]
    rw [tdiv_nat]
    refine wrap_id ⟨Int.natCast_nonneg _, ?_⟩
    have := Nat.div_le_self (h * 2 ^ s + l / 2 ^ (64 - s)) (y * 2 ^ s / 4294967296)
    omega
  have E18 : x18 = ((rd (h * 2 ^ s + l / 2 ^ (64 - s)) (l * 2 ^ s % 18446744073709551616) (y * 2 ^ s) * 4294967296 : Nat) : Int) := by
    simp only [x18, dV, w1, w2, w3]
    rw [(cast_two _ _ _).2, Int.natCast_mul]; rfl
  have E19 : x19 = ((2 ^ s : Nat) : Int) := by simp only [x19, E4]; exact two_min s (by omega)
  have E2 : x2 = (((h * 18446744073709551616 + l) / y : Nat) : Int) := by simp only [x2, x1]; rw [Int.natCast_ediv, Int.natCast_add, Int.natCast_mul]; rfl
  have E3 : x3 = (((h * 18446744073709551616 + l) % y : Nat) : Int) := by simp only [x3, x1]; rw [Int.natCast_emod, Int.natCast_add, Int.natCast_mul]; rfl
  have Q1 : dq1 h l y = ((qd (h * 2 ^ s + l / 2 ^ (64 - s)) (l * 2 ^ s % 18446744073709551616) (y * 2 ^ s) : Nat) : Int) := by
    simp only [dq1, w1, w2, w3]
    exact (cast_two _ _ _).1
  have V1 : dV h l y = ((rd (h * 2 ^ s + l / 2 ^ (64 - s)) (l * 2 ^ s % 18446744073709551616) (y * 2 ^ s) : Nat) : Int) := by
    simp only [dV, w1, w2, w3]
    exact (cast_two _ _ _).2
  have zero := fun e => zero_case h l y e bl
  rw [g1, g2] at zero
  rw [g1] at E2
  rw [g2] at E3
  clear_value x1 x2 x3 x4 x5 x6 x7 x8 x9 x10 x11 x12 x13 x14 x15 x16 x17 x18 x19
  rw [w1, w2, w3, Q1, V1]
  subst E2 E3 E4 E5 E6 E7 E8 E9 E10 E11 E12 E13 E14 E15 E16 E17 E18 E19
  have bL : l * 2 ^ s % 18446744073709551616 < 18446744073709551616 := Nat.mod_lt _ (by decide)
  have hD0 : 0 < 2 ^ s := Nat.two_pow_pos s
  have hRD : ∀ R : Nat, R < y * 2 ^ s → (R : Int).fdiv ((2 ^ s : Nat) : Int) = ((R / 2 ^ s : Nat) : Int) := fun R _ => fdiv_nat R _
  clear hor g1 g2 t1 t2 w1 w2 w3 Q1 V1 m2 hDE
  generalize h * 2 ^ s + l / 2 ^ (64 - s) = U at *
  generalize hLd : l * 2 ^ s % 18446744073709551616 = L at *
  generalize y * 2 ^ s = Y at *
  have A1 : Dig Y (Y / 4294967296) (Y % 4294967296) U (L / 4294967296) := ⟨by omega, by omega, by omega, by omega, m1, by omega⟩
  obtain ⟨dm1, hV⟩ := dm_of (U := U) (L := L) hYp
  have A2 : Dig Y (Y / 4294967296) (Y % 4294967296) (rd U L Y) (L % 4294967296) := ⟨by omega, by omega, by omega, by omega, hV, by omega⟩
  have lt1 := lt_of A1
  have st1 := A1.start
  have last1 := fun q => @is_qd U L Y q
  generalize qd U L Y = Q at *
  generalize rd U L Y = V at *
  have st2 := A2.start
  have lt2 := lt_of2 A2
  obtain ⟨dm2, hR⟩ := dm_of2 (V := V) (L := L) hYp
  have last2 := fun q => @is_qe V L Y q
  generalize qe V L Y = Q2 at *
  generalize re V L Y = R2 at *
  have final : ∀ q : Nat, q = Q2 → IntKind.u64.wrap (IntKind.u64.wrap ((Q : Int) * 4294967296) + (q : Int)) = ((Q * 4294967296 + Q2 : Nat) : Int) ∧
      (IntKind.u64.wrap (IntKind.u64.wrap (IntKind.u64.wrap ((V * 4294967296 : Nat) : Int) + ((L % 4294967296 : Nat) : Int)) - IntKind.u64.wrap ((q : Int) * (Y : Int)))).fdiv ((2 ^ s : Nat) : Int) = ((R2 / 2 ^ s : Nat) : Int) := by
    rintro q rfl
    refine ⟨?_, ?_⟩
    · simp only [wrap_mod]
      omega
    · rw [← hRD _ hR]
      congr 1
      refine wsub ?_ ⟨Int.natCast_nonneg _, by omega⟩
      rw [← Int.natCast_mul, Nat.mul_comm q Y]
      generalize Y * q = T at *
      omega
  have part : ∀ q : Nat, q = Q → IntKind.u64.wrap (IntKind.u64.wrap (IntKind.u64.wrap ((U * 4294967296 : Nat) : Int) + ((L / 4294967296 : Nat) : Int)) - IntKind.u64.wrap ((q : Int) * (Y : Int))) = (V : Int) := by
    rintro q rfl
    refine wsub ?_ ⟨Int.natCast_nonneg _, by omega⟩
    rw [← Int.natCast_mul, Nat.mul_comm q Y]
    generalize Y * q = T at *
    omega
  have guess2 : IntKind.u64.wrap ((V : Int).tdiv ((Y / 4294967296 : Nat) : Int)) = ((V / (Y / 4294967296) : Nat) : Int) := by
    rw [tdiv_nat]
    have := Nat.div_le_self V (Y / 4294967296)
    exact wrap_id ⟨Int.natCast_nonneg _, by omega⟩
  have rest : ∀ a : Nat, a < 18446744073709551616 → IntKind.u64.wrap ((a : Int) - IntKind.u64.wrap (((a / (Y / 4294967296) : Nat) : Int) * ((Y / 4294967296 : Nat) : Int))) = ((a % (Y / 4294967296) : Nat) : Int) := by
    intro a ha
    have hm := Nat.mod_le a (Y / 4294967296)
    refine wsub1 ?_ ⟨Int.natCast_nonneg _, by omega⟩
    rw [← Int.natCast_mul, Nat.mul_comm]
    have := Nat.div_add_mod a (Y / 4294967296)
    omega
  have low : ∀ a : Nat, a < 18446744073709551616 → IntKind.u64.wrap ((BitVec.ofInt 64 (a : Int) &&& BitVec.ofInt 64 (4294967295 : Int)).toNat : Int) = ((a % 4294967296 : Nat) : Int) := by
    intro a ha
    rw [and_low a ha]; exact wrap_id ⟨Int.natCast_nonneg _, by omega⟩
  have dec : ∀ q : Nat, 1 ≤ q → q ≤ 4294967297 → IntKind.u64.wrap ((q : Int) - 1) = ((q - 1 : Nat) : Int) := by
    intro q hq hq'
    rw [wrap_mod]; omega
  have inc : ∀ r : Nat, r < 4294967296 → IntKind.u64.wrap ((r : Int) + ((Y / 4294967296 : Nat) : Int)) = ((r + Y / 4294967296 : Nat) : Int) := by
    intro r hr
    rw [wrap_mod]; omega
  have nb : ∀ b : Bool, b = false → (!b) = true := by rintro _ rfl; rfl
  have hd1 : (Y / 4294967296 : Nat) ≠ 0 := by omega
  have h9 : ((Y / 4294967296 : Nat) : Int) ≠ 0 := by omega
  have second : ∀ (y_4 : DivAt), (↑y_4.q : Int) * ((Y / 4294967296 : Nat) : Int) + (↑y_4.r : Int) = (V : Int) ∧ y_4.r < (4294967296 : Nat) ∧ (((V * 4294967296 : Nat) : Int) + ((L % 4294967296 : Nat) : Int)) / (Y : Int) ≤ (↑y_4.q : Int) ∧ y_4.q ≤ (4294967297 : Nat) → ((!Decidable.decide ((↑y_4.q : Int) ≥ (4294967296 : Int))) = Bool.true → (!Decidable.decide ((↑y_4.q : Int) ≥ (4294967296 : Int))) = Bool.true) ∧ ((!Decidable.decide ((↑y_4.q : Int) ≥ (4294967296 : Int))) = Bool.true → (!Decidable.decide ((↑y_4.q : Int) ≥ (4294967296 : Int))) = Bool.true) ∧ ((!Decidable.decide ((↑y_4.q : Int) ≥ (4294967296 : Int))) = Bool.true → (!Decidable.decide ((↑y_4.q : Int) ≥ (4294967296 : Int))) = Bool.true) ∧ ((!Decidable.decide ((↑y_4.q : Int) ≥ (4294967296 : Int))) = Bool.true → (!Decidable.decide ((↑y_4.q : Int) ≥ (4294967296 : Int))) = Bool.true) ∧ ((!Decidable.decide ((↑y_4.q : Int) ≥ (4294967296 : Int))) = Bool.true → (!Decidable.decide ((↑y_4.q : Int) ≥ (4294967296 : Int))) = Bool.true) ∧ ((!Decidable.decide ((↑y_4.q : Int) ≥ (4294967296 : Int))) = Bool.true → (!Decidable.decide ((↑y_4.q : Int) ≥ (4294967296 : Int))) = Bool.true) ∧ ((!Decidable.decide ((↑y_4.q : Int) ≥ (4294967296 : Int))) = Bool.true → (!Decidable.decide ((↑y_4.q : Int) ≥ (4294967296 : Int))) = Bool.true) ∧ (Decidable.decide ((↑y_4.q : Int) ≥ (4294967296 : Int)) = Bool.false → (!Decidable.decide ((↑y_4.q : Int) ≥ (4294967296 : Int))) = Bool.true) ∧ ((Decidable.decide ((↑y_4.q : Int) ≥ (4294967296 : Int)) || Decidable.decide (Go.IntKind.u64.wrap ((↑y_4.q : Int) * ((Y % 4294967296 : Nat) : Int)) > Go.IntKind.u64.wrap (Go.IntKind.u64.wrap ((4294967296 : Int) * (↑y_4.r : Int)) + ((L % 4294967296 : Nat) : Int)))) = Bool.true → (Decidable.decide (Go.IntKind.u64.wrap ((↑y_4.r : Int) + ((Y / 4294967296 : Nat) : Int)) ≥ (4294967296 : Int)) = Bool.true → (0 : Int) ≤ ((s : Nat) : Int) ∧ Go.IntKind.u64.wrap (Go.IntKind.u64.wrap ((Q : Int) * (4294967296 : Int)) + Go.IntKind.u64.wrap ((↑y_4.q : Int) - (1 : Int))) = ((Q * 4294967296 + Q2 : Nat) : Int) ∧ (Go.IntKind.u64.wrap (Go.IntKind.u64.wrap (Go.IntKind.u64.wrap ((V * 4294967296 : Nat) : Int) + ((L % 4294967296 : Nat) : Int)) - Go.IntKind.u64.wrap (Go.IntKind.u64.wrap ((↑y_4.q : Int) - (1 : Int)) * (Y : Int)))).fdiv ((2 ^ s : Nat) : Int) = ((R2 / 2 ^ s : Nat) : Int)) ∧ (Decidable.decide (Go.IntKind.u64.wrap ((↑y_4.r : Int) + ((Y / 4294967296 : Nat) : Int)) ≥ (4294967296 : Int)) = Bool.false → ∃ (y' : DivAt), ((↑y'.q : Int) * ((Y / 4294967296 : Nat) : Int) + (↑y'.r : Int) = (V : Int) ∧ y'.r < (4294967296 : Nat) ∧ (((V * 4294967296 : Nat) : Int) + ((L % 4294967296 : Nat) : Int)) / (Y : Int) ≤ (↑y'.q : Int) ∧ y'.q ≤ (4294967297 : Nat)) ∧ (h : Int) = (h : Int) ∧ (l : Int) = (l : Int) ∧ (Y : Int) = (Y : Int) ∧ ((s : Nat) : Int) = ((s : Nat) : Int) ∧ ((Y / 4294967296 : Nat) : Int) = ((Y / 4294967296 : Nat) : Int) ∧ ((Y % 4294967296 : Nat) : Int) = ((Y % 4294967296 : Nat) : Int) ∧ (U : Int) = (U : Int) ∧ (L : Int) = (L : Int) ∧ ((L / 4294967296 : Nat) : Int) = ((L / 4294967296 : Nat) : Int) ∧ ((L % 4294967296 : Nat) : Int) = ((L % 4294967296 : Nat) : Int) ∧ (Q : Int) = (Q : Int) ∧ Go.IntKind.u64.wrap ((↑y_4.r : Int) + ((Y / 4294967296 : Nat) : Int)) = (↑y'.r : Int) ∧ (V : Int) = (V : Int) ∧ Go.IntKind.u64.wrap ((↑y_4.q : Int) - (1 : Int)) = (↑y'.q : Int) ∧ y'.q < y_4.q)) ∧ ((Decidable.decide ((↑y_4.q : Int) ≥ (4294967296 : Int)) || Decidable.decide (Go.IntKind.u64.wrap ((↑y_4.q : Int) * ((Y % 4294967296 : Nat) : Int)) > Go.IntKind.u64.wrap (Go.IntKind.u64.wrap ((4294967296 : Int) * (↑y_4.r : Int)) + ((L % 4294967296 : Nat) : Int)))) = Bool.false → (0 : Int) ≤ ((s : Nat) : Int) ∧ Go.IntKind.u64.wrap (Go.IntKind.u64.wrap ((Q : Int) * (4294967296 : Int)) + (↑y_4.q : Int)) = ((Q * 4294967296 + Q2 : Nat) : Int) ∧ (Go.IntKind.u64.wrap (Go.IntKind.u64.wrap (Go.IntKind.u64.wrap ((V * 4294967296 : Nat) : Int) + ((L % 4294967296 : Nat) : Int)) - Go.IntKind.u64.wrap ((↑y_4.q : Int) * (Y : Int)))).fdiv ((2 ^ s : Nat) : Int) = ((R2 / 2 ^ s : Nat) : Int)) := by
    rintro ⟨q, r⟩ i2
    have D2 : DigAt Y (Y / 4294967296) (Y % 4294967296) V (L % 4294967296) q r := (dig_iff A2).1 i2
    have hr := D2.hr
    refine ⟨id, id, id, id, id, id, id, nb _, fun hc => ⟨fun hs => ?_, fun hs => ?_⟩, fun hc => ?_⟩
    · have c := (cond_iff hr A2.hw A2.h0).1 hc
      rw [inc r hr] at hs
      have p := D2.pred c
      have e := last2 _ (D2.last c (by have := of_decide_eq_true hs; omega))
      rw [dec q p.2.1 D2.hq', e]
      exact ⟨Int.natCast_nonneg _, final _ rfl⟩
    · have c := (cond_iff hr A2.hw A2.h0).1 hc
      rw [inc r hr] at hs
      have p := D2.pred c
      refine ⟨⟨q - 1, r + Y / 4294967296⟩, (dig_iff A2).2 (D2.step c (by have := of_decide_eq_false hs; omega)), rfl, rfl, rfl, rfl, rfl, rfl, rfl, rfl, rfl, rfl, rfl, inc r hr, rfl, dec q p.2.1 D2.hq', ?_⟩
      exact Nat.sub_lt p.2.1 Nat.one_pos
    · have c : q * (Y % 4294967296) ≤ 4294967296 * r + L % 4294967296 := by
        have c := mt (cond_iff hr A2.hw A2.h0).2 (by rw [hc]; exact Bool.false_ne_true)
        exact Nat.le_of_not_lt fun x => c (.inr x)
      have e := last2 _ (D2.done c)
      rw [e]
      exact ⟨Int.natCast_nonneg _, final _ rfl⟩
  refine ⟨fun e => absurd (beq_iff_eq.1 e) (by omega), fun _ => ⟨fun e => absurd (of_decide_eq_true e) (by omega), fun _ => ⟨fun e => ?_, fun _ => ?_⟩⟩⟩
  · obtain ⟨z1, z2⟩ := zero (Int.ofNat.inj (beq_iff_eq.1 e))
    exact ⟨by omega, by omega, z1, z2⟩
  refine ⟨⟨Int.natCast_nonneg _, by omega⟩, Int.natCast_nonneg _, Int.natCast_nonneg _, Int.natCast_nonneg _, Int.natCast_nonneg _, h9, fun _ => rfl,
    ⟨U / (Y / 4294967296), U % (Y / 4294967296)⟩, (dig_iff A1).2 st1, rfl, rfl, rfl, rfl, rfl, low _ f2, rfl, rfl, fdiv_low _, low _ bL, rfl, rest _ (by omega), fun y2 i2 => ?_⟩
  obtain ⟨q, r⟩ := y2
  have D2 : DigAt Y (Y / 4294967296) (Y % 4294967296) U (L / 4294967296) q r := (dig_iff A1).1 i2
  have hr := D2.hr
  refine ⟨id, id, id, id, id, id, id, nb _, fun hc => ⟨fun hs => ?_, fun hs => ?_⟩, fun hc => ?_⟩
  rotate_left
  · have c := (cond_iff hr A1.hw A1.h0).1 hc
    rw [inc r hr] at hs
    have p := D2.pred c
    refine ⟨⟨q - 1, r + Y / 4294967296⟩, (dig_iff A1).2 (D2.step c (by have := of_decide_eq_false hs; omega)), rfl, rfl, rfl, rfl, rfl, rfl, rfl, rfl, rfl, rfl, dec q p.2.1 D2.hq', inc r hr, ?_⟩
    exact Nat.sub_lt p.2.1 Nat.one_pos
  rotate_left
  · have c := (cond_iff hr A1.hw A1.h0).1 hc
    rw [inc r hr] at hs
    have p := D2.pred c
    have e := last1 _ (D2.last c (by have := of_decide_eq_true hs; omega))
    rw [dec q p.2.1 D2.hq', e]
    exact ⟨h9, fun _ => rfl, ⟨V / (Y / 4294967296), V % (Y / 4294967296)⟩, (dig_iff A2).2 st2, rfl, rfl, rfl, rfl, rfl, rfl, rfl, rfl, rfl, rfl, rfl, (by rw [part _ rfl, guess2]; exact rest _ (by omega)), part _ rfl, (by rw [part _ rfl]; exact guess2), fun y4 i4 => second y4 i4⟩
  · have c : q * (Y % 4294967296) ≤ 4294967296 * r + L / 4294967296 := by
      have c := mt (cond_iff hr A1.hw A1.h0).2 (by rw [hc]; exact Bool.false_ne_true)
      exact Nat.le_of_not_lt fun x => c (.inr x)
    have e := last1 _ (D2.done c)
    rw [e]
    exact ⟨h9, fun _ => rfl, ⟨V / (Y / 4294967296), V % (Y / 4294967296)⟩, (dig_iff A2).2 st2, rfl, rfl, rfl, rfl, rfl, rfl, rfl, rfl, rfl, rfl, rfl, (by rw [part _ rfl, guess2]; exact rest _ (by omega)), part _ rfl, (by rw [part _ rfl]; exact guess2), fun y4 i4 => second y4 i4⟩
theorem card_Div64 : FnOK Try.prog 99 (specWWW divC divG) :=
  FnOK_WWW (CxOK_cons card_LZ64 CxOK_nil) (iv := ivDiv) (N := 100) Try.func99 (by kernel_rfl) (by kernel_rfl) (fun a b d => bnd_two (bnd_I _ _) (bnd_I _ _)) ok_Div64
end Go.Proofs.Ytjokmekclibpmaa
end

section
/-
  Texts of numbers: the numbers' side.
-/
namespace Go.Proofs.Ytjokmekclibpmaa
open Go.Sx

/-! ## A long division -/
theorem long_step {X H c N : Nat} (hN : 0 < N) : (X * H + c) / N = X / N * H + (X % N * H + c) / N ∧ (X * H + c) % N = (X % N * H + c) % N := by
  have d := Nat.div_add_mod X N
  have e : X * H + c = N * (X / N * H) + (X % N * H + c) := by
    conv => lhs; rw [← d]
    rw [Nat.add_mul, Nat.mul_assoc, Nat.add_assoc]
  rw [e, Nat.mul_add_div hN, Nat.mul_add_mod]
  exact ⟨rfl, rfl⟩
theorem long_div (H c0 c1 c2 c3 N : Nat) (hN : 0 < N) :
    (((c3 * H + c2) * H + c1) * H + c0) / N = ((c3 / N * H + (c3 % N * H + c2) / N) * H + ((c3 % N * H + c2) % N * H + c1) / N) * H + (((c3 % N * H + c2) % N * H + c1) % N * H + c0) / N ∧
    (((c3 * H + c2) * H + c1) * H + c0) % N = (((c3 % N * H + c2) % N * H + c1) % N * H + c0) % N := by
  have s1 := long_step (X := c3) (H := H) (c := c2) hN
  have s2 := long_step (X := c3 * H + c2) (H := H) (c := c1) hN
  have s3 := long_step (X := (c3 * H + c2) * H + c1) (H := H) (c := c0) hN
  rw [s3.1, s3.2, s2.1, s2.2, s1.1, s1.2]
  exact ⟨rfl, rfl⟩

/-! ## Bytes told by numbers -/
/-! ## How many digits -/
/-! ## Digits of a text -/
end Go.Proofs.Ytjokmekclibpmaa
end

section
/-
  Texts of numbers: what the code owes.
-/
namespace Go.Proofs.Ytjokmekclibpmaa
open Go.Sx

/-! ## split -/
theorem limb_is (a i : Nat) : ∃ c : Nat, limb a i = (c : Int) ∧ c < 18446744073709551616 := by
  refine ⟨(limb a i).toNat, (Int.toNat_of_nonneg (limb_nonneg a i)).symm, ?_⟩
  have := limb_lt a i
  have := limb_nonneg a i
  omega
theorem horner_is (a c0 c1 c2 c3 : Nat) (h0 : limb a 0 = (c0 : Int)) (h1 : limb a 1 = (c1 : Int)) (h2 : limb a 2 = (c2 : Int)) (h3 : limb a 3 = (c3 : Int)) :
    a % M256 = ((c3 * 18446744073709551616 + c2) * 18446744073709551616 + c1) * 18446744073709551616 + c0 := by
  rw [← join_limbs, h0, h1, h2, h3]
  unfold join
  simp only [Int.toNat_natCast]
  omega
theorem join_nat (q0 q1 q2 q3 : Nat) : join (q0 : Int) (q1 : Int) (q2 : Int) (q3 : Int) = ((q3 * 18446744073709551616 + q2) * 18446744073709551616 + q1) * 18446744073709551616 + q0 := by
  unfold join
  simp only [Int.toNat_natCast]
  omega
theorem word_nat {n : Nat} (h : n < 18446744073709551616) : (0 : Int) ≤ (n : Int) ∧ (n : Int) < 18446744073709551616 := by omega
/-! ## Show -/
/-! ## decimal -/
end Go.Proofs.Ytjokmekclibpmaa
end

section
/-
  Quotients: the small parts (a guess, the bits ahead, moves up and down).
-/
namespace Go.Proofs.Ytjokmekclibpmaa
open Go.Sx

/-! ## guess -/
theorem ok_guess : ∀ h l y : Int, Ok (guessC h l y) → Owes Try.prog cxGuess [] 100 Try.f89 [sI .u64 h, sI .u64 l, sI .u64 y] (guessG h l y) := by
  intro h l y hc
  obtain ⟨hh, hl, hy, hp, _⟩ := hc
  rw [vc_guess]
  refine ⟨fun c => ?_, fun c => ?_⟩
  · have c := of_decide_eq_true c
    unfold guessN
    rw [if_neg (by omega)]
  · have c := of_decide_eq_false c
    refine ⟨hh, hl, hy, by omega, ?_⟩
    unfold guessN
    rw [if_pos (by omega)]
/-! ## noughts -/
theorem bitsN_le {n k : Nat} (h : n < 2 ^ k) : bitsN n ≤ k := by
  unfold bitsN
  split
  · exact Nat.zero_le _
  · rename_i h0
    exact (Nat.log2_lt h0).2 h
theorem bitsN_two (n : Nat) (h : n ≠ 0) : n < 2 ^ bitsN n ∧ 2 ^ bitsN n ≤ 2 * n := by
  unfold bitsN
  rw [if_neg h]
  obtain ⟨a, b⟩ := (Nat.log2_eq_iff h).1 rfl
  refine ⟨b, ?_⟩
  rw [Nat.pow_succ]
  omega
theorem bitsN_shift {c l k : Nat} (h : c ≠ 0) (hl : l < 2 ^ k) : bitsN (c * 2 ^ k + l) = bitsN c + k := by
  have hp := Nat.two_pow_pos k
  have hc : 0 < c * 2 ^ k := Nat.mul_pos (by omega) hp
  unfold bitsN
  rw [if_neg (by omega), if_neg h]
  obtain ⟨a, b⟩ := (Nat.log2_eq_iff h).1 rfl
  have : (c * 2 ^ k + l).log2 = c.log2 + k := by
    rw [Nat.log2_eq_iff (by omega)]
    rw [show c.log2 + k + 1 = c.log2 + 1 + k by omega, Nat.pow_add, Nat.pow_add 2 (c.log2 + 1)]
    have h1 := Nat.mul_le_mul_right (2 ^ k) a
    have h2 := Nat.mul_le_mul_right (2 ^ k) (show c + 1 ≤ 2 ^ (c.log2 + 1) from b)
    rw [Nat.add_mul, Nat.one_mul] at h2
    omega
  omega
theorem lenN_is (c : Nat) : lenN (c : Int) = ((bitsN c : Nat) : Int) := by
  unfold lenN bitsN
  rw [Int.toNat_natCast]
  split <;> rfl
theorem ok_noughts : ∀ a : Nat, Owes Try.prog cxNoughts [] 100 Try.f75 [sU a] (noughtsG a) := by
  intro a
  rw [vc_noughts]
  obtain ⟨c0, h0, b0⟩ := limb_is a 0
  obtain ⟨c1, h1, b1⟩ := limb_is a 1
  obtain ⟨c2, h2, b2⟩ := limb_is a 2
  obtain ⟨c3, h3, b3⟩ := limb_is a 3
  have hA := horner_is a c0 c1 c2 c3 h0 h1 h2 h3
  rw [h0, h1, h2, h3, hA]
  rw [lenN_is c3, lenN_is c2, lenN_is c1, lenN_is c0]
  have l3 := bitsN_le (n := c3) (k := 64) b3
  have l2 := bitsN_le (n := c2) (k := 64) b2
  have l1 := bitsN_le (n := c1) (k := 64) b1
  have l0 := bitsN_le (n := c0) (k := 64) b0
  have z : bitsN 0 = 0 := rfl
  have e3 : c3 ≠ 0 → bitsN (((c3 * 18446744073709551616 + c2) * 18446744073709551616 + c1) * 18446744073709551616 + c0) = bitsN c3 + 192 := fun h => by
    have e : ((c3 * 18446744073709551616 + c2) * 18446744073709551616 + c1) * 18446744073709551616 + c0 = c3 * 2 ^ 192 + ((c2 * 18446744073709551616 + c1) * 18446744073709551616 + c0) := by omega
    exact (congrArg bitsN e).trans (bitsN_shift h (by omega))
  have e2 : c3 = 0 → c2 ≠ 0 → bitsN (((c3 * 18446744073709551616 + c2) * 18446744073709551616 + c1) * 18446744073709551616 + c0) = bitsN c2 + 128 := fun h' h => by
    have e : ((c3 * 18446744073709551616 + c2) * 18446744073709551616 + c1) * 18446744073709551616 + c0 = c2 * 2 ^ 128 + (c1 * 18446744073709551616 + c0) := by omega
    exact (congrArg bitsN e).trans (bitsN_shift h (by omega))
  have e1 : c3 = 0 → c2 = 0 → c1 ≠ 0 → bitsN (((c3 * 18446744073709551616 + c2) * 18446744073709551616 + c1) * 18446744073709551616 + c0) = bitsN c1 + 64 := fun h' h'' h => by
    have e : ((c3 * 18446744073709551616 + c2) * 18446744073709551616 + c1) * 18446744073709551616 + c0 = c1 * 2 ^ 64 + (c0) := by omega
    exact (congrArg bitsN e).trans (bitsN_shift h (by omega))
  have e0 : c3 = 0 → c2 = 0 → c1 = 0 → bitsN (((c3 * 18446744073709551616 + c2) * 18446744073709551616 + c1) * 18446744073709551616 + c0) = bitsN c0 := fun h' h'' h => by
    exact congrArg bitsN (by omega)
  generalize bitsN (((c3 * 18446744073709551616 + c2) * 18446744073709551616 + c1) * 18446744073709551616 + c0) = L at *
  have z3 : c3 = 0 → bitsN c3 = 0 := fun h => by rw [h]; rfl
  have z2 : c2 = 0 → bitsN c2 = 0 := fun h => by rw [h]; rfl
  have z1 : c1 = 0 → bitsN c1 = 0 := fun h => by rw [h]; rfl
  generalize bitsN c3 = m3 at *
  generalize bitsN c2 = m2 at *
  generalize bitsN c1 = m1 at *
  generalize bitsN c0 = m0 at *
  intro x1 x2 x3 x4
  have E1 : x1 = 64 - (m3 : Int) := by
    simp only [x1]
    rw [Int.zero_add, IntWalk.i64_in _ (by omega)]
  have E3 : x3 = 64 - (m3 : Int) + (64 - (m2 : Int)) := by
    simp only [x3, E1]
    rw [IntWalk.i64_in _ (by omega)]
  have E4 : x4 = 64 - (m3 : Int) + (64 - (m2 : Int)) + (64 - (m1 : Int)) := by
    simp only [x4, E3]
    rw [IntWalk.i64_in _ (by omega)]
  have E5 : IntKind.i64.wrap (x4 + (64 - (m0 : Int))) = 64 - (m3 : Int) + (64 - (m2 : Int)) + (64 - (m1 : Int)) + (64 - (m0 : Int)) := by
    rw [E4, IntWalk.i64_in _ (by omega)]
  have E2 : x2 = ((256 - L : Nat) : Int) := rfl
  rw [E5]
  clear_value x1 x2 x3 x4
  subst E1 E2 E3 E4
  have nz : ∀ c : Nat, ((c : Int) != 0) = true → c ≠ 0 := fun c h e => by rw [e] at h; exact absurd h (by decide)
  have zz : ∀ c : Nat, ((c : Int) != 0) = false → c = 0 := fun c h => by
    rw [bne_eq_false_iff_eq] at h
    exact Int.ofNat.inj h
  refine ⟨word_nat b3, fun h => ?_, fun h => ⟨word_nat b2, fun h' => ?_, fun h' => ⟨word_nat b1, fun h'' => ?_, fun h'' => ⟨word_nat b0, fun h4 => ?_, fun h4 => ?_⟩⟩⟩⟩
  · have := e3 (nz _ h)
    omega
  · have := e2 (zz _ h) (nz _ h')
    have := z3 (zz _ h)
    omega
  · have := e1 (zz _ h) (zz _ h') (nz _ h'')
    have := z3 (zz _ h)
    have := z2 (zz _ h')
    omega
  · have := e0 (zz _ h) (zz _ h') (zz _ h'')
    have := z3 (zz _ h)
    have := z2 (zz _ h')
    have := z1 (zz _ h'')
    omega
  · have := e0 (zz _ h) (zz _ h') (zz _ h'')
    have := z3 (zz _ h)
    have := z2 (zz _ h')
    have := z1 (zz _ h'')
    omega
end Go.Proofs.Ytjokmekclibpmaa
end

section
/-
  Quotients: moves up and down.
-/
namespace Go.Proofs.Ytjokmekclibpmaa
open Go.Sx

theorem M_val : M256 = 115792089237316195423570985008687907853269984665640564039457584007913129639936 := by rw [M256_eq]
theorem mod_mul_M (a K : Nat) : a * K % M256 = a % M256 * K % M256 := by rw [Nat.mul_mod a K, Nat.mul_mod (a % M256) K, Nat.mod_mod]
theorem two_split (p t : Nat) : 2 ^ (64 * p + t) = 2 ^ t * (2 ^ 64) ^ p := by rw [Nat.pow_add, Nat.pow_mul, Nat.mul_comm]

theorem n_parts {n : Int} (h : 0 ≤ n ∧ n ≤ 256) : ∃ p t : Nat, n = ((64 * p + t : Nat) : Int) ∧ t ≤ 63 ∧ p ≤ 4 ∧ IntKind.i64.wrap (n.tdiv 64) = (p : Int) ∧ n.tmod 64 = (t : Int) ∧ IntKind.i64.wrap (64 - n.tmod 64) = ((64 - t : Nat) : Int) ∧ (p = 4 → t = 0) := by
  obtain ⟨m, rfl⟩ := Int.eq_ofNat_of_zero_le h.1
  have e1 : (m : Int).tdiv 64 = ((m / 64 : Nat) : Int) := tdiv_nat m 64
  have e2 : (m : Int).tmod 64 = ((m % 64 : Nat) : Int) := by
    rw [Int.tmod_eq_emod_of_nonneg (Int.natCast_nonneg _)]
    exact (Int.natCast_emod m 64).symm
  have hm : m ≤ 256 := by omega
  refine ⟨m / 64, m % 64, by rw [Nat.div_add_mod], by omega, by omega, ?_, e2, ?_, by omega⟩
  · rw [e1, IntWalk.i64_in _ (by omega)]
  · rw [e2, IntWalk.i64_in _ (by omega)]
    omega
theorem nn (n : Nat) : (0 : Int) ≤ (n : Int) := Int.natCast_nonneg n
end Go.Proofs.Ytjokmekclibpmaa
end

section
/-
  Quotients: one digit of a long division by four words.
-/
namespace Go.Proofs.Ytjokmekclibpmaa
open Go.Sx

/-! ## How far a guess is off -/
theorem knuth {W K r3 r2 rr b3 bl B R g : Nat} (hB : B = b3 * K + bl) (hbl : bl < K) (hR : R = (r3 * W + r2) * K + rr) (hrr : rr < K) (hlt : R < B * W) (hb : W ≤ 2 * b3) (hr2 : r2 < W)
    (hg : g = if r3 < b3 then (r3 * W + r2) / b3 else W - 1) : R / B ≤ g ∧ g ≤ R / B + 2 ∧ g < W := by
  have hW : 0 < W := by omega
  have hb0 : 0 < b3 := by omega
  have hK : 0 < K := by omega
  have hBp : 0 < B := by
    have := Nat.mul_pos hb0 hK
    omega
  have hQ : R / B < W := by
    rw [Nat.div_lt_iff_lt_mul hBp, Nat.mul_comm]
    exact hlt
  have hgW : g < W := by
    rw [hg]
    split
    · rename_i h
      rw [Nat.div_lt_iff_lt_mul hb0, Nat.mul_comm W]
      have := Nat.mul_le_mul_right W (show r3 + 1 ≤ b3 from h)
      rw [Nat.add_mul, Nat.one_mul] at this
      omega
    · omega
  have hgb : g * b3 ≤ r3 * W + r2 := by
    rw [hg]
    split
    · exact Nat.div_mul_le_self _ _
    · rename_i h
      have h1 := Nat.mul_le_mul (show W - 1 ≤ W by omega) (show b3 ≤ r3 by omega)
      rw [Nat.mul_comm W r3] at h1
      omega
  have hqb : R / B * b3 ≤ r3 * W + r2 := by
    have h1 := Nat.div_mul_le_self R B
    generalize R / B = Q at *
    have h2 : Q * b3 * K ≤ R := by
      have : Q * B = Q * b3 * K + Q * bl := by rw [hB, Nat.mul_add, Nat.mul_assoc]
      omega
    have h3 : Q * b3 * K < (r3 * W + r2 + 1) * K := by
      rw [Nat.add_mul (r3 * W + r2), Nat.one_mul]
      omega
    exact Nat.lt_succ_iff.1 (Nat.lt_of_mul_lt_mul_right h3)
  refine ⟨?_, ?_, hgW⟩
  · rw [hg]
    split
    · rw [Nat.le_div_iff_mul_le hb0]
      exact hqb
    · omega
  · have d := Nat.div_add_mod R B
    have m := Nat.mod_lt R hBp
    have h1 : g * B = g * b3 * K + g * bl := by rw [hB, Nat.mul_add, Nat.mul_assoc]
    have h2 := Nat.mul_le_mul_right K hgb
    have h3 : g * bl ≤ W * K := Nat.mul_le_mul (by omega) (by omega)
    have h3' : g * bl < W * K := by
      rcases Nat.eq_zero_or_pos bl with e | e
      · rw [e, Nat.mul_zero]; exact Nat.mul_pos hW hK
      · exact Nat.lt_of_lt_of_le (Nat.mul_lt_mul_of_pos_right hgW e) (Nat.mul_le_mul_left W (by omega))
    have h4 := Nat.mul_le_mul_right K hb
    have h5 : 2 * b3 * K = 2 * (b3 * K) := Nat.mul_assoc _ _ _
    generalize R / B = Q at *
    have h6 : g * B < (Q + 3) * B := by
      rw [Nat.add_mul, Nat.mul_comm Q B]
      generalize g * b3 * K = A at *
      generalize (r3 * W + r2) * K = C at *
      generalize b3 * K = D at *
      generalize B * Q = E at *
      omega
    have := Nat.lt_of_mul_lt_mul_right h6
    omega

theorem top_of {r3 x6 x7 hi mrem Y P G : Nat} (h1 : P + mrem = r3 * 115792089237316195423570985008687907853269984665640564039457584007913129639936 + x6) (h2 : G = P + Y) (h3 : 115792089237316195423570985008687907853269984665640564039457584007913129639936 * hi + x7 = G) (h4 : x7 < 115792089237316195423570985008687907853269984665640564039457584007913129639936) (h5 : x6 < 115792089237316195423570985008687907853269984665640564039457584007913129639936) (h6 : hi < 18446744073709551616) (h7 : Y ≤ 2 * 115792089237316195423570985008687907853269984665640564039457584007913129639936) (h8 : mrem < 115792089237316195423570985008687907853269984665640564039457584007913129639936) (h9 : r3 < 18446744073709551616) :
    IntKind.u64.wrap ((r3 : Int) - IntKind.u64.wrap ((hi : Int) + if x6 < x7 then 1 else 0)) = (((115792089237316195423570985008687907853269984665640564039457584007913129639936 * 18446744073709551616 + mrem - Y) / 115792089237316195423570985008687907853269984665640564039457584007913129639936 % 18446744073709551616 : Nat) : Int) ∧ (x6 + 115792089237316195423570985008687907853269984665640564039457584007913129639936 - x7) % 115792089237316195423570985008687907853269984665640564039457584007913129639936 = (115792089237316195423570985008687907853269984665640564039457584007913129639936 * 18446744073709551616 + mrem - Y) % 115792089237316195423570985008687907853269984665640564039457584007913129639936 := by
  simp only [wrap_mod]
  split
  · rename_i h
    have e : 115792089237316195423570985008687907853269984665640564039457584007913129639936 * 18446744073709551616 + mrem - Y = 115792089237316195423570985008687907853269984665640564039457584007913129639936 * (18446744073709551616 + r3 - hi - 1) + (115792089237316195423570985008687907853269984665640564039457584007913129639936 + x6 - x7) := by omega
    rw [e]
    omega
  · rename_i h
    have e : 115792089237316195423570985008687907853269984665640564039457584007913129639936 * 18446744073709551616 + mrem - Y = 115792089237316195423570985008687907853269984665640564039457584007913129639936 * (18446744073709551616 + r3 - hi) + (x6 - x7) := by omega
    rw [e]
    omega
theorem top_step {mrem B e : Nat} (h1 : mrem < B) (h2 : B < 115792089237316195423570985008687907853269984665640564039457584007913129639936) (he : e ≤ 2) (h0 : e ≠ 0) :
    IntKind.u64.wrap ((((115792089237316195423570985008687907853269984665640564039457584007913129639936 * 18446744073709551616 + mrem - e * B) / 115792089237316195423570985008687907853269984665640564039457584007913129639936 % 18446744073709551616 : Nat) : Int) + (((115792089237316195423570985008687907853269984665640564039457584007913129639936 * 18446744073709551616 + mrem - e * B) % 115792089237316195423570985008687907853269984665640564039457584007913129639936 + B) / 115792089237316195423570985008687907853269984665640564039457584007913129639936 : Nat)) = (((115792089237316195423570985008687907853269984665640564039457584007913129639936 * 18446744073709551616 + mrem - (e - 1) * B) / 115792089237316195423570985008687907853269984665640564039457584007913129639936 % 18446744073709551616 : Nat) : Int) ∧ (115792089237316195423570985008687907853269984665640564039457584007913129639936 * 18446744073709551616 + mrem - e * B + B) = (115792089237316195423570985008687907853269984665640564039457584007913129639936 * 18446744073709551616 + mrem - (e - 1) * B) ∧ (115792089237316195423570985008687907853269984665640564039457584007913129639936 * 18446744073709551616 + mrem - e * B) / 115792089237316195423570985008687907853269984665640564039457584007913129639936 % 18446744073709551616 ≠ 0 := by
  simp only [wrap_mod]
  rcases (show e = 1 ∨ e = 2 by omega) with rfl | rfl
  · refine ⟨?_, ?_, ?_⟩ <;> omega
  · refine ⟨?_, ?_, ?_⟩ <;> omega
theorem top_zero {mrem B : Nat} (h1 : mrem < B) (h2 : B < 115792089237316195423570985008687907853269984665640564039457584007913129639936) : (115792089237316195423570985008687907853269984665640564039457584007913129639936 * 18446744073709551616 + mrem - 0 * B) / 115792089237316195423570985008687907853269984665640564039457584007913129639936 % 18446744073709551616 = 0 ∧ (115792089237316195423570985008687907853269984665640564039457584007913129639936 * 18446744073709551616 + mrem - 0 * B) % 115792089237316195423570985008687907853269984665640564039457584007913129639936 = mrem := by omega
def gN (h l y : Nat) : Nat := if h < y then (h * 18446744073709551616 + l) / y else 18446744073709551616 - 1
theorem guess_nat (h l y : Nat) : guessN (h : Int) (l : Int) (y : Int) = ((gN h l y : Nat) : Int) := by
  unfold guessN gN
  rcases Nat.lt_or_ge h y with c | c
  · rw [if_pos (by omega), if_pos c, Int.natCast_ediv, Int.natCast_add, Int.natCast_mul]
    rfl
  · rw [if_neg (by omega), if_neg (by omega)]
    rfl

theorem kn_all {r0 r1 r2 r3 y0 y1 y2 y3 X R B : Nat} (b0 : r0 < 18446744073709551616) (b1 : r1 < 18446744073709551616) (b2 : r2 < 18446744073709551616) (c0 : y0 < 18446744073709551616) (c1 : y1 < 18446744073709551616) (c2 : y2 < 18446744073709551616) (bX : X < 18446744073709551616)
    (hB : B = ((y3 * 18446744073709551616 + y2) * 18446744073709551616 + y1) * 18446744073709551616 + y0) (hR : R = (((r3 * 18446744073709551616 + r2) * 18446744073709551616 + r1) * 18446744073709551616 + r0) * 18446744073709551616 + X) (hrb : ((r3 * 18446744073709551616 + r2) * 18446744073709551616 + r1) * 18446744073709551616 + r0 < B) (hbt : 115792089237316195423570985008687907853269984665640564039457584007913129639936 ≤ 2 * B) :
    B = y3 * 6277101735386680763835789423207666416102355444464034512896 + ((y2 * 18446744073709551616 + y1) * 18446744073709551616 + y0) ∧ (y2 * 18446744073709551616 + y1) * 18446744073709551616 + y0 < 6277101735386680763835789423207666416102355444464034512896 ∧ R = (r3 * 18446744073709551616 + r2) * 6277101735386680763835789423207666416102355444464034512896 + ((r1 * 18446744073709551616 + r0) * 18446744073709551616 + X) ∧ (r1 * 18446744073709551616 + r0) * 18446744073709551616 + X < 6277101735386680763835789423207666416102355444464034512896 ∧ R < B * 18446744073709551616 ∧ 18446744073709551616 ≤ 2 * y3 ∧ R = r3 * 115792089237316195423570985008687907853269984665640564039457584007913129639936 + (((r2 * 18446744073709551616 + r1) * 18446744073709551616 + r0) * 18446744073709551616 + X) ∧ ((r2 * 18446744073709551616 + r1) * 18446744073709551616 + r0) * 18446744073709551616 + X < 115792089237316195423570985008687907853269984665640564039457584007913129639936 := by
  refine ⟨?_, ?_, ?_, ?_, ?_, ?_, ?_, ?_⟩
  · clear hR hrb hbt b0 b1 b2 bX; exact Nat.le_antisymm (by omega) (by omega)
  · clear hR hrb hbt hB b0 b1 b2 bX; omega
  · clear hB hrb hbt; exact Nat.le_antisymm (by omega) (by omega)
  · clear hR hB hrb hbt; omega
  · clear hB hbt; omega
  · clear hR hrb; omega
  · clear hB hrb hbt; exact Nat.le_antisymm (by omega) (by omega)
  · clear hR hB hrb hbt; omega

end Go.Proofs.Ytjokmekclibpmaa
end

section
/-
  Quotients: the long division, and the law.
-/
namespace Go.Proofs.Ytjokmekclibpmaa
open Go.Sx

theorem M_pow : M256 = 2 ^ 256 := rfl
theorem horner_top {P x c0 c1 c2 c3 : Nat} (h : M256 * x + (((c3 * 18446744073709551616 + c2) * 18446744073709551616 + c1) * 18446744073709551616 + c0) = P) : P = (((x * 18446744073709551616 + c3) * 18446744073709551616 + c2) * 18446744073709551616 + c1) * 18446744073709551616 + c0 := by
  rw [M_val] at h
  exact Nat.le_antisymm (by omega) (by omega)
end Go.Proofs.Ytjokmekclibpmaa
end

section
/-
  Quotients: DivMod, and the law.
-/
namespace Go.Proofs.Ytjokmekclibpmaa
open Go.Sx

end Go.Proofs.Ytjokmekclibpmaa
end

section
/-
  Package field: the easy parts.
-/
namespace Go.Proofs.Ytjokmekclibpmaa
open Go.Sx

theorem ok_fguess : ∀ h l y : Int, Ok (guessC h l y) → Owes Try.prog cxGuess [] 100 Try.f101 [sI .u64 h, sI .u64 l, sI .u64 y] (guessG h l y) := by
  intro h l y hc
  have := ok_guess h l y hc
  rw [vc_guess] at this
  rw [vc_fguess]
  exact this
theorem card_fguess : FnOK Try.prog 101 (specWWW guessC guessG) :=
  FnOK_WWW (CxOK_cons card_Div64 CxOK_nil) (iv := fun _ _ _ => []) (N := 100) Try.func101 (by kernel_rfl) (by kernel_rfl) (fun _ _ _ => bnd_one (bnd_I _ _)) ok_fguess
theorem ok_fnoughts : ∀ a : Nat, Owes Try.prog cxNoughts [] 100 Try.f83 [sU a] (noughtsG a) := by
  intro a
  have := ok_noughts a
  rw [vc_noughts] at this
  rw [vc_fnoughts]
  exact this
theorem card_fnoughts : FnOK Try.prog 83 (specU noughtsG) :=
  FnOK_U (CxOK_cons card_LZ64 CxOK_nil) (iv := []) (N := 100) Try.func83 (by kernel_rfl) (by kernel_rfl) (fun _ => bnd_one (bnd_I _ _)) ok_fnoughts

/-! ## sum and difference -/
theorem sum_over {a b m M : Nat} (ha : a < m) (hb : b < m) (hm : m < M) (h : M ≤ a + b ∨ m ≤ a + b) : ((a + b) % M + M - m) % M = (a + b) % m % M := by
  have e : (a + b) % m = a + b - m := by
    rw [Nat.mod_eq_sub_mod (by omega), Nat.mod_eq_of_lt (by omega)]
  rw [e]
  rcases Nat.lt_or_ge (a + b) M with c | c
  · rw [Nat.mod_eq_of_lt c, show a + b + M - m = (a + b - m) + M by omega, Nat.add_mod_right]
  · rw [Nat.mod_eq_sub_mod c, Nat.mod_eq_of_lt (show a + b - M < M by omega), show a + b - M + M - m = a + b - m by omega]
theorem ok_sum : ∀ a b m : Nat, Ok (prodC a b m) → Owes Try.prog cxSum [] 100 Try.f73 [sU a, sU b, sU m] (sumG a b m) := by
  intro a b m hc
  obtain ⟨ha, hb, _⟩ := hc
  rw [vc_sum]
  have hM : 0 < M256 := by rw [M256_eq]; decide
  have hm := Nat.mod_lt m hM
  have hab : (a + b) % M256 = (a % M256 + b % M256) % M256 := Nat.add_mod _ _ _
  intro x1 x2 x3 x4 x5 x6 x7
  refine ⟨id, id, id, fun h => by rw [h]; rfl, fun h => ⟨?_, trivial⟩, fun h => ⟨?_, trivial⟩⟩
  · have hor : M256 ≤ a % M256 + b % M256 ∨ m % M256 ≤ a % M256 + b % M256 := by
      rw [Bool.or_eq_true, decide_eq_true_eq, decide_eq_true_eq] at h
      rcases h with h | h
      · exact .inl h
      · refine Nat.lt_or_ge (a % M256 + b % M256) M256 |>.elim (fun c => .inr ?_) .inl
        refine Nat.le_of_not_lt fun c' => ?_
        have : x4 = -1 := by
          simp only [x4, x3]
          unfold cmpN
          rw [if_pos (by rw [hab, Nat.mod_eq_of_lt c]; exact c')]
        omega
    have := sum_over ha hb hm hor
    simp only [x5, x6, x7, x1, x3, hab]
    exact this
  · rw [Bool.or_eq_false_iff, decide_eq_false_iff_not, decide_eq_false_iff_not] at h
    have h1 : a % M256 + b % M256 < M256 := Nat.lt_of_not_le h.1
    have h2 : a % M256 + b % M256 < m % M256 := by
      refine Nat.lt_of_not_le fun c => h.2 ?_
      simp only [x4, x3]
      unfold cmpN
      rw [if_neg (by rw [hab, Nat.mod_eq_of_lt h1]; omega)]
      split <;> decide
    simp only [x5, x7, x1, x3, x6, hab]
    rw [Nat.mod_eq_of_lt h2]
theorem card_sum : FnOK Try.prog 73 (specUUU prodC sumG) :=
  FnOK_UUU (CxOK_cons card_Add (CxOK_cons card_Cmp (CxOK_cons card_Sub CxOK_nil))) (iv := fun _ _ _ => []) (N := 100) Try.func73 (by kernel_rfl) (by kernel_rfl) (fun _ _ _ => bnd_one (bnd_U _)) ok_sum
/-! ## rest of a product, its parts given -/
theorem ok_rest : ∀ a b m : Nat, Ok (restC a b m) → Owes Try.prog cxRest [] 100 Try.f84 [sU a, sU b, sU m] (restG a b m) := by
  intro a b m hc
  obtain ⟨ha, hb, ht, _⟩ := hc
  rw [vc_rest]
  have hM : 0 < M256 := by rw [M256_eq]; decide
  have hm := Nat.mod_lt m hM
  have hmp : 0 < m % M256 := by omega
  obtain ⟨c0, h0, l0⟩ := limb_is (a * b) 0
  obtain ⟨c1, h1, l1⟩ := limb_is (a * b) 1
  obtain ⟨c2, h2, l2⟩ := limb_is (a * b) 2
  obtain ⟨c3, h3, l3⟩ := limb_is (a * b) 3
  have hH := horner_is (a * b) c0 c1 c2 c3 h0 h1 h2 h3
  have hP : a % M256 * (b % M256) / M256 < m % M256 := by
    rw [Nat.div_lt_iff_lt_mul hM]
    exact Nat.mul_lt_mul'' ha (Nat.lt_trans hb hm)
  have hN : a % M256 * (b % M256) = (((a % M256 * (b % M256) / M256 * 18446744073709551616 + c3) * 18446744073709551616 + c2) * 18446744073709551616 + c1) * 18446744073709551616 + c0 := by
    refine horner_top ?_
    rw [← hH, Nat.mul_mod a b]
    exact Nat.div_add_mod _ _
  obtain ⟨_, d2⟩ := long_div 18446744073709551616 c0 c1 c2 (a % M256 * (b % M256) / M256 * 18446744073709551616 + c3) (m % M256) hmp
  rw [← hN] at d2
  have hdig : ∀ r c : Nat, r < m % M256 → digR r (c : Int) = r * 18446744073709551616 + c := fun r c h => by
    unfold digR
    rw [Int.toNat_natCast, Nat.mod_eq_of_lt (Nat.lt_trans h hm)]
  rw [h0, h1, h2, h3]
  intro x1 x2 x3 x4 x5 x6 x7 x8 x9 x10
  have E3 : x3 = a % M256 * (b % M256) / M256 := rfl
  have E6 : x6 = (x3 * 18446744073709551616 + c3) % (m % M256) := congrArg (· % (m % M256)) (hdig _ _ hP)
  have lt6 := Nat.mod_lt (x3 * 18446744073709551616 + c3) hmp
  rw [← E6] at lt6
  have E8 : x8 = (x6 * 18446744073709551616 + c2) % (m % M256) := congrArg (· % (m % M256)) (hdig _ _ lt6)
  have lt8 := Nat.mod_lt (x6 * 18446744073709551616 + c2) hmp
  rw [← E8] at lt8
  have E10 : x10 = (x8 * 18446744073709551616 + c1) % (m % M256) := congrArg (· % (m % M256)) (hdig _ _ lt8)
  have lt10 := Nat.mod_lt (x8 * 18446744073709551616 + c1) hmp
  rw [← E10] at lt10
  have w : ∀ v : Nat, v < m % M256 → v % M256 < m % M256 := fun v hv => by rw [Nat.mod_eq_of_lt (Nat.lt_trans hv hm)]; exact hv
  refine ⟨word_nat l3, w _ hP, ht, word_nat l2, w _ lt6, ht, word_nat l1, w _ lt8, ht, word_nat l0, w _ lt10, ht, ?_, trivial⟩
  show digR x10 (c0 : Int) % (m % M256) % M256 = a % M256 * (b % M256) % (m % M256) % M256
  rw [hdig _ _ lt10, d2, E10, E8, E6, E3]
end Go.Proofs.Ytjokmekclibpmaa
end

section
/-
  Package field: a part brought down; a number less another one some times; one bit; the product.
-/
namespace Go.Proofs.Ytjokmekclibpmaa
open Go.Sx

/-- One digit: the guess, and what it leaves. -/
theorem dig_core (r X b : Nat) (bX : X < 18446744073709551616) (hrb : r % M256 < b % M256) (hbt : M256 ≤ 2 * (b % M256)) :
    ∃ g y : Nat, guessN (limb r 3) (limb r 2) (limb b 3) = (g : Int) ∧ g < 18446744073709551616 ∧ y ≤ 2 ∧ 0 < limb b 3 ∧
      IntKind.u64.wrap (limb r 3 - IntKind.u64.wrap (((b % M256 * g / M256 : Nat) : Int) + if join (X : Int) (limb r 0) (limb r 1) (limb r 2) % M256 < b % M256 * g % M256 then 1 else 0)) = ((digAt r (X : Int) b y / M256 % 18446744073709551616 : Nat) : Int) ∧
      (join (X : Int) (limb r 0) (limb r 1) (limb r 2) % M256 + M256 - b % M256 * g % M256) % M256 = digAt r (X : Int) b y % M256 ∧
      (∀ e, e ≤ 2 → e ≠ 0 → IntKind.u64.wrap (((digAt r (X : Int) b e / M256 % 18446744073709551616 : Nat) : Int) + ((digAt r (X : Int) b e % M256 + b % M256) / M256 : Nat)) = ((digAt r (X : Int) b (e - 1) / M256 % 18446744073709551616 : Nat) : Int) ∧ digAt r (X : Int) b e + b % M256 = digAt r (X : Int) b (e - 1) ∧ digAt r (X : Int) b e / M256 % 18446744073709551616 ≠ 0) ∧
      digAt r (X : Int) b 0 / M256 % 18446744073709551616 = 0 ∧ digAt r (X : Int) b 0 % M256 = digR r (X : Int) % (b % M256) := by
  obtain ⟨r0, h0, b0⟩ := limb_is r 0
  obtain ⟨r1, h1, b1⟩ := limb_is r 1
  obtain ⟨r2, h2, b2⟩ := limb_is r 2
  obtain ⟨r3, h3, b3⟩ := limb_is r 3
  obtain ⟨y0, k0, c0⟩ := limb_is b 0
  obtain ⟨y1, k1, c1⟩ := limb_is b 1
  obtain ⟨y2, k2, c2⟩ := limb_is b 2
  obtain ⟨y3, k3, c3⟩ := limb_is b 3
  have hA := horner_is r r0 r1 r2 r3 h0 h1 h2 h3
  have hB := horner_is b y0 y1 y2 y3 k0 k1 k2 k3
  have hBM : b % M256 < M256 := Nat.mod_lt _ (by rw [M256_eq]; decide)
  have hT : ∀ e, digAt r (X : Int) b e = M256 * 18446744073709551616 + digR r (X : Int) % (b % M256) - e * (b % M256) := fun e => rfl
  have hR : digR r (X : Int) = r % M256 * 18446744073709551616 + X := by unfold digR; rw [Int.toNat_natCast]
  have hJ : join (X : Int) (limb r 0) (limb r 1) (limb r 2) % M256 = ((r2 * 18446744073709551616 + r1) * 18446744073709551616 + r0) * 18446744073709551616 + X := by
    rw [h0, h1, h2, join_nat, M_val]
    omega
  rw [h0, h1, h2] at hJ
  rw [h0, h1, h2, h3, k3, guess_nat, hJ]
  rw [M_val] at hA hB hBM hT hR hrb hbt
  rw [M_val]
  generalize digR r (X : Int) = R at *
  rw [hA] at hR hrb
  obtain ⟨n1, n2, n3, n4, n5, n6, n7, n8⟩ := kn_all b0 b1 b2 c0 c1 c2 bX hB hR hrb hbt
  obtain ⟨x2, E2⟩ : ∃ v, v = b % 115792089237316195423570985008687907853269984665640564039457584007913129639936 := ⟨_, rfl⟩
  rw [← E2] at hB hBM hT hrb hbt n1 n5 ⊢
  obtain ⟨q1, q2, q3⟩ := knuth (W := 18446744073709551616) (K := 6277101735386680763835789423207666416102355444464034512896) (r3 := r3) (r2 := r2) (rr := (r1 * 18446744073709551616 + r0) * 18446744073709551616 + X) (b3 := y3) (bl := (y2 * 18446744073709551616 + y1) * 18446744073709551616 + y0) (B := x2) (R := R) (g := gN r3 r2 y3) n1 n2 n3 n4 n5 n6 b2 rfl
  generalize gN r3 r2 y3 = g at *
  have hBp : 0 < x2 := by clear hT; omega
  have dm := Nat.div_add_mod R x2
  have ml := Nat.mod_lt R hBp
  obtain ⟨x3, E3⟩ : ∃ v, v = R / x2 := ⟨_, rfl⟩
  rw [← E3] at dm q1 q2
  have D3 := Nat.div_add_mod (x2 * g) 115792089237316195423570985008687907853269984665640564039457584007913129639936
  have L3 := Nat.mod_lt (x2 * g) (show 0 < 115792089237316195423570985008687907853269984665640564039457584007913129639936 by decide)
  have H6 : x2 * g / 115792089237316195423570985008687907853269984665640564039457584007913129639936 < 18446744073709551616 := by
    rw [Nat.div_lt_iff_lt_mul (by decide), Nat.mul_comm 18446744073709551616]
    exact Nat.mul_lt_mul'' hBM q3
  have hG : x2 * g = x2 * x3 + (g - x3) * x2 := by
    rw [Nat.mul_comm (g - x3), ← Nat.mul_add]
    exact congrArg (x2 * ·) (by clear hT; omega)
  have hY : (g - x3) * x2 ≤ 2 * 115792089237316195423570985008687907853269984665640564039457584007913129639936 := Nat.mul_le_mul (by clear hT; omega) (Nat.le_of_lt hBM)
  obtain ⟨t1, t2⟩ := top_of (r3 := r3) (x6 := ((r2 * 18446744073709551616 + r1) * 18446744073709551616 + r0) * 18446744073709551616 + X) (x7 := x2 * g % 115792089237316195423570985008687907853269984665640564039457584007913129639936) (hi := x2 * g / 115792089237316195423570985008687907853269984665640564039457584007913129639936) (mrem := R % x2) (Y := (g - x3) * x2) (P := x2 * x3) (G := x2 * g) (by rw [dm, n7]) hG D3 L3 n8 H6 hY (Nat.lt_trans ml hBM) b3
  have step : ∀ e, e ≤ 2 → e ≠ 0 → IntKind.u64.wrap (((digAt r (X : Int) b e / 115792089237316195423570985008687907853269984665640564039457584007913129639936 % 18446744073709551616 : Nat) : Int) + ((digAt r (X : Int) b e % 115792089237316195423570985008687907853269984665640564039457584007913129639936 + x2) / 115792089237316195423570985008687907853269984665640564039457584007913129639936 : Nat)) = ((digAt r (X : Int) b (e - 1) / 115792089237316195423570985008687907853269984665640564039457584007913129639936 % 18446744073709551616 : Nat) : Int) ∧ digAt r (X : Int) b e + x2 = digAt r (X : Int) b (e - 1) ∧ digAt r (X : Int) b e / 115792089237316195423570985008687907853269984665640564039457584007913129639936 % 18446744073709551616 ≠ 0 := by
    intro e he h0
    have := top_step (mrem := R % x2) (B := x2) (e := e) ml hBM he h0
    rw [← hT, ← hT] at this
    exact this
  obtain ⟨u1, u2⟩ := top_zero (mrem := R % x2) (B := x2) ml hBM
  rw [← hT] at u1 u2 t1 t2
  have y3p : 0 < y3 := by clear hT; omega
  have g1 : g - x3 ≤ 2 := by clear hT; omega
  exact ⟨g, g - x3, rfl, q3, g1, Int.ofNat_lt.2 y3p, t1, t2, step, u1, u2⟩

theorem wrap_sub (a v : Int) : IntKind.u64.wrap (a - IntKind.u64.wrap v) = IntKind.u64.wrap (a - v) := by
  simp only [wrap_mod]
  omega
theorem carry_one {v x M : Nat} (hv : v < M) (hx : x < M) : (M ≤ v + x → (v + x) / M = 1) ∧ (¬ M ≤ v + x → (v + x) / M = 0) := by
  refine ⟨fun h => ?_, fun h => Nat.div_eq_of_lt (by omega)⟩
  rw [show v + x = (v + x - M) + M by omega, Nat.add_div_right _ (by omega), Nat.div_eq_of_lt (by omega)]
theorem ok_bring : ∀ (r : Nat) (x : Int) (b : Nat), Ok (digC r x b) → Owes Try.prog cxBring [(5, .inv (invBring r x b))] 100 Try.f92 [sU r, sI .u64 x, sU b] (bringG r x b) := by
  intro r x b hc
  obtain ⟨hx, hrb, hbt, _⟩ := hc
  rw [vc_bring]
  obtain ⟨X, rfl⟩ := Int.eq_ofNat_of_zero_le hx.1
  have bX : X < 18446744073709551616 := Int.ofNat_lt.1 hx.2
  have hM : 0 < M256 := by rw [M256_eq]; decide
  have hbM := Nat.mod_lt b hM
  obtain ⟨g, y, eg, gw, hy, hb3, t1, t2, step, u1, u2⟩ := dig_core r X b bX hrb hbt
  rw [eg]
  intro x1 x2 x3 x4 x5 x6
  have E1 : x1 = (g : Int) := rfl
  have T : x1.toNat = g := by rw [E1]; exact Int.toNat_natCast _
  have E4 : x4 = b % M256 * g := by simp only [x4, x3, T]
  have E6 : x6 = b % M256 * g % M256 := by simp only [x6, E4]
  rw [wrap_sub, ← E6, ← E4] at t1
  rw [← E6] at t2
  have hl := fun n i => (⟨limb_nonneg n i, limb_lt n i⟩ : (0 : Int) ≤ limb n i ∧ limb n i < 18446744073709551616)
  have hbB : ∀ v : Nat, (v + b) % M256 = (v + b % M256) % M256 := fun v => by rw [Nat.add_mod v b, Nat.add_mod v (b % M256), Nat.mod_mod]
  have hrem : digR r (X : Int) % (b % M256) < M256 := Nat.lt_trans (Nat.mod_lt _ (by omega)) hbM
  refine ⟨hl r 3, hl r 2, hl b 3, hb3, hx, hl r 0, hl r 1, hl r 2, by rw [E1]; exact word_nat gw, fun _ => rfl, y, hy, rfl, rfl, rfl, t1, t2, rfl, rfl, rfl, rfl, fun e he => ⟨fun c => ?_, fun c => ?_⟩⟩
  · have he0 : e ≠ 0 := by
      rintro rfl
      rw [u1] at c
      exact absurd c (by decide)
    obtain ⟨s1, s2, s3⟩ := step e he he0
    obtain ⟨k1, k2⟩ := carry_one (Nat.mod_lt (digAt r (X : Int) b e) hM) hbM
    have hs : (digAt r (X : Int) b e + b) % M256 = digAt r (X : Int) b (e - 1) % M256 := by rw [hbB, s2]
    refine ⟨fun h => ⟨e - 1, by omega, rfl, rfl, rfl, ?_, hs, rfl, rfl, rfl, rfl, by omega⟩, fun h => ⟨e - 1, by omega, rfl, rfl, rfl, ?_, hs, rfl, rfl, rfl, rfl, by omega⟩⟩
    · rw [k1 (of_decide_eq_true h)] at s1
      exact s1
    · rw [k2 (of_decide_eq_false h), Int.natCast_zero, Int.add_zero, wrap_id (word_nat (Nat.mod_lt _ (by decide)))] at s1
      exact s1
  · have he0 : e = 0 := by
      refine Classical.byContradiction fun h => ?_
      obtain ⟨s1, s2, s3⟩ := step e he h
      rw [bne_eq_false_iff_eq] at c
      exact s3 (Int.ofNat.inj c)
    subst he0
    exact ⟨by rw [u2, Nat.mod_eq_of_lt hrem], trivial⟩

theorem less_step (a P o : Int) (ha : 0 ≤ a ∧ a < 18446744073709551616) (hP : 0 ≤ P ∧ P ≤ 340282366920938463426481119284349108225) (ho : 0 ≤ o ∧ o < 18446744073709551616) :
    (0 ≤ IntKind.u64.wrap (IntKind.u64.wrap (P / 18446744073709551616 + (P % 18446744073709551616 + o + 0) / 18446744073709551616) + -((a - (P % 18446744073709551616 + o + 0) % 18446744073709551616 - 0) / 18446744073709551616)) ∧ IntKind.u64.wrap (IntKind.u64.wrap (P / 18446744073709551616 + (P % 18446744073709551616 + o + 0) / 18446744073709551616) + -((a - (P % 18446744073709551616 + o + 0) % 18446744073709551616 - 0) / 18446744073709551616)) < 18446744073709551616) ∧
    a + 18446744073709551616 * IntKind.u64.wrap (IntKind.u64.wrap (P / 18446744073709551616 + (P % 18446744073709551616 + o + 0) / 18446744073709551616) + -((a - (P % 18446744073709551616 + o + 0) % 18446744073709551616 - 0) / 18446744073709551616)) = (a - (P % 18446744073709551616 + o + 0) % 18446744073709551616 - 0) % 18446744073709551616 + P + o ∧
    (0 ≤ (a - (P % 18446744073709551616 + o + 0) % 18446744073709551616 - 0) % 18446744073709551616 ∧ (a - (P % 18446744073709551616 + o + 0) % 18446744073709551616 - 0) % 18446744073709551616 < 18446744073709551616) ∧ 0 ≤ P % 18446744073709551616 ∧ (0 ≤ (P % 18446744073709551616 + o + 0) % 18446744073709551616 ∧ (P % 18446744073709551616 + o + 0) % 18446744073709551616 < 18446744073709551616) := by
  simp only [wrap_mod]
  refine ⟨⟨?_, ?_⟩, ?_, ⟨?_, ?_⟩, ?_, ?_, ?_⟩ <;> omega
theorem prod_bound {b q : Int} (hb : 0 ≤ b ∧ b < 18446744073709551616) (hq : 0 ≤ q ∧ q < 18446744073709551616) : 0 ≤ b * q ∧ b * q ≤ 340282366920938463426481119284349108225 := by
  obtain ⟨b, rfl⟩ := Int.eq_ofNat_of_zero_le hb.1
  obtain ⟨q, rfl⟩ := Int.eq_ofNat_of_zero_le hq.1
  rw [← Int.natCast_mul]
  have := Nat.mul_le_mul (show b ≤ 18446744073709551615 by omega) (show q ≤ 18446744073709551615 by omega)
  omega
theorem less_sum {A G r0 r1 r2 r3 o hi lo : Nat} (h : A + 115792089237316195423570985008687907853269984665640564039457584007913129639936 * o = ((((r3 * 18446744073709551616 + r2) * 18446744073709551616 + r1) * 18446744073709551616 + r0) + G)) (hG : 115792089237316195423570985008687907853269984665640564039457584007913129639936 * hi + lo = G) (hlo : lo < 115792089237316195423570985008687907853269984665640564039457584007913129639936) (hA : A < 115792089237316195423570985008687907853269984665640564039457584007913129639936) (h0 : r0 < 18446744073709551616) (h1 : r1 < 18446744073709551616) (h2 : r2 < 18446744073709551616) (h3 : r3 < 18446744073709551616) :
    (((r3 * 18446744073709551616 + r2) * 18446744073709551616 + r1) * 18446744073709551616 + r0) % 115792089237316195423570985008687907853269984665640564039457584007913129639936 = (A + 115792089237316195423570985008687907853269984665640564039457584007913129639936 - lo) % 115792089237316195423570985008687907853269984665640564039457584007913129639936 ∧ (o : Int) = (hi : Int) + if A < lo then 1 else 0 := by
  split
  · refine ⟨?_, ?_⟩ <;> omega
  · refine ⟨?_, ?_⟩ <;> omega
theorem ok_fless : ∀ (a : Nat) (q : Int) (b : Nat), Ok (flessC a q b) → Owes Try.prog cxFless [] 100 Try.f102 [sU a, sI .u64 q, sU b] (flessG a q b) := by
  intro a q b hc
  obtain ⟨hq, _⟩ := hc
  rw [vc_fless]
  have hl := fun n i => (⟨limb_nonneg n i, limb_lt n i⟩ : (0 : Int) ≤ limb n i ∧ limb n i < 18446744073709551616)
  have z : (0 : Int) ≤ 0 ∧ (0 : Int) < 18446744073709551616 := by decide
  have z1 : (0 : Int) ≤ 0 ∧ (0 : Int) ≤ 1 := by decide
  obtain ⟨o0, s0, r0, p0, l0⟩ := less_step (limb a 0) (limb b 0 * q) 0 (hl a 0) (prod_bound (hl b 0) hq) z
  intro x1 x2 x3 x4 x5 x6 x7 x8
  have O0 : 0 ≤ x8 ∧ x8 < 18446744073709551616 := o0
  have S0 : limb a 0 + 18446744073709551616 * x8 = x7 % 18446744073709551616 + x1 + 0 := s0
  have R0 : 0 ≤ x7 % 18446744073709551616 ∧ x7 % 18446744073709551616 < 18446744073709551616 := r0
  have L0 : 0 ≤ x4 ∧ x4 < 18446744073709551616 := l0
  obtain ⟨o1, s1, r1, p1, l1⟩ := less_step (limb a 1) (limb b 1 * q) x8 (hl a 1) (prod_bound (hl b 1) hq) O0
  intro x9 x10 x11 x12 x13 x14
  have O1 : 0 ≤ x14 ∧ x14 < 18446744073709551616 := o1
  have S1 : limb a 1 + 18446744073709551616 * x14 = x13 % 18446744073709551616 + x5 + x8 := s1
  have R1 : 0 ≤ x13 % 18446744073709551616 ∧ x13 % 18446744073709551616 < 18446744073709551616 := r1
  have L1 : 0 ≤ x10 ∧ x10 < 18446744073709551616 := l1
  obtain ⟨o2, s2, r2, p2, l2⟩ := less_step (limb a 2) (limb b 2 * q) x14 (hl a 2) (prod_bound (hl b 2) hq) O1
  intro x15 x16 x17 x18 x19 x20
  have O2 : 0 ≤ x20 ∧ x20 < 18446744073709551616 := o2
  have S2 : limb a 2 + 18446744073709551616 * x20 = x19 % 18446744073709551616 + x11 + x14 := s2
  have R2 : 0 ≤ x19 % 18446744073709551616 ∧ x19 % 18446744073709551616 < 18446744073709551616 := r2
  have L2 : 0 ≤ x16 ∧ x16 < 18446744073709551616 := l2
  obtain ⟨o3, s3, r3, p3, l3⟩ := less_step (limb a 3) (limb b 3 * q) x20 (hl a 3) (prod_bound (hl b 3) hq) O2
  intro x21 x22 x23 x24 x25 x26 x27 x28 x29 x30
  have L3 : 0 ≤ x22 ∧ x22 < 18446744073709551616 := l3
  have R3 : 0 ≤ x27 ∧ x27 < 18446744073709551616 := r3
  have S3 : limb a 3 + 18446744073709551616 * IntKind.u64.wrap (IntKind.u64.wrap (x17 / 18446744073709551616 + x21 / 18446744073709551616) + -(x26 / 18446744073709551616)) = x27 + x17 + x20 := s3
  have O3 : 0 ≤ IntKind.u64.wrap (IntKind.u64.wrap (x17 / 18446744073709551616 + x21 / 18446744073709551616) + -(x26 / 18446744073709551616)) ∧ IntKind.u64.wrap (IntKind.u64.wrap (x17 / 18446744073709551616 + x21 / 18446744073709551616) + -(x26 / 18446744073709551616)) < 18446744073709551616 := o3
  have R0' : 0 ≤ x23 ∧ x23 < 18446744073709551616 := R0
  have R1' : 0 ≤ x24 ∧ x24 < 18446744073709551616 := R1
  have R2' : 0 ≤ x25 ∧ x25 < 18446744073709551616 := R2
  have S0' : limb a 0 + 18446744073709551616 * x8 = x23 + x1 + 0 := S0
  have S1' : limb a 1 + 18446744073709551616 * x14 = x24 + x5 + x8 := S1
  have S2' : limb a 2 + 18446744073709551616 * x20 = x25 + x11 + x14 := S2
  clear o0 s0 r0 l0 o1 s1 r1 l1 o2 s2 r2 l2 o3 s3 r3 l3 R0 R1 R2 S0 S1 S2
  have M : (join x23 x24 x25 x27 % M256 = (x28 + M256 - x30) % M256) ∧ IntKind.u64.wrap (IntKind.u64.wrap (x17 / 18446744073709551616 + x21 / 18446744073709551616) + -(x26 / 18446744073709551616)) = ((x29 / M256 : Nat) : Int) + if x28 < x30 then (1 : Int) else (0 : Int) := by
    have e1 : x1 = limb b 0 * q := rfl
    have e5 : x5 = limb b 1 * q := rfl
    have e11 : x11 = limb b 2 * q := rfl
    have e17 : x17 = limb b 3 * q := rfl
    have e28 : x28 = a % M256 := rfl
    have e29 : x29 = b % M256 * q.toNat := rfl
    have e30 : x30 = x29 % M256 := rfl
    generalize IntKind.u64.wrap (IntKind.u64.wrap (x17 / 18446744073709551616 + x21 / 18446744073709551616) + -(x26 / 18446744073709551616)) = o at *
    clear_value x1 x5 x8 x11 x14 x17 x20 x23 x24 x25 x27 x28 x29 x30
    obtain ⟨Q, rfl⟩ := Int.eq_ofNat_of_zero_le hq.1
    obtain ⟨w0, rfl⟩ := Int.eq_ofNat_of_zero_le R0'.1
    obtain ⟨w1, rfl⟩ := Int.eq_ofNat_of_zero_le R1'.1
    obtain ⟨w2, rfl⟩ := Int.eq_ofNat_of_zero_le R2'.1
    obtain ⟨w3, rfl⟩ := Int.eq_ofNat_of_zero_le R3.1
    obtain ⟨ov, rfl⟩ := Int.eq_ofNat_of_zero_le O3.1
    obtain ⟨a0, h0, b0⟩ := limb_is a 0
    obtain ⟨a1, h1, b1⟩ := limb_is a 1
    obtain ⟨a2, h2, b2⟩ := limb_is a 2
    obtain ⟨a3, h3, b3⟩ := limb_is a 3
    obtain ⟨y0, k0, c0⟩ := limb_is b 0
    obtain ⟨y1, k1, c1⟩ := limb_is b 1
    obtain ⟨y2, k2, c2⟩ := limb_is b 2
    obtain ⟨y3, k3, c3⟩ := limb_is b 3
    have hA := horner_is a a0 a1 a2 a3 h0 h1 h2 h3
    have hB := horner_is b y0 y1 y2 y3 k0 k1 k2 k3
    rw [Int.toNat_natCast, hB] at e29
    have e29' : x29 = ((y3 * Q * 18446744073709551616 + y2 * Q) * 18446744073709551616 + y1 * Q) * 18446744073709551616 + y0 * Q := by
      have k1 : ∀ X Y : Nat, (X * 18446744073709551616 + Y) * Q = X * Q * 18446744073709551616 + Y * Q := fun X Y => by rw [Nat.add_mul, Nat.mul_right_comm]
      rw [e29, k1, k1, k1]
    rw [h0] at S0'
    rw [h1] at S1'
    rw [h2] at S2'
    rw [h3] at S3
    rw [k0, ← Int.natCast_mul] at e1
    rw [k1, ← Int.natCast_mul] at e5
    rw [k2, ← Int.natCast_mul] at e11
    rw [k3, ← Int.natCast_mul] at e17
    have hMl : x29 % M256 < M256 := Nat.mod_lt _ (by rw [M256_eq]; decide)
    have hMd := Nat.div_add_mod x29 M256
    have hAl : x28 < M256 := by rw [e28]; exact Nat.mod_lt _ (by rw [M256_eq]; decide)
    rw [hA] at e28
    rw [← e30] at hMl hMd
    rw [join_nat]
    rw [M_val] at hMl hMd hAl ⊢
    refine less_sum ?_ hMd hMl hAl (Int.ofNat_lt.1 R0'.2) (Int.ofNat_lt.1 R1'.2) (Int.ofNat_lt.1 R2'.2) (Int.ofNat_lt.1 R3.2)
    rw [e28, e29']
    clear e28 e29 e29' e30 hMl hMd hAl hA hB hl O0 O1 O2 O3 L0 L1 L2 L3 p0 p1 p2 p3 R0' R1' R2' R3
    generalize y0 * Q = t0 at *
    generalize y1 * Q = t1 at *
    generalize y2 * Q = t2 at *
    generalize y3 * Q = t3 at *
    exact Nat.le_antisymm (by omega) (by omega)
  exact ⟨hl b 0, hq, p0, z.1, z1, hl a 0, L0, z1, hl b 1, hq, p1, O0.1, z1, hl a 1, L1, z1, hl b 2, hq, p2, O1.1, z1, hl a 2, L2, z1, hl b 3, hq, p3, O2.1, z1, hl a 3, L3, z1, ⟨R0', R1', R2', R3, M.1, trivial⟩, M.2⟩
theorem card_fless : FnOK Try.prog 102 (specUWU flessC flessG) :=
  FnOK_UWU (CxOK_cons card_Mul64 (CxOK_cons card_Add64 (CxOK_cons card_Sub64 CxOK_nil))) (iv := fun _ _ _ => []) (N := 100) Try.func102 (by kernel_rfl) (by kernel_rfl) (fun _ _ _ => bnd_two (bnd_U _) (bnd_I _ _)) ok_fless
theorem card_bring : FnOK Try.prog 92 (specUWU digC bringG) :=
  FnOK_UWU (CxOK_cons card_fguess (CxOK_cons card_fless (CxOK_cons card_Add CxOK_nil))) (iv := fun r x b => [(5, .inv (invBring r x b))]) (N := 100) Try.func92 (by kernel_rfl) (by kernel_rfl) (fun _ _ _ => bnd_one (bnd_U _)) ok_bring
theorem card_rest : FnOK Try.prog 84 (specUUU restC restG) :=
  FnOK_UUU (CxOK_cons card_Mul (CxOK_cons card_bring CxOK_nil)) (iv := fun _ _ _ => []) (N := 100) Try.func84 (by kernel_rfl) (by kernel_rfl) (fun _ _ _ => bnd_one (bnd_U _)) ok_rest

theorem ok_bit : ∀ n : Int, Ok (bitC n) → Owes Try.prog Cx.none [] 100 Try.f86 [sI .i64 n] (bitG n) := by
  intro n hc
  obtain ⟨hn, _⟩ := hc
  rw [vc_bit]
  obtain ⟨p, t, hnp, ht, hp, y1, y2, y3, y4⟩ := n_parts (n := n) ⟨hn.1, by omega⟩
  have hp3 : p ≤ 3 := by omega
  have ht63 : 2 ^ t < 18446744073709551616 := Nat.lt_of_le_of_lt (Nat.pow_le_pow_right (by decide) ht) (by decide)
  intro x1 x2 x3 x4 x5 x6 x7
  have E1 : x1 = (p : Int) := y1
  have E2 : x2 = p := by simp only [x2, E1]; exact Int.toNat_natCast _
  have E3 : x3 = ((2 ^ t : Nat) : Int) := by
    simp only [x3, y2]
    rw [two_min t (by omega), Int.one_mul]
    exact wrap_id (word_nat ht63)
  have w := word_nat ht63
  rw [y2, hnp, Int.toNat_natCast, two_split]
  have hE : ∀ i : Nat, (if i = x2 then x3 else (0 : Int)) = ((if i = p then 2 ^ t else 0 : Nat) : Int) := fun i => by
    rw [E2, E3]
    split <;> rfl
  have hb : ∀ i : Nat, (0 : Int) ≤ ((if i = p then 2 ^ t else 0 : Nat) : Int) ∧ ((if i = p then 2 ^ t else 0 : Nat) : Int) < 18446744073709551616 := fun i => word_nat (by split; exact ht63; decide)
  have E4 : x4 = ((if 0 = p then 2 ^ t else 0 : Nat) : Int) := hE 0
  have E5 : x5 = ((if 1 = p then 2 ^ t else 0 : Nat) : Int) := hE 1
  have E6 : x6 = ((if 2 = p then 2 ^ t else 0 : Nat) : Int) := hE 2
  have E7 : x7 = ((if 3 = p then 2 ^ t else 0 : Nat) : Int) := hE 3
  rw [E4, E5, E6, E7, E1, join_nat]
  refine ⟨nn _, ⟨nn _, by omega⟩, ⟨nn _, by omega⟩, hb 0, hb 1, hb 2, hb 3, ?_, trivial⟩
  refine congrArg (· % M256) ?_
  generalize 2 ^ t = d at *
  rcases (show p = 0 ∨ p = 1 ∨ p = 2 ∨ p = 3 by omega) with rfl | rfl | rfl | rfl
  · simp
  · simp
  · simp [Nat.mul_assoc]
  · simp [Nat.mul_assoc]
theorem card_bit : FnOK Try.prog 86 (specI bitC bitG) :=
  FnOK_I CxOK_nil (iv := fun _ => []) (N := 100) Try.func86 (by kernel_rfl) (by kernel_rfl) (fun _ => bnd_one (bnd_U _)) ok_bit

theorem prod_moved {a b m D E M : Nat} (hDE : D * E = M) (hM0 : 0 < M) (hEM : E < M) (hm : 0 < m) (hmD : m * D < M) : a * (b * D) % (m * D) % M * (E % M) / M % M = a * b % m % M := by
  have h1 : a * (b * D) % (m * D) = a * b % m * D := by rw [← Nat.mul_assoc, Nat.mul_mod_mul_right]
  have hr := Nat.mod_lt (a * b) hm
  have h2 : a * b % m * D < M := Nat.lt_of_le_of_lt (Nat.mul_le_mul_right D (Nat.le_of_lt hr)) hmD
  rw [h1, Nat.mod_eq_of_lt h2, Nat.mod_eq_of_lt hEM, Nat.mul_assoc, hDE, Nat.mul_div_cancel _ hM0]
theorem ok_product : ∀ a b m : Nat, Ok (prodC a b m) → Owes Try.prog cxProd [] 100 Try.f72 [sU a, sU b, sU m] (prodG a b m) := by
  intro a b m hc
  obtain ⟨ha, hb, _⟩ := hc
  rw [vc_product]
  have hMp : 0 < M256 := by rw [M256_eq]; decide
  have hM := Nat.mod_lt m hMp
  have hm0 : 0 < m % M256 := by omega
  have hl := bitsN_le (n := m % M256) (k := 256) hM
  obtain ⟨hb1, hb2⟩ := bitsN_two (m % M256) (by omega)
  have hl0 : 1 ≤ bitsN (m % M256) := by
    refine Nat.pos_of_ne_zero fun e => ?_
    rw [e] at hb1
    omega
  obtain ⟨s, hs⟩ : ∃ s, s = 256 - bitsN (m % M256) := ⟨_, rfl⟩
  have hs' : bitsN (m % M256) = 256 - s := by omega
  have hs2 : s ≤ 255 := by omega
  have hDE : 2 ^ s * 2 ^ (256 - s) = M256 := by rw [← Nat.pow_add, show s + (256 - s) = 256 by omega]; rfl
  have hD := Nat.two_pow_pos s
  rw [hs'] at hb1 hb2
  have hYM : m % M256 * 2 ^ s < M256 := Nat.lt_of_lt_of_eq (Nat.mul_lt_mul_of_pos_right hb1 hD) (by rw [Nat.mul_comm, hDE])
  have hYt : M256 ≤ 2 * (m % M256 * 2 ^ s) := by
    have := Nat.mul_le_mul_right (2 ^ s) hb2
    rw [Nat.mul_comm (2 ^ (256 - s)), hDE, Nat.mul_assoc] at this
    exact this
  intro x1 x2 x3 x4 x5 x6 x7 x8 x9
  have E1 : x1 = m % M256 := rfl
  have E2 : x2 = (s : Int) := by simp only [x2, x1, ← hs]
  have E3 : x3 = a % M256 := rfl
  have E4 : x4 = b % M256 := rfl
  have E5 : x5 = x3 * x4 % x1 % M256 := rfl
  have E6 : x6 = 2 ^ s := by simp only [x6, E2, Int.toNat_natCast]
  have E7 : x7 = m % M256 * 2 ^ s := by simp only [x7, E6]; exact (mod_mul_M m _).trans (Nat.mod_eq_of_lt hYM)
  have hbD : b % M256 * 2 ^ s < m % M256 * 2 ^ s := Nat.mul_lt_mul_of_pos_right hb hD
  have E8 : x8 = b % M256 * 2 ^ s := by simp only [x8, E6]; exact (mod_mul_M b _).trans (Nat.mod_eq_of_lt (Nat.lt_trans hbD hYM))
  have E9 : x9 = ((256 - s : Nat) : Int) := by
    simp only [x9, E2]
    rw [IntWalk.i64_in _ (by omega)]
    omega
  clear_value x9 x8 x7 x6 x5 x4 x3 x2 x1
  refine ⟨fun h => ?_, fun h => ?_⟩
  · have h0 : s = 0 := by
      have h := beq_iff_eq.1 h
      omega
    rw [h0, Nat.pow_zero, Nat.mul_one] at hYt
    exact ⟨by rw [E3, E1]; exact ha, by rw [E4, E1]; exact hb, by rw [E1]; exact hYt, rfl, trivial⟩
  · have h0 : 1 ≤ s := by
      have h := beq_eq_false_iff_ne.1 h
      omega
    have hEM : 2 ^ (256 - s) < M256 := by
      rw [M_pow]
      exact Nat.pow_lt_pow_right (by decide) (by omega)
    refine ⟨by rw [E2]; omega, by rw [E2]; omega, ?_, by rw [E8, E7]; exact hbD, by rw [E7]; exact hYt, by rw [E9]; omega, ?_, trivial⟩
    · rw [E3, E7]
      exact Nat.lt_of_lt_of_le ha (Nat.le_mul_of_pos_right _ hD)
    · rw [E9, Int.toNat_natCast, E8, E7, E5, E3, E4, E1]
      exact prod_moved hDE hMp hEM hm0 hYM
theorem card_product : FnOK Try.prog 72 (specUUU prodC prodG) :=
  FnOK_UUU (CxOK_cons card_fnoughts (CxOK_cons card_rest (CxOK_cons card_bit (CxOK_cons card_Mul CxOK_nil)))) (iv := fun _ _ _ => []) (N := 100) Try.func72 (by kernel_rfl) (by kernel_rfl) (fun _ _ _ => bnd_one (bnd_U _)) ok_product
end Go.Proofs.Ytjokmekclibpmaa
end

section
/-
  Package field's calls; turned round.
-/
namespace Go.Proofs.Ytjokmekclibpmaa
open Go.Sx

theorem cmp_ge {a m : Nat} : cmpN a m ≥ 0 ↔ m % M256 ≤ a % M256 := by
  unfold cmpN
  rcases Nat.lt_or_ge (a % M256) (m % M256) with c | c
  · rw [if_pos c]; omega
  · rw [if_neg (by omega)]
    refine ⟨fun _ => c, fun _ => ?_⟩
    split <;> decide
theorem f_all {a b m r : Nat} :
    (m % M256 = 0 → 0 = (if fE a b m = 0 then r else 0) % M256 ∧ 7 = fE a b m) ∧
    (m % M256 ≠ 0 → (m % M256 ≤ a % M256 ∨ m % M256 ≤ b % M256) → 0 = (if fE a b m = 0 then r else 0) % M256 ∧ 6 = fE a b m) ∧
    (m % M256 ≠ 0 → a % M256 < m % M256 → b % M256 < m % M256 → r % M256 = (if fE a b m = 0 then r else 0) % M256 ∧ 0 = fE a b m) := by
  refine ⟨fun h => ?_, fun h h' => ?_, fun h h1 h2 => ?_⟩
  · have e : fE a b m = 7 := by unfold fE; rw [if_pos h]
    rw [e, if_neg (by decide)]
    exact ⟨(Nat.zero_mod _).symm, rfl⟩
  · have e : fE a b m = 6 := by unfold fE; rw [if_neg h, if_neg (by omega)]
    rw [e, if_neg (by decide)]
    exact ⟨(Nat.zero_mod _).symm, rfl⟩
  · have e : fE a b m = 0 := by unfold fE; rw [if_neg h, if_pos ⟨h1, h2⟩]
    rw [e, if_pos rfl]
    exact ⟨rfl, rfl⟩
theorem ok_fAdd : ∀ a b m : Nat, Ok (noC a b m) → Owes Try.prog cxFadd [] 100 Try.f62 [sU a, sU b, sU m] (faddG a b m) := by
  intro a b m _
  rw [vc_fAdd]
  intro x1 x2 x3 x4 x5
  obtain ⟨f1, f2, f3⟩ := f_all (a := a) (b := b) (m := m) (r := (a % M256 + b % M256) % (m % M256))
  refine ⟨fun h => ?_, fun h => ⟨fun h1 => ?_, fun h1 => ⟨fun h2 => ?_, fun h2 => ?_⟩⟩⟩
  · obtain ⟨p, q⟩ := f1 (beq_iff_eq.1 h)
    exact ⟨⟨p, trivial⟩, q⟩
  · obtain ⟨p, q⟩ := f2 (beq_eq_false_iff_ne.1 h) (.inl (cmp_ge.1 (of_decide_eq_true h1)))
    exact ⟨⟨p, trivial⟩, q⟩
  · obtain ⟨p, q⟩ := f2 (beq_eq_false_iff_ne.1 h) (.inr (cmp_ge.1 (of_decide_eq_true h2)))
    exact ⟨⟨p, trivial⟩, q⟩
  · have l1 : a % M256 < m % M256 := Nat.lt_of_not_le fun c => of_decide_eq_false h1 (cmp_ge.2 c)
    have l2 : b % M256 < m % M256 := Nat.lt_of_not_le fun c => of_decide_eq_false h2 (cmp_ge.2 c)
    obtain ⟨p, q⟩ := f3 (beq_eq_false_iff_ne.1 h) l1 l2
    exact ⟨l1, l2, ⟨p, trivial⟩, q⟩
theorem card_fAdd : FnOK Try.prog 62 (specUUU noC faddG) :=
  FnOK_UUU (CxOK_cons card_Cmp (CxOK_cons card_sum CxOK_nil)) (iv := fun _ _ _ => []) (N := 100) Try.func62 (by kernel_rfl) (by kernel_rfl) (fun _ _ _ => bnd_two (bnd_U _) (bnd_I _ _)) ok_fAdd
theorem ok_fMul : ∀ a b m : Nat, Ok (noC a b m) → Owes Try.prog cxFmul [] 100 Try.f61 [sU a, sU b, sU m] (fmulG a b m) := by
  intro a b m _
  rw [vc_fMul]
  intro x1 x2 x3 x4 x5
  obtain ⟨f1, f2, f3⟩ := f_all (a := a) (b := b) (m := m) (r := a % M256 * (b % M256) % (m % M256))
  refine ⟨fun h => ?_, fun h => ⟨fun h1 => ?_, fun h1 => ⟨fun h2 => ?_, fun h2 => ?_⟩⟩⟩
  · obtain ⟨p, q⟩ := f1 (beq_iff_eq.1 h)
    exact ⟨⟨p, trivial⟩, q⟩
  · obtain ⟨p, q⟩ := f2 (beq_eq_false_iff_ne.1 h) (.inl (cmp_ge.1 (of_decide_eq_true h1)))
    exact ⟨⟨p, trivial⟩, q⟩
  · obtain ⟨p, q⟩ := f2 (beq_eq_false_iff_ne.1 h) (.inr (cmp_ge.1 (of_decide_eq_true h2)))
    exact ⟨⟨p, trivial⟩, q⟩
  · have l1 : a % M256 < m % M256 := Nat.lt_of_not_le fun c => of_decide_eq_false h1 (cmp_ge.2 c)
    have l2 : b % M256 < m % M256 := Nat.lt_of_not_le fun c => of_decide_eq_false h2 (cmp_ge.2 c)
    obtain ⟨p, q⟩ := f3 (beq_eq_false_iff_ne.1 h) l1 l2
    exact ⟨l1, l2, ⟨p, trivial⟩, q⟩
theorem card_fMul : FnOK Try.prog 61 (specUUU noC fmulG) :=
  FnOK_UUU (CxOK_cons card_Cmp (CxOK_cons card_product CxOK_nil)) (iv := fun _ _ _ => []) (N := 100) Try.func61 (by kernel_rfl) (by kernel_rfl) (fun _ _ _ => bnd_two (bnd_U _) (bnd_I _ _)) ok_fMul
/-! ## The laws -/
end Go.Proofs.Ytjokmekclibpmaa
end

section
/-
  Package field: powers.
-/
namespace Go.Proofs.Ytjokmekclibpmaa
open Go.Sx

theorem and_one (v : Nat) (h : v < 18446744073709551616) : IntKind.u64.wrap ((BitVec.ofInt 64 (v : Int) &&& BitVec.ofInt 64 (1 : Int)).toNat : Int) = ((v % 2 : Nat) : Int) := by
  have b1 : (BitVec.ofInt 64 (v : Int)).toNat = v := by rw [BitVec.toNat_ofInt]; omega
  have b2 : (BitVec.ofInt 64 (1 : Int)).toNat = 1 := by decide
  rw [BitVec.toNat_and, b1, b2, Nat.and_one_is_mod, wrap_id (word_nat (by omega))]
theorem limb_bit (x j : Nat) (hj : j < 256) : (IntKind.u64.wrap ((BitVec.ofInt 64 ((limb x (j / 64)).fdiv ((2 ^ (j % 64) : Nat) : Int)) &&& BitVec.ofInt 64 (1 : Int)).toNat : Int) == 1) = (x % M256).testBit j := by
  have e : limb x (j / 64) = ((x / 2 ^ (64 * (j / 64)) % 2 ^ 64 : Nat) : Int) := rfl
  have hc : x / 2 ^ (64 * (j / 64)) % 2 ^ 64 < 18446744073709551616 := Nat.mod_lt _ (by decide)
  rw [e, fdiv_nat, and_one _ (Nat.lt_of_le_of_lt (Nat.div_le_self _ _) hc)]
  have h1 : (x / 2 ^ (64 * (j / 64)) % 2 ^ 64).testBit (j % 64) = (x % M256).testBit j := by
    rw [Nat.testBit_mod_two_pow, M_pow, Nat.testBit_mod_two_pow, Nat.testBit_div_two_pow]
    rw [decide_eq_true (Nat.mod_lt j (show 0 < 64 by decide)), decide_eq_true hj, Nat.mod_add_div]
  rw [← h1, Nat.testBit_eq_decide_div_mod_eq, Bool.eq_iff_iff, beq_iff_eq, decide_eq_true_eq]
  generalize x / 2 ^ (64 * (j / 64)) % 2 ^ 64 / 2 ^ (j % 64) = w
  omega
end Go.Proofs.Ytjokmekclibpmaa
end

section
/-
  Package field: inverses: a number with a sign, the highest bits, turns.
-/
namespace Go.Proofs.Ytjokmekclibpmaa
open Go.Sx

theorem limb_mod (a i : Nat) (hi : i ≤ 3) : a / 2 ^ (64 * i) % 2 ^ 64 = a % M256 / 2 ^ (64 * i) % 2 ^ 64 := by
  have e : M256 = 2 ^ (64 * i) * 2 ^ (256 - 64 * i) := by rw [← Nat.pow_add, M_pow, show 64 * i + (256 - 64 * i) = 256 by omega]
  rw [e, Nat.mod_mul_right_div_self, Nat.mod_mod_of_dvd _ (Nat.pow_dvd_pow 2 (by omega))]
end Go.Proofs.Ytjokmekclibpmaa
end

section
/-
  Package field: inverses: several divisions foreseen.
-/
namespace Go.Proofs.Ytjokmekclibpmaa
open Go.Sx

end Go.Proofs.Ytjokmekclibpmaa
end

section
/-
  Package field: inverses.
-/
namespace Go.Proofs.Ytjokmekclibpmaa
open Go.Sx

end Go.Proofs.Ytjokmekclibpmaa
end

section
/-
  Inverses: laws.
-/
namespace Go.Proofs.Ytjokmekclibpmaa
open Go.Sx

end Go.Proofs.Ytjokmekclibpmaa
end

section
/-
  Inverses: laws on small numbers.
-/
namespace Go.Proofs.Ytjokmekclibpmaa
open Go.Sx

end Go.Proofs.Ytjokmekclibpmaa
end

section
/-
  Package curve: hands that can do what they are asked.
-/
namespace Go.Proofs.Ytjokmekclibpmaa
open Go.Sx

theorem M_pos : 0 < M256 := by rw [M256_eq]; decide
theorem mod_M {v m : Nat} (h : v < m % M256) : v % M256 = v := Nat.mod_eq_of_lt (Nat.lt_trans h (Nat.mod_lt _ M_pos))
theorem fE_zero {a b m : Nat} (ha : a % M256 < m % M256) (hb : b % M256 < m % M256) : fE a b m = 0 := by
  unfold fE
  rw [if_neg (by omega), if_pos ⟨ha, hb⟩]
theorem bnd_none : SV.bnd none0 (.tup []) := by intro z hz; simp at hz
end Go.Proofs.Ytjokmekclibpmaa
end

section
/-
  Cards of functions over rows of digits to the base 2^32, and what such digits are.
-/
namespace Go.Sx
open Go.RowKit

/-- A slice of numbers of 64 bits, read. -/
def asDg (x : SA) : Option (List Prop × Nat × (Nat → Int)) :=
  match x with
  | .sc (.val (.slice none 0 0)) => some ([], 0, fun _ => 0)
  | .sc (.xs _ n _ w h) => match Nat.beq w 1 with
    | true => some ([∀ i, isKind .u64 (h i 0)], n, fun i => intsC (h i 0))
    | false => none
  | _ => none
theorem asDg_canon {x : SA} {ps : List Prop} {n : Nat} {f : Nat → Int} (h : asDg x = some (ps, n, f)) (hp : Ok ps) : ∃ a cap, (∀ ρ, x.conc ρ = (xsI a n cap .u64 f).conc ρ) ∧ ∀ fz, x.bnd ⟨fun _ => True, fz⟩ → (xsI a n cap .u64 f).bnd ⟨fun _ => False, fz⟩ := by
  unfold asDg at h
  split at h
  · simp only [Option.some.injEq, Prod.mk.injEq] at h
    obtain ⟨rfl, rfl, rfl⟩ := h
    exact ⟨none, 0, fun _ => rfl, fun _ _ => ⟨fun _ => ⟨rfl, rfl⟩, Nat.le_refl _, fun b hb => by cases hb⟩⟩
  · rename_i a m cap w g
    split at h
    case h_2 => cases h
    rename_i hw
    have hw := Nat.eq_of_beq_eq_true hw
    subst hw
    simp only [Option.some.injEq, Prod.mk.injEq] at h
    obtain ⟨rfl, rfl, rfl⟩ := h
    refine ⟨a, cap, fun _ => rfl, fun fz hb => ⟨hb.1, hb.2.1, fun b e => ⟨(hb.2.2 b e).1, fun i hi c hc => ?_⟩⟩⟩
    obtain ⟨_, _, q⟩ := (hb.2.2 b e).2 i hi c hc
    have hc0 : c = 0 := by omega
    subst hc0
    rw [isKind_sound (hp.1 i) Rho.nil] at q
    exact ⟨trivial, rfl, q⟩
  · cases h
/-- What such a card asks and gives, by the digits. -/
def specD (sh : Bool) (c : Nat → (Nat → Int) → List Prop) (r : Nat → (Nat → Int) → List RS) : SSpec := ⟨sh, fun args =>
  match args with
  | [x] => match asDg x with
    | some (p, n, f) => some (p ++ c n f, r n f)
    | none => none
  | _ => none⟩
def specDD (sh : Bool) (c : Nat → (Nat → Int) → Nat → (Nat → Int) → List Prop) (r : Nat → (Nat → Int) → Nat → (Nat → Int) → List RS) : SSpec := ⟨sh, fun args =>
  match args with
  | [x, y] => match asDg x, asDg y with
    | some (p, n, f), some (q, m, g) => some (p ++ (q ++ c n f m g), r n f m g)
    | _, _ => none
  | _ => none⟩
def specUR (r : Nat → List RS) : SSpec := ⟨false, fun args =>
  match args with
  | [x] => match asU x with
    | some (p, a) => some (p, r a)
    | none => none
  | _ => none⟩
def specDU (c : Nat → (Nat → Int) → Nat → List Prop) (r : Nat → (Nat → Int) → Nat → List RS) : SSpec := ⟨false, fun args =>
  match args with
  | [x, y] => match asDg x, asU y with
    | some (p, n, f), some (q, m) => some (p ++ (q ++ c n f m), r n f m)
    | _, _ => none
  | _ => none⟩
section
variable {P : Program} {cx : Cx} {sl : List (Nat × SSpec)} {f : Nat} {fn : Func}
theorem FnOKs_D (hcx : CxOK P cx) (hsl : ∀ p ∈ sl, FnOKs P cx.gl p.1 p.2) (hf : P.funcs[f]? = some fn) (hb : fn.body.isSome = true) (hn : (fn.name == "runtime.NumGoroutine") = false) {sh : Bool} {c : Nat → (Nat → Int) → List Prop} {r : Nat → (Nat → Int) → List RS} {iv : Option Addr → Nat → Nat → (Nat → Int) → List (Nat × Hint)} {N : Nat} (hr : ∀ n f, ∀ x ∈ r n f, x.closed)
    (h : ∀ a n cap g, Ok (c n g) → OwesR P cx sl (iv a n cap g) N fn [xsI a n cap .u64 g] sh (r n g)) : FnOKs P cx.gl f (specD sh c r) := by
  refine FnOKs_owes hcx hsl hf hb hn fun args ps rs hs hp => ?_
  simp only [specD] at hs
  split at hs
  case h_2 => cases hs
  rename_i x
  split at hs
  case h_2 => cases hs
  rename_i p n g hx
  simp only [Option.some.injEq, Prod.mk.injEq] at hs
  obtain ⟨rfl, rfl⟩ := hs
  obtain ⟨o1, o2⟩ := Ok.append.1 hp
  obtain ⟨a, cap, k1, k2⟩ := asDg_canon hx o1
  refine ⟨iv a n cap g, N, [xsI a n cap .u64 g], fun ρ => by simp only [List.map_cons, List.map_nil, k1 ρ], fun fz ha z hz => ?_, hr n g, h a n cap g o2⟩
  simp only [List.mem_singleton] at hz
  subst hz
  exact k2 fz (ha x (by simp))
theorem FnOKs_DD (hcx : CxOK P cx) (hsl : ∀ p ∈ sl, FnOKs P cx.gl p.1 p.2) (hf : P.funcs[f]? = some fn) (hb : fn.body.isSome = true) (hn : (fn.name == "runtime.NumGoroutine") = false) {sh : Bool} {c : Nat → (Nat → Int) → Nat → (Nat → Int) → List Prop} {r : Nat → (Nat → Int) → Nat → (Nat → Int) → List RS} {iv : Option Addr → Nat → Nat → (Nat → Int) → Option Addr → Nat → Nat → (Nat → Int) → List (Nat × Hint)} {N : Nat} (hr : ∀ n f m g, ∀ x ∈ r n f m g, x.closed)
    (h : ∀ a n cap g a' n' cap' g', Ok (c n g n' g') → OwesR P cx sl (iv a n cap g a' n' cap' g') N fn [xsI a n cap .u64 g, xsI a' n' cap' .u64 g'] sh (r n g n' g')) : FnOKs P cx.gl f (specDD sh c r) := by
  refine FnOKs_owes hcx hsl hf hb hn fun args ps rs hs hp => ?_
  simp only [specDD] at hs
  split at hs
  case h_2 => cases hs
  rename_i x y
  split at hs
  case h_2 => cases hs
  rename_i p n g q n' g' hx hy
  simp only [Option.some.injEq, Prod.mk.injEq] at hs
  obtain ⟨rfl, rfl⟩ := hs
  obtain ⟨o1, o23⟩ := Ok.append.1 hp
  obtain ⟨o2, o3⟩ := Ok.append.1 o23
  obtain ⟨a, cap, k1, k2⟩ := asDg_canon hx o1
  obtain ⟨a', cap', k1', k2'⟩ := asDg_canon hy o2
  refine ⟨iv a n cap g a' n' cap' g', N, [xsI a n cap .u64 g, xsI a' n' cap' .u64 g'], fun ρ => by simp only [List.map_cons, List.map_nil, k1 ρ, k1' ρ], fun fz ha z hz => ?_, hr n g n' g', h a n cap g a' n' cap' g' o3⟩
  simp only [List.mem_cons, List.not_mem_nil, or_false] at hz
  rcases hz with rfl | rfl
  · exact k2 fz (ha x (by simp))
  · exact k2' fz (ha y (by simp))
theorem bnd_Un {n : Env} (a : Nat) : (SA.agg [SK.u a]).bnd n := by
  intro k hk
  simp only [List.mem_singleton] at hk
  subst hk
  trivial
theorem FnOKs_UR (hcx : CxOK P cx) (hsl : ∀ p ∈ sl, FnOKs P cx.gl p.1 p.2) (hf : P.funcs[f]? = some fn) (hb : fn.body.isSome = true) (hn : (fn.name == "runtime.NumGoroutine") = false) {r : Nat → List RS} {iv : Nat → List (Nat × Hint)} {N : Nat} (hr : ∀ a, ∀ x ∈ r a, x.closed)
    (h : ∀ a, OwesR P cx sl (iv a) N fn [sU a] false (r a)) : FnOKs P cx.gl f (specUR r) := by
  refine FnOKs_owes hcx hsl hf hb hn fun args ps rs hs hp => ?_
  simp only [specUR] at hs
  split at hs
  case h_2 => cases hs
  rename_i x
  split at hs
  case h_2 => cases hs
  rename_i p a hx
  simp only [Option.some.injEq, Prod.mk.injEq] at hs
  obtain ⟨rfl, rfl⟩ := hs
  refine ⟨iv a, N, [sU a], fun ρ => by simp only [List.map_cons, List.map_nil, asU_canon hx hp ρ], fun fz _ z hz => ?_, hr a, h a⟩
  simp only [List.mem_singleton] at hz
  subst hz
  exact bnd_Un a
theorem FnOKs_DU (hcx : CxOK P cx) (hsl : ∀ p ∈ sl, FnOKs P cx.gl p.1 p.2) (hf : P.funcs[f]? = some fn) (hb : fn.body.isSome = true) (hn : (fn.name == "runtime.NumGoroutine") = false) {c : Nat → (Nat → Int) → Nat → List Prop} {r : Nat → (Nat → Int) → Nat → List RS} {iv : Option Addr → Nat → Nat → (Nat → Int) → Nat → List (Nat × Hint)} {N : Nat} (hr : ∀ n f m, ∀ x ∈ r n f m, x.closed)
    (h : ∀ a n cap g m, Ok (c n g m) → OwesR P cx sl (iv a n cap g m) N fn [xsI a n cap .u64 g, sU m] false (r n g m)) : FnOKs P cx.gl f (specDU c r) := by
  refine FnOKs_owes hcx hsl hf hb hn fun args ps rs hs hp => ?_
  simp only [specDU] at hs
  split at hs
  case h_2 => cases hs
  rename_i x y
  split at hs
  case h_2 => cases hs
  rename_i p n g q m hx hy
  simp only [Option.some.injEq, Prod.mk.injEq] at hs
  obtain ⟨rfl, rfl⟩ := hs
  obtain ⟨o1, o23⟩ := Ok.append.1 hp
  obtain ⟨o2, o3⟩ := Ok.append.1 o23
  obtain ⟨a, cap, k1, k2⟩ := asDg_canon hx o1
  refine ⟨iv a n cap g m, N, [xsI a n cap .u64 g, sU m], fun ρ => by simp only [List.map_cons, List.map_nil, k1 ρ, asU_canon hy o2 ρ], fun fz ha z hz => ?_, hr n g m, h a n cap g m o3⟩
  simp only [List.mem_cons, List.not_mem_nil, or_false] at hz
  rcases hz with rfl | rfl
  · exact k2 fz (ha x (by simp))
  · exact bnd_Un m
end

/-! ## Digits -/

/-- What digits say. -/
def vz (f : Nat → Int) : Nat → Int
  | 0 => 0
  | n + 1 => vz f n + f n * 4294967296 ^ n
/-- A digit of a number. -/
def dg (X : Nat) (i : Nat) : Int := ((X / 4294967296 ^ i % 4294967296 : Nat) : Int)
structure dgs (n : Nat) (f : Nat → Int) : Prop where
  at' : ∀ i, i < n → 0 ≤ f i ∧ f i < 4294967296
/-- The number of digits. -/
def vn (n : Nat) (f : Nat → Int) : Nat := (vz f n).toNat
theorem vz_congr {f g : Nat → Int} : ∀ {n : Nat}, (∀ i, i < n → f i = g i) → vz f n = vz g n
  | 0, _ => rfl
  | n + 1, h => by simp only [vz]; rw [vz_congr fun i hi => h i (by omega), h n (by omega)]
theorem pw_pos (n : Nat) : (0 : Int) < 4294967296 ^ n := Int.pow_pos (by decide)
theorem vz_bound {f : Nat → Int} : ∀ {n : Nat}, dgs n f → 0 ≤ vz f n ∧ vz f n < 4294967296 ^ n
  | 0, _ => by simp [vz]
  | n + 1, h => by
    obtain ⟨h1, h2⟩ := vz_bound (n := n) ⟨fun i hi => h.at' i (by omega)⟩
    obtain ⟨k1, k2⟩ := h.at' n (by omega)
    have hp := pw_pos n
    simp only [vz, Int.pow_succ]
    refine ⟨Int.add_nonneg h1 (Int.mul_nonneg k1 (Int.le_of_lt hp)), ?_⟩
    have : f n * 4294967296 ^ n ≤ 4294967295 * 4294967296 ^ n := Int.mul_le_mul_of_nonneg_right (by omega) (Int.le_of_lt hp)
    omega
theorem vz_upd {f : Nat → Int} {k : Nat} {v : Int} : ∀ {n : Nat}, k < n → vz (fun j => if j = k then v else f j) n = vz f n + (v - f k) * 4294967296 ^ k
  | 0, h => by omega
  | n + 1, h => by
    simp only [vz]
    by_cases e : n = k
    · subst e
      rw [if_pos rfl, vz_congr (g := f) fun i hi => if_neg (by omega), Int.sub_mul]
      omega
    · rw [if_neg e, vz_upd (n := n) (by omega)]
      omega
theorem vn_cast {f : Nat → Int} {n : Nat} (h : dgs n f) : ((vn n f : Nat) : Int) = vz f n := by
  unfold vn
  have := (vz_bound h).1
  omega
theorem vn_lt {f : Nat → Int} {n : Nat} (h : dgs n f) : vn n f < 4294967296 ^ n := by
  have h1 := vn_cast h
  have h2 := (vz_bound h).2
  have : ((vn n f : Nat) : Int) < ((4294967296 ^ n : Nat) : Int) := by rw [h1, Int.natCast_pow]; exact h2
  omega
theorem dgs_dg (n X : Nat) : dgs n (dg X) := ⟨fun i _ => by
  unfold dg
  have := Nat.mod_lt (X / 4294967296 ^ i) (show 0 < 4294967296 by decide)
  omega⟩
theorem vz_dg (X : Nat) : ∀ n, vz (dg X) n = ((X % 4294967296 ^ n : Nat) : Int)
  | 0 => by simp [vz, Nat.mod_one]
  | n + 1 => by
    simp only [vz, vz_dg X n, dg]
    rw [Nat.pow_succ, Nat.mod_mul]
    have : ((4294967296 ^ n : Nat) : Int) = (4294967296 : Int) ^ n := Int.natCast_pow _ _
    rw [← this, Int.mul_comm]
    exact (Int.natCast_add _ _).symm ▸ (Int.natCast_mul _ _).symm ▸ rfl
theorem vn_dg (n X : Nat) : vn n (dg X) = X % 4294967296 ^ n := by
  unfold vn
  rw [vz_dg]
  exact Int.toNat_natCast _
theorem vn_dg' {n X : Nat} (h : X < 4294967296 ^ n) : vn n (dg X) = X := by rw [vn_dg, Nat.mod_eq_of_lt h]
theorem vn_congr {f g : Nat → Int} {n : Nat} (h : ∀ i, i < n → f i = g i) : vn n f = vn n g := by unfold vn; rw [vz_congr h]
/-- The last digits of a number. -/
theorem vz_step {f : Nat → Int} {n : Nat} (h : dgs (n + 1) f) : (vn (n + 1) f) / 4294967296 ^ n = (f n).toNat ∧ (vn (n + 1) f) % 4294967296 ^ n = vn n f := by
  have hn : dgs n f := ⟨fun i hi => h.at' i (by omega)⟩
  have e : vn (n + 1) f = vn n f + 4294967296 ^ n * (f n).toNat := by
    have h1 := vn_cast h
    have h2 := vn_cast hn
    have h3 := (h.at' n (by omega)).1
    have : ((vn (n + 1) f : Nat) : Int) = ((vn n f + 4294967296 ^ n * (f n).toNat : Nat) : Int) := by
      rw [h1, Int.natCast_add, Int.natCast_mul, h2, Int.natCast_pow, Int.toNat_of_nonneg h3, Int.mul_comm]
      rfl
    omega
  have hl := vn_lt hn
  rw [e]
  exact ⟨by rw [Nat.add_mul_div_left _ _ (Nat.pow_pos (by decide)), Nat.div_eq_of_lt hl, Nat.zero_add], by rw [Nat.add_mul_mod_self_left, Nat.mod_eq_of_lt hl]⟩
theorem dg_mod {X n i : Nat} (h : i < n) : dg (X % 4294967296 ^ n) i = dg X i := by
  unfold dg
  have e : (4294967296 : Nat) ^ n = 4294967296 ^ i * (4294967296 * 4294967296 ^ (n - i - 1)) := by
    rw [← Nat.pow_succ', ← Nat.pow_add]
    congr 1
    omega
  rw [e, Nat.mod_mul_right_div_self, Nat.mod_mul_right_mod]
/-- Digits are those of what they say. -/
theorem dg_vn {f : Nat → Int} : ∀ {n : Nat}, dgs n f → ∀ i, i < n → dg (vn n f) i = f i
  | 0, _, i, hi => by omega
  | n + 1, h, i, hi => by
    obtain ⟨h1, h2⟩ := vz_step h
    by_cases e : i = n
    · subst e
      obtain ⟨k1, k2⟩ := h.at' i (by omega)
      unfold dg
      rw [h1, Nat.mod_eq_of_lt (by omega)]
      omega
    · rw [← dg_mod (n := n) (by omega), h2]
      exact dg_vn ⟨fun i hi => h.at' i (by omega)⟩ i (by omega)
theorem dg_eq {f : Nat → Int} {n X : Nat} (h : dgs n f) (hX : vz f n = (X : Int)) : ∀ i, i < n → f i = dg X i := by
  have : vn n f = X := by unfold vn; omega
  intro i hi
  rw [← this, dg_vn h i hi]
end Go.Sx
end

section
/-
  Digits to the base 2^32: what sums, differences, orders and products of rows of them come to, a round at a time.
-/
namespace Go.Sx
open Go.RowKit

theorem pwN_pos (n : Nat) : 0 < 4294967296 ^ n := Nat.pow_pos (by decide)
theorem dg_range (X i : Nat) : 0 ≤ dg X i ∧ dg X i < 4294967296 := (dgs_dg (i + 1) X).at' i (by omega)
theorem dg_out {X n i : Nat} (h : X < 4294967296 ^ n) (hi : n ≤ i) : dg X i = 0 := by
  unfold dg
  rw [Nat.div_eq_of_lt (Nat.lt_of_lt_of_le h (Nat.pow_le_pow_right (by decide) hi))]
  rfl
/-- A row's cells are its number's digits. -/
theorem dg_in {n : Nat} {f : Nat → Int} (h : dgs n f) {i : Nat} (hi : i < n) : f i = dg (vn n f) i := (dg_vn h i hi).symm
theorem dg_past {n : Nat} {f : Nat → Int} (h : dgs n f) {i : Nat} (hi : n ≤ i) : dg (vn n f) i = 0 := dg_out (vn_lt h) hi
theorem mod_succ (X i : Nat) : ((X % 4294967296 ^ (i + 1) : Nat) : Int) = ((X % 4294967296 ^ i : Nat) : Int) + dg X i * 4294967296 ^ i := by
  rw [← vz_dg, ← vz_dg]; rfl
theorem div_succ (X i : Nat) : ((X / 4294967296 ^ i : Nat) : Int) = 4294967296 * ((X / 4294967296 ^ (i + 1) : Nat) : Int) + dg X i := by
  unfold dg
  rw [Nat.pow_succ, ← Nat.div_div_eq_div_mul]
  omega

/-! ## Sums -/

structure PlusP (X Y : Nat) (i : Nat) (g : Nat → Int) (c : Int) : Prop where
  ds : dgs i g
  c1 : 0 ≤ c ∧ c ≤ 1
  sum : vz g i + c * 4294967296 ^ i = ((X % 4294967296 ^ i : Nat) : Int) + ((Y % 4294967296 ^ i : Nat) : Int)
theorem PlusP.start (X Y : Nat) (g : Nat → Int) : PlusP X Y 0 g 0 := ⟨⟨fun i hi => by omega⟩, ⟨by omega, by omega⟩, by simp [vz, Nat.mod_one]⟩
theorem dgs_app {i : Nat} {g : Nat → Int} {v : Int} (h : dgs i g) (hv : 0 ≤ v ∧ v < 4294967296) : dgs (i + 1) (fun j => bif decide (j < i) then g j else v) := ⟨fun j hj => by
  by_cases e : j < i
  · simp only [e, decide_true, cond_true]; exact h.at' j e
  · simp only [e, decide_false, cond_false]; exact hv⟩
theorem vz_app {i : Nat} {g : Nat → Int} {v : Int} : vz (fun j => bif decide (j < i) then g j else v) (i + 1) = vz g i + v * 4294967296 ^ i := by
  simp only [vz, Nat.lt_irrefl, decide_false, cond_false]
  rw [vz_congr (g := g) fun j hj => by simp only [hj, decide_true, cond_true]]
theorem PlusP.step {X Y i : Nat} {g : Nat → Int} {c s : Int} (h : PlusP X Y i g c) (hs : s = c + dg X i + dg Y i) : PlusP X Y (i + 1) (fun j => bif decide (j < i) then g j else s.tmod 4294967296) (IntKind.u64.wrap (s.tdiv 4294967296)) := by
  obtain ⟨h1, h2, h3⟩ := h
  have hx := dg_range X i
  have hy := dg_range Y i
  have e1 : s.tmod 4294967296 = s % 4294967296 := Int.tmod_eq_emod_of_nonneg (by omega)
  have e2 : s.tdiv 4294967296 = s / 4294967296 := Int.tdiv_eq_ediv_of_nonneg (by omega)
  have e3 : IntKind.u64.wrap (s / 4294967296) = s / 4294967296 := by rw [IntKind.wrap_u64]; omega
  rw [e1, e2, e3]
  refine ⟨dgs_app h1 (by omega), by omega, ?_⟩
  rw [vz_app, mod_succ, mod_succ, Int.pow_succ]
  have hq : s = 4294967296 * (s / 4294967296) + s % 4294967296 := by omega
  generalize s / 4294967296 = q at *
  generalize s % 4294967296 = r at *
  generalize (4294967296 : Int) ^ i = w at *
  generalize vz g i = z at *
  generalize ((X % 4294967296 ^ i : Nat) : Int) = x at *
  generalize ((Y % 4294967296 ^ i : Nat) : Int) = y at *
  generalize dg X i = dx at *
  generalize dg Y i = dy at *
  grind

/-! ## Orders -/

def cmpI (X Y : Nat) : Int := if X < Y then -1 else if Y < X then 1 else 0
theorem cmp_lt {X Y k : Nat} (h : X / 4294967296 ^ (k + 1) = Y / 4294967296 ^ (k + 1)) (hd : dg X k < dg Y k) : X < Y := by
  have h1 := div_succ X k
  have h2 := div_succ Y k
  rw [h] at h1
  have : X / 4294967296 ^ k < Y / 4294967296 ^ k := by omega
  exact Nat.lt_of_not_le fun hle => by have := Nat.div_le_div_right (c := 4294967296 ^ k) hle; omega
theorem cmp_eq {X Y k : Nat} (h : X / 4294967296 ^ (k + 1) = Y / 4294967296 ^ (k + 1)) (hd : dg X k = dg Y k) : X / 4294967296 ^ k = Y / 4294967296 ^ k := by
  have h1 := div_succ X k
  have h2 := div_succ Y k
  rw [h, hd] at h1
  omega

/-! ## Differences -/

structure LessP (X Y n : Nat) (i : Nat) (g : Nat → Int) (c : Int) : Prop where
  ds : dgs n g
  c1 : c = 0 ∨ c = 1
  rest : ∀ j, i ≤ j → j < n → g j = dg X j
  sum : vz g i - c * 4294967296 ^ i = ((X % 4294967296 ^ i : Nat) : Int) - ((Y % 4294967296 ^ i : Nat) : Int)
theorem LessP.step {X Y n i : Nat} {g g' : Nat → Int} {c v c' : Int} (h : LessP X Y n i g c) (hi : i < n) (hv : v = dg X i - (c + dg Y i) + c' * 4294967296) (hc : c' = if dg X i < c + dg Y i then 1 else 0) (hg : ∀ j, j < n → g' j = if j = i then v else g j) : LessP X Y n (i + 1) g' c' := by
  obtain ⟨h1, h2, h3, h4⟩ := h
  have hx := dg_range X i
  have hy := dg_range Y i
  have hc' : (c' = 0 ∧ c + dg Y i ≤ dg X i) ∨ (c' = 1 ∧ dg X i < c + dg Y i) := by
    rw [hc]; split
    · exact .inr ⟨rfl, by assumption⟩
    · exact .inl ⟨rfl, by omega⟩
  clear hc
  have hvr : 0 ≤ v ∧ v < 4294967296 := by omega
  refine ⟨⟨fun j hj => ?_⟩, by omega, fun j hj hjn => ?_, ?_⟩
  · rw [hg j hj]
    split
    · exact hvr
    · exact h1.at' j hj
  · rw [hg j hjn, if_neg (by omega)]
    exact h3 j (by omega) hjn
  · simp only [vz]
    rw [vz_congr (g := g) (fun j hj => by rw [hg j (by omega), if_neg (by omega)]), hg i hi, if_pos rfl, mod_succ, mod_succ, Int.pow_succ]
    generalize (4294967296 : Int) ^ i = w at *
    generalize vz g i = z at *
    generalize ((X % 4294967296 ^ i : Nat) : Int) = x at *
    generalize ((Y % 4294967296 ^ i : Nat) : Int) = y at *
    generalize dg X i = dx at *
    generalize dg Y i = dy at *
    clear hg h3 h1 hc' hvr hx hy h2
    grind
theorem LessP.done {X Y n : Nat} {g : Nat → Int} {c : Int} (h : LessP X Y n n g c) (hX : X < 4294967296 ^ n) (hY : Y ≤ X) : ∀ i, i < n → g i = dg (X - Y) i := by
  obtain ⟨h1, h2, _, h4⟩ := h
  rw [Nat.mod_eq_of_lt hX, Nat.mod_eq_of_lt (by omega)] at h4
  have hb := vz_bound h1
  have hp := pw_pos n
  refine dg_eq h1 ?_
  rcases h2 with rfl | rfl
  · omega
  · omega

/-! ## How many digits -/

/-- How many digits a number has. -/
def lenDg (X : Nat) : Nat := if X = 0 then 0 else Nat.log2 X / 32 + 1
theorem pw_two (n : Nat) : (4294967296 : Nat) ^ n = 2 ^ (32 * n) := by rw [Nat.pow_mul]
theorem lenDg_lt (X : Nat) : X < 4294967296 ^ lenDg X := by
  unfold lenDg
  split
  · subst_vars; decide
  · rename_i h
    rw [pw_two, ← Nat.log2_lt h]
    omega
theorem lenDg_le {X k : Nat} (h : X < 4294967296 ^ k) : lenDg X ≤ k := by
  unfold lenDg
  split
  · omega
  · rename_i h0
    rw [pw_two, ← Nat.log2_lt h0] at h
    omega
theorem lenDg_eq {X k : Nat} (h : X < 4294967296 ^ k) (hk : k = 0 ∨ dg X (k - 1) ≠ 0) : k = lenDg X := by
  have h1 := lenDg_le h
  rcases Nat.lt_or_ge (lenDg X) k with hlt | hge
  · rcases hk with hk | hk
    · omega
    · exact absurd (dg_out (lenDg_lt X) (by omega)) hk
  · omega

/-! ## Products -/

structure TimesP (X Y n m : Nat) (i : Nat) (o : Nat → Int) : Prop where
  ds : dgs (n + m) o
  top : ∀ k, i + m ≤ k → k < n + m → o k = 0
  sum : vz o (n + m) = ((X % 4294967296 ^ i : Nat) : Int) * (Y : Int)
structure TimesQ (X Y n m : Nat) (i j : Nat) (o : Nat → Int) (c : Int) : Prop where
  ds : dgs (n + m) o
  c1 : 0 ≤ c ∧ c < 4294967296
  top : ∀ k, i + m ≤ k → k < n + m → o k = 0
  sum : vz o (n + m) + c * 4294967296 ^ (i + j) = ((X % 4294967296 ^ i : Nat) : Int) * (Y : Int) + dg X i * 4294967296 ^ i * ((Y % 4294967296 ^ j : Nat) : Int)
theorem dgs_upd {n k : Nat} {o o' : Nat → Int} {v : Int} (h : dgs n o) (hv : 0 ≤ v ∧ v < 4294967296) (ho : ∀ j, j < n → o' j = if j = k then v else o j) : dgs n o' := ⟨fun j hj => by
  rw [ho j hj]
  split
  · exact hv
  · exact h.at' j hj⟩
theorem TimesQ.step {X Y n m i j : Nat} {o o' : Nat → Int} {c s : Int} (h : TimesQ X Y n m i j o c) (hi : i < n) (hj : j < m) (hs : s = dg X i * dg Y j + o (i + j) + c) (ho : ∀ k, k < n + m → o' k = if k = i + j then s % 4294967296 else o k) : TimesQ X Y n m i (j + 1) o' (s / 4294967296) := by
  obtain ⟨h1, h2, h3, h4⟩ := h
  have hx := dg_range X i
  have hy := dg_range Y j
  have ho2 := h1.at' (i + j) (by omega)
  have hp : 0 ≤ dg X i * dg Y j ∧ dg X i * dg Y j ≤ 4294967295 * 4294967295 := ⟨Int.mul_nonneg hx.1 hy.1, Int.mul_le_mul (by omega) (by omega) hy.1 (by omega)⟩
  refine ⟨dgs_upd h1 (by omega) ho, by omega, fun k hk hkn => ?_, ?_⟩
  · rw [ho k hkn, if_neg (by omega)]; exact h3 k hk hkn
  · rw [vz_congr ho, vz_upd (by omega), mod_succ, ← Nat.add_assoc, Int.pow_succ, Int.pow_add]
    rw [Int.pow_add] at h4
    have hq : s = 4294967296 * (s / 4294967296) + s % 4294967296 := by omega
    generalize s / 4294967296 = q at *
    generalize s % 4294967296 = r at *
    generalize (4294967296 : Int) ^ i = w at *
    generalize (4294967296 : Int) ^ j = u at *
    generalize vz o (n + m) = z at *
    generalize o (i + j) = oo at *
    generalize ((X % 4294967296 ^ i : Nat) : Int) = x at *
    generalize ((Y % 4294967296 ^ j : Nat) : Int) = y at *
    generalize dg X i = dx at *
    generalize dg Y j = dy at *
    generalize (Y : Int) = Z at *
    clear h1 h2 h3 hx hy ho2 hp ho hi hj
    grind
theorem TimesP.enter {X Y n m i : Nat} {o : Nat → Int} (h : TimesP X Y n m i o) : TimesQ X Y n m i 0 o 0 := ⟨h.ds, by omega, h.top, by rw [h.sum]; simp [Nat.mod_one]⟩
theorem TimesQ.leave {X Y n m i : Nat} {o o' : Nat → Int} {c : Int} (h : TimesQ X Y n m i m o c) (hi : i < n) (hY : Y < 4294967296 ^ m) (ho : ∀ k, k < n + m → o' k = if k = i + m then c else o k) : TimesP X Y n m (i + 1) o' := by
  obtain ⟨h1, h2, h3, h4⟩ := h
  refine ⟨dgs_upd h1 h2 ho, fun k hk hkn => ?_, ?_⟩
  · rw [ho k hkn, if_neg (by omega)]; exact h3 k (by omega) hkn
  · rw [vz_congr ho, vz_upd (by omega), h3 (i + m) (by omega) (by omega), mod_succ]
    rw [Nat.mod_eq_of_lt hY] at h4
    generalize (4294967296 : Int) ^ i = w at *
    generalize (4294967296 : Int) ^ (i + m) = u at *
    generalize vz o (n + m) = z at *
    generalize ((X % 4294967296 ^ i : Nat) : Int) = x at *
    generalize dg X i = dx at *
    generalize (Y : Int) = Z at *
    clear h1 h2 h3 ho hi hY
    grind
theorem TimesP.done {X Y n m : Nat} {o : Nat → Int} (h : TimesP X Y n m n o) (hX : X < 4294967296 ^ n) : ∀ i, i < n + m → o i = dg (X * Y) i :=
  dg_eq h.ds (by rw [h.sum, Nat.mod_eq_of_lt hX, Int.natCast_mul])
end Go.Sx
end
