/-
  A quotient of two words by one: what the library's text comes to.
-/
import Derived.Test.YtbkdokofapbagaaP13
namespace Go.Proofs.Ytbkdokofapbagaa
open Go.Sx

theorem wrap_mod (n : Int) : IntKind.u64.wrap n = n % 18446744073709551616 := by
  unfold IntKind.wrap
  simp [IntKind.signed, IntKind.bits]
theorem wsub {a b c v : Int} (h : a + b - c = v) (hv : 0 ≤ v ∧ v < 18446744073709551616) : IntKind.u64.wrap (IntKind.u64.wrap (IntKind.u64.wrap a + b) - IntKind.u64.wrap c) = v := by
  simp only [wrap_mod]
  omega
theorem wsub1 {a c v : Int} (h : a - c = v) (hv : 0 ≤ v ∧ v < 18446744073709551616) : IntKind.u64.wrap (a - IntKind.u64.wrap c) = v := by
  simp only [wrap_mod]
  omega
theorem dig_iff {Y y1 y0 U w q r : Nat} (H : Dig Y y1 y0 U w) : ((q : Int) * (y1 : Int) + (r : Int) = (U : Int) ∧ r < 4294967296 ∧ (((U * 4294967296 : Nat) : Int) + (w : Int)) / (Y : Int) ≤ (q : Int) ∧ q ≤ 4294967297) ↔ DigAt Y y1 y0 U w q r := by
  have e1 : (q : Int) * (y1 : Int) + (r : Int) = ((q * y1 + r : Nat) : Int) := by rw [Int.natCast_add, Int.natCast_mul]
  have e2 : (((U * 4294967296 : Nat) : Int) + (w : Int)) / (Y : Int) = (((U * 4294967296 + w) / Y : Nat) : Int) := by rw [Int.natCast_ediv, Int.natCast_add]
  rw [e1, e2]
  constructor
  · rintro ⟨a, b, c, d⟩
    exact ⟨H, Int.ofNat.inj a, b, Int.ofNat_le.1 c, d⟩
  · intro h
    exact ⟨congrArg _ h.hq, h.hr, Int.ofNat_le.2 h.hQ, h.hq'⟩
theorem cond_iff {q r w y0 : Nat} (hr : r < 4294967296) (hw : w < 4294967296) (h0 : y0 < 4294967296) :
    (decide ((q : Int) ≥ 4294967296) || decide (IntKind.u64.wrap ((q : Int) * (y0 : Int)) > IntKind.u64.wrap (IntKind.u64.wrap (4294967296 * (r : Int)) + (w : Int)))) = true ↔ 4294967296 ≤ q ∨ 4294967296 * r + w < q * y0 := by
  rw [Bool.or_eq_true, decide_eq_true_eq, decide_eq_true_eq]
  have e2 : IntKind.u64.wrap (IntKind.u64.wrap (4294967296 * (r : Int)) + (w : Int)) = 4294967296 * (r : Int) + w := by simp only [wrap_mod]; omega
  rw [e2]
  rcases Nat.lt_or_ge q 4294967296 with hq | hq
  · have hm : q * y0 ≤ 4294967295 * 4294967295 := Nat.mul_le_mul (by omega) (by omega)
    rw [← Int.natCast_mul, wrap_id ⟨Int.natCast_nonneg _, by omega⟩]
    omega
  · exact ⟨fun _ => .inl hq, fun _ => .inl (by omega)⟩

/-- What the text's words come to, as plain numbers. -/
theorem words {h l y s : Nat} (e1 : 64 - lenN y = (s : Int)) (e2 : lenN y = ((64 - s : Nat) : Int)) :
    shY y = ((y * 2 ^ s : Nat) : Int) ∧ shU h l y = ((h * 2 ^ s + l / 2 ^ (64 - s) : Nat) : Int) ∧ shL l y = ((l * 2 ^ s % 18446744073709551616 : Nat) : Int) := by
  unfold shY shU shL
  rw [e1, e2, Int.toNat_natCast, Int.toNat_natCast]
  refine ⟨?_, ?_, ?_⟩
  · rw [Int.natCast_mul, Int.natCast_pow]; rfl
  · rw [Int.natCast_add, Int.natCast_mul, Int.natCast_ediv, Int.natCast_pow, Int.natCast_pow]; rfl
  · rw [Int.natCast_emod, Int.natCast_mul, Int.natCast_pow]; rfl
theorem or_add (a b k : Nat) (hb : b < 2 ^ k) (h : a * 2 ^ k + b < 18446744073709551616) : IntKind.u64.wrap ((BitVec.ofInt 64 ((a * 2 ^ k : Nat) : Int) ||| BitVec.ofInt 64 (b : Int)).toNat : Int) = ((a * 2 ^ k + b : Nat) : Int) := by
  have b1 : (BitVec.ofInt 64 ((a * 2 ^ k : Nat) : Int)).toNat = a * 2 ^ k := by rw [BitVec.toNat_ofInt]; omega
  have b2 : (BitVec.ofInt 64 (b : Int)).toNat = b := by rw [BitVec.toNat_ofInt]; omega
  rw [BitVec.toNat_or, b1, b2, Nat.mul_comm, ← Nat.two_pow_add_eq_or_of_lt hb, wrap_id ⟨Int.natCast_nonneg _, by rw [Nat.mul_comm]; omega⟩]

theorem two_min (n : Nat) (h : n ≤ 64) : (2 : Int) ^ Min.min ((n : Int).toNat) 64 = ((2 ^ n : Nat) : Int) := by
  rw [Int.toNat_natCast, Nat.min_eq_left h, Int.natCast_pow]; rfl
theorem fdiv_nat (a b : Nat) : (a : Int).fdiv (b : Int) = ((a / b : Nat) : Int) := by
  rw [Int.fdiv_eq_ediv_of_nonneg _ (Int.natCast_nonneg _), Int.natCast_ediv]
theorem tdiv_nat (a b : Nat) : (a : Int).tdiv (b : Int) = ((a / b : Nat) : Int) := by
  rw [Int.tdiv_eq_ediv_of_nonneg (Int.natCast_nonneg _), Int.natCast_ediv]

theorem zero_case (h l y : Nat) (e : h = 0) (hl : l < 18446744073709551616) : IntKind.u64.wrap ((l : Int).tdiv (y : Int)) = (((h * 18446744073709551616 + l) / y : Nat) : Int) ∧ (l : Int).tmod (y : Int) = (((h * 18446744073709551616 + l) % y : Nat) : Int) := by
  subst e
  rw [Nat.zero_mul, Nat.zero_add, tdiv_nat, Int.tmod_eq_emod_of_nonneg (Int.natCast_nonneg _), Int.natCast_emod]
  exact ⟨wrap_id ⟨Int.natCast_nonneg _, by have := Nat.div_le_self l y; omega⟩, rfl⟩
@[irreducible] def qd (U L Y : Nat) : Nat := (U * 4294967296 + L / 4294967296) / Y
@[irreducible] def rd (U L Y : Nat) : Nat := (U * 4294967296 + L / 4294967296) % Y
@[irreducible] def qe (V L Y : Nat) : Nat := (V * 4294967296 + L % 4294967296) / Y
@[irreducible] def re (V L Y : Nat) : Nat := (V * 4294967296 + L % 4294967296) % Y
theorem two_of {Y U L : Nat} (hY : 0 < Y) : (U * 18446744073709551616 + L) / Y = qd U L Y * 4294967296 + qe (rd U L Y) L Y ∧ (U * 18446744073709551616 + L) % Y = re (rd U L Y) L Y := by
  unfold qd qe re rd
  exact two_digits hY
theorem dm_of {U L Y : Nat} (hY : 0 < Y) : Y * qd U L Y + rd U L Y = U * 4294967296 + L / 4294967296 ∧ rd U L Y < Y := by
  unfold qd rd
  exact ⟨Nat.div_add_mod _ _, Nat.mod_lt _ hY⟩
theorem dm_of2 {V L Y : Nat} (hY : 0 < Y) : Y * qe V L Y + re V L Y = V * 4294967296 + L % 4294967296 ∧ re V L Y < Y := by
  unfold qe re
  exact ⟨Nat.div_add_mod _ _, Nat.mod_lt _ hY⟩
theorem lt_of {Y y1 y0 U L : Nat} (h : Dig Y y1 y0 U (L / 4294967296)) : qd U L Y < 4294967296 := by
  unfold qd
  exact h.lt
theorem lt_of2 {Y y1 y0 V L : Nat} (h : Dig Y y1 y0 V (L % 4294967296)) : qe V L Y < 4294967296 := by
  unfold qe
  exact h.lt
theorem is_qd {U L Y q : Nat} (h : q = (U * 4294967296 + L / 4294967296) / Y) : q = qd U L Y := by
  unfold qd
  exact h
theorem is_qe {V L Y q : Nat} (h : q = (V * 4294967296 + L % 4294967296) / Y) : q = qe V L Y := by
  unfold qe
  exact h
theorem cast_two (U L Y : Nat) : ((U : Int) * 4294967296 + (L : Int) / 4294967296) / (Y : Int) = ((qd U L Y : Nat) : Int) ∧
    ((U : Int) * 4294967296 + (L : Int) / 4294967296) % (Y : Int) = ((rd U L Y : Nat) : Int) := by
  have e : (U : Int) * 4294967296 + (L : Int) / 4294967296 = ((U * 4294967296 + L / 4294967296 : Nat) : Int) := by
    rw [Int.natCast_add, Int.natCast_mul, Int.natCast_ediv]; rfl
  rw [e]
  unfold qd rd
  exact ⟨(Int.natCast_ediv _ _).symm, (Int.natCast_emod _ _).symm⟩

set_option maxRecDepth 10000 in
theorem ok_Div64 : ∀ h l y, Ok (divC h l y) → Owes Try.prog cxDiv64 (ivDiv h l y) 100 Try.f65 [sI .u64 h, sI .u64 l, sI .u64 y] (divG h l y) := by
  intro h l y hc
  obtain ⟨hh, hl, hy, hlt, _⟩ := hc
  rw [vc_Div64]
  obtain ⟨h, rfl⟩ := Int.eq_ofNat_of_zero_le hh.1
  obtain ⟨l, rfl⟩ := Int.eq_ofNat_of_zero_le hl.1
  obtain ⟨y, rfl⟩ := Int.eq_ofNat_of_zero_le hy.1
  have bh : h < 18446744073709551616 := Int.ofNat_lt.1 hh.2
  have bl : l < 18446744073709551616 := Int.ofNat_lt.1 hl.2
  have bY : y < 18446744073709551616 := Int.ofNat_lt.1 hy.2
  have hlt' : h < y := Int.ofNat_lt.1 hlt
  have hy0 : 0 < y := by omega
  obtain ⟨s, hs, e1, e2, f1, f2⟩ := len_two y hy0 bY
  obtain ⟨w1, w2, w3⟩ := words (h := h) (l := l) e1 e2
  have hDE : 2 ^ s * 2 ^ (64 - s) = 18446744073709551616 := by
    rw [← Nat.pow_add, show s + (64 - s) = 64 by omega]
  obtain ⟨m1, m2, m3⟩ := moved_all h l y (2 ^ s) (2 ^ (64 - s)) hDE bl hlt'
  obtain ⟨g1, g2⟩ := div_moved (h * 18446744073709551616 + l) y (2 ^ s) (Nat.two_pow_pos s)
  rw [m2] at g1 g2
  have hYp : 0 < y * 2 ^ s := by omega
  obtain ⟨t1, t2⟩ := two_of (Y := y * 2 ^ s) (U := h * 2 ^ s + l / 2 ^ (64 - s)) (L := l * 2 ^ s % 18446744073709551616) hYp
  rw [t1] at g1
  rw [t2] at g2
  have hor := or_add h (l / 2 ^ (64 - s)) s m3 (by omega)
  intro x1 x2 x3 x4 x5 x6 x7 x8 x9 x10 x11 x12 x13 x14 x15 x16 x17 x18 x19
  have E4 : x4 = ((s : Nat) : Int) := e1
  have E5 : x5 = ((s : Nat) : Int) := by simp only [x5, E4]; exact wrap_id ⟨Int.natCast_nonneg _, by omega⟩
  have E6 : x6 = ((64 - s : Nat) : Int) := by
    simp only [x6, E5]
    have : (64 : Int) - (s : Int) = ((64 - s : Nat) : Int) := by omega
    rw [this]; exact wrap_id ⟨Int.natCast_nonneg _, by omega⟩
  have E7 : x7 = ((2 ^ s : Nat) : Int) := by simp only [x7, E5]; exact two_min s (by omega)
  have E8 : x8 = ((y * 2 ^ s : Nat) : Int) := by
    simp only [x8, E7]
    rw [← Int.natCast_mul]; exact wrap_id ⟨Int.natCast_nonneg _, by omega⟩
  have E9 : x9 = ((y * 2 ^ s / 4294967296 : Nat) : Int) := by simp only [x9, E8]; exact fdiv_low _
  have E10 : x10 = ((y * 2 ^ s / 4294967296 : Nat) : Int) := by simp only [x10, w1]; rfl
  have E11 : x11 = ((y * 2 ^ s % 4294967296 : Nat) : Int) := by simp only [x11, w1]; rfl
  have E12 : x12 = ((l * 2 ^ s % 18446744073709551616 / 4294967296 : Nat) : Int) := by simp only [x12, w3]; rfl
  have E13 : x13 = ((l * 2 ^ s % 18446744073709551616 % 4294967296 : Nat) : Int) := by simp only [x13, w3]; rfl
  have E14 : x14 = (((h * 2 ^ s + l / 2 ^ (64 - s)) * 4294967296 : Nat) : Int) := by simp only [x14, w2]; rw [Int.natCast_mul]; rfl
  have E15 : x15 = ((h * 2 ^ s + l / 2 ^ (64 - s) : Nat) : Int) := by
    simp only [x15, E7, E6]
    rw [← Int.natCast_mul, wrap_id (n := ((h * 2 ^ s : Nat) : Int)) ⟨Int.natCast_nonneg _, Int.ofNat_lt.2 (Nat.lt_of_le_of_lt (Nat.le_add_right _ _) (Nat.lt_trans m1 f2))⟩, two_min (64 - s) (by omega), fdiv_nat]
    exact hor
  have E16 : x16 = ((l * 2 ^ s % 18446744073709551616 : Nat) : Int) := by
    simp only [x16, E7]
    rw [← Int.natCast_mul, wrap_mod]; rfl
  have E17 : x17 = (((h * 2 ^ s + l / 2 ^ (64 - s)) / (y * 2 ^ s / 4294967296) : Nat) : Int) := by
    simp only [x17, E15, E9]
    rw [tdiv_nat]
    refine wrap_id ⟨Int.natCast_nonneg _, ?_⟩
    have := Nat.div_le_self (h * 2 ^ s + l / 2 ^ (64 - s)) (y * 2 ^ s / 4294967296)
    omega
  have E18 : x18 = ((rd (h * 2 ^ s + l / 2 ^ (64 - s)) (l * 2 ^ s % 18446744073709551616) (y * 2 ^ s) * 4294967296 : Nat) : Int) := by
    simp only [x18, dV, w1, w2, w3]
    rw [(cast_two _ _ _).2, Int.natCast_mul]; rfl
  have E19 : x19 = ((2 ^ s : Nat) : Int) := by simp only [x19, E4]; exact two_min s (by omega)
  have E2 : x2 = (((h * 18446744073709551616 + l) / y : Nat) : Int) := by simp only [x2, x1]; rw [Int.natCast_ediv, Int.natCast_add, Int.natCast_mul]; rfl
  have E3 : x3 = (((h * 18446744073709551616 + l) % y : Nat) : Int) := by simp only [x3, x1]; rw [Int.natCast_emod, Int.natCast_add, Int.natCast_mul]; rfl
  have Q1 : dq1 h l y = ((qd (h * 2 ^ s + l / 2 ^ (64 - s)) (l * 2 ^ s % 18446744073709551616) (y * 2 ^ s) : Nat) : Int) := by
    simp only [dq1, w1, w2, w3]
    exact (cast_two _ _ _).1
  have V1 : dV h l y = ((rd (h * 2 ^ s + l / 2 ^ (64 - s)) (l * 2 ^ s % 18446744073709551616) (y * 2 ^ s) : Nat) : Int) := by
    simp only [dV, w1, w2, w3]
    exact (cast_two _ _ _).2
  have zero := fun e => zero_case h l y e bl
  rw [g1, g2] at zero
  rw [g1] at E2
  rw [g2] at E3
  clear_value x1 x2 x3 x4 x5 x6 x7 x8 x9 x10 x11 x12 x13 x14 x15 x16 x17 x18 x19
  rw [w1, w2, w3, Q1, V1]
  subst E2 E3 E4 E5 E6 E7 E8 E9 E10 E11 E12 E13 E14 E15 E16 E17 E18 E19
  have bL : l * 2 ^ s % 18446744073709551616 < 18446744073709551616 := Nat.mod_lt _ (by decide)
  have hD0 : 0 < 2 ^ s := Nat.two_pow_pos s
  have hRD : ∀ R : Nat, R < y * 2 ^ s → (R : Int).fdiv ((2 ^ s : Nat) : Int) = ((R / 2 ^ s : Nat) : Int) := fun R _ => fdiv_nat R _
  clear hor g1 g2 t1 t2 w1 w2 w3 Q1 V1 m2 hDE
  generalize h * 2 ^ s + l / 2 ^ (64 - s) = U at *
  generalize hLd : l * 2 ^ s % 18446744073709551616 = L at *
  generalize y * 2 ^ s = Y at *
  have A1 : Dig Y (Y / 4294967296) (Y % 4294967296) U (L / 4294967296) := ⟨by omega, by omega, by omega, by omega, m1, by omega⟩
  obtain ⟨dm1, hV⟩ := dm_of (U := U) (L := L) hYp
  have A2 : Dig Y (Y / 4294967296) (Y % 4294967296) (rd U L Y) (L % 4294967296) := ⟨by omega, by omega, by omega, by omega, hV, by omega⟩
  have lt1 := lt_of A1
  have st1 := A1.start
  have last1 := fun q => @is_qd U L Y q
  generalize qd U L Y = Q at *
  generalize rd U L Y = V at *
  have st2 := A2.start
  have lt2 := lt_of2 A2
  obtain ⟨dm2, hR⟩ := dm_of2 (V := V) (L := L) hYp
  have last2 := fun q => @is_qe V L Y q
  generalize qe V L Y = Q2 at *
  generalize re V L Y = R2 at *
  have final : ∀ q : Nat, q = Q2 → IntKind.u64.wrap (IntKind.u64.wrap ((Q : Int) * 4294967296) + (q : Int)) = ((Q * 4294967296 + Q2 : Nat) : Int) ∧
      (IntKind.u64.wrap (IntKind.u64.wrap (IntKind.u64.wrap ((V * 4294967296 : Nat) : Int) + ((L % 4294967296 : Nat) : Int)) - IntKind.u64.wrap ((q : Int) * (Y : Int)))).fdiv ((2 ^ s : Nat) : Int) = ((R2 / 2 ^ s : Nat) : Int) := by
    rintro q rfl
    refine ⟨?_, ?_⟩
    · simp only [wrap_mod]
      omega
    · rw [← hRD _ hR]
      congr 1
      refine wsub ?_ ⟨Int.natCast_nonneg _, by omega⟩
      rw [← Int.natCast_mul, Nat.mul_comm q Y]
      generalize Y * q = T at *
      omega
  have part : ∀ q : Nat, q = Q → IntKind.u64.wrap (IntKind.u64.wrap (IntKind.u64.wrap ((U * 4294967296 : Nat) : Int) + ((L / 4294967296 : Nat) : Int)) - IntKind.u64.wrap ((q : Int) * (Y : Int))) = (V : Int) := by
    rintro q rfl
    refine wsub ?_ ⟨Int.natCast_nonneg _, by omega⟩
    rw [← Int.natCast_mul, Nat.mul_comm q Y]
    generalize Y * q = T at *
    omega
  have guess2 : IntKind.u64.wrap ((V : Int).tdiv ((Y / 4294967296 : Nat) : Int)) = ((V / (Y / 4294967296) : Nat) : Int) := by
    rw [tdiv_nat]
    have := Nat.div_le_self V (Y / 4294967296)
    exact wrap_id ⟨Int.natCast_nonneg _, by omega⟩
  have rest : ∀ a : Nat, a < 18446744073709551616 → IntKind.u64.wrap ((a : Int) - IntKind.u64.wrap (((a / (Y / 4294967296) : Nat) : Int) * ((Y / 4294967296 : Nat) : Int))) = ((a % (Y / 4294967296) : Nat) : Int) := by
    intro a ha
    have hm := Nat.mod_le a (Y / 4294967296)
    refine wsub1 ?_ ⟨Int.natCast_nonneg _, by omega⟩
    rw [← Int.natCast_mul, Nat.mul_comm]
    have := Nat.div_add_mod a (Y / 4294967296)
    omega
  have low : ∀ a : Nat, a < 18446744073709551616 → IntKind.u64.wrap ((BitVec.ofInt 64 (a : Int) &&& BitVec.ofInt 64 (4294967295 : Int)).toNat : Int) = ((a % 4294967296 : Nat) : Int) := by
    intro a ha
    rw [and_low a ha]; exact wrap_id ⟨Int.natCast_nonneg _, by omega⟩
  have dec : ∀ q : Nat, 1 ≤ q → q ≤ 4294967297 → IntKind.u64.wrap ((q : Int) - 1) = ((q - 1 : Nat) : Int) := by
    intro q hq hq'
    rw [wrap_mod]; omega
  have inc : ∀ r : Nat, r < 4294967296 → IntKind.u64.wrap ((r : Int) + ((Y / 4294967296 : Nat) : Int)) = ((r + Y / 4294967296 : Nat) : Int) := by
    intro r hr
    rw [wrap_mod]; omega
  have nb : ∀ b : Bool, b = false → (!b) = true := by rintro _ rfl; rfl
  have hd1 : (Y / 4294967296 : Nat) ≠ 0 := by omega
  have h9 : ((Y / 4294967296 : Nat) : Int) ≠ 0 := by omega
  have second : ∀ (y_4 : Go.Proofs.Ytbkdokofapbagaa.DivAt), (↑y_4.q : Int) * ((Y / 4294967296 : Nat) : Int) + (↑y_4.r : Int) = (V : Int) ∧ y_4.r < (4294967296 : Nat) ∧ (((V * 4294967296 : Nat) : Int) + ((L % 4294967296 : Nat) : Int)) / (Y : Int) ≤ (↑y_4.q : Int) ∧ y_4.q ≤ (4294967297 : Nat) → ((!Decidable.decide ((↑y_4.q : Int) ≥ (4294967296 : Int))) = Bool.true → (!Decidable.decide ((↑y_4.q : Int) ≥ (4294967296 : Int))) = Bool.true) ∧ ((!Decidable.decide ((↑y_4.q : Int) ≥ (4294967296 : Int))) = Bool.true → (!Decidable.decide ((↑y_4.q : Int) ≥ (4294967296 : Int))) = Bool.true) ∧ ((!Decidable.decide ((↑y_4.q : Int) ≥ (4294967296 : Int))) = Bool.true → (!Decidable.decide ((↑y_4.q : Int) ≥ (4294967296 : Int))) = Bool.true) ∧ ((!Decidable.decide ((↑y_4.q : Int) ≥ (4294967296 : Int))) = Bool.true → (!Decidable.decide ((↑y_4.q : Int) ≥ (4294967296 : Int))) = Bool.true) ∧ ((!Decidable.decide ((↑y_4.q : Int) ≥ (4294967296 : Int))) = Bool.true → (!Decidable.decide ((↑y_4.q : Int) ≥ (4294967296 : Int))) = Bool.true) ∧ ((!Decidable.decide ((↑y_4.q : Int) ≥ (4294967296 : Int))) = Bool.true → (!Decidable.decide ((↑y_4.q : Int) ≥ (4294967296 : Int))) = Bool.true) ∧ ((!Decidable.decide ((↑y_4.q : Int) ≥ (4294967296 : Int))) = Bool.true → (!Decidable.decide ((↑y_4.q : Int) ≥ (4294967296 : Int))) = Bool.true) ∧ (Decidable.decide ((↑y_4.q : Int) ≥ (4294967296 : Int)) = Bool.false → (!Decidable.decide ((↑y_4.q : Int) ≥ (4294967296 : Int))) = Bool.true) ∧ ((Decidable.decide ((↑y_4.q : Int) ≥ (4294967296 : Int)) || Decidable.decide (Go.IntKind.u64.wrap ((↑y_4.q : Int) * ((Y % 4294967296 : Nat) : Int)) > Go.IntKind.u64.wrap (Go.IntKind.u64.wrap ((4294967296 : Int) * (↑y_4.r : Int)) + ((L % 4294967296 : Nat) : Int)))) = Bool.true → (Decidable.decide (Go.IntKind.u64.wrap ((↑y_4.r : Int) + ((Y / 4294967296 : Nat) : Int)) ≥ (4294967296 : Int)) = Bool.true → (0 : Int) ≤ ((s : Nat) : Int) ∧ Go.IntKind.u64.wrap (Go.IntKind.u64.wrap ((Q : Int) * (4294967296 : Int)) + Go.IntKind.u64.wrap ((↑y_4.q : Int) - (1 : Int))) = ((Q * 4294967296 + Q2 : Nat) : Int) ∧ (Go.IntKind.u64.wrap (Go.IntKind.u64.wrap (Go.IntKind.u64.wrap ((V * 4294967296 : Nat) : Int) + ((L % 4294967296 : Nat) : Int)) - Go.IntKind.u64.wrap (Go.IntKind.u64.wrap ((↑y_4.q : Int) - (1 : Int)) * (Y : Int)))).fdiv ((2 ^ s : Nat) : Int) = ((R2 / 2 ^ s : Nat) : Int)) ∧ (Decidable.decide (Go.IntKind.u64.wrap ((↑y_4.r : Int) + ((Y / 4294967296 : Nat) : Int)) ≥ (4294967296 : Int)) = Bool.false → ∃ (y' : Go.Proofs.Ytbkdokofapbagaa.DivAt), ((↑y'.q : Int) * ((Y / 4294967296 : Nat) : Int) + (↑y'.r : Int) = (V : Int) ∧ y'.r < (4294967296 : Nat) ∧ (((V * 4294967296 : Nat) : Int) + ((L % 4294967296 : Nat) : Int)) / (Y : Int) ≤ (↑y'.q : Int) ∧ y'.q ≤ (4294967297 : Nat)) ∧ (h : Int) = (h : Int) ∧ (l : Int) = (l : Int) ∧ (Y : Int) = (Y : Int) ∧ ((s : Nat) : Int) = ((s : Nat) : Int) ∧ ((Y / 4294967296 : Nat) : Int) = ((Y / 4294967296 : Nat) : Int) ∧ ((Y % 4294967296 : Nat) : Int) = ((Y % 4294967296 : Nat) : Int) ∧ (U : Int) = (U : Int) ∧ (L : Int) = (L : Int) ∧ ((L / 4294967296 : Nat) : Int) = ((L / 4294967296 : Nat) : Int) ∧ ((L % 4294967296 : Nat) : Int) = ((L % 4294967296 : Nat) : Int) ∧ (Q : Int) = (Q : Int) ∧ Go.IntKind.u64.wrap ((↑y_4.r : Int) + ((Y / 4294967296 : Nat) : Int)) = (↑y'.r : Int) ∧ (V : Int) = (V : Int) ∧ Go.IntKind.u64.wrap ((↑y_4.q : Int) - (1 : Int)) = (↑y'.q : Int) ∧ y'.q < y_4.q)) ∧ ((Decidable.decide ((↑y_4.q : Int) ≥ (4294967296 : Int)) || Decidable.decide (Go.IntKind.u64.wrap ((↑y_4.q : Int) * ((Y % 4294967296 : Nat) : Int)) > Go.IntKind.u64.wrap (Go.IntKind.u64.wrap ((4294967296 : Int) * (↑y_4.r : Int)) + ((L % 4294967296 : Nat) : Int)))) = Bool.false → (0 : Int) ≤ ((s : Nat) : Int) ∧ Go.IntKind.u64.wrap (Go.IntKind.u64.wrap ((Q : Int) * (4294967296 : Int)) + (↑y_4.q : Int)) = ((Q * 4294967296 + Q2 : Nat) : Int) ∧ (Go.IntKind.u64.wrap (Go.IntKind.u64.wrap (Go.IntKind.u64.wrap ((V * 4294967296 : Nat) : Int) + ((L % 4294967296 : Nat) : Int)) - Go.IntKind.u64.wrap ((↑y_4.q : Int) * (Y : Int)))).fdiv ((2 ^ s : Nat) : Int) = ((R2 / 2 ^ s : Nat) : Int)) := by
    rintro ⟨q, r⟩ i2
    have D2 : DigAt Y (Y / 4294967296) (Y % 4294967296) V (L % 4294967296) q r := (dig_iff A2).1 i2
    have hr := D2.hr
    refine ⟨id, id, id, id, id, id, id, nb _, fun hc => ⟨fun hs => ?_, fun hs => ?_⟩, fun hc => ?_⟩
    · have c := (cond_iff hr A2.hw A2.h0).1 hc
      rw [inc r hr] at hs
      have p := D2.pred c
      have e := last2 _ (D2.last c (by have := of_decide_eq_true hs; omega))
      rw [dec q p.2.1 D2.hq', e]
      exact ⟨Int.natCast_nonneg _, final _ rfl⟩
    · have c := (cond_iff hr A2.hw A2.h0).1 hc
      rw [inc r hr] at hs
      have p := D2.pred c
      refine ⟨⟨q - 1, r + Y / 4294967296⟩, (dig_iff A2).2 (D2.step c (by have := of_decide_eq_false hs; omega)), rfl, rfl, rfl, rfl, rfl, rfl, rfl, rfl, rfl, rfl, rfl, inc r hr, rfl, dec q p.2.1 D2.hq', ?_⟩
      exact Nat.sub_lt p.2.1 Nat.one_pos
    · have c : q * (Y % 4294967296) ≤ 4294967296 * r + L % 4294967296 := by
        have c := mt (cond_iff hr A2.hw A2.h0).2 (by rw [hc]; exact Bool.false_ne_true)
        exact Nat.le_of_not_lt fun x => c (.inr x)
      have e := last2 _ (D2.done c)
      rw [e]
      exact ⟨Int.natCast_nonneg _, final _ rfl⟩
  refine ⟨fun e => absurd (beq_iff_eq.1 e) (by omega), fun _ => ⟨fun e => absurd (of_decide_eq_true e) (by omega), fun _ => ⟨fun e => ?_, fun _ => ?_⟩⟩⟩
  · obtain ⟨z1, z2⟩ := zero (Int.ofNat.inj (beq_iff_eq.1 e))
    exact ⟨by omega, by omega, z1, z2⟩
  refine ⟨⟨Int.natCast_nonneg _, by omega⟩, Int.natCast_nonneg _, Int.natCast_nonneg _, Int.natCast_nonneg _, Int.natCast_nonneg _, h9, fun _ => rfl,
    ⟨U / (Y / 4294967296), U % (Y / 4294967296)⟩, (dig_iff A1).2 st1, rfl, rfl, rfl, rfl, rfl, low _ f2, rfl, rfl, fdiv_low _, low _ bL, rfl, rest _ (by omega), fun y2 i2 => ?_⟩
  obtain ⟨q, r⟩ := y2
  have D2 : DigAt Y (Y / 4294967296) (Y % 4294967296) U (L / 4294967296) q r := (dig_iff A1).1 i2
  have hr := D2.hr
  refine ⟨id, id, id, id, id, id, id, nb _, fun hc => ⟨fun hs => ?_, fun hs => ?_⟩, fun hc => ?_⟩
  rotate_left
  · have c := (cond_iff hr A1.hw A1.h0).1 hc
    rw [inc r hr] at hs
    have p := D2.pred c
    refine ⟨⟨q - 1, r + Y / 4294967296⟩, (dig_iff A1).2 (D2.step c (by have := of_decide_eq_false hs; omega)), rfl, rfl, rfl, rfl, rfl, rfl, rfl, rfl, rfl, rfl, dec q p.2.1 D2.hq', inc r hr, ?_⟩
    exact Nat.sub_lt p.2.1 Nat.one_pos
  rotate_left
  · have c := (cond_iff hr A1.hw A1.h0).1 hc
    rw [inc r hr] at hs
    have p := D2.pred c
    have e := last1 _ (D2.last c (by have := of_decide_eq_true hs; omega))
    rw [dec q p.2.1 D2.hq', e]
    exact ⟨h9, fun _ => rfl, ⟨V / (Y / 4294967296), V % (Y / 4294967296)⟩, (dig_iff A2).2 st2, rfl, rfl, rfl, rfl, rfl, rfl, rfl, rfl, rfl, rfl, rfl, (by rw [part _ rfl, guess2]; exact rest _ (by omega)), part _ rfl, (by rw [part _ rfl]; exact guess2), fun y4 i4 => second y4 i4⟩
  · have c : q * (Y % 4294967296) ≤ 4294967296 * r + L / 4294967296 := by
      have c := mt (cond_iff hr A1.hw A1.h0).2 (by rw [hc]; exact Bool.false_ne_true)
      exact Nat.le_of_not_lt fun x => c (.inr x)
    have e := last1 _ (D2.done c)
    rw [e]
    exact ⟨h9, fun _ => rfl, ⟨V / (Y / 4294967296), V % (Y / 4294967296)⟩, (dig_iff A2).2 st2, rfl, rfl, rfl, rfl, rfl, rfl, rfl, rfl, rfl, rfl, rfl, (by rw [part _ rfl, guess2]; exact rest _ (by omega)), part _ rfl, (by rw [part _ rfl]; exact guess2), fun y4 i4 => second y4 i4⟩
theorem card_Div64 : FnOK Try.prog 65 (specWWW divC divG) :=
  FnOK_WWW (CxOK_cons card_LZ64 CxOK_nil) (iv := ivDiv) (N := 100) Try.func65 (by kernel_rfl) (by kernel_rfl) (fun a b d => bnd_two (bnd_I _ _) (bnd_I _ _)) ok_Div64
end Go.Proofs.Ytbkdokofapbagaa
