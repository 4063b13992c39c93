/-
  Texts: P13, P14, P15, P16, P18, P19, P20, P21, P22, P10, V140, P210.
-/
import Derived.Test.YtjpddnjgbgpegaaM1
import Derived.Test.YtjpddnjgbgpegaaM2
import Derived.Test.YtjpddnjgbgpegaaM3
import Derived.Test.YtjpddnjgbgpegaaM4
import Derived.Test.YtjpddnjgbgpegaaM5
import Derived.Test.YtjpddnjgbgpegaaM6
import Derived.Test.YtjpddnjgbgpegaaM7
import Derived.Test.YtjpddnjgbgpegaaM8
import Derived.Test.YtjpddnjgbgpegaaM9
section
namespace Go.Proofs.Ytjpddnjgbgpegaa
open Go.Sx
structure Dig (Y y1 y0 U w : Nat) : Prop where
  hY : Y = y1 * 4294967296 + y0
  h0 : y0 < 4294967296
  h1 : 2147483648 ≤ y1
  h1' : y1 < 4294967296
  hU : U < Y
  hw : w < 4294967296
structure DigAt (Y y1 y0 U w q r : Nat) : Prop extends Dig Y y1 y0 U w where
  hq : q * y1 + r = U
  hr : r < 4294967296
  hQ : (U * 4294967296 + w) / Y ≤ q
  hq' : q ≤ 4294967297
theorem Dig.pos {Y y1 y0 U w : Nat} (h : Dig Y y1 y0 U w) : 0 < Y := by have := h.hU; omega
theorem Dig.lt {Y y1 y0 U w : Nat} (h : Dig Y y1 y0 U w) : (U * 4294967296 + w) / Y < 4294967296 := by
  rw [Nat.div_lt_iff_lt_mul h.pos]
  have a := h.hU
  have b := h.hw
  omega
theorem Dig.start {Y y1 y0 U w : Nat} (h : Dig Y y1 y0 U w) : DigAt Y y1 y0 U w (U / y1) (U % y1) := by
  have hy := h.h1
  have hy' := h.h1'
  have hU := h.hU
  have hw := h.hw
  have hY := h.hY
  have h0 := h.h0
  have hp : 0 < y1 := by omega
  have hm := Nat.mod_lt U hp
  refine ⟨h, by rw [Nat.mul_comm]; exact Nat.div_add_mod U y1, by omega, ?_, ?_⟩
  · rw [Nat.le_div_iff_mul_le hp]
    have a := Nat.div_mul_le_self (U * 4294967296 + w) Y
    generalize (U * 4294967296 + w) / Y = Q at *
    have b : Q * Y = Q * y1 * 4294967296 + Q * y0 := by rw [hY, Nat.mul_add, Nat.mul_assoc]
    generalize Q * y1 = A at *
    generalize Q * y0 = B at *
    omega
  · have : U / y1 < 4294967298 := by
      rw [Nat.div_lt_iff_lt_mul hp]
      omega
    omega
theorem DigAt.mul {Y y1 y0 U w q r : Nat} (h : DigAt Y y1 y0 U w q r) : q * Y + r * 4294967296 = U * 4294967296 + q * y0 := by
  have hq := h.hq
  have : q * Y = q * y1 * 4294967296 + q * y0 := by rw [h.hY, Nat.mul_add, Nat.mul_assoc]
  generalize q * y1 = A at *
  omega
theorem DigAt.done {Y y1 y0 U w q r : Nat} (h : DigAt Y y1 y0 U w q r) (hc : q * y0 ≤ 4294967296 * r + w) : q = (U * 4294967296 + w) / Y := by
  have a := h.mul
  have hQ := h.hQ
  have : q ≤ (U * 4294967296 + w) / Y := by
    rw [Nat.le_div_iff_mul_le h.pos]
    omega
  exact Nat.le_antisymm this hQ
theorem DigAt.more {Y y1 y0 U w q r : Nat} (h : DigAt Y y1 y0 U w q r) (hc : 4294967296 ≤ q ∨ 4294967296 * r + w < q * y0) : (U * 4294967296 + w) / Y + 1 ≤ q := by
  rcases hc with hc | hc
  · exact Nat.le_trans h.lt hc
  · have a := h.mul
    rw [Nat.succ_le_iff, Nat.div_lt_iff_lt_mul h.pos]
    omega
theorem DigAt.pred {Y y1 y0 U w q r : Nat} (h : DigAt Y y1 y0 U w q r) (hc : 4294967296 ≤ q ∨ 4294967296 * r + w < q * y0) : (q - 1) * y1 + (r + y1) = U ∧ 1 ≤ q ∧ (U * 4294967296 + w) / Y ≤ q - 1 := by
  have a := h.more hc
  have hq := h.hq
  generalize (U * 4294967296 + w) / Y = Q at *
  obtain ⟨p, rfl⟩ : ∃ p, q = p + 1 := ⟨q - 1, by omega⟩
  rw [Nat.add_mul, Nat.one_mul] at hq
  rw [Nat.add_sub_cancel]
  refine ⟨by omega, by omega, by omega⟩
theorem DigAt.last {Y y1 y0 U w q r : Nat} (h : DigAt Y y1 y0 U w q r) (hc : 4294967296 ≤ q ∨ 4294967296 * r + w < q * y0) (hs : 4294967296 ≤ r + y1) : q - 1 = (U * 4294967296 + w) / Y := by
  obtain ⟨b, b1, b2⟩ := h.pred hc
  have c : (q - 1) * Y + (r + y1) * 4294967296 = U * 4294967296 + (q - 1) * y0 := by
    have : (q - 1) * Y = (q - 1) * y1 * 4294967296 + (q - 1) * y0 := by rw [h.hY, Nat.mul_add, Nat.mul_assoc]
    generalize (q - 1) * y1 = A at *
    omega
  have h0 := h.h0
  have hq' := h.hq'
  have d : (q - 1) * y0 ≤ 4294967296 * 4294967295 := Nat.mul_le_mul (by omega) (by omega)
  have : q - 1 ≤ (U * 4294967296 + w) / Y := by
    rw [Nat.le_div_iff_mul_le h.pos]
    generalize (q - 1) * Y = A at *
    generalize (q - 1) * y0 = B at *
    omega
  exact Nat.le_antisymm this b2
theorem DigAt.step {Y y1 y0 U w q r : Nat} (h : DigAt Y y1 y0 U w q r) (hc : 4294967296 ≤ q ∨ 4294967296 * r + w < q * y0) (hs : r + y1 < 4294967296) : DigAt Y y1 y0 U w (q - 1) (r + y1) := by
  obtain ⟨b, b1, b2⟩ := h.pred hc
  exact ⟨h.toDig, b, hs, b2, by have := h.hq'; omega⟩
theorem two_digits_of {Y U L H : Nat} (hY : 0 < Y) : (U * (H * H) + L) / Y = (U * H + L / H) / Y * H + ((U * H + L / H) % Y * H + L % H) / Y ∧ (U * (H * H) + L) % Y = ((U * H + L / H) % Y * H + L % H) % Y := by
  have e0 := Nat.div_add_mod L H
  have e : U * (H * H) + L = (U * H + L / H) * H + L % H := by
    rw [Nat.add_mul, Nat.mul_assoc, Nat.mul_comm (L / H), Nat.add_assoc, e0]
  rw [e]
  have d := Nat.div_add_mod (U * H + L / H) Y
  generalize U * H + L / H = A at *
  have e2 : A * H + L % H = (A % Y * H + L % H) + Y * (A / Y * H) := by
    have : A * H = Y * (A / Y * H) + A % Y * H := by
      conv => lhs; rw [← d]
      rw [Nat.add_mul, Nat.mul_assoc]
    omega
  rw [e2, Nat.add_mul_div_left _ _ hY, Nat.add_mul_mod_self_left]
  exact ⟨by rw [Nat.add_comm], rfl⟩
theorem two_digits {Y U L : Nat} (hY : 0 < Y) : (U * 18446744073709551616 + L) / Y = (U * 4294967296 + L / 4294967296) / Y * 4294967296 + ((U * 4294967296 + L / 4294967296) % Y * 4294967296 + L % 4294967296) / Y ∧
    (U * 18446744073709551616 + L) % Y = ((U * 4294967296 + L / 4294967296) % Y * 4294967296 + L % 4294967296) % Y := by
  have h := two_digits_of (Y := Y) (U := U) (L := L) (H := 4294967296) hY
  simp only [Nat.reduceMul] at h
  exact h
theorem len_two (y : Nat) (h0 : 0 < y) (h : y < 18446744073709551616) : ∃ s : Nat, s ≤ 63 ∧ 64 - lenN y = (s : Int) ∧ lenN y = ((64 - s : Nat) : Int) ∧ 9223372036854775808 ≤ y * 2 ^ s ∧ y * 2 ^ s < 18446744073709551616 := by
  have hy : y ≠ 0 := by omega
  have hb := (Nat.log2_lt hy (k := 64)).2 (by omega)
  obtain ⟨a, b⟩ := (Nat.log2_eq_iff hy).1 rfl
  refine ⟨63 - y.log2, by omega, ?_, ?_, ?_, ?_⟩
  · unfold lenN
    rw [Int.toNat_natCast, if_neg hy]
    omega
  · unfold lenN
    rw [Int.toNat_natCast, if_neg hy]
    omega
  · have := Nat.mul_le_mul_right (2 ^ (63 - y.log2)) a
    rw [← Nat.pow_add, show y.log2 + (63 - y.log2) = 63 by omega] at this
    exact this
  · have := Nat.mul_lt_mul_of_pos_right b (Nat.two_pow_pos (63 - y.log2))
    rw [← Nat.pow_add, show y.log2 + 1 + (63 - y.log2) = 64 by omega] at this
    exact this
theorem moved_all (h l y D E : Nat) (hDE : D * E = 18446744073709551616) (hl : l < 18446744073709551616) (hh : h < y) :
    h * D + l / E < y * D ∧ (h * 18446744073709551616 + l) * D = (h * D + l / E) * 18446744073709551616 + l * D % 18446744073709551616 ∧ l / E < D := by
  have hE : 0 < E := by rcases Nat.eq_zero_or_pos E with e | e; subst e; omega; exact e
  have hD : 0 < D := by rcases Nat.eq_zero_or_pos D with e | e; subst e; omega; exact e
  have hlE : l / E < D := by rw [Nat.div_lt_iff_lt_mul hE, hDE]; exact hl
  have e := Nat.div_add_mod l E
  have hm := Nat.mod_lt l hE
  have e2 : l * D = l / E * 18446744073709551616 + l % E * D := by
    conv => lhs; rw [← e]
    rw [Nat.add_mul, Nat.mul_comm E, Nat.mul_assoc, Nat.mul_comm E D, hDE]
  have e3 : l % E * D < 18446744073709551616 := by
    have := Nat.mul_lt_mul_of_pos_right hm hD
    rw [Nat.mul_comm E D, hDE] at this
    exact this
  refine ⟨?_, ?_, hlE⟩
  · have := Nat.mul_le_mul_right D (show h + 1 ≤ y by omega)
    rw [Nat.add_mul, Nat.one_mul] at this
    omega
  · rw [Nat.add_mul, Nat.add_mul, e2, Nat.mul_assoc, Nat.mul_comm 18446744073709551616 D, ← Nat.mul_assoc, Nat.mul_comm (l / E) 18446744073709551616, Nat.mul_add_mod, Nat.mod_eq_of_lt e3]
    omega
theorem div_moved (A y D : Nat) (hD : 0 < D) : A / y = A * D / (y * D) ∧ A % y = A * D % (y * D) / D := by
  refine ⟨(Nat.mul_div_mul_right A y hD).symm, ?_⟩
  rw [Nat.mul_mod_mul_right, Nat.mul_div_cancel _ hD]
end Go.Proofs.Ytjpddnjgbgpegaa
end

section
namespace Go.Proofs.Ytjpddnjgbgpegaa
open Go.Sx
theorem wrap_mod (n : Int) : IntKind.u64.wrap n = n % 18446744073709551616 := by
  unfold IntKind.wrap
  simp [IntKind.signed, IntKind.bits]
theorem wsub {a b c v : Int} (h : a + b - c = v) (hv : 0 ≤ v ∧ v < 18446744073709551616) : IntKind.u64.wrap (IntKind.u64.wrap (IntKind.u64.wrap a + b) - IntKind.u64.wrap c) = v := by
  simp only [wrap_mod]
  omega
theorem wsub1 {a c v : Int} (h : a - c = v) (hv : 0 ≤ v ∧ v < 18446744073709551616) : IntKind.u64.wrap (a - IntKind.u64.wrap c) = v := by
  simp only [wrap_mod]
  omega
theorem dig_iff {Y y1 y0 U w q r : Nat} (H : Dig Y y1 y0 U w) : ((q : Int) * (y1 : Int) + (r : Int) = (U : Int) ∧ r < 4294967296 ∧ (((U * 4294967296 : Nat) : Int) + (w : Int)) / (Y : Int) ≤ (q : Int) ∧ q ≤ 4294967297) ↔ DigAt Y y1 y0 U w q r := by
  have e1 : (q : Int) * (y1 : Int) + (r : Int) = ((q * y1 + r : Nat) : Int) := by rw [Int.natCast_add, Int.natCast_mul]
  have e2 : (((U * 4294967296 : Nat) : Int) + (w : Int)) / (Y : Int) = (((U * 4294967296 + w) / Y : Nat) : Int) := by rw [Int.natCast_ediv, Int.natCast_add]
  rw [e1, e2]
  constructor
  · rintro ⟨a, b, c, d⟩
    exact ⟨H, Int.ofNat.inj a, b, Int.ofNat_le.1 c, d⟩
  · intro h
    exact ⟨congrArg _ h.hq, h.hr, Int.ofNat_le.2 h.hQ, h.hq'⟩
theorem cond_iff {q r w y0 : Nat} (hr : r < 4294967296) (hw : w < 4294967296) (h0 : y0 < 4294967296) :
    (decide ((q : Int) ≥ 4294967296) || decide (IntKind.u64.wrap ((q : Int) * (y0 : Int)) > IntKind.u64.wrap (IntKind.u64.wrap (4294967296 * (r : Int)) + (w : Int)))) = true ↔ 4294967296 ≤ q ∨ 4294967296 * r + w < q * y0 := by
  rw [Bool.or_eq_true, decide_eq_true_eq, decide_eq_true_eq]
  have e2 : IntKind.u64.wrap (IntKind.u64.wrap (4294967296 * (r : Int)) + (w : Int)) = 4294967296 * (r : Int) + w := by simp only [wrap_mod]; omega
  rw [e2]
  rcases Nat.lt_or_ge q 4294967296 with hq | hq
  · have hm : q * y0 ≤ 4294967295 * 4294967295 := Nat.mul_le_mul (by omega) (by omega)
    rw [← Int.natCast_mul, wrap_id ⟨Int.natCast_nonneg _, by omega⟩]
    omega
  · exact ⟨fun _ => .inl hq, fun _ => .inl (by omega)⟩
theorem words {h l y s : Nat} (e1 : 64 - lenN y = (s : Int)) (e2 : lenN y = ((64 - s : Nat) : Int)) :
    shY y = ((y * 2 ^ s : Nat) : Int) ∧ shU h l y = ((h * 2 ^ s + l / 2 ^ (64 - s) : Nat) : Int) ∧ shL l y = ((l * 2 ^ s % 18446744073709551616 : Nat) : Int) := by
  unfold shY shU shL
  rw [e1, e2, Int.toNat_natCast, Int.toNat_natCast]
  refine ⟨?_, ?_, ?_⟩
  · rw [Int.natCast_mul, Int.natCast_pow]; rfl
  · rw [Int.natCast_add, Int.natCast_mul, Int.natCast_ediv, Int.natCast_pow, Int.natCast_pow]; rfl
  · rw [Int.natCast_emod, Int.natCast_mul, Int.natCast_pow]; rfl
theorem or_add (a b k : Nat) (hb : b < 2 ^ k) (h : a * 2 ^ k + b < 18446744073709551616) : IntKind.u64.wrap ((BitVec.ofInt 64 ((a * 2 ^ k : Nat) : Int) ||| BitVec.ofInt 64 (b : Int)).toNat : Int) = ((a * 2 ^ k + b : Nat) : Int) := by
  have b1 : (BitVec.ofInt 64 ((a * 2 ^ k : Nat) : Int)).toNat = a * 2 ^ k := by rw [BitVec.toNat_ofInt]; omega
  have b2 : (BitVec.ofInt 64 (b : Int)).toNat = b := by rw [BitVec.toNat_ofInt]; omega
  rw [BitVec.toNat_or, b1, b2, Nat.mul_comm, ← Nat.two_pow_add_eq_or_of_lt hb, wrap_id ⟨Int.natCast_nonneg _, by rw [Nat.mul_comm]; omega⟩]
theorem two_min (n : Nat) (h : n ≤ 64) : (2 : Int) ^ Min.min ((n : Int).toNat) 64 = ((2 ^ n : Nat) : Int) := by
  rw [Int.toNat_natCast, Nat.min_eq_left h, Int.natCast_pow]; rfl
theorem fdiv_nat (a b : Nat) : (a : Int).fdiv (b : Int) = ((a / b : Nat) : Int) := by
  rw [Int.fdiv_eq_ediv_of_nonneg _ (Int.natCast_nonneg _), Int.natCast_ediv]
theorem tdiv_nat (a b : Nat) : (a : Int).tdiv (b : Int) = ((a / b : Nat) : Int) := by
  rw [Int.tdiv_eq_ediv_of_nonneg (Int.natCast_nonneg _), Int.natCast_ediv]
theorem zero_case (h l y : Nat) (e : h = 0) (hl : l < 18446744073709551616) : IntKind.u64.wrap ((l : Int).tdiv (y : Int)) = (((h * 18446744073709551616 + l) / y : Nat) : Int) ∧ (l : Int).tmod (y : Int) = (((h * 18446744073709551616 + l) % y : Nat) : Int) := by
  subst e
  rw [Nat.zero_mul, Nat.zero_add, tdiv_nat, Int.tmod_eq_emod_of_nonneg (Int.natCast_nonneg _), Int.natCast_emod]
  exact ⟨wrap_id ⟨Int.natCast_nonneg _, by have := Nat.div_le_self l y; omega⟩, rfl⟩
@[irreducible] def qd (U L Y : Nat) : Nat := (U * 4294967296 + L / 4294967296) / Y
@[irreducible] def rd (U L Y : Nat) : Nat := (U * 4294967296 + L / 4294967296) % Y
@[irreducible] def qe (V L Y : Nat) : Nat := (V * 4294967296 + L % 4294967296) / Y
@[irreducible] def re (V L Y : Nat) : Nat := (V * 4294967296 + L % 4294967296) % Y
theorem two_of {Y U L : Nat} (hY : 0 < Y) : (U * 18446744073709551616 + L) / Y = qd U L Y * 4294967296 + qe (rd U L Y) L Y ∧ (U * 18446744073709551616 + L) % Y = re (rd U L Y) L Y := by
  unfold qd qe re rd
  exact two_digits hY
theorem dm_of {U L Y : Nat} (hY : 0 < Y) : Y * qd U L Y + rd U L Y = U * 4294967296 + L / 4294967296 ∧ rd U L Y < Y := by
  unfold qd rd
  exact ⟨Nat.div_add_mod _ _, Nat.mod_lt _ hY⟩
theorem dm_of2 {V L Y : Nat} (hY : 0 < Y) : Y * qe V L Y + re V L Y = V * 4294967296 + L % 4294967296 ∧ re V L Y < Y := by
  unfold qe re
  exact ⟨Nat.div_add_mod _ _, Nat.mod_lt _ hY⟩
theorem lt_of {Y y1 y0 U L : Nat} (h : Dig Y y1 y0 U (L / 4294967296)) : qd U L Y < 4294967296 := by
  unfold qd
  exact h.lt
theorem lt_of2 {Y y1 y0 V L : Nat} (h : Dig Y y1 y0 V (L % 4294967296)) : qe V L Y < 4294967296 := by
  unfold qe
  exact h.lt
theorem is_qd {U L Y q : Nat} (h : q = (U * 4294967296 + L / 4294967296) / Y) : q = qd U L Y := by
  unfold qd
  exact h
theorem is_qe {V L Y q : Nat} (h : q = (V * 4294967296 + L % 4294967296) / Y) : q = qe V L Y := by
  unfold qe
  exact h
theorem cast_two (U L Y : Nat) : ((U : Int) * 4294967296 + (L : Int) / 4294967296) / (Y : Int) = ((qd U L Y : Nat) : Int) ∧
    ((U : Int) * 4294967296 + (L : Int) / 4294967296) % (Y : Int) = ((rd U L Y : Nat) : Int) := by
  have e : (U : Int) * 4294967296 + (L : Int) / 4294967296 = ((U * 4294967296 + L / 4294967296 : Nat) : Int) := by
    rw [Int.natCast_add, Int.natCast_mul, Int.natCast_ediv]; rfl
  rw [e]
  unfold qd rd
  exact ⟨(Int.natCast_ediv _ _).symm, (Int.natCast_emod _ _).symm⟩
set_option maxRecDepth 10000 in
theorem ok_Div64 : ∀ h l y, Ok (divC h l y) → Owes Try.prog cxDiv64 (ivDiv h l y) 100 Try.f61 [sI .u64 h, sI .u64 l, sI .u64 y] (divG h l y) := by
  intro h l y hc
  obtain ⟨hh, hl, hy, hlt, _⟩ := hc
  rw [vc_Div64]
  obtain ⟨h, rfl⟩ := Int.eq_ofNat_of_zero_le hh.1
  obtain ⟨l, rfl⟩ := Int.eq_ofNat_of_zero_le hl.1
  obtain ⟨y, rfl⟩ := Int.eq_ofNat_of_zero_le hy.1
  have bh : h < 18446744073709551616 := Int.ofNat_lt.1 hh.2
  have bl : l < 18446744073709551616 := Int.ofNat_lt.1 hl.2
  have bY : y < 18446744073709551616 := Int.ofNat_lt.1 hy.2
  have hlt' : h < y := Int.ofNat_lt.1 hlt
  have hy0 : 0 < y := by omega
  obtain ⟨s, hs, e1, e2, f1, f2⟩ := len_two y hy0 bY
  obtain ⟨w1, w2, w3⟩ := words (h := h) (l := l) e1 e2
  have hDE : 2 ^ s * 2 ^ (64 - s) = 18446744073709551616 := by
    rw [← Nat.pow_add, show s + (64 - s) = 64 by omega]
  obtain ⟨m1, m2, m3⟩ := moved_all h l y (2 ^ s) (2 ^ (64 - s)) hDE bl hlt'
  obtain ⟨g1, g2⟩ := div_moved (h * 18446744073709551616 + l) y (2 ^ s) (Nat.two_pow_pos s)
  rw [m2] at g1 g2
  have hYp : 0 < y * 2 ^ s := by omega
  obtain ⟨t1, t2⟩ := two_of (Y := y * 2 ^ s) (U := h * 2 ^ s + l / 2 ^ (64 - s)) (L := l * 2 ^ s % 18446744073709551616) hYp
  rw [t1] at g1
  rw [t2] at g2
  have hor := or_add h (l / 2 ^ (64 - s)) s m3 (by omega)
  intro x1 x2 x3 x4 x5 x6 x7 x8 x9 x10 x11 x12 x13 x14 x15 x16 x17 x18 x19
  have E4 : x4 = ((s : Nat) : Int) := e1
  have E5 : x5 = ((s : Nat) : Int) := by simp only [x5, E4]; exact wrap_id ⟨Int.natCast_nonneg _, by omega⟩
  have E6 : x6 = ((64 - s : Nat) : Int) := by
    simp only [x6, E5]
    have : (64 : Int) - (s : Int) = ((64 - s : Nat) : Int) := by omega
    rw [this]; exact wrap_id ⟨Int.natCast_nonneg _, by omega⟩
  have E7 : x7 = ((2 ^ s : Nat) : Int) := by simp only [x7, E5]; exact two_min s (by omega)
  have E8 : x8 = ((y * 2 ^ s : Nat) : Int) := by
    simp only [x8, E7]
    rw [← Int.natCast_mul]; exact wrap_id ⟨Int.natCast_nonneg _, by omega⟩
  have E9 : x9 = ((y * 2 ^ s / 4294967296 : Nat) : Int) := by simp only [x9, E8]; exact fdiv_low _
  have E10 : x10 = ((y * 2 ^ s / 4294967296 : Nat) : Int) := by simp only [x10, w1]; rfl
  have E11 : x11 = ((y * 2 ^ s % 4294967296 : Nat) : Int) := by simp only [x11, w1]; rfl
  have E12 : x12 = ((l * 2 ^ s % 18446744073709551616 / 4294967296 : Nat) : Int) := by simp only [x12, w3]; rfl
  have E13 : x13 = ((l * 2 ^ s % 18446744073709551616 % 4294967296 : Nat) : Int) := by simp only [x13, w3]; rfl
  have E14 : x14 = (((h * 2 ^ s + l / 2 ^ (64 - s)) * 4294967296 : Nat) : Int) := by simp only [x14, w2]; rw [Int.natCast_mul]; rfl
  have E15 : x15 = ((h * 2 ^ s + l / 2 ^ (64 - s) : Nat) : Int) := by
    simp only [x15, E7, E6]
    rw [← Int.natCast_mul, wrap_id (n := ((h * 2 ^ s : Nat) : Int)) ⟨Int.natCast_nonneg _, Int.ofNat_lt.2 (Nat.lt_of_le_of_lt (Nat.le_add_right _ _) (Nat.lt_trans m1 f2))⟩, two_min (64 - s) (by omega), fdiv_nat]
    exact hor
  have E16 : x16 = ((l * 2 ^ s % 18446744073709551616 : Nat) : Int) := by
    simp only [x16, E7]
    rw [← Int.natCast_mul, wrap_mod]; rfl
  have E17 : x17 = (((h * 2 ^ s + l / 2 ^ (64 - s)) / (y * 2 ^ s / 4294967296) : Nat) : Int) := by
    simp only [x17, E15, E9]
    rw [tdiv_nat]
    refine wrap_id ⟨Int.natCast_nonneg _, ?_⟩
    have := Nat.div_le_self (h * 2 ^ s + l / 2 ^ (64 - s)) (y * 2 ^ s / 4294967296)
    omega
  have E18 : x18 = ((rd (h * 2 ^ s + l / 2 ^ (64 - s)) (l * 2 ^ s % 18446744073709551616) (y * 2 ^ s) * 4294967296 : Nat) : Int) := by
    simp only [x18, dV, w1, w2, w3]
    rw [(cast_two _ _ _).2, Int.natCast_mul]; rfl
  have E19 : x19 = ((2 ^ s : Nat) : Int) := by simp only [x19, E4]; exact two_min s (by omega)
  have E2 : x2 = (((h * 18446744073709551616 + l) / y : Nat) : Int) := by simp only [x2, x1]; rw [Int.natCast_ediv, Int.natCast_add, Int.natCast_mul]; rfl
  have E3 : x3 = (((h * 18446744073709551616 + l) % y : Nat) : Int) := by simp only [x3, x1]; rw [Int.natCast_emod, Int.natCast_add, Int.natCast_mul]; rfl
  have Q1 : dq1 h l y = ((qd (h * 2 ^ s + l / 2 ^ (64 - s)) (l * 2 ^ s % 18446744073709551616) (y * 2 ^ s) : Nat) : Int) := by
    simp only [dq1, w1, w2, w3]
    exact (cast_two _ _ _).1
  have V1 : dV h l y = ((rd (h * 2 ^ s + l / 2 ^ (64 - s)) (l * 2 ^ s % 18446744073709551616) (y * 2 ^ s) : Nat) : Int) := by
    simp only [dV, w1, w2, w3]
    exact (cast_two _ _ _).2
  have zero := fun e => zero_case h l y e bl
  rw [g1, g2] at zero
  rw [g1] at E2
  rw [g2] at E3
  clear_value x1 x2 x3 x4 x5 x6 x7 x8 x9 x10 x11 x12 x13 x14 x15 x16 x17 x18 x19
  rw [w1, w2, w3, Q1, V1]
  subst E2 E3 E4 E5 E6 E7 E8 E9 E10 E11 E12 E13 E14 E15 E16 E17 E18 E19
  have bL : l * 2 ^ s % 18446744073709551616 < 18446744073709551616 := Nat.mod_lt _ (by decide)
  have hD0 : 0 < 2 ^ s := Nat.two_pow_pos s
  have hRD : ∀ R : Nat, R < y * 2 ^ s → (R : Int).fdiv ((2 ^ s : Nat) : Int) = ((R / 2 ^ s : Nat) : Int) := fun R _ => fdiv_nat R _
  clear hor g1 g2 t1 t2 w1 w2 w3 Q1 V1 m2 hDE
  generalize h * 2 ^ s + l / 2 ^ (64 - s) = U at *
  generalize hLd : l * 2 ^ s % 18446744073709551616 = L at *
  generalize y * 2 ^ s = Y at *
  have A1 : Dig Y (Y / 4294967296) (Y % 4294967296) U (L / 4294967296) := ⟨by omega, by omega, by omega, by omega, m1, by omega⟩
  obtain ⟨dm1, hV⟩ := dm_of (U := U) (L := L) hYp
  have A2 : Dig Y (Y / 4294967296) (Y % 4294967296) (rd U L Y) (L % 4294967296) := ⟨by omega, by omega, by omega, by omega, hV, by omega⟩
  have lt1 := lt_of A1
  have st1 := A1.start
  have last1 := fun q => @is_qd U L Y q
  generalize qd U L Y = Q at *
  generalize rd U L Y = V at *
  have st2 := A2.start
  have lt2 := lt_of2 A2
  obtain ⟨dm2, hR⟩ := dm_of2 (V := V) (L := L) hYp
  have last2 := fun q => @is_qe V L Y q
  generalize qe V L Y = Q2 at *
  generalize re V L Y = R2 at *
  have final : ∀ q : Nat, q = Q2 → IntKind.u64.wrap (IntKind.u64.wrap ((Q : Int) * 4294967296) + (q : Int)) = ((Q * 4294967296 + Q2 : Nat) : Int) ∧
      (IntKind.u64.wrap (IntKind.u64.wrap (IntKind.u64.wrap ((V * 4294967296 : Nat) : Int) + ((L % 4294967296 : Nat) : Int)) - IntKind.u64.wrap ((q : Int) * (Y : Int)))).fdiv ((2 ^ s : Nat) : Int) = ((R2 / 2 ^ s : Nat) : Int) := by
    rintro q rfl
    refine ⟨?_, ?_⟩
    · simp only [wrap_mod]
      omega
    · rw [← hRD _ hR]
      congr 1
      refine wsub ?_ ⟨Int.natCast_nonneg _, by omega⟩
      rw [← Int.natCast_mul, Nat.mul_comm q Y]
      generalize Y * q = T at *
      omega
  have part : ∀ q : Nat, q = Q → IntKind.u64.wrap (IntKind.u64.wrap (IntKind.u64.wrap ((U * 4294967296 : Nat) : Int) + ((L / 4294967296 : Nat) : Int)) - IntKind.u64.wrap ((q : Int) * (Y : Int))) = (V : Int) := by
    rintro q rfl
    refine wsub ?_ ⟨Int.natCast_nonneg _, by omega⟩
    rw [← Int.natCast_mul, Nat.mul_comm q Y]
    generalize Y * q = T at *
    omega
  have guess2 : IntKind.u64.wrap ((V : Int).tdiv ((Y / 4294967296 : Nat) : Int)) = ((V / (Y / 4294967296) : Nat) : Int) := by
    rw [tdiv_nat]
    have := Nat.div_le_self V (Y / 4294967296)
    exact wrap_id ⟨Int.natCast_nonneg _, by omega⟩
  have rest : ∀ a : Nat, a < 18446744073709551616 → IntKind.u64.wrap ((a : Int) - IntKind.u64.wrap (((a / (Y / 4294967296) : Nat) : Int) * ((Y / 4294967296 : Nat) : Int))) = ((a % (Y / 4294967296) : Nat) : Int) := by
    intro a ha
    have hm := Nat.mod_le a (Y / 4294967296)
    refine wsub1 ?_ ⟨Int.natCast_nonneg _, by omega⟩
    rw [← Int.natCast_mul, Nat.mul_comm]
    have := Nat.div_add_mod a (Y / 4294967296)
    omega
  have low : ∀ a : Nat, a < 18446744073709551616 → IntKind.u64.wrap ((BitVec.ofInt 64 (a : Int) &&& BitVec.ofInt 64 (4294967295 : Int)).toNat : Int) = ((a % 4294967296 : Nat) : Int) := by
    intro a ha
    rw [and_low a ha]; exact wrap_id ⟨Int.natCast_nonneg _, by omega⟩
  have dec : ∀ q : Nat, 1 ≤ q → q ≤ 4294967297 → IntKind.u64.wrap ((q : Int) - 1) = ((q - 1 : Nat) : Int) := by
    intro q hq hq'
    rw [wrap_mod]; omega
  have inc : ∀ r : Nat, r < 4294967296 → IntKind.u64.wrap ((r : Int) + ((Y / 4294967296 : Nat) : Int)) = ((r + Y / 4294967296 : Nat) : Int) := by
    intro r hr
    rw [wrap_mod]; omega
  have nb : ∀ b : Bool, b = false → (!b) = true := by rintro _ rfl; rfl
  have hd1 : (Y / 4294967296 : Nat) ≠ 0 := by omega
  have h9 : ((Y / 4294967296 : Nat) : Int) ≠ 0 := by omega
  have second : ∀ (y_4 : DivAt), (↑y_4.q : Int) * ((Y / 4294967296 : Nat) : Int) + (↑y_4.r : Int) = (V : Int) ∧ y_4.r < (4294967296 : Nat) ∧ (((V * 4294967296 : Nat) : Int) + ((L % 4294967296 : Nat) : Int)) / (Y : Int) ≤ (↑y_4.q : Int) ∧ y_4.q ≤ (4294967297 : Nat) → ((!Decidable.decide ((↑y_4.q : Int) ≥ (4294967296 : Int))) = Bool.true → (!Decidable.decide ((↑y_4.q : Int) ≥ (4294967296 : Int))) = Bool.true) ∧ ((!Decidable.decide ((↑y_4.q : Int) ≥ (4294967296 : Int))) = Bool.true → (!Decidable.decide ((↑y_4.q : Int) ≥ (4294967296 : Int))) = Bool.true) ∧ ((!Decidable.decide ((↑y_4.q : Int) ≥ (4294967296 : Int))) = Bool.true → (!Decidable.decide ((↑y_4.q : Int) ≥ (4294967296 : Int))) = Bool.true) ∧ ((!Decidable.decide ((↑y_4.q : Int) ≥ (4294967296 : Int))) = Bool.true → (!Decidable.decide ((↑y_4.q : Int) ≥ (4294967296 : Int))) = Bool.true) ∧ ((!Decidable.decide ((↑y_4.q : Int) ≥ (4294967296 : Int))) = Bool.true → (!Decidable.decide ((↑y_4.q : Int) ≥ (4294967296 : Int))) = Bool.true) ∧ ((!Decidable.decide ((↑y_4.q : Int) ≥ (4294967296 : Int))) = Bool.true → (!Decidable.decide ((↑y_4.q : Int) ≥ (4294967296 : Int))) = Bool.true) ∧ ((!Decidable.decide ((↑y_4.q : Int) ≥ (4294967296 : Int))) = Bool.true → (!Decidable.decide ((↑y_4.q : Int) ≥ (4294967296 : Int))) = Bool.true) ∧ (Decidable.decide ((↑y_4.q : Int) ≥ (4294967296 : Int)) = Bool.false → (!Decidable.decide ((↑y_4.q : Int) ≥ (4294967296 : Int))) = Bool.true) ∧ ((Decidable.decide ((↑y_4.q : Int) ≥ (4294967296 : Int)) || Decidable.decide (Go.IntKind.u64.wrap ((↑y_4.q : Int) * ((Y % 4294967296 : Nat) : Int)) > Go.IntKind.u64.wrap (Go.IntKind.u64.wrap ((4294967296 : Int) * (↑y_4.r : Int)) + ((L % 4294967296 : Nat) : Int)))) = Bool.true → (Decidable.decide (Go.IntKind.u64.wrap ((↑y_4.r : Int) + ((Y / 4294967296 : Nat) : Int)) ≥ (4294967296 : Int)) = Bool.true → (0 : Int) ≤ ((s : Nat) : Int) ∧ Go.IntKind.u64.wrap (Go.IntKind.u64.wrap ((Q : Int) * (4294967296 : Int)) + Go.IntKind.u64.wrap ((↑y_4.q : Int) - (1 : Int))) = ((Q * 4294967296 + Q2 : Nat) : Int) ∧ (Go.IntKind.u64.wrap (Go.IntKind.u64.wrap (Go.IntKind.u64.wrap ((V * 4294967296 : Nat) : Int) + ((L % 4294967296 : Nat) : Int)) - Go.IntKind.u64.wrap (Go.IntKind.u64.wrap ((↑y_4.q : Int) - (1 : Int)) * (Y : Int)))).fdiv ((2 ^ s : Nat) : Int) = ((R2 / 2 ^ s : Nat) : Int)) ∧ (Decidable.decide (Go.IntKind.u64.wrap ((↑y_4.r : Int) + ((Y / 4294967296 : Nat) : Int)) ≥ (4294967296 : Int)) = Bool.false → ∃ (y' : DivAt), ((↑y'.q : Int) * ((Y / 4294967296 : Nat) : Int) + (↑y'.r : Int) = (V : Int) ∧ y'.r < (4294967296 : Nat) ∧ (((V * 4294967296 : Nat) : Int) + ((L % 4294967296 : Nat) : Int)) / (Y : Int) ≤ (↑y'.q : Int) ∧ y'.q ≤ (4294967297 : Nat)) ∧ (h : Int) = (h : Int) ∧ (l : Int) = (l : Int) ∧ (Y : Int) = (Y : Int) ∧ ((s : Nat) : Int) = ((s : Nat) : Int) ∧ ((Y / 4294967296 : Nat) : Int) = ((Y / 4294967296 : Nat) : Int) ∧ ((Y % 4294967296 : Nat) : Int) = ((Y % 4294967296 : Nat) : Int) ∧ (U : Int) = (U : Int) ∧ (L : Int) = (L : Int) ∧ ((L / 4294967296 : Nat) : Int) = ((L / 4294967296 : Nat) : Int) ∧ ((L % 4294967296 : Nat) : Int) = ((L % 4294967296 : Nat) : Int) ∧ (Q : Int) = (Q : Int) ∧ Go.IntKind.u64.wrap ((↑y_4.r : Int) + ((Y / 4294967296 : Nat) : Int)) = (↑y'.r : Int) ∧ (V : Int) = (V : Int) ∧ Go.IntKind.u64.wrap ((↑y_4.q : Int) - (1 : Int)) = (↑y'.q : Int) ∧ y'.q < y_4.q)) ∧ ((Decidable.decide ((↑y_4.q : Int) ≥ (4294967296 : Int)) || Decidable.decide (Go.IntKind.u64.wrap ((↑y_4.q : Int) * ((Y % 4294967296 : Nat) : Int)) > Go.IntKind.u64.wrap (Go.IntKind.u64.wrap ((4294967296 : Int) * (↑y_4.r : Int)) + ((L % 4294967296 : Nat) : Int)))) = Bool.false → (0 : Int) ≤ ((s : Nat) : Int) ∧ Go.IntKind.u64.wrap (Go.IntKind.u64.wrap ((Q : Int) * (4294967296 : Int)) + (↑y_4.q : Int)) = ((Q * 4294967296 + Q2 : Nat) : Int) ∧ (Go.IntKind.u64.wrap (Go.IntKind.u64.wrap (Go.IntKind.u64.wrap ((V * 4294967296 : Nat) : Int) + ((L % 4294967296 : Nat) : Int)) - Go.IntKind.u64.wrap ((↑y_4.q : Int) * (Y : Int)))).fdiv ((2 ^ s : Nat) : Int) = ((R2 / 2 ^ s : Nat) : Int)) := by
    rintro ⟨q, r⟩ i2
    have D2 : DigAt Y (Y / 4294967296) (Y % 4294967296) V (L % 4294967296) q r := (dig_iff A2).1 i2
    have hr := D2.hr
    refine ⟨id, id, id, id, id, id, id, nb _, fun hc => ⟨fun hs => ?_, fun hs => ?_⟩, fun hc => ?_⟩
    · have c := (cond_iff hr A2.hw A2.h0).1 hc
      rw [inc r hr] at hs
      have p := D2.pred c
      have e := last2 _ (D2.last c (by have := of_decide_eq_true hs; omega))
      rw [dec q p.2.1 D2.hq', e]
      exact ⟨Int.natCast_nonneg _, final _ rfl⟩
    · have c := (cond_iff hr A2.hw A2.h0).1 hc
      rw [inc r hr] at hs
      have p := D2.pred c
      refine ⟨⟨q - 1, r + Y / 4294967296⟩, (dig_iff A2).2 (D2.step c (by have := of_decide_eq_false hs; omega)), rfl, rfl, rfl, rfl, rfl, rfl, rfl, rfl, rfl, rfl, rfl, inc r hr, rfl, dec q p.2.1 D2.hq', ?_⟩
      exact Nat.sub_lt p.2.1 Nat.one_pos
    · have c : q * (Y % 4294967296) ≤ 4294967296 * r + L % 4294967296 := by
        have c := mt (cond_iff hr A2.hw A2.h0).2 (by rw [hc]; exact Bool.false_ne_true)
        exact Nat.le_of_not_lt fun x => c (.inr x)
      have e := last2 _ (D2.done c)
      rw [e]
      exact ⟨Int.natCast_nonneg _, final _ rfl⟩
  refine ⟨fun e => absurd (beq_iff_eq.1 e) (by omega), fun _ => ⟨fun e => absurd (of_decide_eq_true e) (by omega), fun _ => ⟨fun e => ?_, fun _ => ?_⟩⟩⟩
  · obtain ⟨z1, z2⟩ := zero (Int.ofNat.inj (beq_iff_eq.1 e))
    exact ⟨by omega, by omega, z1, z2⟩
  refine ⟨⟨Int.natCast_nonneg _, by omega⟩, Int.natCast_nonneg _, Int.natCast_nonneg _, Int.natCast_nonneg _, Int.natCast_nonneg _, h9, fun _ => rfl,
    ⟨U / (Y / 4294967296), U % (Y / 4294967296)⟩, (dig_iff A1).2 st1, rfl, rfl, rfl, rfl, rfl, low _ f2, rfl, rfl, fdiv_low _, low _ bL, rfl, rest _ (by omega), fun y2 i2 => ?_⟩
  obtain ⟨q, r⟩ := y2
  have D2 : DigAt Y (Y / 4294967296) (Y % 4294967296) U (L / 4294967296) q r := (dig_iff A1).1 i2
  have hr := D2.hr
  refine ⟨id, id, id, id, id, id, id, nb _, fun hc => ⟨fun hs => ?_, fun hs => ?_⟩, fun hc => ?_⟩
  rotate_left
  · have c := (cond_iff hr A1.hw A1.h0).1 hc
    rw [inc r hr] at hs
    have p := D2.pred c
    refine ⟨⟨q - 1, r + Y / 4294967296⟩, (dig_iff A1).2 (D2.step c (by have := of_decide_eq_false hs; omega)), rfl, rfl, rfl, rfl, rfl, rfl, rfl, rfl, rfl, rfl, dec q p.2.1 D2.hq', inc r hr, ?_⟩
    exact Nat.sub_lt p.2.1 Nat.one_pos
  rotate_left
  · have c := (cond_iff hr A1.hw A1.h0).1 hc
    rw [inc r hr] at hs
    have p := D2.pred c
    have e := last1 _ (D2.last c (by have := of_decide_eq_true hs; omega))
    rw [dec q p.2.1 D2.hq', e]
    exact ⟨h9, fun _ => rfl, ⟨V / (Y / 4294967296), V % (Y / 4294967296)⟩, (dig_iff A2).2 st2, rfl, rfl, rfl, rfl, rfl, rfl, rfl, rfl, rfl, rfl, rfl, (by rw [part _ rfl, guess2]; exact rest _ (by omega)), part _ rfl, (by rw [part _ rfl]; exact guess2), fun y4 i4 => second y4 i4⟩
  · have c : q * (Y % 4294967296) ≤ 4294967296 * r + L / 4294967296 := by
      have c := mt (cond_iff hr A1.hw A1.h0).2 (by rw [hc]; exact Bool.false_ne_true)
      exact Nat.le_of_not_lt fun x => c (.inr x)
    have e := last1 _ (D2.done c)
    rw [e]
    exact ⟨h9, fun _ => rfl, ⟨V / (Y / 4294967296), V % (Y / 4294967296)⟩, (dig_iff A2).2 st2, rfl, rfl, rfl, rfl, rfl, rfl, rfl, rfl, rfl, rfl, rfl, (by rw [part _ rfl, guess2]; exact rest _ (by omega)), part _ rfl, (by rw [part _ rfl]; exact guess2), fun y4 i4 => second y4 i4⟩
theorem card_Div64 : FnOK Try.prog 61 (specWWW divC divG) :=
  FnOK_WWW (CxOK_cons card_LZ64 CxOK_nil) (iv := ivDiv) (N := 100) Try.func61 (by kernel_rfl) (by kernel_rfl) (fun a b d => bnd_two (bnd_I _ _) (bnd_I _ _)) ok_Div64
end Go.Proofs.Ytjpddnjgbgpegaa
end

section
namespace Go.Proofs.Ytjpddnjgbgpegaa
open Go.Sx
theorem long_step {X H c N : Nat} (hN : 0 < N) : (X * H + c) / N = X / N * H + (X % N * H + c) / N ∧ (X * H + c) % N = (X % N * H + c) % N := by
  have d := Nat.div_add_mod X N
  have e : X * H + c = N * (X / N * H) + (X % N * H + c) := by
    conv => lhs; rw [← d]
    rw [Nat.add_mul, Nat.mul_assoc, Nat.add_assoc]
  rw [e, Nat.mul_add_div hN, Nat.mul_add_mod]
  exact ⟨rfl, rfl⟩
theorem long_lt {r H c N : Nat} (hN : 0 < N) (hr : r < N) (hc : c < H) : (r * H + c) / N < H := by
  rw [Nat.div_lt_iff_lt_mul hN]
  have := Nat.mul_le_mul_right H (show r + 1 ≤ N from hr)
  rw [Nat.add_mul, Nat.one_mul] at this
  rw [Nat.mul_comm H N]
  omega
theorem long_div (H c0 c1 c2 c3 N : Nat) (hN : 0 < N) :
    (((c3 * H + c2) * H + c1) * H + c0) / N = ((c3 / N * H + (c3 % N * H + c2) / N) * H + ((c3 % N * H + c2) % N * H + c1) / N) * H + (((c3 % N * H + c2) % N * H + c1) % N * H + c0) / N ∧
    (((c3 * H + c2) * H + c1) * H + c0) % N = (((c3 % N * H + c2) % N * H + c1) % N * H + c0) % N := by
  have s1 := long_step (X := c3) (H := H) (c := c2) hN
  have s2 := long_step (X := c3 * H + c2) (H := H) (c := c1) hN
  have s3 := long_step (X := (c3 * H + c2) * H + c1) (H := H) (c := c0) hN
  rw [s3.1, s3.2, s2.1, s2.2, s1.1, s1.2]
  exact ⟨rfl, rfl⟩
theorem allDig_iff (s : ByteArray) : ∀ i, allDig s i = true ↔ ∀ j, j < i → 48 ≤ byteAt s j ∧ byteAt s j ≤ 57
  | 0 => ⟨fun _ j h => by omega, fun _ => rfl⟩
  | i + 1 => by
    unfold allDig
    rw [Bool.and_eq_true, allDig_iff s i, decide_eq_true_eq]
    constructor
    · rintro ⟨a, b⟩ j hj
      rcases Nat.lt_or_ge j i with h | h
      · exact a j h
      · rw [show j = i by omega]; exact b
    · intro h
      exact ⟨fun j hj => h j (by omega), h i (by omega)⟩
end Go.Proofs.Ytjpddnjgbgpegaa
end

section
namespace Go.Proofs.Ytjpddnjgbgpegaa
open Go.Sx
theorem limb_is (a i : Nat) : ∃ c : Nat, limb a i = (c : Int) ∧ c < 18446744073709551616 := by
  refine ⟨(limb a i).toNat, (Int.toNat_of_nonneg (limb_nonneg a i)).symm, ?_⟩
  have := limb_lt a i
  have := limb_nonneg a i
  omega
theorem horner_is (a c0 c1 c2 c3 : Nat) (h0 : limb a 0 = (c0 : Int)) (h1 : limb a 1 = (c1 : Int)) (h2 : limb a 2 = (c2 : Int)) (h3 : limb a 3 = (c3 : Int)) :
    a % M256 = ((c3 * 18446744073709551616 + c2) * 18446744073709551616 + c1) * 18446744073709551616 + c0 := by
  rw [← join_limbs, h0, h1, h2, h3]
  unfold join
  simp only [Int.toNat_natCast]
  omega
theorem join_nat (q0 q1 q2 q3 : Nat) : join (q0 : Int) (q1 : Int) (q2 : Int) (q3 : Int) = ((q3 * 18446744073709551616 + q2) * 18446744073709551616 + q1) * 18446744073709551616 + q0 := by
  unfold join
  simp only [Int.toNat_natCast]
  omega
theorem word_nat {n : Nat} (h : n < 18446744073709551616) : (0 : Int) ≤ (n : Int) ∧ (n : Int) < 18446744073709551616 := by omega
theorem u8_nat {n : Nat} (h : n < 256) : IntKind.u8.wrap (n : Int) = (n : Int) := by
  unfold IntKind.wrap
  simp [IntKind.signed, IntKind.bits]
  omega
end Go.Proofs.Ytjpddnjgbgpegaa
end

section
namespace Go.Proofs.Ytjpddnjgbgpegaa
open Go.Sx
theorem ok_guess : ∀ h l y : Int, Ok (guessC h l y) → Owes Try.prog cxGuess [] 100 Try.f57 [sI .u64 h, sI .u64 l, sI .u64 y] (guessG h l y) := by
  intro h l y hc
  obtain ⟨hh, hl, hy, hp, _⟩ := hc
  rw [vc_guess]
  refine ⟨fun c => ?_, fun c => ?_⟩
  · have c := of_decide_eq_true c
    unfold guessN
    rw [if_neg (by omega)]
  · have c := of_decide_eq_false c
    refine ⟨hh, hl, hy, by omega, ?_⟩
    unfold guessN
    rw [if_pos (by omega)]
theorem card_guess : FnOK Try.prog 57 (specWWW guessC guessG) :=
  FnOK_WWW (CxOK_cons card_Div64 CxOK_nil) (iv := fun _ _ _ => []) (N := 100) Try.func57 (by kernel_rfl) (by kernel_rfl) (fun _ _ _ => bnd_one (bnd_I _ _)) ok_guess
theorem bitsN_le {n k : Nat} (h : n < 2 ^ k) : bitsN n ≤ k := by
  unfold bitsN
  split
  · exact Nat.zero_le _
  · rename_i h0
    exact (Nat.log2_lt h0).2 h
theorem bitsN_two (n : Nat) (h : n ≠ 0) : n < 2 ^ bitsN n ∧ 2 ^ bitsN n ≤ 2 * n := by
  unfold bitsN
  rw [if_neg h]
  obtain ⟨a, b⟩ := (Nat.log2_eq_iff h).1 rfl
  refine ⟨b, ?_⟩
  rw [Nat.pow_succ]
  omega
theorem bitsN_shift {c l k : Nat} (h : c ≠ 0) (hl : l < 2 ^ k) : bitsN (c * 2 ^ k + l) = bitsN c + k := by
  have hp := Nat.two_pow_pos k
  have hc : 0 < c * 2 ^ k := Nat.mul_pos (by omega) hp
  unfold bitsN
  rw [if_neg (by omega), if_neg h]
  obtain ⟨a, b⟩ := (Nat.log2_eq_iff h).1 rfl
  have : (c * 2 ^ k + l).log2 = c.log2 + k := by
    rw [Nat.log2_eq_iff (by omega)]
    rw [show c.log2 + k + 1 = c.log2 + 1 + k by omega, Nat.pow_add, Nat.pow_add 2 (c.log2 + 1)]
    have h1 := Nat.mul_le_mul_right (2 ^ k) a
    have h2 := Nat.mul_le_mul_right (2 ^ k) (show c + 1 ≤ 2 ^ (c.log2 + 1) from b)
    rw [Nat.add_mul, Nat.one_mul] at h2
    omega
  omega
theorem lenN_is (c : Nat) : lenN (c : Int) = ((bitsN c : Nat) : Int) := by
  unfold lenN bitsN
  rw [Int.toNat_natCast]
  split <;> rfl
theorem ok_noughts : ∀ a : Nat, Owes Try.prog cxNoughts [] 100 Try.f46 [sU a] (noughtsG a) := by
  intro a
  rw [vc_noughts]
  obtain ⟨c0, h0, b0⟩ := limb_is a 0
  obtain ⟨c1, h1, b1⟩ := limb_is a 1
  obtain ⟨c2, h2, b2⟩ := limb_is a 2
  obtain ⟨c3, h3, b3⟩ := limb_is a 3
  have hA := horner_is a c0 c1 c2 c3 h0 h1 h2 h3
  rw [h0, h1, h2, h3, hA]
  rw [lenN_is c3, lenN_is c2, lenN_is c1, lenN_is c0]
  have l3 := bitsN_le (n := c3) (k := 64) b3
  have l2 := bitsN_le (n := c2) (k := 64) b2
  have l1 := bitsN_le (n := c1) (k := 64) b1
  have l0 := bitsN_le (n := c0) (k := 64) b0
  have z : bitsN 0 = 0 := rfl
  have e3 : c3 ≠ 0 → bitsN (((c3 * 18446744073709551616 + c2) * 18446744073709551616 + c1) * 18446744073709551616 + c0) = bitsN c3 + 192 := fun h => by
    have e : ((c3 * 18446744073709551616 + c2) * 18446744073709551616 + c1) * 18446744073709551616 + c0 = c3 * 2 ^ 192 + ((c2 * 18446744073709551616 + c1) * 18446744073709551616 + c0) := by omega
    exact (congrArg bitsN e).trans (bitsN_shift h (by omega))
  have e2 : c3 = 0 → c2 ≠ 0 → bitsN (((c3 * 18446744073709551616 + c2) * 18446744073709551616 + c1) * 18446744073709551616 + c0) = bitsN c2 + 128 := fun h' h => by
    have e : ((c3 * 18446744073709551616 + c2) * 18446744073709551616 + c1) * 18446744073709551616 + c0 = c2 * 2 ^ 128 + (c1 * 18446744073709551616 + c0) := by omega
    exact (congrArg bitsN e).trans (bitsN_shift h (by omega))
  have e1 : c3 = 0 → c2 = 0 → c1 ≠ 0 → bitsN (((c3 * 18446744073709551616 + c2) * 18446744073709551616 + c1) * 18446744073709551616 + c0) = bitsN c1 + 64 := fun h' h'' h => by
    have e : ((c3 * 18446744073709551616 + c2) * 18446744073709551616 + c1) * 18446744073709551616 + c0 = c1 * 2 ^ 64 + (c0) := by omega
    exact (congrArg bitsN e).trans (bitsN_shift h (by omega))
  have e0 : c3 = 0 → c2 = 0 → c1 = 0 → bitsN (((c3 * 18446744073709551616 + c2) * 18446744073709551616 + c1) * 18446744073709551616 + c0) = bitsN c0 := fun h' h'' h => by
    exact congrArg bitsN (by omega)
  generalize bitsN (((c3 * 18446744073709551616 + c2) * 18446744073709551616 + c1) * 18446744073709551616 + c0) = L at *
  have z3 : c3 = 0 → bitsN c3 = 0 := fun h => by rw [h]; rfl
  have z2 : c2 = 0 → bitsN c2 = 0 := fun h => by rw [h]; rfl
  have z1 : c1 = 0 → bitsN c1 = 0 := fun h => by rw [h]; rfl
  generalize bitsN c3 = m3 at *
  generalize bitsN c2 = m2 at *
  generalize bitsN c1 = m1 at *
  generalize bitsN c0 = m0 at *
  intro x1 x2 x3 x4
  have E1 : x1 = 64 - (m3 : Int) := by
    simp only [x1]
    rw [Int.zero_add, IntWalk.i64_in _ (by omega)]
  have E3 : x3 = 64 - (m3 : Int) + (64 - (m2 : Int)) := by
    simp only [x3, E1]
    rw [IntWalk.i64_in _ (by omega)]
  have E4 : x4 = 64 - (m3 : Int) + (64 - (m2 : Int)) + (64 - (m1 : Int)) := by
    simp only [x4, E3]
    rw [IntWalk.i64_in _ (by omega)]
  have E5 : IntKind.i64.wrap (x4 + (64 - (m0 : Int))) = 64 - (m3 : Int) + (64 - (m2 : Int)) + (64 - (m1 : Int)) + (64 - (m0 : Int)) := by
    rw [E4, IntWalk.i64_in _ (by omega)]
  have E2 : x2 = ((256 - L : Nat) : Int) := rfl
  rw [E5]
  clear_value x1 x2 x3 x4
  subst E1 E2 E3 E4
  have nz : ∀ c : Nat, ((c : Int) != 0) = true → c ≠ 0 := fun c h e => by rw [e] at h; exact absurd h (by decide)
  have zz : ∀ c : Nat, ((c : Int) != 0) = false → c = 0 := fun c h => by
    rw [bne_eq_false_iff_eq] at h
    exact Int.ofNat.inj h
  refine ⟨word_nat b3, fun h => ?_, fun h => ⟨word_nat b2, fun h' => ?_, fun h' => ⟨word_nat b1, fun h'' => ?_, fun h'' => ⟨word_nat b0, fun h4 => ?_, fun h4 => ?_⟩⟩⟩⟩
  · have := e3 (nz _ h)
    omega
  · have := e2 (zz _ h) (nz _ h')
    have := z3 (zz _ h)
    omega
  · have := e1 (zz _ h) (zz _ h') (nz _ h'')
    have := z3 (zz _ h)
    have := z2 (zz _ h')
    omega
  · have := e0 (zz _ h) (zz _ h') (zz _ h'')
    have := z3 (zz _ h)
    have := z2 (zz _ h')
    have := z1 (zz _ h'')
    omega
  · have := e0 (zz _ h) (zz _ h') (zz _ h'')
    have := z3 (zz _ h)
    have := z2 (zz _ h')
    have := z1 (zz _ h'')
    omega
theorem card_noughts : FnOK Try.prog 46 (specU noughtsG) :=
  FnOK_U (CxOK_cons card_LZ64 CxOK_nil) (iv := []) (N := 100) Try.func46 (by kernel_rfl) (by kernel_rfl) (fun _ => bnd_one (bnd_I _ _)) ok_noughts
end Go.Proofs.Ytjpddnjgbgpegaa
end

section
namespace Go.Proofs.Ytjpddnjgbgpegaa
open Go.Sx
theorem W_two (t : Nat) (h : t ≤ 64) : 2 ^ t * 2 ^ (64 - t) = 18446744073709551616 := by
  rw [← Nat.pow_add, show t + (64 - t) = 64 by omega]
theorem word_up (c D E : Nat) (h : D * E = 18446744073709551616) : c * D = c % E * D + c / E * 18446744073709551616 ∧ c % E * D < 18446744073709551616 ∧ (c < 18446744073709551616 → c / E < D) := by
  have hE : 0 < E := by rcases Nat.eq_zero_or_pos E with e | e; subst e; omega; exact e
  have hD : 0 < D := by rcases Nat.eq_zero_or_pos D with e | e; subst e; omega; exact e
  have e := Nat.div_add_mod c E
  have m := Nat.mod_lt c hE
  refine ⟨?_, ?_, fun hc => ?_⟩
  · conv => lhs; rw [← e]
    rw [Nat.add_mul, Nat.mul_comm E, Nat.mul_assoc, Nat.mul_comm E D, h, Nat.add_comm]
  · have := Nat.mul_lt_mul_of_pos_right m hD
    rw [Nat.mul_comm E D, h] at this
    exact this
  · rw [Nat.div_lt_iff_lt_mul hE, h]
    exact hc
theorem wrap_up (c D E : Nat) (h : D * E = 18446744073709551616) : IntKind.u64.wrap ((c : Int) * (D : Int)) = ((c % E * D : Nat) : Int) := by
  obtain ⟨a, b, _⟩ := word_up c D E h
  rw [← Int.natCast_mul, a, wrap_mod]
  generalize c % E * D = p at *
  omega
theorem or_up (c d t : Nat) (ht : t ≤ 64) (hd : d < 18446744073709551616) :
    IntKind.u64.wrap ((BitVec.ofInt 64 (IntKind.u64.wrap ((c : Int) * ((2 ^ t : Nat) : Int))) ||| BitVec.ofInt 64 ((d : Int).fdiv ((2 ^ (64 - t) : Nat) : Int))).toNat : Int) = ((c % 2 ^ (64 - t) * 2 ^ t + d / 2 ^ (64 - t) : Nat) : Int) ∧ c % 2 ^ (64 - t) * 2 ^ t + d / 2 ^ (64 - t) < 18446744073709551616 := by
  have hW := W_two t ht
  obtain ⟨a, b, _⟩ := word_up c _ _ hW
  obtain ⟨_, _, e⟩ := word_up d _ _ hW
  have e := e hd
  have hlt : c % 2 ^ (64 - t) * 2 ^ t + d / 2 ^ (64 - t) < 18446744073709551616 := by
    have m := Nat.mod_lt c (Nat.two_pow_pos (64 - t))
    have := Nat.mul_le_mul_right (2 ^ t) (show c % 2 ^ (64 - t) + 1 ≤ 2 ^ (64 - t) from m)
    rw [Nat.add_mul, Nat.one_mul, Nat.mul_comm (2 ^ (64 - t)) (2 ^ t), hW] at this
    omega
  rw [wrap_up c _ _ hW, fdiv_nat]
  exact ⟨or_add _ _ _ e hlt, hlt⟩
theorem or_down (c d t : Nat) (ht : t ≤ 64) (hc : c < 18446744073709551616) :
    IntKind.u64.wrap ((BitVec.ofInt 64 ((c : Int).fdiv ((2 ^ t : Nat) : Int)) ||| BitVec.ofInt 64 (IntKind.u64.wrap ((d : Int) * ((2 ^ (64 - t) : Nat) : Int)))).toNat : Int) = ((d % 2 ^ t * 2 ^ (64 - t) + c / 2 ^ t : Nat) : Int) ∧ d % 2 ^ t * 2 ^ (64 - t) + c / 2 ^ t < 18446744073709551616 := by
  have := or_up d c (64 - t) (by omega) hc
  rw [show 64 - (64 - t) = t by omega] at this
  rw [BitVec.or_comm]
  exact this
theorem M_val : M256 = 115792089237316195423570985008687907853269984665640564039457584007913129639936 := by rw [M256_eq]
theorem mod_mul_M (a K : Nat) : a * K % M256 = a % M256 * K % M256 := by rw [Nat.mul_mod a K, Nat.mul_mod (a % M256) K, Nat.mod_mod]
theorem two_split (p t : Nat) : 2 ^ (64 * p + t) = 2 ^ t * (2 ^ 64) ^ p := by rw [Nat.pow_add, Nat.pow_mul, Nat.mul_comm]
theorem up_sum (c0 c1 c2 c3 D E : Nat) (h : D * E = 18446744073709551616) :
    (((c3 * 18446744073709551616 + c2) * 18446744073709551616 + c1) * 18446744073709551616 + c0) * D =
      ((((c3 / E) * 18446744073709551616 + (c3 % E * D + c2 / E)) * 18446744073709551616 + (c2 % E * D + c1 / E)) * 18446744073709551616 + (c1 % E * D + c0 / E)) * 18446744073709551616 + c0 % E * D := by
  obtain ⟨a0, _⟩ := word_up c0 D E h
  obtain ⟨a1, _⟩ := word_up c1 D E h
  obtain ⟨a2, _⟩ := word_up c2 D E h
  obtain ⟨a3, _⟩ := word_up c3 D E h
  have e : (((c3 * 18446744073709551616 + c2) * 18446744073709551616 + c1) * 18446744073709551616 + c0) * D = ((c3 * D * 18446744073709551616 + c2 * D) * 18446744073709551616 + c1 * D) * 18446744073709551616 + c0 * D := by
    have k1 : ∀ X Y : Nat, (X * 18446744073709551616 + Y) * D = X * D * 18446744073709551616 + Y * D := fun X Y => by rw [Nat.add_mul, Nat.mul_right_comm]
    rw [k1, k1, k1]
  rw [e]
  generalize c0 * D = p0 at *
  generalize c1 * D = p1 at *
  generalize c2 * D = p2 at *
  generalize c3 * D = p3 at *
  generalize c0 % E * D = m0 at *
  generalize c1 % E * D = m1 at *
  generalize c2 % E * D = m2 at *
  generalize c3 % E * D = m3 at *
  generalize c0 / E = q0 at *
  generalize c1 / E = q1 at *
  generalize c2 / E = q2 at *
  generalize c3 / E = q3 at *
  omega
theorem down_sum (c0 c1 c2 c3 D E : Nat) (h : D * E = 18446744073709551616) (hD : 0 < D) :
    (((c3 * 18446744073709551616 + c2) * 18446744073709551616 + c1) * 18446744073709551616 + c0) / D =
      ((c3 / D * 18446744073709551616 + (c3 % D * E + c2 / D)) * 18446744073709551616 + (c2 % D * E + c1 / D)) * 18446744073709551616 + (c1 % D * E + c0 / D) := by
  have w : ∀ c : Nat, D * (c % D * E) = c % D * 18446744073709551616 := fun c => by rw [← h, Nat.mul_left_comm]
  have s0 := Nat.div_add_mod c0 D
  have s1 := Nat.div_add_mod c1 D
  have s2 := Nat.div_add_mod c2 D
  have s3 := Nat.div_add_mod c3 D
  have e : (((c3 * 18446744073709551616 + c2) * 18446744073709551616 + c1) * 18446744073709551616 + c0) =
      D * (((c3 / D * 18446744073709551616 + (c3 % D * E + c2 / D)) * 18446744073709551616 + (c2 % D * E + c1 / D)) * 18446744073709551616 + (c1 % D * E + c0 / D)) + c0 % D := by
    have k1 : ∀ X Y : Nat, D * (X * 18446744073709551616 + Y) = D * X * 18446744073709551616 + D * Y := fun X Y => by rw [Nat.mul_add, Nat.mul_assoc]
    rw [k1, k1, k1, Nat.mul_add D (c3 % D * E), Nat.mul_add D (c2 % D * E), Nat.mul_add D (c1 % D * E), w, w, w]
    clear k1 w h
    generalize D * (c0 / D) = p0 at *
    generalize D * (c1 / D) = p1 at *
    generalize D * (c2 / D) = p2 at *
    generalize D * (c3 / D) = p3 at *
    generalize c0 % D = r0 at *
    generalize c1 % D = r1 at *
    generalize c2 % D = r2 at *
    generalize c3 % D = r3 at *
    omega
  rw [e, Nat.mul_add_div hD, Nat.div_eq_of_lt (Nat.mod_lt _ hD), Nat.add_zero]
theorem n_parts {n : Int} (h : 0 ≤ n ∧ n ≤ 256) : ∃ p t : Nat, n = ((64 * p + t : Nat) : Int) ∧ t ≤ 63 ∧ p ≤ 4 ∧ IntKind.i64.wrap (n.tdiv 64) = (p : Int) ∧ n.tmod 64 = (t : Int) ∧ IntKind.i64.wrap (64 - n.tmod 64) = ((64 - t : Nat) : Int) ∧ (p = 4 → t = 0) := by
  obtain ⟨m, rfl⟩ := Int.eq_ofNat_of_zero_le h.1
  have e1 : (m : Int).tdiv 64 = ((m / 64 : Nat) : Int) := tdiv_nat m 64
  have e2 : (m : Int).tmod 64 = ((m % 64 : Nat) : Int) := by
    rw [Int.tmod_eq_emod_of_nonneg (Int.natCast_nonneg _)]
    exact (Int.natCast_emod m 64).symm
  have hm : m ≤ 256 := by omega
  refine ⟨m / 64, m % 64, by rw [Nat.div_add_mod], by omega, by omega, ?_, e2, ?_, by omega⟩
  · rw [e1, IntWalk.i64_in _ (by omega)]
  · rw [e2, IntWalk.i64_in _ (by omega)]
    omega
theorem nn (n : Nat) : (0 : Int) ≤ (n : Int) := Int.natCast_nonneg n
theorem zz64 : (0 : Int) ≤ 0 ∧ (0 : Int) < 18446744073709551616 := by decide
theorem ok_up : ∀ (a : Nat) (n : Int), Ok (moveC a n) → Owes Try.prog Cx.none [(2, .split 6 4)] 100 Try.f47 [sU a, sI .i64 n] (upG a n) := by
  intro a n hc
  obtain ⟨hn, _⟩ := hc
  rw [vc_up]
  obtain ⟨c0, h0, b0⟩ := limb_is a 0
  obtain ⟨c1, h1, b1⟩ := limb_is a 1
  obtain ⟨c2, h2, b2⟩ := limb_is a 2
  obtain ⟨c3, h3, b3⟩ := limb_is a 3
  have hA := horner_is a c0 c1 c2 c3 h0 h1 h2 h3
  obtain ⟨p, t, hnp, ht, hp, y1, y2, y3, y4⟩ := n_parts hn
  have hW := W_two t (by omega)
  have S := up_sum c0 c1 c2 c3 _ _ hW
  obtain ⟨o1, l1⟩ := or_up c1 c0 t (by omega) b0
  obtain ⟨o2, l2⟩ := or_up c2 c1 t (by omega) b1
  obtain ⟨o3, l3⟩ := or_up c3 c2 t (by omega) b2
  obtain ⟨_, l0, _⟩ := word_up c0 _ _ hW
  have o0 := wrap_up c0 _ _ hW
  intro x1 x2 x3 x4 x5 x6 x7 x8 x9
  have E1 : x1 = (p : Int) := y1
  have E2 : x2 = ((64 - t : Nat) : Int) := y3
  have E3 : x3 = ((2 ^ t : Nat) : Int) := by simp only [x3, y2]; exact two_min t (by omega)
  have E5 : x5 = ((2 ^ (64 - t) : Nat) : Int) := by simp only [x5, E2]; exact two_min (64 - t) (by omega)
  have E4 : x4 = ((c0 % 2 ^ (64 - t) * 2 ^ t : Nat) : Int) := by simp only [x4, E3, h0]; exact o0
  have E6 : x6 = ((c1 % 2 ^ (64 - t) * 2 ^ t + c0 / 2 ^ (64 - t) : Nat) : Int) := by simp only [x6, E3, E5, h0, h1]; exact o1
  have E7 : x7 = ((c2 % 2 ^ (64 - t) * 2 ^ t + c1 / 2 ^ (64 - t) : Nat) : Int) := by simp only [x7, E3, E5, h1, h2]; exact o2
  have E8 : x8 = ((c3 % 2 ^ (64 - t) * 2 ^ t + c2 / 2 ^ (64 - t) : Nat) : Int) := by simp only [x8, E3, E5, h2, h3]; exact o3
  have E9 : x9 = a % M256 * (2 ^ t * (2 ^ 64) ^ p) % M256 := by
    simp only [x9]
    rw [hnp, Int.toNat_natCast, two_split, mod_mul_M]
  rw [hA, ← Nat.mul_assoc, S] at E9
  have T4 : p = 4 → x9 = 0 := fun e => by
    simp only [x9]
    rw [hnp, Int.toNat_natCast, e, y4 e]
    exact Nat.mul_mod_left _ _
  have e1 : n.tmod 64 = (t : Int) := y2
  rw [e1]
  clear_value x1 x2 x3 x4 x5 x6 x7 x8 x9
  subst E1 E2 E4 E6 E7 E8
  clear o0 o1 o2 o3 S hA h0 h1 h2 h3
  generalize c0 % 2 ^ (64 - t) * 2 ^ t = w0 at *
  generalize c1 % 2 ^ (64 - t) * 2 ^ t + c0 / 2 ^ (64 - t) = w1 at *
  generalize c2 % 2 ^ (64 - t) * 2 ^ t + c1 / 2 ^ (64 - t) = w2 at *
  generalize c3 % 2 ^ (64 - t) * 2 ^ t + c2 / 2 ^ (64 - t) = w3 at *
  generalize c3 / 2 ^ (64 - t) = w4 at *
  have z := zz64
  have v0 := word_nat l0
  have v1 := word_nat l1
  have v2 := word_nat l2
  have v3 := word_nat l3
  refine ⟨⟨nn _, by omega⟩, ⟨⟨⟨fun e => ?_, fun e => ?_⟩, fun e => ?_⟩, fun e => ?_⟩, fun e => ?_⟩
  · have e : p = 0 := Int.ofNat.inj e
    subst e
    refine ⟨nn _, nn _, nn _, nn _, nn _, nn _, nn _, v0, v1, v2, v3, ?_, trivial⟩
    rw [E9, join_nat, M_val]
    omega
  · have e : p = 1 := Int.ofNat.inj e
    subst e
    refine ⟨nn _, nn _, nn _, nn _, nn _, z, v0, v1, v2, ?_, trivial⟩
    have j := join_nat 0 w0 w1 w2
    rw [E9, M_val]
    refine Eq.trans (congrArg (· % _) j) ?_
    omega
  · have e : p = 2 := Int.ofNat.inj e
    subst e
    refine ⟨nn _, nn _, nn _, z, z, v0, v1, ?_, trivial⟩
    have j := join_nat 0 0 w0 w1
    rw [E9, M_val]
    refine Eq.trans (congrArg (· % _) j) ?_
    omega
  · have e : p = 3 := Int.ofNat.inj e
    subst e
    refine ⟨nn _, z, z, z, v0, ?_, trivial⟩
    have j := join_nat 0 0 0 w0
    rw [E9, M_val]
    refine Eq.trans (congrArg (· % _) j) ?_
    omega
  · exact ⟨(T4 (Int.ofNat.inj e)).symm, trivial⟩
theorem card_up : FnOK Try.prog 47 (specUJ moveC upG) :=
  FnOK_UJ CxOK_nil (iv := fun _ _ => [(2, .split 6 4)]) (N := 100) Try.func47 (by kernel_rfl) (by kernel_rfl) (fun _ _ => bnd_one (bnd_U _)) ok_up
theorem ok_down : ∀ (a : Nat) (n : Int), Ok (moveC a n) → Owes Try.prog Cx.none [(2, .split 6 4)] 100 Try.f48 [sU a, sI .i64 n] (downG a n) := by
  intro a n hc
  obtain ⟨hn, _⟩ := hc
  rw [vc_down]
  obtain ⟨c0, h0, b0⟩ := limb_is a 0
  obtain ⟨c1, h1, b1⟩ := limb_is a 1
  obtain ⟨c2, h2, b2⟩ := limb_is a 2
  obtain ⟨c3, h3, b3⟩ := limb_is a 3
  have hA := horner_is a c0 c1 c2 c3 h0 h1 h2 h3
  obtain ⟨p, t, hnp, ht, hp, y1, y2, y3, y4⟩ := n_parts hn
  have hW := W_two t (by omega)
  have S := down_sum c0 c1 c2 c3 _ _ hW (Nat.two_pow_pos t)
  obtain ⟨o1, l1⟩ := or_down c0 c1 t (by omega) b0
  obtain ⟨o2, l2⟩ := or_down c1 c2 t (by omega) b1
  obtain ⟨o3, l3⟩ := or_down c2 c3 t (by omega) b2
  have l4 : c3 / 2 ^ t < 18446744073709551616 := Nat.lt_of_le_of_lt (Nat.div_le_self _ _) b3
  intro x1 x2 x3 x4 x5 x6 x7 x8 x9
  have E1 : x1 = (p : Int) := y1
  have E2 : x2 = ((64 - t : Nat) : Int) := y3
  have E3 : x3 = ((2 ^ t : Nat) : Int) := by simp only [x3, y2]; exact two_min t (by omega)
  have E4 : x4 = ((2 ^ (64 - t) : Nat) : Int) := by simp only [x4, E2]; exact two_min (64 - t) (by omega)
  have E5 : x5 = ((c1 % 2 ^ t * 2 ^ (64 - t) + c0 / 2 ^ t : Nat) : Int) := by simp only [x5, E3, E4, h0, h1]; exact o1
  have E6 : x6 = ((c2 % 2 ^ t * 2 ^ (64 - t) + c1 / 2 ^ t : Nat) : Int) := by simp only [x6, E3, E4, h1, h2]; exact o2
  have E7 : x7 = ((c3 % 2 ^ t * 2 ^ (64 - t) + c2 / 2 ^ t : Nat) : Int) := by simp only [x7, E3, E4, h2, h3]; exact o3
  have E8 : x8 = ((c3 / 2 ^ t : Nat) : Int) := by simp only [x8, E3, h3]; exact fdiv_nat _ _
  have E9 : x9 = a % M256 / 2 ^ t / (2 ^ 64) ^ p % M256 := by
    simp only [x9]
    rw [hnp, Int.toNat_natCast, two_split, Nat.div_div_eq_div_mul]
  rw [hA, S] at E9
  have T4 : p = 4 → x9 = 0 := fun e => by
    simp only [x9]
    rw [hnp, Int.toNat_natCast, e, y4 e]
    rw [show a % M256 / 2 ^ (64 * 4 + 0) = 0 from Nat.div_eq_of_lt (Nat.mod_lt _ (Nat.two_pow_pos _))]
    exact Nat.zero_mod _
  have e1 : n.tmod 64 = (t : Int) := y2
  rw [e1]
  clear_value x1 x2 x3 x4 x5 x6 x7 x8 x9
  subst E1 E2 E5 E6 E7 E8
  clear o1 o2 o3 S hA h0 h1 h2 h3
  generalize c1 % 2 ^ t * 2 ^ (64 - t) + c0 / 2 ^ t = w0 at *
  generalize c2 % 2 ^ t * 2 ^ (64 - t) + c1 / 2 ^ t = w1 at *
  generalize c3 % 2 ^ t * 2 ^ (64 - t) + c2 / 2 ^ t = w2 at *
  generalize c3 / 2 ^ t = w3 at *
  have z := zz64
  have v0 := word_nat l1
  have v1 := word_nat l2
  have v2 := word_nat l3
  have v3 := word_nat l4
  refine ⟨⟨nn _, by omega⟩, ⟨⟨⟨fun e => ?_, fun e => ?_⟩, fun e => ?_⟩, fun e => ?_⟩, fun e => ?_⟩
  · have e : p = 0 := Int.ofNat.inj e
    subst e
    refine ⟨nn _, nn _, nn _, nn _, nn _, nn _, nn _, v0, v1, v2, v3, ?_, trivial⟩
    rw [E9, join_nat, M_val]
    omega
  · have e : p = 1 := Int.ofNat.inj e
    subst e
    refine ⟨nn _, nn _, nn _, nn _, nn _, v1, v2, v3, z, ?_, trivial⟩
    have j := join_nat w1 w2 w3 0
    rw [E9, M_val]
    refine Eq.trans (congrArg (· % _) j) ?_
    omega
  · have e : p = 2 := Int.ofNat.inj e
    subst e
    refine ⟨nn _, nn _, nn _, v2, v3, z, z, ?_, trivial⟩
    have j := join_nat w2 w3 0 0
    rw [E9, M_val]
    refine Eq.trans (congrArg (· % _) j) ?_
    omega
  · have e : p = 3 := Int.ofNat.inj e
    subst e
    refine ⟨nn _, v3, z, z, z, ?_, trivial⟩
    have j := join_nat w3 0 0 0
    rw [E9, M_val]
    refine Eq.trans (congrArg (· % _) j) ?_
    omega
  · exact ⟨(T4 (Int.ofNat.inj e)).symm, trivial⟩
theorem card_down : FnOK Try.prog 48 (specUJ moveC downG) :=
  FnOK_UJ CxOK_nil (iv := fun _ _ => [(2, .split 6 4)]) (N := 100) Try.func48 (by kernel_rfl) (by kernel_rfl) (fun _ _ => bnd_one (bnd_U _)) ok_down
end Go.Proofs.Ytjpddnjgbgpegaa
end

section
namespace Go.Proofs.Ytjpddnjgbgpegaa
open Go.Sx
theorem knuth {W K r3 r2 rr b3 bl B R g : Nat} (hB : B = b3 * K + bl) (hbl : bl < K) (hR : R = (r3 * W + r2) * K + rr) (hrr : rr < K) (hlt : R < B * W) (hb : W ≤ 2 * b3) (hr2 : r2 < W)
    (hg : g = if r3 < b3 then (r3 * W + r2) / b3 else W - 1) : R / B ≤ g ∧ g ≤ R / B + 2 ∧ g < W := by
  have hW : 0 < W := by omega
  have hb0 : 0 < b3 := by omega
  have hK : 0 < K := by omega
  have hBp : 0 < B := by
    have := Nat.mul_pos hb0 hK
    omega
  have hQ : R / B < W := by
    rw [Nat.div_lt_iff_lt_mul hBp, Nat.mul_comm]
    exact hlt
  have hgW : g < W := by
    rw [hg]
    split
    · rename_i h
      rw [Nat.div_lt_iff_lt_mul hb0, Nat.mul_comm W]
      have := Nat.mul_le_mul_right W (show r3 + 1 ≤ b3 from h)
      rw [Nat.add_mul, Nat.one_mul] at this
      omega
    · omega
  have hgb : g * b3 ≤ r3 * W + r2 := by
    rw [hg]
    split
    · exact Nat.div_mul_le_self _ _
    · rename_i h
      have h1 := Nat.mul_le_mul (show W - 1 ≤ W by omega) (show b3 ≤ r3 by omega)
      rw [Nat.mul_comm W r3] at h1
      omega
  have hqb : R / B * b3 ≤ r3 * W + r2 := by
    have h1 := Nat.div_mul_le_self R B
    generalize R / B = Q at *
    have h2 : Q * b3 * K ≤ R := by
      have : Q * B = Q * b3 * K + Q * bl := by rw [hB, Nat.mul_add, Nat.mul_assoc]
      omega
    have h3 : Q * b3 * K < (r3 * W + r2 + 1) * K := by
      rw [Nat.add_mul (r3 * W + r2), Nat.one_mul]
      omega
    exact Nat.lt_succ_iff.1 (Nat.lt_of_mul_lt_mul_right h3)
  refine ⟨?_, ?_, hgW⟩
  · rw [hg]
    split
    · rw [Nat.le_div_iff_mul_le hb0]
      exact hqb
    · omega
  · have d := Nat.div_add_mod R B
    have m := Nat.mod_lt R hBp
    have h1 : g * B = g * b3 * K + g * bl := by rw [hB, Nat.mul_add, Nat.mul_assoc]
    have h2 := Nat.mul_le_mul_right K hgb
    have h3 : g * bl ≤ W * K := Nat.mul_le_mul (by omega) (by omega)
    have h3' : g * bl < W * K := by
      rcases Nat.eq_zero_or_pos bl with e | e
      · rw [e, Nat.mul_zero]; exact Nat.mul_pos hW hK
      · exact Nat.lt_of_lt_of_le (Nat.mul_lt_mul_of_pos_right hgW e) (Nat.mul_le_mul_left W (by omega))
    have h4 := Nat.mul_le_mul_right K hb
    have h5 : 2 * b3 * K = 2 * (b3 * K) := Nat.mul_assoc _ _ _
    generalize R / B = Q at *
    have h6 : g * B < (Q + 3) * B := by
      rw [Nat.add_mul, Nat.mul_comm Q B]
      generalize g * b3 * K = A at *
      generalize (r3 * W + r2) * K = C at *
      generalize b3 * K = D at *
      generalize B * Q = E at *
      omega
    have := Nat.lt_of_mul_lt_mul_right h6
    omega
theorem top_of {r3 x6 x7 hi mrem Y P G : Nat} (h1 : P + mrem = r3 * 115792089237316195423570985008687907853269984665640564039457584007913129639936 + x6) (h2 : G = P + Y) (h3 : 115792089237316195423570985008687907853269984665640564039457584007913129639936 * hi + x7 = G) (h4 : x7 < 115792089237316195423570985008687907853269984665640564039457584007913129639936) (h5 : x6 < 115792089237316195423570985008687907853269984665640564039457584007913129639936) (h6 : hi < 18446744073709551616) (h7 : Y ≤ 2 * 115792089237316195423570985008687907853269984665640564039457584007913129639936) (h8 : mrem < 115792089237316195423570985008687907853269984665640564039457584007913129639936) (h9 : r3 < 18446744073709551616) :
    IntKind.u64.wrap ((r3 : Int) - IntKind.u64.wrap ((hi : Int) + if x6 < x7 then 1 else 0)) = (((115792089237316195423570985008687907853269984665640564039457584007913129639936 * 18446744073709551616 + mrem - Y) / 115792089237316195423570985008687907853269984665640564039457584007913129639936 % 18446744073709551616 : Nat) : Int) ∧ (x6 + 115792089237316195423570985008687907853269984665640564039457584007913129639936 - x7) % 115792089237316195423570985008687907853269984665640564039457584007913129639936 = (115792089237316195423570985008687907853269984665640564039457584007913129639936 * 18446744073709551616 + mrem - Y) % 115792089237316195423570985008687907853269984665640564039457584007913129639936 := by
  simp only [wrap_mod]
  split
  · rename_i h
    have e : 115792089237316195423570985008687907853269984665640564039457584007913129639936 * 18446744073709551616 + mrem - Y = 115792089237316195423570985008687907853269984665640564039457584007913129639936 * (18446744073709551616 + r3 - hi - 1) + (115792089237316195423570985008687907853269984665640564039457584007913129639936 + x6 - x7) := by omega
    rw [e]
    omega
  · rename_i h
    have e : 115792089237316195423570985008687907853269984665640564039457584007913129639936 * 18446744073709551616 + mrem - Y = 115792089237316195423570985008687907853269984665640564039457584007913129639936 * (18446744073709551616 + r3 - hi) + (x6 - x7) := by omega
    rw [e]
    omega
theorem top_step {mrem B e : Nat} (h1 : mrem < B) (h2 : B < 115792089237316195423570985008687907853269984665640564039457584007913129639936) (he : e ≤ 2) (h0 : e ≠ 0) :
    IntKind.u64.wrap ((((115792089237316195423570985008687907853269984665640564039457584007913129639936 * 18446744073709551616 + mrem - e * B) / 115792089237316195423570985008687907853269984665640564039457584007913129639936 % 18446744073709551616 : Nat) : Int) + (((115792089237316195423570985008687907853269984665640564039457584007913129639936 * 18446744073709551616 + mrem - e * B) % 115792089237316195423570985008687907853269984665640564039457584007913129639936 + B) / 115792089237316195423570985008687907853269984665640564039457584007913129639936 : Nat)) = (((115792089237316195423570985008687907853269984665640564039457584007913129639936 * 18446744073709551616 + mrem - (e - 1) * B) / 115792089237316195423570985008687907853269984665640564039457584007913129639936 % 18446744073709551616 : Nat) : Int) ∧ (115792089237316195423570985008687907853269984665640564039457584007913129639936 * 18446744073709551616 + mrem - e * B + B) = (115792089237316195423570985008687907853269984665640564039457584007913129639936 * 18446744073709551616 + mrem - (e - 1) * B) ∧ (115792089237316195423570985008687907853269984665640564039457584007913129639936 * 18446744073709551616 + mrem - e * B) / 115792089237316195423570985008687907853269984665640564039457584007913129639936 % 18446744073709551616 ≠ 0 := by
  simp only [wrap_mod]
  rcases (show e = 1 ∨ e = 2 by omega) with rfl | rfl
  · refine ⟨?_, ?_, ?_⟩ <;> omega
  · refine ⟨?_, ?_, ?_⟩ <;> omega
theorem top_zero {mrem B : Nat} (h1 : mrem < B) (h2 : B < 115792089237316195423570985008687907853269984665640564039457584007913129639936) : (115792089237316195423570985008687907853269984665640564039457584007913129639936 * 18446744073709551616 + mrem - 0 * B) / 115792089237316195423570985008687907853269984665640564039457584007913129639936 % 18446744073709551616 = 0 ∧ (115792089237316195423570985008687907853269984665640564039457584007913129639936 * 18446744073709551616 + mrem - 0 * B) % 115792089237316195423570985008687907853269984665640564039457584007913129639936 = mrem := by omega
def gN (h l y : Nat) : Nat := if h < y then (h * 18446744073709551616 + l) / y else 18446744073709551616 - 1
theorem guess_nat (h l y : Nat) : guessN (h : Int) (l : Int) (y : Int) = ((gN h l y : Nat) : Int) := by
  unfold guessN gN
  rcases Nat.lt_or_ge h y with c | c
  · rw [if_pos (by omega), if_pos c, Int.natCast_ediv, Int.natCast_add, Int.natCast_mul]
    rfl
  · rw [if_neg (by omega), if_neg (by omega)]
    rfl
theorem kn_all {r0 r1 r2 r3 y0 y1 y2 y3 X R B : Nat} (b0 : r0 < 18446744073709551616) (b1 : r1 < 18446744073709551616) (b2 : r2 < 18446744073709551616) (c0 : y0 < 18446744073709551616) (c1 : y1 < 18446744073709551616) (c2 : y2 < 18446744073709551616) (bX : X < 18446744073709551616)
    (hB : B = ((y3 * 18446744073709551616 + y2) * 18446744073709551616 + y1) * 18446744073709551616 + y0) (hR : R = (((r3 * 18446744073709551616 + r2) * 18446744073709551616 + r1) * 18446744073709551616 + r0) * 18446744073709551616 + X) (hrb : ((r3 * 18446744073709551616 + r2) * 18446744073709551616 + r1) * 18446744073709551616 + r0 < B) (hbt : 115792089237316195423570985008687907853269984665640564039457584007913129639936 ≤ 2 * B) :
    B = y3 * 6277101735386680763835789423207666416102355444464034512896 + ((y2 * 18446744073709551616 + y1) * 18446744073709551616 + y0) ∧ (y2 * 18446744073709551616 + y1) * 18446744073709551616 + y0 < 6277101735386680763835789423207666416102355444464034512896 ∧ R = (r3 * 18446744073709551616 + r2) * 6277101735386680763835789423207666416102355444464034512896 + ((r1 * 18446744073709551616 + r0) * 18446744073709551616 + X) ∧ (r1 * 18446744073709551616 + r0) * 18446744073709551616 + X < 6277101735386680763835789423207666416102355444464034512896 ∧ R < B * 18446744073709551616 ∧ 18446744073709551616 ≤ 2 * y3 ∧ R = r3 * 115792089237316195423570985008687907853269984665640564039457584007913129639936 + (((r2 * 18446744073709551616 + r1) * 18446744073709551616 + r0) * 18446744073709551616 + X) ∧ ((r2 * 18446744073709551616 + r1) * 18446744073709551616 + r0) * 18446744073709551616 + X < 115792089237316195423570985008687907853269984665640564039457584007913129639936 := by
  refine ⟨?_, ?_, ?_, ?_, ?_, ?_, ?_, ?_⟩
  · clear hR hrb hbt b0 b1 b2 bX; exact Nat.le_antisymm (by omega) (by omega)
  · clear hR hrb hbt hB b0 b1 b2 bX; omega
  · clear hB hrb hbt; exact Nat.le_antisymm (by omega) (by omega)
  · clear hR hB hrb hbt; omega
  · clear hB hbt; omega
  · clear hR hrb; omega
  · clear hB hrb hbt; exact Nat.le_antisymm (by omega) (by omega)
  · clear hR hB hrb hbt; omega
theorem ok_digit : ∀ (r : Nat) (x : Int) (b : Nat), Ok (digC r x b) → Owes Try.prog cxDig [(7, .inv (invDig r x b))] 100 Try.f49 [sU r, sI .u64 x, sU b] (digG r x b) := by
  intro r x b hc
  obtain ⟨hx, hrb, hbt, _⟩ := hc
  rw [vc_digit]
  obtain ⟨X, rfl⟩ := Int.eq_ofNat_of_zero_le hx.1
  have bX : X < 18446744073709551616 := Int.ofNat_lt.1 hx.2
  obtain ⟨r0, h0, b0⟩ := limb_is r 0
  obtain ⟨r1, h1, b1⟩ := limb_is r 1
  obtain ⟨r2, h2, b2⟩ := limb_is r 2
  obtain ⟨r3, h3, b3⟩ := limb_is r 3
  obtain ⟨y0, k0, c0⟩ := limb_is b 0
  obtain ⟨y1, k1, c1⟩ := limb_is b 1
  obtain ⟨y2, k2, c2⟩ := limb_is b 2
  obtain ⟨y3, k3, c3⟩ := limb_is b 3
  have hA := horner_is r r0 r1 r2 r3 h0 h1 h2 h3
  have hB := horner_is b y0 y1 y2 y3 k0 k1 k2 k3
  have hBM : b % M256 < M256 := Nat.mod_lt _ (by rw [M256_eq]; decide)
  have hT : ∀ e, digAt r (X : Int) b e = M256 * 18446744073709551616 + digR r (X : Int) % (b % M256) - e * (b % M256) := fun e => rfl
  have hR : digR r (X : Int) = r % M256 * 18446744073709551616 + X := by unfold digR; rw [Int.toNat_natCast]
  have hJ : join (X : Int) (limb r 0) (limb r 1) (limb r 2) % M256 = ((r2 * 18446744073709551616 + r1) * 18446744073709551616 + r0) * 18446744073709551616 + X := by
    rw [h0, h1, h2, join_nat, M_val]
    omega
  have hBg : ∀ g : Nat, b * g % M256 = b % M256 * g % M256 := fun g => mod_mul_M b g
  rw [h0, h1, h2] at hJ
  rw [M_val] at hA hB hBM hT hR hJ hBg hrb hbt
  have hbB : ∀ v : Nat, (v + b) % 115792089237316195423570985008687907853269984665640564039457584007913129639936 = (v + b % 115792089237316195423570985008687907853269984665640564039457584007913129639936) % 115792089237316195423570985008687907853269984665640564039457584007913129639936 := fun v => by rw [Nat.add_mod v b, Nat.add_mod v (b % 115792089237316195423570985008687907853269984665640564039457584007913129639936), Nat.mod_mod]
  rw [h0, h1, h2, h3, k3, M_val]
  intro x1 x2 x3 x4 x5 x6 x7
  have E1 : x1 = ((gN r3 r2 y3 : Nat) : Int) := guess_nat _ _ _
  have E5 : x5 = gN r3 r2 y3 := by simp only [x5, E1]; exact Int.toNat_natCast _
  have E6 : x6 = ((r2 * 18446744073709551616 + r1) * 18446744073709551616 + r0) * 18446744073709551616 + X := hJ
  have E7 : x7 = x2 * x5 % 115792089237316195423570985008687907853269984665640564039457584007913129639936 := by simp only [x7, x2]; exact hBg _
  have E3 : x3 = digR r (X : Int) / x2 := rfl
  have E2 : x2 = b % 115792089237316195423570985008687907853269984665640564039457584007913129639936 := rfl
  clear_value x7 x6 x5 x4 x3
  clear_value x1
  rw [← E2] at hB hBM hT hrb hbt hbB
  clear_value x2
  generalize digR r (X : Int) = R at *
  rw [hA] at hR hrb
  obtain ⟨n1, n2, n3, n4, n5, n6, n7, n8⟩ := kn_all b0 b1 b2 c0 c1 c2 bX hB hR hrb hbt
  obtain ⟨q1, q2, q3⟩ := knuth (W := 18446744073709551616) (K := 6277101735386680763835789423207666416102355444464034512896) (r3 := r3) (r2 := r2) (rr := (r1 * 18446744073709551616 + r0) * 18446744073709551616 + X) (b3 := y3) (bl := (y2 * 18446744073709551616 + y1) * 18446744073709551616 + y0) (B := x2) (R := R) (g := gN r3 r2 y3) n1 n2 n3 n4 n5 n6 b2 rfl
  rw [← E3] at q1 q2
  rw [← E5] at q1 q2 q3 E1
  have hBp : 0 < x2 := by omega
  have dm := Nat.div_add_mod R x2
  have ml := Nat.mod_lt R hBp
  rw [← E3] at dm
  have D3 := Nat.div_add_mod (x2 * x5) 115792089237316195423570985008687907853269984665640564039457584007913129639936
  have L3 := Nat.mod_lt (x2 * x5) (show 0 < 115792089237316195423570985008687907853269984665640564039457584007913129639936 by decide)
  have H6 : x2 * x5 / 115792089237316195423570985008687907853269984665640564039457584007913129639936 < 18446744073709551616 := by
    rw [Nat.div_lt_iff_lt_mul (by decide), Nat.mul_comm 18446744073709551616]
    exact Nat.mul_lt_mul'' hBM q3
  have hG : x2 * x5 = x2 * x3 + (x5 - x3) * x2 := by
    rw [Nat.mul_comm (x5 - x3), ← Nat.mul_add]
    congr 1
    omega
  have hY : (x5 - x3) * x2 ≤ 2 * 115792089237316195423570985008687907853269984665640564039457584007913129639936 := Nat.mul_le_mul (by omega) (by omega)
  rw [← E7] at D3 L3
  obtain ⟨t1, t2⟩ := top_of (r3 := r3) (x6 := x6) (x7 := x7) (hi := x2 * x5 / 115792089237316195423570985008687907853269984665640564039457584007913129639936) (mrem := R % x2) (Y := (x5 - x3) * x2) (P := x2 * x3) (G := x2 * x5) (by rw [dm, n7, E6]) hG D3 L3 (by rw [E6]; exact n8) H6 hY (Nat.lt_trans ml hBM) b3
  have step : ∀ e, e ≤ 2 → e ≠ 0 → IntKind.u64.wrap (((digAt r (X : Int) b e / 115792089237316195423570985008687907853269984665640564039457584007913129639936 % 18446744073709551616 : Nat) : Int) + ((digAt r (X : Int) b e % 115792089237316195423570985008687907853269984665640564039457584007913129639936 + x2) / 115792089237316195423570985008687907853269984665640564039457584007913129639936 : Nat)) = ((digAt r (X : Int) b (e - 1) / 115792089237316195423570985008687907853269984665640564039457584007913129639936 % 18446744073709551616 : Nat) : Int) ∧ digAt r (X : Int) b e + x2 = digAt r (X : Int) b (e - 1) ∧ digAt r (X : Int) b e / 115792089237316195423570985008687907853269984665640564039457584007913129639936 % 18446744073709551616 ≠ 0 := by
    intro e he h0
    have := top_step (mrem := R % x2) (B := x2) (e := e) ml hBM he h0
    rw [← hT, ← hT] at this
    exact this
  obtain ⟨u1, u2⟩ := top_zero (mrem := R % x2) (B := x2) ml hBM
  rw [← hT] at u1 u2 t1 t2
  have y3p : 0 < y3 := by clear hT; omega
  have g1 : x5 - x3 ≤ 2 := by clear hT; omega
  have g2 : x3 + (x5 - x3) = x5 := by clear hT; omega
  have g3 : x3 < 18446744073709551616 := by clear hT; omega
  have hmM : R % x2 < 115792089237316195423570985008687907853269984665640564039457584007913129639936 := Nat.lt_trans ml hBM
  clear hT n1 n2 n3 n4 n5 n6 n7 n8 hA hB hR hJ hBg hG hY D3 L3 H6 dm E6 E7
  generalize digAt r (X : Int) b = T at *
  generalize R % x2 = mr at *
  refine ⟨word_nat b3, word_nat b2, word_nat c3, Int.ofNat_lt.2 y3p, ?_, hx, word_nat b0, word_nat b1, word_nat b2, fun _ => rfl, x5 - x3, ⟨g1, by rw [g2]; exact q3⟩, rfl, rfl, rfl, t1, ?_, t2, rfl, rfl, rfl, rfl, fun y hy => ⟨fun c => ?_, fun c => ?_⟩⟩
  · rw [E1]; exact word_nat q3
  · rw [E1, g2]
  · have hy0 : y ≠ 0 := by
      rintro rfl
      rw [u1] at c
      exact absurd c (by decide)
    obtain ⟨s1, s2, s3⟩ := step y hy.1 hy0
    refine ⟨y - 1, ⟨by omega, by omega⟩, rfl, rfl, rfl, s1, ?_, ?_, rfl, rfl, rfl, rfl, by omega⟩
    · rw [wrap_mod]; omega
    · rw [hbB, s2]
  · have hy0 : y = 0 := by
      refine Classical.byContradiction fun h => ?_
      obtain ⟨s1, s2, s3⟩ := step y hy.1 h
      rw [bne_eq_false_iff_eq] at c
      exact s3 (Int.ofNat.inj c)
    subst hy0
    exact ⟨rfl, by rw [u2, Nat.mod_eq_of_lt hmM], trivial⟩
theorem card_digit : FnOK Try.prog 49 (specUWU digC digG) :=
  FnOK_UWU (CxOK_cons card_guess (CxOK_cons card_times (CxOK_cons card_less (CxOK_cons card_plus CxOK_nil)))) (iv := fun r x b => [(7, .inv (invDig r x b))]) (N := 100) Try.func49 (by kernel_rfl) (by kernel_rfl) (fun _ _ _ => bnd_two (bnd_I _ _) (bnd_U _)) ok_digit
end Go.Proofs.Ytjpddnjgbgpegaa
end

section
namespace Go.Proofs.Ytjpddnjgbgpegaa
open Go.Sx
theorem horner_top {P x c0 c1 c2 c3 : Nat} (h : M256 * x + (((c3 * 18446744073709551616 + c2) * 18446744073709551616 + c1) * 18446744073709551616 + c0) = P) : P = (((x * 18446744073709551616 + c3) * 18446744073709551616 + c2) * 18446744073709551616 + c1) * 18446744073709551616 + c0 := by
  rw [M_val] at h
  exact Nat.le_antisymm (by omega) (by omega)
theorem ok_divide : ∀ a b : Nat, Ok (dvC a b) → Owes Try.prog cxDv [] 100 Try.f38 [sU a, sU b] (dvG a b) := by
  intro a b hc
  obtain ⟨hb0, _⟩ := hc
  rw [vc_divide]
  have hMp : 0 < M256 := by rw [M256_eq]; decide
  have hA : a % M256 < M256 := Nat.mod_lt _ hMp
  have hB : b % M256 < M256 := Nat.mod_lt _ hMp
  have hl := bitsN_le (n := b % M256) (k := 256) hB
  obtain ⟨hb1, hb2⟩ := bitsN_two (b % M256) (by omega)
  obtain ⟨s, hs⟩ : ∃ s, s = 256 - bitsN (b % M256) := ⟨_, rfl⟩
  have hs' : bitsN (b % M256) + s = 256 := by omega
  have hDE : 2 ^ (256 - s) * 2 ^ s = M256 := by rw [← Nat.pow_add, show 256 - s + s = 256 by omega]; rfl
  have hD := Nat.two_pow_pos s
  have hE := Nat.two_pow_pos (256 - s)
  rw [show bitsN (b % M256) = 256 - s by omega] at hb1 hb2
  have hYM : b % M256 * 2 ^ s < M256 := by
    exact Nat.lt_of_lt_of_eq (Nat.mul_lt_mul_of_pos_right hb1 hD) hDE
  have hYt : M256 ≤ 2 * (b % M256 * 2 ^ s) := by
    have := Nat.mul_le_mul_right (2 ^ s) hb2
    rw [hDE, Nat.mul_assoc] at this
    exact this
  have hY8 : b * 2 ^ s % M256 = b % M256 * 2 ^ s := (mod_mul_M b _).trans (Nat.mod_eq_of_lt hYM)
  have hxD : a % M256 / 2 ^ (256 - s) < 2 ^ s := by
    rw [Nat.div_lt_iff_lt_mul hE, Nat.mul_comm, hDE]
    exact hA
  have hxY : a % M256 / 2 ^ (256 - s) < b % M256 * 2 ^ s := Nat.lt_of_lt_of_le hxD (Nat.le_mul_of_pos_left _ hb0)
  obtain ⟨c0, h0, l0⟩ := limb_is (a * 2 ^ s) 0
  obtain ⟨c1, h1, l1⟩ := limb_is (a * 2 ^ s) 1
  obtain ⟨c2, h2, l2⟩ := limb_is (a * 2 ^ s) 2
  obtain ⟨c3, h3, l3⟩ := limb_is (a * 2 ^ s) 3
  have hH := horner_is (a * 2 ^ s) c0 c1 c2 c3 h0 h1 h2 h3
  have hN : a % M256 * 2 ^ s = (((a % M256 / 2 ^ (256 - s) * 18446744073709551616 + c3) * 18446744073709551616 + c2) * 18446744073709551616 + c1) * 18446744073709551616 + c0 := by
    refine horner_top ?_
    rw [← hH, mod_mul_M]
    have e : a % M256 / 2 ^ (256 - s) = a % M256 * 2 ^ s / M256 := by rw [← hDE, Nat.mul_div_mul_right _ _ hD]
    rw [e]
    exact Nat.div_add_mod _ _
  obtain ⟨v1, v2⟩ := div_moved (a % M256) (b % M256) (2 ^ s) hD
  have hYp : 0 < b % M256 * 2 ^ s := Nat.mul_pos hb0 hD
  obtain ⟨d1, d2⟩ := long_div 18446744073709551616 c0 c1 c2 (a % M256 / 2 ^ (256 - s) * 18446744073709551616 + c3) (b % M256 * 2 ^ s) hYp
  rw [← hN, ← v1] at d1
  rw [← hN] at d2
  rw [d2] at v2
  intro x1 x2 x3 x4 x5 x6 x7 x8 x9 x10 x11 x12 x13 x14 x15 x16 x17 x18 x19 x20 x21 x22
  have E2 : x2 = (s : Int) := by simp only [x2, x1, ← hs]
  have E3 : x3 = ((256 - s : Nat) : Int) := by
    simp only [x3, E2]
    rw [IntWalk.i64_in _ (by omega)]
    omega
  have E4 : x4 = 2 ^ s := by simp only [x4, E2, Int.toNat_natCast]
  have E5 : x5 = (c3 : Int) := by simp only [x5, E4]; exact h3
  have E9 : x9 = (c2 : Int) := by simp only [x9, E4]; exact h2
  have E12 : x12 = (c1 : Int) := by simp only [x12, E4]; exact h1
  have E15 : x15 = (c0 : Int) := by simp only [x15, E4]; exact h0
  have E7 : x7 = a % M256 / 2 ^ (256 - s) := by simp only [x7, x6, E3, Int.toNat_natCast]
  have E8 : x8 = b % M256 * 2 ^ s := by simp only [x8, E4]; exact hY8
  have hdig : ∀ r c : Nat, r < b % M256 * 2 ^ s → digR r (c : Int) = r * 18446744073709551616 + c := fun r c h => by
    unfold digR
    rw [Int.toNat_natCast, Nat.mod_eq_of_lt (Nat.lt_trans h hYM)]
  have E10 : x10 = a % M256 / 2 ^ (256 - s) * 18446744073709551616 + c3 := by simp only [x10, E7, E5]; exact hdig _ _ hxY
  have E11 : x11 = x10 % (b % M256 * 2 ^ s) := by simp only [x11, E8]
  have lt1 := Nat.mod_lt x10 hYp
  have ql3 := long_lt hYp hxY l3
  have E13 : x13 = x10 % (b % M256 * 2 ^ s) * 18446744073709551616 + c2 := by simp only [x13, E11, E9]; exact hdig _ _ lt1
  clear_value x10 x11
  have E14 : x14 = x13 % (b % M256 * 2 ^ s) := by simp only [x14, E8]
  have lt2 := Nat.mod_lt x13 hYp
  have ql2 := long_lt hYp lt1 l2
  have E16 : x16 = x13 % (b % M256 * 2 ^ s) * 18446744073709551616 + c1 := by simp only [x16, E14, E12]; exact hdig _ _ lt2
  have E17 : x17 = x16 % (b % M256 * 2 ^ s) := by simp only [x17, E8]
  have lt3 := Nat.mod_lt x16 hYp
  have ql1 := long_lt hYp lt2 l1
  have E18 : x18 = x16 % (b % M256 * 2 ^ s) * 18446744073709551616 + c0 := by simp only [x18, E17, E15]; exact hdig _ _ lt3
  have ql0 := long_lt hYp lt3 l0
  have E19 : x19 = ((x18 / (b % M256 * 2 ^ s) : Nat) : Int) := by simp only [x19, E8]
  have E20 : x20 = ((x16 / (b % M256 * 2 ^ s) : Nat) : Int) := by simp only [x20, E8]
  have E21 : x21 = ((x13 / (b % M256 * 2 ^ s) : Nat) : Int) := by simp only [x21, E8]
  have E22 : x22 = ((x10 / (b % M256 * 2 ^ s) : Nat) : Int) := by simp only [x22, E8]
  have E6 : x6 = a % M256 := rfl
  have E1 : x1 = b % M256 := rfl
  rw [← E10, ← E13, ← E16, ← E18] at d1 v2
  rw [← E10] at ql3
  rw [← E13] at ql2
  rw [← E16] at ql1
  rw [← E18] at ql0
  clear_value x22 x21 x20 x19 x18 x17 x16 x15 x14 x13 x12 x9 x8 x7 x6 x5 x4 x3 x2 x1
  rw [← E7, ← E8] at hxY
  rw [← E8] at hYM hYt
  rw [← E8] at E11 E14 E17 lt1 lt2 lt3 E19 E20 E21 E22 ql0 ql1 ql2 ql3 d1 v2
  rw [← E1] at v2 d1
  rw [← E6] at v2 d1
  rw [← E4] at v2
  have w : ∀ v : Nat, v < x8 → v % M256 < x8 := fun v hv => by rw [Nat.mod_eq_of_lt (Nat.lt_trans hv hYM)]; exact hv
  have h2 : (0 : Int) ≤ x2 ∧ x2 ≤ 256 := by rw [E2]; omega
  refine ⟨h2, by rw [E3]; omega, h2, by rw [E5]; exact word_nat l3, w _ hxY, hYt, by rw [E9]; exact word_nat l2, w _ (by rw [E11]; exact lt1), hYt, by rw [E12]; exact word_nat l1, w _ (by rw [E14]; exact lt2), hYt, by rw [E15]; exact word_nat l0, w _ (by rw [E17]; exact lt3), hYt, h2, ⟨by rw [E19]; exact word_nat ql0, by rw [E20]; exact word_nat ql1, by rw [E21]; exact word_nat ql2, by rw [E22]; exact word_nat ql3, ?_, trivial⟩, ?_, trivial⟩
  · rw [E19, E20, E21, E22, join_nat, d1]
  · rw [Nat.mod_eq_of_lt (Nat.lt_trans (Nat.mod_lt x18 (by omega)) hYM), v2]
theorem card_divide : FnOK Try.prog 38 (specUUC dvC dvG) :=
  FnOK_UUC (CxOK_cons card_noughts (CxOK_cons card_up (CxOK_cons card_down (CxOK_cons card_digit CxOK_nil)))) (iv := fun _ _ => []) (N := 100) Try.func38 (by kernel_rfl) (by kernel_rfl) (fun _ _ => bnd_two (bnd_U _) (bnd_U _)) ok_divide
end Go.Proofs.Ytjpddnjgbgpegaa
end

section
namespace Go.Proofs.Ytjpddnjgbgpegaa
open Go.Sx
theorem bnd_three {x y z : SA} (h : x.bnd none0) (h' : y.bnd none0) (h'' : z.bnd none0) : SV.bnd none0 (.tup [x, y, z]) := by
  intro k hk
  simp only [List.mem_cons, List.not_mem_nil, or_false] at hk
  rcases hk with rfl | rfl | rfl <;> assumption
theorem ok_DivMod : ∀ a b : Nat, Owes Try.prog cxDm [] 100 Try.f24 [sU a, sU b] (dmG a b) := by
  intro a b
  rw [vc_DivMod]
  intro x1 x2 x3 x4 x5 x6 x7
  refine ⟨fun h => ?_, fun h => ?_⟩
  · have h : x1 = 0 := beq_iff_eq.1 h
    refine ⟨⟨?_, trivial⟩, ⟨?_, trivial⟩, ?_⟩
    · simp only [x4, if_pos h]; exact (Nat.zero_mod _).symm
    · simp only [x6, if_pos h]; exact (Nat.zero_mod _).symm
    · simp only [x7, if_pos h]
  · have h : x1 ≠ 0 := beq_eq_false_iff_ne.1 h
    refine ⟨Nat.pos_of_ne_zero h, ⟨?_, trivial⟩, ⟨?_, trivial⟩, ?_⟩
    · simp only [x4, if_neg h]
    · simp only [x6, if_neg h]
    · simp only [x7, if_neg h]
theorem card_DivMod : FnOK Try.prog 24 (specUU dmG) :=
  FnOK_UU (CxOK_cons card_divide CxOK_nil) (iv := []) (N := 100) Try.func24 (by kernel_rfl) (by kernel_rfl) (fun _ _ => bnd_three (bnd_U _) (bnd_U _) (bnd_I _ _)) ok_DivMod
end Go.Proofs.Ytjpddnjgbgpegaa
end

section
namespace Go.Proofs.Ytjpddnjgbgpegaa
open Go.Sx
theorem ten_small (k : Nat) (h : k ≤ 77) : 10 ^ k < M256 := by
  have : 10 ^ k ≤ 10 ^ 77 := Nat.pow_le_pow_right (by decide) h
  have h2 : 10 ^ 77 < M256 := by rw [M256_eq]; decide
  omega
theorem ok_Ten : ∀ n : Int, i64ok n → Owes Try.prog cxTen [(5, .inv (invTen n))] 100 Try.f37 [sI .i64 n] (tenG n) := by
  intro n hn
  rw [vc_Ten]
  have hM : 1 < M256 := by rw [M256_eq]; decide
  refine ⟨id, fun h => by rw [h]; rfl, fun h => ?_, fun h => ⟨fun _ => rfl, 0, ?_⟩⟩
  · simp only [Bool.or_eq_true, decide_eq_true_eq] at h
    rw [if_neg (by omega), if_neg (by omega)]
    exact ⟨⟨(Nat.zero_mod _).symm, trivial⟩, rfl⟩
  · simp only [Bool.or_eq_false_iff, decide_eq_false_iff_not] at h
    rw [if_pos (by omega), if_pos (by omega)]
    refine ⟨by omega, rfl, rfl, rfl, rfl, ⟨(Nat.mod_eq_of_lt hM).symm, trivial⟩, rfl, fun y hy => ⟨fun hb => ⟨by decide, y + 1, ?_, rfl, rfl, ?_, rfl, ?_, rfl, ?_⟩, fun hb => ⟨⟨?_, trivial⟩, rfl⟩⟩⟩
    · simp only [decide_eq_true_eq] at hb; omega
    · simp only [decide_eq_true_eq] at hb
      rw [IntWalk.i64_in _ (by omega)]; rfl
    · rw [Nat.pow_succ]
    · simp only [decide_eq_true_eq] at hb
      show n.toNat - (y + 1) < n.toNat - y
      omega
    · simp only [decide_eq_false_iff_not] at hb
      have : n.toNat = y := by omega
      rw [this]
theorem card_Ten : FnOK Try.prog 37 (specI (fun n => [i64ok n]) tenG) :=
  FnOK_I (CxOK_cons card_times CxOK_nil) (iv := fun n => [(5, .inv (invTen n))]) (N := 100) Try.func37 (by kernel_rfl) (by kernel_rfl) (fun n => by unfold tenG; exact bnd_two (bnd_U _) (bnd_I _ _)) (fun n h => ok_Ten n h.1)
end Go.Proofs.Ytjpddnjgbgpegaa
end

section
namespace Go.Proofs.Ytjpddnjgbgpegaa
open Go.Sx
set_option maxRecDepth 100000
def scK (d : Int) : Nat := 10 ^ (max (d - 8) 0).toNat
def scDnQ (a : Nat) (d : Int) : Nat := if 0 ≤ d ∧ d ≤ 77 then a % M256 / scK d else 0
def scDnR (a : Nat) (d : Int) : Nat := if 0 ≤ d ∧ d ≤ 77 then a % M256 % scK d else 0
def scDnE (d : Int) : Int := if 0 ≤ d ∧ d ≤ 77 then 0 else 6
def scDnG (a : Nat) (d : Int) : SV := .tup [sU (scDnQ a d), sU (scDnR a d), sI .i64 (scDnE d)]
def scUpN (n : Nat) (d : Int) : Nat := if (0 ≤ d ∧ d ≤ 77) ∧ n % M256 * scK d < M256 then n % M256 * scK d else 0
def scUpE (n : Nat) (d : Int) : Int := if 0 ≤ d ∧ d ≤ 77 then (if n % M256 * scK d < M256 then 0 else 13) else 6
def scUpG (n : Nat) (d : Int) : SV := .tup [sU (scUpN n d), sI .i64 (scUpE n d)]
def cxSd : Cx := [(37, specI (fun n => [i64ok n]) tenG), (24, specUU dmG)]
def cxSu : Cx := [(37, specI (fun n => [i64ok n]) tenG), (27, specUU mulG)]
theorem vc_Down (a q r : Nat) (d e : Int) :
    Owes Try.prog cxSd [] 10 Try.f9 [sU a, sI .i64 d] (.tup [sU q, sU r, sI .i64 e]) =
    (let x1 : Bool := Decidable.decide (d < (0 : Int)); let x2 : Nat := q % M256; let x3 : Nat := r % M256; let x4 : Int := Go.IntKind.i64.wrap (d - (8 : Int)); let x5 : Int := if (0 : Int) > x4 then (0 : Int) else x4; let x6 : Int := if (0 : Int) ≤ x5 ∧ x5 ≤ (77 : Int) then (0 : Int) else (6 : Int); let x7 : Nat := (if (0 : Int) ≤ x5 ∧ x5 ≤ (77 : Int) then 10 ^ x5.toNat else 0) % M256; let x8 : Nat := a % M256; ((!x1) = Bool.true → (!x1) = Bool.true) ∧ (x1 = Bool.false → (!x1) = Bool.true) ∧ ((x1 || Decidable.decide (d > (77 : Int))) = Bool.true → (0 = x2 ∧ True) ∧ (0 = x3 ∧ True) ∧ (6 : Int) = e) ∧ ((x1 || Decidable.decide (d > (77 : Int))) = Bool.false → ((-9223372036854775808 : Int) ≤ x5 ∧ x5 ≤ (9223372036854775807 : Int)) ∧ ((x6 != (0 : Int)) = Bool.true → (0 = x2 ∧ True) ∧ (0 = x3 ∧ True) ∧ x6 = e) ∧ ((x6 != (0 : Int)) = Bool.false → ((if x7 = 0 then 0 else x8 / x7) % M256 = x2 ∧ True) ∧ ((if x7 = 0 then 0 else x8 % x7) % M256 = x3 ∧ True) ∧ (if x7 = 0 then (7 : Int) else (0 : Int)) = e))) := by kernel_rfl
theorem vc_Up (n q : Nat) (d e : Int) :
    Owes Try.prog cxSu [] 10 Try.f11 [sU n, sI .i64 d] (.tup [sU q, sI .i64 e]) =
    (let x1 : Bool := Decidable.decide (d < (0 : Int)); let x2 : Nat := q % M256; let x3 : Int := Go.IntKind.i64.wrap (d - (8 : Int)); let x4 : Int := if (0 : Int) > x3 then (0 : Int) else x3; let x5 : Int := if (0 : Int) ≤ x4 ∧ x4 ≤ (77 : Int) then (0 : Int) else (6 : Int); let x6 : Nat := if (0 : Int) ≤ x4 ∧ x4 ≤ (77 : Int) then 10 ^ x4.toNat else 0; ((!x1) = Bool.true → (!x1) = Bool.true) ∧ (x1 = Bool.false → (!x1) = Bool.true) ∧ ((x1 || Decidable.decide (d > (77 : Int))) = Bool.true → (0 = x2 ∧ True) ∧ (6 : Int) = e) ∧ ((x1 || Decidable.decide (d > (77 : Int))) = Bool.false → ((-9223372036854775808 : Int) ≤ x4 ∧ x4 ≤ (9223372036854775807 : Int)) ∧ ((x5 != (0 : Int)) = Bool.true → (0 = x2 ∧ True) ∧ x5 = e) ∧ ((x5 != (0 : Int)) = Bool.false → ((!conj [n % M256 * (x6 % M256) / M256 % M256 == 0]) = Bool.true → (0 = x2 ∧ True) ∧ (13 : Int) = e) ∧ ((!conj [n % M256 * (x6 % M256) / M256 % M256 == 0]) = Bool.false → (n * x6 % M256 = x2 ∧ True) ∧ (0 : Int) = e)))) := by kernel_rfl
end Go.Proofs.Ytjpddnjgbgpegaa
end

section
namespace Go.Proofs.Ytjpddnjgbgpegaa
open Go.Sx
theorem scK_top {d : Int} (h : 0 ≤ d ∧ d ≤ 77) : (if (0 : Int) > IntKind.i64.wrap (d - 8) then (0 : Int) else IntKind.i64.wrap (d - 8)) = max (d - 8) 0 := by
  rw [IntWalk.i64_in _ (by omega)]
  split <;> omega
theorem scK_pos (d : Int) : 0 < scK d := Nat.pow_pos (by decide)
theorem scK_lt {d : Int} (h : 0 ≤ d ∧ d ≤ 77) : scK d < M256 := ten_small _ (by omega)
theorem scK_e {d : Int} {x : Int} (hx : x = max (d - 8) 0) : 10 ^ x.toNat = scK d := by rw [hx]; rfl
theorem ok_Down (a : Nat) (d : Int) : Owes Try.prog cxSd [] 10 Try.f9 [sU a, sI .i64 d] (scDnG a d) := by
  unfold scDnG
  obtain ⟨q, hq⟩ : ∃ q, q = scDnQ a d := ⟨_, rfl⟩
  obtain ⟨r, hr⟩ : ∃ r, r = scDnR a d := ⟨_, rfl⟩
  obtain ⟨e, he⟩ : ∃ e, e = scDnE d := ⟨_, rfl⟩
  rw [← hq, ← hr, ← he, vc_Down]
  intro x1 x2 x3 x4 x5 x6 x7 x8
  have E1 : x1 = decide (d < 0) := rfl
  have E2 : x2 = q % M256 := rfl
  have E3 : x3 = r % M256 := rfl
  have E5 : 0 ≤ d ∧ d ≤ 77 → x5 = max (d - 8) 0 := fun h => scK_top h
  have E6 : x6 = if (0 : Int) ≤ x5 ∧ x5 ≤ (77 : Int) then (0 : Int) else (6 : Int) := rfl
  have E7 : x7 = (if (0 : Int) ≤ x5 ∧ x5 ≤ (77 : Int) then (10 : Nat) ^ x5.toNat else (0 : Nat)) % M256 := rfl
  have E8 : x8 = a % M256 := rfl
  have hA : a % M256 < M256 := Nat.mod_lt _ (by decide)
  clear_value x1 x2 x3 x4 x5 x6 x7 x8
  refine ⟨id, fun h => by rw [h]; rfl, fun h => ?_, fun h => ?_⟩
  · rw [E1, Bool.or_eq_true, decide_eq_true_eq, decide_eq_true_eq] at h
    rw [E2, E3, hq, hr, he]
    unfold scDnQ scDnR scDnE
    rw [if_neg (by omega), if_neg (by omega), if_neg (by omega), Nat.zero_mod]
    exact ⟨⟨rfl, trivial⟩, ⟨rfl, trivial⟩, rfl⟩
  · rw [E1, Bool.or_eq_false_iff, decide_eq_false_iff_not, decide_eq_false_iff_not] at h
    have hd : 0 ≤ d ∧ d ≤ 77 := by omega
    have E5 := E5 hd
    have h5 : 0 ≤ x5 ∧ x5 ≤ 77 := by omega
    rw [if_pos h5] at E6
    rw [if_pos h5, scK_e E5, Nat.mod_eq_of_lt (scK_lt hd)] at E7
    have hp := scK_pos d
    refine ⟨by omega, fun h6 => ?_, fun _ => ?_⟩
    · rw [E6] at h6; exact absurd h6 (by decide)
    · have h7 : ¬ x7 = 0 := by omega
      rw [if_neg h7, if_neg h7, if_neg h7, E2, E3, hq, hr, he, E7, E8]
      unfold scDnQ scDnR scDnE
      rw [if_pos hd, if_pos hd, if_pos hd]
      exact ⟨⟨rfl, trivial⟩, ⟨rfl, trivial⟩, rfl⟩
theorem ok_Up (n : Nat) (d : Int) : Owes Try.prog cxSu [] 10 Try.f11 [sU n, sI .i64 d] (scUpG n d) := by
  unfold scUpG
  obtain ⟨q, hq⟩ : ∃ q, q = scUpN n d := ⟨_, rfl⟩
  obtain ⟨e, he⟩ : ∃ e, e = scUpE n d := ⟨_, rfl⟩
  rw [← hq, ← he, vc_Up]
  intro x1 x2 x3 x4 x5 x6
  have E1 : x1 = decide (d < 0) := rfl
  have E2 : x2 = q % M256 := rfl
  have E4 : 0 ≤ d ∧ d ≤ 77 → x4 = max (d - 8) 0 := fun h => scK_top h
  have E5 : x5 = if (0 : Int) ≤ x4 ∧ x4 ≤ (77 : Int) then (0 : Int) else (6 : Int) := rfl
  have E6 : x6 = (if (0 : Int) ≤ x4 ∧ x4 ≤ (77 : Int) then (10 : Nat) ^ x4.toNat else (0 : Nat)) := rfl
  clear_value x1 x2 x3 x4 x5 x6
  refine ⟨id, fun h => by rw [h]; rfl, fun h => ?_, fun h => ?_⟩
  · rw [E1, Bool.or_eq_true, decide_eq_true_eq, decide_eq_true_eq] at h
    rw [E2, hq, he]
    unfold scUpN scUpE
    rw [if_neg (by omega), if_neg (by omega), Nat.zero_mod]
    exact ⟨⟨rfl, trivial⟩, rfl⟩
  · rw [E1, Bool.or_eq_false_iff, decide_eq_false_iff_not, decide_eq_false_iff_not] at h
    have hd : 0 ≤ d ∧ d ≤ 77 := by omega
    have E4 := E4 hd
    have h4 : 0 ≤ x4 ∧ x4 ≤ 77 := by omega
    rw [if_pos h4] at E5
    rw [if_pos h4, scK_e E4] at E6
    have hA : n % M256 < M256 := Nat.mod_lt _ (by decide)
    have hK := scK_lt hd
    rw [E6, Nat.mod_eq_of_lt hK, E2, hq, he]
    unfold scUpN scUpE
    have hz : n % M256 * scK d / M256 < M256 := Nat.div_lt_of_lt_mul (Nat.mul_lt_mul'' hA hK)
    rw [Nat.mod_eq_of_lt hz, if_pos hd]
    have hm : n * scK d % M256 = n % M256 * scK d % M256 := (Nat.mod_mul_mod ..).symm
    refine ⟨by omega, fun h6 => ?_, fun _ => ⟨fun h7 => ?_, fun h7 => ?_⟩⟩
    · rw [E5] at h6; exact absurd h6 (by decide)
    · have h0 : ¬ n % M256 * scK d / M256 = 0 := by simpa [conj] using h7
      have hn : ¬ n % M256 * scK d < M256 := fun h => h0 (Nat.div_eq_of_lt h)
      rw [if_neg (fun h => hn h.2), if_neg hn, Nat.zero_mod]
      exact ⟨⟨rfl, trivial⟩, rfl⟩
    · have h0 : n % M256 * scK d / M256 = 0 := by simpa [conj] using h7
      have hn : n % M256 * scK d < M256 := by
        rcases Nat.lt_or_ge (n % M256 * scK d) M256 with c | c
        · exact c
        · have := Nat.div_pos c (by decide : 0 < M256); omega
      rw [if_pos ⟨hd, hn⟩, if_pos hn, hm]
      exact ⟨⟨rfl, trivial⟩, rfl⟩
theorem card_Down : FnOK Try.prog 9 (specUJ (fun _ d => [i64ok d]) scDnG) :=
  FnOK_UJ (CxOK_cons card_Ten (CxOK_cons card_DivMod CxOK_nil)) (iv := fun _ _ => []) (N := 10) Try.func9 (by kernel_rfl) (by kernel_rfl) (fun _ _ => bnd_three (bnd_U _) (bnd_U _) (bnd_I _ _)) fun a d _ => ok_Down a d
theorem card_Up : FnOK Try.prog 11 (specUJ (fun _ d => [i64ok d]) scUpG) :=
  FnOK_UJ (CxOK_cons card_Ten (CxOK_cons card_Mul CxOK_nil)) (iv := fun _ _ => []) (N := 10) Try.func11 (by kernel_rfl) (by kernel_rfl) (fun _ _ => bnd_two (bnd_U _) (bnd_I _ _)) fun a d _ => ok_Up a d
end Go.Proofs.Ytjpddnjgbgpegaa
end
