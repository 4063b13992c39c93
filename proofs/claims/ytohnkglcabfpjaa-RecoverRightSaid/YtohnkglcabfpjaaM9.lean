/-
  Texts: Leh, V11, V12, V13, Sx14, Sx15.
-/
import Derived.Test.YtohnkglcabfpjaaM1
import Derived.Test.YtohnkglcabfpjaaM2
import Derived.Test.YtohnkglcabfpjaaM3
import Derived.Test.YtohnkglcabfpjaaM4
import Derived.Test.YtohnkglcabfpjaaM5
import Derived.Test.YtohnkglcabfpjaaM6
import Derived.Test.YtohnkglcabfpjaaM7
import Derived.Test.YtohnkglcabfpjaaM8
section
namespace Go.Sx
def eu : Nat → Nat → Nat → Int → Int → Nat × Int
  | 0, r0, _, s0, _ => (r0, s0)
  | n + 1, r0, r1, s0, s1 => if r1 = 0 then (r0, s0) else eu n r1 (r0 % r1) s1 (s0 - ((r0 / r1 : Nat) : Int) * s1)
theorem eu_more : ∀ (n k r0 r1 : Nat) (s0 s1 : Int), r1 ≤ n → r1 ≤ k → eu n r0 r1 s0 s1 = eu k r0 r1 s0 s1
  | 0, 0, _, _, _, _, _, _ => rfl
  | 0, k + 1, r0, r1, s0, s1, h, _ => by
    have : r1 = 0 := by omega
    simp only [eu, if_pos this]
  | n + 1, 0, r0, r1, s0, s1, _, h => by
    have : r1 = 0 := by omega
    simp only [eu, if_pos this]
  | n + 1, k + 1, r0, r1, s0, s1, h, h' => by
    simp only [eu]
    by_cases e : r1 = 0
    · rw [if_pos e, if_pos e]
    · have := Nat.mod_lt r0 (Nat.pos_of_ne_zero e)
      rw [if_neg e, if_neg e, eu_more n k _ _ _ _ (by omega) (by omega)]
def euE (r0 r1 : Nat) (s0 s1 : Int) : Nat × Int := eu r1 r0 r1 s0 s1
theorem euE_zero (r0 : Nat) (s0 s1 : Int) : euE r0 0 s0 s1 = (r0, s0) := rfl
theorem euE_step {r0 r1 : Nat} (h : r1 ≠ 0) (s0 s1 : Int) : euE r0 r1 s0 s1 = euE r1 (r0 % r1) s1 (s0 - ((r0 / r1 : Nat) : Int) * s1) := by
  unfold euE
  obtain ⟨k, rfl⟩ : ∃ k, r1 = k + 1 := ⟨r1 - 1, by omega⟩
  rw [eu, if_neg h]
  have : r0 % (k + 1) < k + 1 := Nat.mod_lt r0 (Nat.succ_pos k)
  exact eu_more _ _ _ _ _ _ (by omega) (Nat.le_refl _)
theorem eu_gcd : ∀ (n r0 r1 : Nat) (s0 s1 : Int), r1 ≤ n → (eu n r0 r1 s0 s1).1 = Nat.gcd r1 r0
  | 0, r0, r1, s0, s1, h => by
    have : r1 = 0 := by omega
    subst this
    simp [eu]
  | n + 1, r0, r1, s0, s1, h => by
    simp only [eu]
    by_cases e : r1 = 0
    · subst e
      simp
    · have := Nat.mod_lt r0 (Nat.pos_of_ne_zero e)
      rw [if_neg e, eu_gcd n _ _ _ _ (by omega), Nat.gcd_rec r1 r0]
theorem euE_gcd (r0 r1 : Nat) (s0 s1 : Int) : (euE r0 r1 s0 s1).1 = Nat.gcd r1 r0 := eu_gcd _ _ _ _ _ (Nat.le_refl _)
structure EuK (m a r0 r1 : Nat) (s0 s1 : Int) : Prop where
  lt : r1 < r0
  d0 : (m : Int) ∣ (a : Int) * s0 - r0
  d1 : (m : Int) ∣ (a : Int) * s1 - r1
  sg : (s0 ≤ 0 ∧ 0 ≤ s1 ∧ (r0 : Int) * s1 - (r1 : Int) * s0 = m) ∨ (0 ≤ s0 ∧ s1 ≤ 0 ∧ (r1 : Int) * s0 - (r0 : Int) * s1 = m)
  le : s0.natAbs ≤ s1.natAbs
  tw : r1 = 0 → 2 * s0.natAbs ≤ s1.natAbs
theorem EuK.start {m a : Nat} (h : a < m) : EuK m a m a 0 1 where
  lt := h
  d0 := ⟨-1, by omega⟩
  d1 := ⟨0, by omega⟩
  sg := .inl ⟨by omega, by omega, by omega⟩
  le := by decide
  tw := fun _ => by decide
theorem EuK.step {m a r0 r1 : Nat} {s0 s1 : Int} (k : EuK m a r0 r1 s0 s1) (h : r1 ≠ 0) : EuK m a r1 (r0 % r1) s1 (s0 - ((r0 / r1 : Nat) : Int) * s1) := by
  have hr := Nat.div_add_mod r0 r1
  have hlt := Nat.mod_lt r0 (Nat.pos_of_ne_zero h)
  have hq : 1 ≤ r0 / r1 := by
    rw [Nat.le_div_iff_mul_le (Nat.pos_of_ne_zero h)]
    have := k.lt
    omega
  have hq2 : r0 % r1 = 0 → 2 ≤ r0 / r1 := by
    intro e
    have h1 := k.lt
    rcases Nat.lt_or_ge (r0 / r1) 2 with g | g
    · have : r0 / r1 = 1 := by omega
      rw [this, e] at hr
      omega
    · exact g
  have e0 : (r0 : Int) = (r1 : Int) * ((r0 / r1 : Nat) : Int) + ((r0 % r1 : Nat) : Int) := by exact_mod_cast hr.symm
  generalize r0 / r1 = q at *
  generalize r0 % r1 = r2 at *
  have hab : s0.natAbs ≤ s1.natAbs := k.le
  have hsg := k.sg
  have hz : ∀ t : Nat, t ≤ q → ∃ z : Int, (q : Int) * s1 = z ∧ (0 ≤ s1 → (t : Int) * s1 ≤ z) ∧ (s1 ≤ 0 → z ≤ (t : Int) * s1) := by
    intro t ht
    refine ⟨_, rfl, fun g => Int.mul_le_mul_of_nonneg_right (by omega) g, fun g => ?_⟩
    have := Int.mul_le_mul_of_nonneg_right (show (t : Int) ≤ q by omega) (show 0 ≤ -s1 by omega)
    rw [Int.mul_neg, Int.mul_neg] at this
    omega
  refine ⟨hlt, k.d1, ?_, ?_, ?_, ?_⟩
  · obtain ⟨u, hu⟩ := k.d0
    obtain ⟨v, hv⟩ := k.d1
    refine ⟨u - q * v, ?_⟩
    rw [Int.mul_sub (m : Int), ← Int.mul_assoc (m : Int), Int.mul_comm (m : Int) q, Int.mul_assoc (q : Int), ← hu, ← hv]
    grind
  · rcases hsg with ⟨g1, g2, g3⟩ | ⟨g1, g2, g3⟩
    · refine .inr ⟨g2, ?_, by grind⟩
      obtain ⟨z, hz1, hz2, _⟩ := hz 1 hq
      have := hz2 g2
      omega
    · refine .inl ⟨g2, ?_, by grind⟩
      obtain ⟨z, hz1, _, hz3⟩ := hz 1 hq
      have := hz3 g2
      omega
  · obtain ⟨z, hz1, hz2, hz3⟩ := hz 1 hq
    rw [hz1]
    rcases hsg with ⟨g1, g2, g3⟩ | ⟨g1, g2, g3⟩
    · have := hz2 g2; omega
    · have := hz3 g2; omega
  · intro e
    obtain ⟨z, hz1, hz2, hz3⟩ := hz 2 (hq2 e)
    rw [hz1]
    rcases hsg with ⟨g1, g2, g3⟩ | ⟨g1, g2, g3⟩
    · have := hz2 g2; omega
    · have := hz3 g2; omega
theorem EuK.half {m a r0 : Nat} {s0 s1 : Int} (k : EuK m a r0 0 s0 s1) : 2 * s0.natAbs ≤ m := by
  have h1 := k.tw rfl
  have h2 := k.lt
  have h3 : r0 * s1.natAbs = m := by
    rcases k.sg with ⟨_, g, e⟩ | ⟨_, g, e⟩
    · obtain ⟨n, rfl⟩ := Int.eq_ofNat_of_zero_le g
      simp only [Int.natAbs_natCast]
      have : ((r0 * n : Nat) : Int) = m := by rw [Int.natCast_mul]; simpa using e
      exact_mod_cast this
    · obtain ⟨n, hn⟩ := Int.eq_ofNat_of_zero_le (show 0 ≤ -s1 by omega)
      obtain rfl : s1 = -(n : Int) := by omega
      simp only [Int.natAbs_neg, Int.natAbs_natCast]
      have : ((r0 * n : Nat) : Int) = m := by rw [Int.natCast_mul]; rw [Int.mul_neg] at e; omega
      exact_mod_cast this
  have : 1 * s1.natAbs ≤ r0 * s1.natAbs := Nat.mul_le_mul_right _ h2
  omega
structure Goes (r0 r1 R0 R1 : Nat) (a b c d : Int) : Prop where
  e0 : (R0 : Int) = a * r0 + b * r1
  e1 : (R1 : Int) = c * r0 + d * r1
  gE : ∀ s0 s1, euE r0 r1 s0 s1 = euE R0 R1 (a * s0 + b * s1) (c * s0 + d * s1)
  gK : ∀ (m x : Nat) (s0 s1 : Int), EuK m x r0 r1 s0 s1 → EuK m x R0 R1 (a * s0 + b * s1) (c * s0 + d * s1)
theorem Goes.id (r0 r1 : Nat) : Goes r0 r1 r0 r1 1 0 0 1 where
  e0 := by omega
  e1 := by omega
  gE s0 s1 := by rw [show (1 : Int) * s0 + 0 * s1 = s0 by omega, show (0 : Int) * s0 + 1 * s1 = s1 by omega]
  gK m x s0 s1 k := by rw [show (1 : Int) * s0 + 0 * s1 = s0 by omega, show (0 : Int) * s0 + 1 * s1 = s1 by omega]; exact k
theorem Goes.step {r0 r1 R0 R1 : Nat} {a b c d : Int} (g : Goes r0 r1 R0 R1 a b c d) (h : R1 ≠ 0) {q : Int} (hq : ((R0 / R1 : Nat) : Int) = q) : Goes r0 r1 R1 (R0 % R1) c d (a - q * c) (b - q * d) where
  e0 := g.e1
  e1 := by
    have h1 : (R0 : Int) = (R1 : Int) * ((R0 / R1 : Nat) : Int) + ((R0 % R1 : Nat) : Int) := by exact_mod_cast (Nat.div_add_mod R0 R1).symm
    have h2 := g.e0
    have h3 := g.e1
    rw [hq] at h1
    grind
  gE s0 s1 := by
    rw [g.gE, euE_step h, hq]
    congr 1
    grind
  gK m x s0 s1 k := by
    have := (g.gK m x s0 s1 k).step h
    rw [hq] at this
    rw [show (a - q * c) * s0 + (b - q * d) * s1 = a * s0 + b * s1 - q * (c * s0 + d * s1) by grind]
    exact this
def fs : Nat → Int → Int → Int → Int → Int → Int → Int × Int × Int × Int
  | 0, _, _, a, b, c, d => (a, b, c, d)
  | n + 1, x, y, a, b, c, d => if y + c = 0 ∨ y + d = 0 then (a, b, c, d) else if (x + a) / (y + c) ≠ (x + b) / (y + d) then (a, b, c, d) else fs n y (x - (x + a) / (y + c) * y) c d (a - (x + a) / (y + c) * c) (b - (x + a) / (y + c) * d)
theorem low_side {y c d e0 e1 B t : Int} (hs : (c ≤ 0 ∧ 0 ≤ d) ∨ (0 ≤ c ∧ d ≤ 0)) (h0 : 0 ≤ e0) (h0' : e0 ≤ B) (h1 : 0 ≤ e1) (h1' : e1 ≤ B) (hc : t ≤ y + c) (hd : t ≤ y + d) : t * B ≤ y * B + c * e0 + d * e1 := by
  rcases hs with ⟨g1, g2⟩ | ⟨g1, g2⟩
  · have p1 := Int.mul_le_mul_of_nonpos_left g1 h0'
    have p2 := Int.mul_nonneg g2 h1
    have p3 := Int.mul_le_mul_of_nonneg_right hc (show 0 ≤ B by omega)
    rw [Int.add_mul] at p3
    omega
  · have p1 := Int.mul_le_mul_of_nonpos_left g2 h1'
    have p2 := Int.mul_nonneg g1 h0
    have p3 := Int.mul_le_mul_of_nonneg_right hd (show 0 ≤ B by omega)
    rw [Int.add_mul] at p3
    omega
theorem high_side {y c d e0 e1 B t : Int} (hs : (c ≤ 0 ∧ 0 ≤ d) ∨ (0 ≤ c ∧ d ≤ 0)) (h0 : 0 ≤ e0) (h0' : e0 ≤ B) (h1 : 0 ≤ e1) (h1' : e1 ≤ B) (hc : y + c ≤ t) (hd : y + d ≤ t) : y * B + c * e0 + d * e1 ≤ t * B := by
  have := low_side (y := -y) (c := -c) (d := -d) (t := -t) (by omega) h0 h0' h1 h1' (by omega) (by omega)
  rw [Int.neg_mul, Int.neg_mul, Int.neg_mul, Int.neg_mul] at this
  omega
theorem nn_of_mul {x n : Int} (hn : 0 < n) (h : 0 ≤ x * n) : 0 ≤ x := by
  rcases Int.lt_or_le x 0 with g | g
  · have := Int.mul_neg_of_neg_of_pos g hn
    omega
  · exact g
theorem pos_of_mul' {x n : Int} (hn : 0 < n) (h : 0 < x * n) : 0 < x := by
  rcases Int.lt_or_le 0 x with g | g
  · exact g
  · have := Int.mul_nonpos_of_nonpos_of_nonneg g (Int.le_of_lt hn)
    omega
theorem ring1 {r0 r1 N x0 y0 B e0 e1 c d : Int} (h0 : r0 * N = x0 * B + e0) (h1 : r1 * N = y0 * B + e1) : (c * r0 + d * r1) * N = (c * x0 + d * y0) * B + c * e0 + d * e1 := by grind
theorem ring2 {r0 r1 N x0 y0 B e0 e1 a b c d q : Int} (h0 : r0 * N = x0 * B + e0) (h1 : r1 * N = y0 * B + e1) : (a * r0 + b * r1 - q * (c * r0 + d * r1)) * N = (a * x0 + b * y0 - q * (c * x0 + d * y0)) * B + (a - q * c) * e0 + (b - q * d) * e1 := by grind
theorem ring3 {r0 r1 N x0 y0 B e0 e1 a b c d q : Int} (h0 : r0 * N = x0 * B + e0) (h1 : r1 * N = y0 * B + e1) : (a * r0 + b * r1 - q * (c * r0 + d * r1) - (c * r0 + d * r1)) * N = (a * x0 + b * y0 - q * (c * x0 + d * y0) - (c * x0 + d * y0)) * B + (a - q * c - c) * e0 + (b - q * d - d) * e1 := by grind
theorem ring4 {x y a c q u : Int} (h : (y + c) * q + u = x + a) : x - q * y + (a - q * c) = u := by grind
theorem ring5 {x0 y0 x y a b c d q : Int} (ex : x = a * x0 + b * y0) (ey : y = c * x0 + d * y0) : (c * (b - q * d) - d * (a - q * c)) * (x0 + 1) = (b - q * d) * (y + c) - d * (x - q * y + (a - q * c)) := by subst ex ey; grind
theorem ring6 {x0 y0 x y a b c d q : Int} (ex : x = a * x0 + b * y0) (ey : y = c * x0 + d * y0) : (c * (b - q * d) - d * (a - q * c)) * y0 = c * (x - q * y + (a - q * c)) - (a - q * c) * (y + c) := by subst ex ey; grind
theorem ring7 {a b c d q : Int} : c * (b - q * d) - d * (a - q * c) = -(a * d - b * c) := by grind
theorem ring8 {x0 y0 x y a b c d q : Int} (ex : x = a * x0 + b * y0) (ey : y = c * x0 + d * y0) : x - q * y = (a - q * c) * x0 + (b - q * d) * y0 := by subst ex ey; grind
structure FsK (r0 r1 : Nat) (N B x0 y0 e0 e1 W : Int) (x y a b c d : Int) : Prop where
  g : ∃ R0 R1 : Nat, Goes r0 r1 R0 R1 a b c d ∧ (R1 < r1 ∨ R1 = r1 ∧ b = 0)
  ex : x = a * x0 + b * y0
  ey : y = c * x0 + d * y0
  p1 : 1 ≤ x + a ∧ x + a ≤ W
  p2 : 1 ≤ x + b ∧ x + b ≤ W
  p3 : 0 ≤ y + c ∧ y + c ≤ W
  p4 : 0 ≤ y + d ∧ y + d ≤ W
  sg : (0 ≤ a ∧ b ≤ 0 ∧ c ≤ 0 ∧ 0 ≤ d ∧ a * d - b * c = 1) ∨ (a ≤ 0 ∧ 0 ≤ b ∧ 0 ≤ c ∧ d ≤ 0 ∧ a * d - b * c = -1)
  ba : a.natAbs ≤ W.toNat
  bb : b.natAbs ≤ W.toNat
  bc : c.natAbs ≤ W.toNat
  bd : d.natAbs ≤ W.toNat
structure FsC (r0 r1 : Nat) (N B x0 y0 e0 e1 W : Int) : Prop where
  N0 : 0 < N
  h0 : (r0 : Int) * N = x0 * B + e0
  h1 : (r1 : Int) * N = y0 * B + e1
  l0 : 0 ≤ e0 ∧ e0 < B
  l1 : 0 ≤ e1 ∧ e1 < B
  x1 : 1 ≤ x0 ∧ x0 < W
  y1 : 0 ≤ y0 ∧ y0 < W
theorem FsK.start {r0 r1 : Nat} {N B x0 y0 e0 e1 W : Int} (k : FsC r0 r1 N B x0 y0 e0 e1 W) : FsK r0 r1 N B x0 y0 e0 e1 W x0 y0 1 0 0 1 := by
  obtain ⟨_, _, _, _, _, x1, y1⟩ := k
  refine ⟨⟨r0, r1, Goes.id _ _, .inr ⟨rfl, rfl⟩⟩, by omega, by omega, by omega, by omega, by omega, by omega, .inl (by omega), ?_, ?_, ?_, ?_⟩ <;> omega
theorem sg_next {a b c d q : Int} (hq : 0 ≤ q) (sg : (0 ≤ a ∧ b ≤ 0 ∧ c ≤ 0 ∧ 0 ≤ d ∧ a * d - b * c = 1) ∨ (a ≤ 0 ∧ 0 ≤ b ∧ 0 ≤ c ∧ d ≤ 0 ∧ a * d - b * c = -1)) :
    (0 ≤ c ∧ d ≤ 0 ∧ a - q * c ≤ 0 ∧ 0 ≤ b - q * d ∧ c * (b - q * d) - d * (a - q * c) = 1) ∨ (c ≤ 0 ∧ 0 ≤ d ∧ 0 ≤ a - q * c ∧ b - q * d ≤ 0 ∧ c * (b - q * d) - d * (a - q * c) = -1) := by
  have sgc : (0 ≤ c → 0 ≤ q * c) ∧ (c ≤ 0 → q * c ≤ 0) := ⟨fun h => Int.mul_nonneg hq h, fun h => Int.mul_nonpos_of_nonneg_of_nonpos hq h⟩
  have sgd : (0 ≤ d → 0 ≤ q * d) ∧ (d ≤ 0 → q * d ≤ 0) := ⟨fun h => Int.mul_nonneg hq h, fun h => Int.mul_nonpos_of_nonneg_of_nonpos hq h⟩
  rw [ring7]
  generalize a * d - b * c = D at *
  generalize q * c = Z at *
  generalize q * d = Y at *
  rcases sg with ⟨i1, i2, i3, i4, i5⟩ | ⟨i1, i2, i3, i4, i5⟩
  · refine .inr ⟨i3, i4, ?_, ?_, ?_⟩ <;> omega
  · refine .inl ⟨i3, i4, ?_, ?_, ?_⟩ <;> omega
theorem quot_told {R0 R1 : Nat} {N B e0 e1 x' y c d c' d' q : Int} (N0 : 0 < N) (B0 : 0 < B) (l0 : 0 ≤ e0 ∧ e0 < B) (l1 : 0 ≤ e1 ∧ e1 < B)
    (s1 : (R1 : Int) * N = y * B + c * e0 + d * e1) (s2 : ((R0 : Int) - q * R1) * N = x' * B + c' * e0 + d' * e1) (s3 : ((R0 : Int) - q * R1 - R1) * N = (x' - y) * B + (c' - c) * e0 + (d' - d) * e1)
    (sg : (0 ≤ c ∧ d ≤ 0 ∧ c' ≤ 0 ∧ 0 ≤ d') ∨ (c ≤ 0 ∧ 0 ≤ d ∧ 0 ≤ c' ∧ d' ≤ 0)) (p1 : 1 ≤ y + c) (p2 : 1 ≤ y + d) (p3 : 0 ≤ x' + c') (p4 : 0 ≤ x' + d') (p5 : x' + c' < y + c) (p6 : x' + d' < y + d) :
    R1 ≠ 0 ∧ ((R0 / R1 : Nat) : Int) = q := by
  have g1 : (c ≤ 0 ∧ 0 ≤ d) ∨ (0 ≤ c ∧ d ≤ 0) := by rcases sg with h | h <;> omega
  have g2 : (c' ≤ 0 ∧ 0 ≤ d') ∨ (0 ≤ c' ∧ d' ≤ 0) := by rcases sg with h | h <;> omega
  have g3 : (c' - c ≤ 0 ∧ 0 ≤ d' - d) ∨ (0 ≤ c' - c ∧ d' - d ≤ 0) := by rcases sg with h | h <;> omega
  have z1 : 0 < (R1 : Int) := by
    refine pos_of_mul' N0 ?_
    rw [s1]
    have := low_side (y := y) (c := c) (d := d) (t := 1) g1 l0.1 (Int.le_of_lt l0.2) l1.1 (Int.le_of_lt l1.2) p1 p2
    rw [Int.one_mul] at this
    exact Int.lt_of_lt_of_le B0 this
  have z2 : 0 ≤ (R0 : Int) - q * R1 := by
    refine nn_of_mul N0 ?_
    rw [s2]
    have := low_side (y := x') (c := c') (d := d') (t := 0) g2 l0.1 (Int.le_of_lt l0.2) l1.1 (Int.le_of_lt l1.2) p3 p4
    rwa [Int.zero_mul] at this
  have z3 : (R0 : Int) - q * R1 - R1 < 0 := by
    have : 0 < -((R0 : Int) - q * R1 - R1) := by
      refine pos_of_mul' N0 ?_
      rw [Int.neg_mul, s3]
      have := high_side (y := x' - y) (c := c' - c) (d := d' - d) (t := -1) g3 l0.1 (Int.le_of_lt l0.2) l1.1 (Int.le_of_lt l1.2) (by omega) (by omega)
      rw [Int.neg_mul, Int.one_mul] at this
      omega
    omega
  refine ⟨by omega, ?_⟩
  rw [Int.natCast_ediv]
  refine Int.le_antisymm ?_ (Int.le_ediv_of_mul_le z1 (by omega))
  have := Int.ediv_lt_of_lt_mul z1 (show (R0 : Int) < (q + 1) * R1 by rw [Int.add_mul]; omega)
  omega
theorem ent_le {w u c d c' d' y0 x0 W : Int} (hw : 1 ≤ w) (hu : 0 ≤ u) (x1 : x0 + 1 ≤ W) (y1 : y0 ≤ W)
    (sg : (0 ≤ c ∧ d ≤ 0 ∧ c' ≤ 0 ∧ 0 ≤ d' ∧ c * d' - d * c' = 1) ∨ (c ≤ 0 ∧ 0 ≤ d ∧ 0 ≤ c' ∧ d' ≤ 0 ∧ c * d' - d * c' = -1))
    (f1 : (c * d' - d * c') * (x0 + 1) = d' * w - d * u) (f2 : (c * d' - d * c') * y0 = c * u - c' * w) : c'.natAbs ≤ W.toNat ∧ d'.natAbs ≤ W.toNat := by
  have big : ∀ A : Int, (0 ≤ A → A ≤ A * w) ∧ (A ≤ 0 → A * w ≤ A) := by
    intro A
    refine ⟨fun h => ?_, fun h => ?_⟩
    · have := Int.mul_le_mul_of_nonneg_left hw h
      omega
    · have := Int.mul_le_mul_of_nonpos_left h hw
      omega
  have bD := big d'
  have bC := big c'
  have sgu : ∀ A : Int, (0 ≤ A → 0 ≤ A * u) ∧ (A ≤ 0 → A * u ≤ 0) := fun A => ⟨fun h => Int.mul_nonneg h hu, fun h => Int.mul_nonpos_of_nonpos_of_nonneg h hu⟩
  have uD := sgu d
  have uC := sgu c
  clear big sgu
  rcases sg with ⟨i1, i2, i3, i4, i5⟩ | ⟨i1, i2, i3, i4, i5⟩
  · rw [i5] at f1 f2
    have a1 := uC.1 i1
    have a2 := bC.2 i3
    have a3 := uD.2 i2
    have a4 := bD.1 i4
    clear uD uC bD bC
    generalize c' * w = z1 at *
    generalize d' * w = z2 at *
    generalize c * u = z3 at *
    generalize d * u = z4 at *
    omega
  · rw [i5] at f1 f2
    have a1 := uC.2 i1
    have a2 := bC.1 i3
    have a3 := uD.1 i2
    have a4 := bD.2 i4
    clear uD uC bD bC
    generalize c' * w = z1 at *
    generalize d' * w = z2 at *
    generalize c * u = z3 at *
    generalize d * u = z4 at *
    omega
theorem FsK.step {r0 r1 : Nat} {N B x0 y0 e0 e1 W x y a b c d q : Int} (k : FsC r0 r1 N B x0 y0 e0 e1 W) (f : FsK r0 r1 N B x0 y0 e0 e1 W x y a b c d) (hc : y + c ≠ 0) (hd : y + d ≠ 0) (q1 : (x + a) / (y + c) = q) (q2 : (x + b) / (y + d) = q) :
    FsK r0 r1 N B x0 y0 e0 e1 W y (x - q * y) c d (a - q * c) (b - q * d) ∧ x - q * y + (a - q * c) < y + c := by
  obtain ⟨⟨R0, R1, g, hg⟩, ex, ey, p1, p2, p3, p4, sg, ba, bb, bc, bd⟩ := f
  obtain ⟨N0, h0, h1, l0, l1, x1, y1⟩ := k
  have hq : 0 ≤ q := by rw [← q1]; exact Int.ediv_nonneg (Int.le_trans (by decide) p1.1) p3.1
  have hw : 1 ≤ y + c := by clear sg; omega
  have hw' : 1 ≤ y + d := by clear sg; omega
  have u1 : (y + c) * q + (x + a) % (y + c) = x + a := by rw [← q1]; exact Int.mul_ediv_add_emod _ _
  have u2 : (y + d) * q + (x + b) % (y + d) = x + b := by rw [← q2]; exact Int.mul_ediv_add_emod _ _
  have v1 := Int.emod_nonneg (x + a) hc
  have v2 := Int.emod_nonneg (x + b) hd
  have w1 := Int.emod_lt_of_pos (x + a) hw
  have w2 := Int.emod_lt_of_pos (x + b) hw'
  have t1 : x - q * y + (a - q * c) = (x + a) % (y + c) := ring4 u1
  have t2 : x - q * y + (b - q * d) = (x + b) % (y + d) := ring4 u2
  rw [← t1] at v1 w1
  rw [← t2] at v2 w2
  have E0 := g.e0
  have E1 := g.e1
  have s1 : (R1 : Int) * N = y * B + c * e0 + d * e1 := by rw [E1, ey]; exact ring1 h0 h1
  have s2 : ((R0 : Int) - q * R1) * N = (x - q * y) * B + (a - q * c) * e0 + (b - q * d) * e1 := by rw [E0, E1, ex, ey]; exact ring2 h0 h1
  have s3 : ((R0 : Int) - q * R1 - R1) * N = (x - q * y - y) * B + (a - q * c - c) * e0 + (b - q * d - d) * e1 := by rw [E0, E1, ex, ey]; exact ring3 h0 h1
  have nsg := sg_next hq sg
  have nsg' : (0 ≤ c ∧ d ≤ 0 ∧ a - q * c ≤ 0 ∧ 0 ≤ b - q * d) ∨ (c ≤ 0 ∧ 0 ≤ d ∧ 0 ≤ a - q * c ∧ b - q * d ≤ 0) := nsg.imp (fun h => ⟨h.1, h.2.1, h.2.2.1, h.2.2.2.1⟩) (fun h => ⟨h.1, h.2.1, h.2.2.1, h.2.2.2.1⟩)
  obtain ⟨hR, hQ⟩ := quot_told N0 (Int.lt_of_le_of_lt l0.1 l0.2) l0 l1 s1 s2 s3 nsg' hw hw' v1 v2 w1 w2
  have hmod := Nat.mod_lt R0 (Nat.pos_of_ne_zero hR)
  obtain ⟨b1, b2⟩ := ent_le hw v1 (show x0 + 1 ≤ W by omega) (show y0 ≤ W by omega) nsg (ring5 ex ey) (ring6 ex ey)
  refine ⟨⟨⟨R1, R0 % R1, g.step hR hQ, .inl ?_⟩, ey, ring8 ex ey, ⟨hw, p3.2⟩, ⟨hw', p4.2⟩, ⟨v1, Int.le_of_lt (Int.lt_of_lt_of_le w1 p3.2)⟩, ⟨v2, Int.le_of_lt (Int.lt_of_lt_of_le w2 p4.2)⟩, ?_, bc, bd, b1, b2⟩, w1⟩
  · rcases hg with h | h
    · exact Nat.lt_trans hmod h
    · rw [← h.1]; exact hmod
  · rcases nsg with h | h
    · exact .inl h
    · exact .inr h
theorem FsK.run {r0 r1 : Nat} {N B x0 y0 e0 e1 W : Int} (k : FsC r0 r1 N B x0 y0 e0 e1 W) : ∀ (n : Nat) (x y a b c d : Int), FsK r0 r1 N B x0 y0 e0 e1 W x y a b c d →
    ∃ x' y' : Int, FsK r0 r1 N B x0 y0 e0 e1 W x' y' (fs n x y a b c d).1 (fs n x y a b c d).2.1 (fs n x y a b c d).2.2.1 (fs n x y a b c d).2.2.2
  | 0, x, y, a, b, c, d, f => ⟨x, y, f⟩
  | n + 1, x, y, a, b, c, d, f => by
    simp only [fs]
    by_cases e1 : y + c = 0 ∨ y + d = 0
    · rw [if_pos e1]; exact ⟨x, y, f⟩
    · rw [if_neg e1]
      by_cases e2 : (x + a) / (y + c) ≠ (x + b) / (y + d)
      · rw [if_pos e2]; exact ⟨x, y, f⟩
      · rw [if_neg e2]
        exact FsK.run k n _ _ _ _ _ _ (f.step k (by omega) (by omega) rfl (by omega)).1
end Go.Sx
end

section
namespace Go.Proofs.Ytohnkglcabfpjaa
open Go.Sx
set_option maxRecDepth 100000
def wrN (z : Int) : Nat := (z % (M256 : Int)).toNat
def signedC (z : Int) : List Prop := [i64ok z]
def signedG (z : Int) : SV := .one (sU (wrN z))
def highN (a : Nat) (n : Int) : Nat := a % M256 * 2 ^ n.toNat / 2 ^ 194
def highC (a : Nat) (n : Int) : List Prop := [0 ≤ n ∧ n ≤ 255, a % M256 * 2 ^ n.toNat < M256]
def highG (a : Nat) (n : Int) : SV := .one (sI .i64 ((highN a n : Nat) : Int))
def foN (p : Nat) : Int := ((256 - bitsN (p % M256) : Nat) : Int)
def foR (p q : Nat) : Int × Int × Int × Int := fs (highN q (foN p) + 1) (highN p (foN p) : Nat) (highN q (foN p) : Nat) 1 0 0 1
def foC : List (List At) → List Prop
  | [[.u p, .u q]] => [q % M256 < p % M256]
  | _ => [False]
def foG : List (List At) → SV
  | [[.u p, .u q]] => .tup [.agg [.u (wrN (foR p q).1), .u (wrN (foR p q).2.1), .u (wrN (foR p q).2.2.1), .u (wrN (foR p q).2.2.2)], sB (!((foR p q).2.1 == 0))]
  | _ => .tup []
def turnC : List (List At) → List Prop
  | [[.u _, .u _, .u _, .u _], [.u _, .u _]] => []
  | _ => [False]
def turnG : List (List At) → SV
  | [[.u a, .u b, .u c, .u d], [.u p, .u q]] => .one (.agg [.u (a * p + b * q), .u (c * p + d * q)])
  | _ => .tup []
def aboveG (a m : Nat) : SV := .one (sU (if 2 ^ 255 ≤ a % M256 then a + m else a))
def invN (a m : Nat) : Nat := if (euE m a 0 1).1 = 1 then ((euE m a 0 1).2 % (m : Int)).toNat else 0
def invE (a m : Nat) : Int := if (euE m a 0 1).1 = 1 then 0 else 5
def inverseC (a m : Nat) : List Prop := [a % M256 < m % M256]
def inverseG (a m : Nat) : SV := .tup [sU (invN (a % M256) (m % M256)), sI .i64 (invE (a % M256) (m % M256))]
def finvE (a m : Nat) : Int := if m % M256 = 0 then 7 else if a % M256 < m % M256 then invE (a % M256) (m % M256) else 6
def finvG (a m : Nat) : SV := .tup [sU (if finvE a m = 0 then invN (a % M256) (m % M256) else 0), sI .i64 (finvE a m)]
def zeroT : List SK := zeroU ++ zeroU ++ zeroU ++ zeroU
def invFo (p q : Nat) : Inv where
  X := Int × Int × Int × Int × Int × Int × Nat
  tm j := slotsAt 80 [(2, .one (.sc (.ptr 1 0))), (5, .one (sI .i64 j.1)), (6, .one (sI .i64 j.2.1)), (7, .one (sI .i64 j.2.2.1)), (8, .one (sI .i64 j.2.2.2.1)), (9, .one (sI .i64 j.2.2.2.2.1)), (10, .one (sI .i64 j.2.2.2.2.2.1))]
  ob _ := [.cells 119 [.u p, .u q] 0, .cells 121 zeroT 0]
  holds j := fs j.2.2.2.2.2.2 j.1 j.2.1 j.2.2.1 j.2.2.2.1 j.2.2.2.2.1 j.2.2.2.2.2.1 = foR p q ∧ (j.2.1 + j.2.2.2.2.1).toNat < j.2.2.2.2.2.2 ∧
    ∃ N B e0 e1 : Int, FsC (p % M256) (q % M256) N B (highN p (foN p) : Nat) (highN q (foN p) : Nat) e0 e1 (2 ^ 62) ∧ FsK (p % M256) (q % M256) N B (highN p (foN p) : Nat) (highN q (foN p) : Nat) e0 e1 (2 ^ 62) j.1 j.2.1 j.2.2.1 j.2.2.2.1 j.2.2.2.2.1 j.2.2.2.2.2.1
  less j := j.2.2.2.2.2.2
def cxFo : Cx := [(68, specU noughtsG), (103, specUJ highC highG), (104, specI signedC signedG)]
def cxTurn : Cx := [(70, specUU mulG), (63, specUU addG)]
def cxAbove : Cx := [(63, specUU addG)]
def invInv (a m : Nat) : Inv where
  X := Nat × Nat × Int × Int
  tm _ := slotsAt 44 [(2, .one (.sc (.ptr 0 0))), (3, .one (.sc (.ptr 1 0))), (4, .one (.sc (.ptr 2 0))), (6, .one (.sc (.ptr 3 0))), (7, .one (.sc (.ptr 4 0)))]
  ob j := [.cells 24 [.u a] 0, .cells 24 [.u m] 0, .cells 24 zeroU 0, .cells 119 [.u j.1, .u j.2.1] 0, .cells 119 [.u (wrN j.2.2.1), .u (wrN j.2.2.2)] 0]
  holds j := EuK (m % M256) (a % M256) j.1 j.2.1 j.2.2.1 j.2.2.2 ∧ euE j.1 j.2.1 j.2.2.1 j.2.2.2 = euE (m % M256) (a % M256) 0 1 ∧ j.1 ≤ m % M256
  less j := j.2.1
def cxInverse : Cx := [(99, specA [.str [.u, .u]] foC foG), (101, specA [.str [.u, .u, .u, .u], .str [.u, .u]] turnC turnG), (102, specUU aboveG), (17, specUU dmG), (62, specUU subG)]
def cxInv : Cx := [(40, specUU cmpG), (91, specUUC inverseC inverseG)]
theorem vc_signed (z : Int) :
    Owes Try.prog Cx.none [] 100 Try.f104 [sI .i64 z] (signedG z) =
    (let x1 : Int := Go.IntKind.u64.wrap (z.fdiv (9223372036854775808 : Int)); ((0 : Int) ≤ Go.IntKind.u64.wrap z ∧ Go.IntKind.u64.wrap z < (18446744073709551616 : Int)) ∧ ((0 : Int) ≤ x1 ∧ x1 < (18446744073709551616 : Int)) ∧ ((0 : Int) ≤ x1 ∧ x1 < (18446744073709551616 : Int)) ∧ ((0 : Int) ≤ x1 ∧ x1 < (18446744073709551616 : Int)) ∧ join (Go.IntKind.u64.wrap z) x1 x1 x1 % M256 = wrN z % M256 ∧ True) := by kernel_rfl
theorem vc_highest (a : Nat) (n : Int) :
    Owes Try.prog Cx.none [] 100 Try.f103 [sU a, sI .i64 n] (highG a n) =
    (let x1 : Int := Go.IntKind.i64.wrap ((3 : Int) - Go.IntKind.i64.wrap (n.tdiv (64 : Int))); let x2 : Int := Go.IntKind.i64.wrap (x1 - (1 : Int)); let x3 : Int := Go.IntKind.i64.wrap ((64 : Int) - n.tmod (64 : Int)); let x4 : Int := Go.IntKind.u64.wrap (limb a x1.toNat * (2 : Int) ^ Min.min (n.tmod (64 : Int)).toNat 64); ((0 : Int) ≤ x1 ∧ x1 < (4 : Int)) ∧ ((0 : Int) ≤ x1 ∧ x1 < (4 : Int)) ∧ (0 : Int) ≤ n.tmod (64 : Int) ∧ (Decidable.decide (x1 > (0 : Int)) = Bool.true → ((0 : Int) ≤ x2 ∧ x2 < (4 : Int)) ∧ ((0 : Int) ≤ x2 ∧ x2 < (4 : Int)) ∧ (0 : Int) ≤ x3 ∧ Go.IntKind.i64.wrap ((Go.IntKind.u64.wrap (↑(BitVec.ofInt 64 x4 ||| BitVec.ofInt 64 ((limb a x2.toNat).fdiv ((2 : Int) ^ Min.min x3.toNat 64))).toNat : Int)).fdiv (4 : Int)) = (↑(highN a n) : Int)) ∧ (Decidable.decide (x1 > (0 : Int)) = Bool.false → Go.IntKind.i64.wrap (x4.fdiv (4 : Int)) = (↑(highN a n) : Int))) := by kernel_rfl
theorem vc_foresee (p q : Nat) :
    Owes Try.prog cxFo [(4, .inv (invFo p q))] 100 Try.f99 [.agg [.u p, .u q]] (foG [[.u p, .u q]]) =
    (let x1 : Nat := p % M256; let x2 : Int := (↑(256 - bitsN x1) : Int); let x3 : Nat := 2 ^ x2.toNat; let x4 : Nat := q % M256; let x5 : Nat := wrN (foR p q).fst % M256; let x6 : Int := (foR p q).snd.fst; let x7 : Nat := wrN x6 % M256; let x8 : Nat := wrN (foR p q).snd.snd.fst % M256; let x9 : Nat := wrN (foR p q).snd.snd.snd % M256; let x10 : Bool := !x6 == (0 : Int); ((0 : Int) ≤ x2 ∧ x2 ≤ (255 : Int)) ∧ x1 * x3 < M256 ∧ ((0 : Int) ≤ x2 ∧ x2 ≤ (255 : Int)) ∧ x4 * x3 < M256 ∧ (∀ (y : Int × Int × Int × Int × Int × Int × Nat), closedB (slotsAt 80 [(2, SV.one (SA.sc (SC.ptr 1 0))), (5, SV.one (sI Go.IntKind.i64 y.fst)), (6, SV.one (sI Go.IntKind.i64 y.snd.fst)), (7, SV.one (sI Go.IntKind.i64 y.snd.snd.fst)), (8, SV.one (sI Go.IntKind.i64 y.snd.snd.snd.fst)), (9, SV.one (sI Go.IntKind.i64 y.snd.snd.snd.snd.fst)), (10, SV.one (sI Go.IntKind.i64 y.snd.snd.snd.snd.snd.fst))]) [SO.cells (119 : Go.TypeId) [SK.u p, SK.u q] 0, SO.cells (121 : Go.TypeId) zeroT 0] = Bool.true) ∧ ∃ (y : Int × Int × Int × Int × Int × Int × Nat), (fs y.snd.snd.snd.snd.snd.snd y.fst y.snd.fst y.snd.snd.fst y.snd.snd.snd.fst y.snd.snd.snd.snd.fst y.snd.snd.snd.snd.snd.fst = foR p q ∧ (y.snd.fst + y.snd.snd.snd.snd.fst).toNat < y.snd.snd.snd.snd.snd.snd ∧ ∃ (N : Int), ∃ (B : Int), ∃ (e0 : Int), ∃ (e1 : Int), FsC x1 x4 N B (↑(highN p (foN p)) : Int) (↑(highN q (foN p)) : Int) e0 e1 (4611686018427387904 : Int) ∧ FsK x1 x4 N B (↑(highN p (foN p)) : Int) (↑(highN q (foN p)) : Int) e0 e1 (4611686018427387904 : Int) y.fst y.snd.fst y.snd.snd.fst y.snd.snd.snd.fst y.snd.snd.snd.snd.fst y.snd.snd.snd.snd.snd.fst) ∧ (↑(highN p x2) : Int) = y.fst ∧ (↑(highN q x2) : Int) = y.snd.fst ∧ (1 : Int) = y.snd.snd.fst ∧ (0 : Int) = y.snd.snd.snd.fst ∧ (0 : Int) = y.snd.snd.snd.snd.fst ∧ (1 : Int) = y.snd.snd.snd.snd.snd.fst ∧ x1 = x1 ∧ x4 = x4 ∧ 0 = 0 ∧ 0 = 0 ∧ ∀ (y : Int × Int × Int × Int × Int × Int × Nat), (fs y.snd.snd.snd.snd.snd.snd y.fst y.snd.fst y.snd.snd.fst y.snd.snd.snd.fst y.snd.snd.snd.snd.fst y.snd.snd.snd.snd.snd.fst = foR p q ∧ (y.snd.fst + y.snd.snd.snd.snd.fst).toNat < y.snd.snd.snd.snd.snd.snd ∧ ∃ (N : Int), ∃ (B : Int), ∃ (e0 : Int), ∃ (e1 : Int), FsC x1 x4 N B (↑(highN p (foN p)) : Int) (↑(highN q (foN p)) : Int) e0 e1 (4611686018427387904 : Int) ∧ FsK x1 x4 N B (↑(highN p (foN p)) : Int) (↑(highN q (foN p)) : Int) e0 e1 (4611686018427387904 : Int) y.fst y.snd.fst y.snd.snd.fst y.snd.snd.snd.fst y.snd.snd.snd.snd.fst y.snd.snd.snd.snd.snd.fst) → ((Go.IntKind.i64.wrap (y.snd.fst + y.snd.snd.snd.snd.fst) != (0 : Int)) = Bool.true → (Go.IntKind.i64.wrap (y.snd.fst + y.snd.snd.snd.snd.fst) != (0 : Int)) = Bool.true) ∧ ((Go.IntKind.i64.wrap (y.snd.fst + y.snd.snd.snd.snd.fst) != (0 : Int)) = Bool.true → (Go.IntKind.i64.wrap (y.snd.fst + y.snd.snd.snd.snd.fst) != (0 : Int)) = Bool.true) ∧ ((Go.IntKind.i64.wrap (y.snd.fst + y.snd.snd.snd.snd.fst) != (0 : Int)) = Bool.true → (Go.IntKind.i64.wrap (y.snd.fst + y.snd.snd.snd.snd.fst) != (0 : Int)) = Bool.true) ∧ ((Go.IntKind.i64.wrap (y.snd.fst + y.snd.snd.snd.snd.fst) != (0 : Int)) = Bool.true → (Go.IntKind.i64.wrap (y.snd.fst + y.snd.snd.snd.snd.fst) != (0 : Int)) = Bool.true) ∧ ((Go.IntKind.i64.wrap (y.snd.fst + y.snd.snd.snd.snd.fst) != (0 : Int) && Go.IntKind.i64.wrap (y.snd.fst + y.snd.snd.snd.snd.snd.fst) != (0 : Int)) = Bool.true → Go.IntKind.i64.wrap (y.snd.fst + y.snd.snd.snd.snd.fst) ≠ (0 : Int) ∧ Go.IntKind.i64.wrap (y.snd.fst + y.snd.snd.snd.snd.snd.fst) ≠ (0 : Int) ∧ ((Go.IntKind.i64.wrap ((Go.IntKind.i64.wrap (y.fst + y.snd.snd.fst)).tdiv (Go.IntKind.i64.wrap (y.snd.fst + y.snd.snd.snd.snd.fst))) != Go.IntKind.i64.wrap ((Go.IntKind.i64.wrap (y.fst + y.snd.snd.snd.fst)).tdiv (Go.IntKind.i64.wrap (y.snd.fst + y.snd.snd.snd.snd.snd.fst)))) = Bool.true → ((-9223372036854775808 : Int) ≤ y.snd.snd.fst ∧ y.snd.snd.fst ≤ (9223372036854775807 : Int)) ∧ ((-9223372036854775808 : Int) ≤ y.snd.snd.snd.fst ∧ y.snd.snd.snd.fst ≤ (9223372036854775807 : Int)) ∧ ((-9223372036854775808 : Int) ≤ y.snd.snd.snd.snd.fst ∧ y.snd.snd.snd.snd.fst ≤ (9223372036854775807 : Int)) ∧ ((-9223372036854775808 : Int) ≤ y.snd.snd.snd.snd.snd.fst ∧ y.snd.snd.snd.snd.snd.fst ≤ (9223372036854775807 : Int)) ∧ (wrN y.snd.snd.fst % M256 = x5 ∧ wrN y.snd.snd.snd.fst % M256 = x7 ∧ wrN y.snd.snd.snd.snd.fst % M256 = x8 ∧ wrN y.snd.snd.snd.snd.snd.fst % M256 = x9 ∧ True) ∧ (y.snd.snd.snd.fst != (0 : Int)) = x10) ∧ ((Go.IntKind.i64.wrap ((Go.IntKind.i64.wrap (y.fst + y.snd.snd.fst)).tdiv (Go.IntKind.i64.wrap (y.snd.fst + y.snd.snd.snd.snd.fst))) != Go.IntKind.i64.wrap ((Go.IntKind.i64.wrap (y.fst + y.snd.snd.snd.fst)).tdiv (Go.IntKind.i64.wrap (y.snd.fst + y.snd.snd.snd.snd.snd.fst)))) = Bool.false → ∃ (y' : Int × Int × Int × Int × Int × Int × Nat), (fs y'.snd.snd.snd.snd.snd.snd y'.fst y'.snd.fst y'.snd.snd.fst y'.snd.snd.snd.fst y'.snd.snd.snd.snd.fst y'.snd.snd.snd.snd.snd.fst = foR p q ∧ (y'.snd.fst + y'.snd.snd.snd.snd.fst).toNat < y'.snd.snd.snd.snd.snd.snd ∧ ∃ (N : Int), ∃ (B : Int), ∃ (e0 : Int), ∃ (e1 : Int), FsC x1 x4 N B (↑(highN p (foN p)) : Int) (↑(highN q (foN p)) : Int) e0 e1 (4611686018427387904 : Int) ∧ FsK x1 x4 N B (↑(highN p (foN p)) : Int) (↑(highN q (foN p)) : Int) e0 e1 (4611686018427387904 : Int) y'.fst y'.snd.fst y'.snd.snd.fst y'.snd.snd.snd.fst y'.snd.snd.snd.snd.fst y'.snd.snd.snd.snd.snd.fst) ∧ y.snd.fst = y'.fst ∧ Go.IntKind.i64.wrap (y.fst - Go.IntKind.i64.wrap (Go.IntKind.i64.wrap ((Go.IntKind.i64.wrap (y.fst + y.snd.snd.fst)).tdiv (Go.IntKind.i64.wrap (y.snd.fst + y.snd.snd.snd.snd.fst))) * y.snd.fst)) = y'.snd.fst ∧ y.snd.snd.snd.snd.fst = y'.snd.snd.fst ∧ y.snd.snd.snd.snd.snd.fst = y'.snd.snd.snd.fst ∧ Go.IntKind.i64.wrap (y.snd.snd.fst - Go.IntKind.i64.wrap (Go.IntKind.i64.wrap ((Go.IntKind.i64.wrap (y.fst + y.snd.snd.fst)).tdiv (Go.IntKind.i64.wrap (y.snd.fst + y.snd.snd.snd.snd.fst))) * y.snd.snd.snd.snd.fst)) = y'.snd.snd.snd.snd.fst ∧ Go.IntKind.i64.wrap (y.snd.snd.snd.fst - Go.IntKind.i64.wrap (Go.IntKind.i64.wrap ((Go.IntKind.i64.wrap (y.fst + y.snd.snd.fst)).tdiv (Go.IntKind.i64.wrap (y.snd.fst + y.snd.snd.snd.snd.fst))) * y.snd.snd.snd.snd.snd.fst)) = y'.snd.snd.snd.snd.snd.fst ∧ x1 = x1 ∧ x4 = x4 ∧ 0 = 0 ∧ 0 = 0 ∧ y'.snd.snd.snd.snd.snd.snd < y.snd.snd.snd.snd.snd.snd)) ∧ ((Go.IntKind.i64.wrap (y.snd.fst + y.snd.snd.snd.snd.fst) != (0 : Int) && Go.IntKind.i64.wrap (y.snd.fst + y.snd.snd.snd.snd.snd.fst) != (0 : Int)) = Bool.false → ((-9223372036854775808 : Int) ≤ y.snd.snd.fst ∧ y.snd.snd.fst ≤ (9223372036854775807 : Int)) ∧ ((-9223372036854775808 : Int) ≤ y.snd.snd.snd.fst ∧ y.snd.snd.snd.fst ≤ (9223372036854775807 : Int)) ∧ ((-9223372036854775808 : Int) ≤ y.snd.snd.snd.snd.fst ∧ y.snd.snd.snd.snd.fst ≤ (9223372036854775807 : Int)) ∧ ((-9223372036854775808 : Int) ≤ y.snd.snd.snd.snd.snd.fst ∧ y.snd.snd.snd.snd.snd.fst ≤ (9223372036854775807 : Int)) ∧ (wrN y.snd.snd.fst % M256 = x5 ∧ wrN y.snd.snd.snd.fst % M256 = x7 ∧ wrN y.snd.snd.snd.snd.fst % M256 = x8 ∧ wrN y.snd.snd.snd.snd.snd.fst % M256 = x9 ∧ True) ∧ (y.snd.snd.snd.fst != (0 : Int)) = x10)) := by kernel_rfl
theorem vc_of (a b c d p q : Nat) :
    Owes Try.prog cxTurn [] 100 Try.f101 [.agg [.u a, .u b, .u c, .u d], .agg [.u p, .u q]] (turnG [[.u a, .u b, .u c, .u d], [.u p, .u q]]) =
    (let x1 : Nat := (a * p + b * q) % M256; let x2 : Nat := (c * p + d * q) % M256; x1 = x1 ∧ x2 = x2 ∧ True) := by kernel_rfl
theorem vc_above (a m : Nat) :
    Owes Try.prog cxAbove [] 100 Try.f102 [sU a, sU m] (aboveG a m) =
    (let x1 : Nat := a + m; let x2 : Nat := a % M256; let x3 : Nat := (if 57896044618658097711785492504343953926634992332820282019728792003956564819968 ≤ x2 then x1 else a) % M256; (((limb a 3).fdiv (9223372036854775808 : Int) == (1 : Int)) = Bool.true → x1 % M256 = x3 ∧ True) ∧ (((limb a 3).fdiv (9223372036854775808 : Int) == (1 : Int)) = Bool.false → x2 = x3 ∧ True)) := by kernel_rfl
theorem vc_inverse (a m : Nat) :
    Owes Try.prog cxInverse [(2, .inv (invInv a m))] 100 Try.f91 [sU a, sU m] (inverseG a m) =
    (let x1 : Nat := m % M256; let x2 : Nat := a % M256; let x3 : Nat := invN x2 x1 % M256; let x4 : Int := invE x2 x1; (∀ (y : Nat × Nat × Int × Int), closedB (slotsAt 44 [(2, SV.one (SA.sc (SC.ptr 0 0))), (3, SV.one (SA.sc (SC.ptr 1 0))), (4, SV.one (SA.sc (SC.ptr 2 0))), (6, SV.one (SA.sc (SC.ptr 3 0))), (7, SV.one (SA.sc (SC.ptr 4 0)))]) [SO.cells (24 : Go.TypeId) [SK.u a] 0, SO.cells (24 : Go.TypeId) [SK.u m] 0, SO.cells (24 : Go.TypeId) zeroU 0, SO.cells (119 : Go.TypeId) [SK.u y.fst, SK.u y.snd.fst] 0, SO.cells (119 : Go.TypeId) [SK.u (wrN y.snd.snd.fst), SK.u (wrN y.snd.snd.snd)] 0] = Bool.true) ∧ ∃ (y : Nat × Nat × Int × Int), (EuK x1 x2 y.fst y.snd.fst y.snd.snd.fst y.snd.snd.snd ∧ euE y.fst y.snd.fst y.snd.snd.fst y.snd.snd.snd = euE x1 x2 (0 : Int) (1 : Int) ∧ y.fst ≤ x1) ∧ x2 = x2 ∧ 0 = 0 ∧ x1 = x1 ∧ 0 = 0 ∧ 0 = 0 ∧ x1 = y.fst % M256 ∧ x2 = y.snd.fst % M256 ∧ 0 = 0 ∧ (0 = wrN y.snd.snd.fst % M256 ∧ 1 = wrN y.snd.snd.snd % M256 ∧ True) ∧ 0 = 0 ∧ ∀ (y : Nat × Nat × Int × Int), EuK x1 x2 y.fst y.snd.fst y.snd.snd.fst y.snd.snd.snd ∧ euE y.fst y.snd.fst y.snd.snd.fst y.snd.snd.snd = euE x1 x2 (0 : Int) (1 : Int) ∧ y.fst ≤ x1 → ((!conj [y.snd.fst % M256 == 0]) = Bool.true → y.snd.fst % M256 < y.fst % M256 ∧ ((!!(foR y.fst y.snd.fst).snd.fst == (0 : Int)) = Bool.true → ∃ (y' : Nat × Nat × Int × Int), (EuK x1 x2 y'.fst y'.snd.fst y'.snd.snd.fst y'.snd.snd.snd ∧ euE y'.fst y'.snd.fst y'.snd.snd.fst y'.snd.snd.snd = euE x1 x2 (0 : Int) (1 : Int) ∧ y'.fst ≤ x1) ∧ x2 = x2 ∧ 0 = 0 ∧ x1 = x1 ∧ 0 = 0 ∧ 0 = 0 ∧ (0 * y.fst + 1 * y.snd.fst) % M256 = y'.fst % M256 ∧ (1 * y.fst + (115792089237316195423570985008687907853269984665640564039457584007913129639936 - (if y.snd.fst % M256 = 0 then 0 else y.fst % M256 / (y.snd.fst % M256)) % M256) * y.snd.fst) % M256 = y'.snd.fst % M256 ∧ 0 = 0 ∧ (0 * wrN y.snd.snd.fst + 1 * wrN y.snd.snd.snd) % M256 = wrN y'.snd.snd.fst % M256 ∧ (1 * wrN y.snd.snd.fst + (115792089237316195423570985008687907853269984665640564039457584007913129639936 - (if y.snd.fst % M256 = 0 then 0 else y.fst % M256 / (y.snd.fst % M256)) % M256) * wrN y.snd.snd.snd) % M256 = wrN y'.snd.snd.snd % M256 ∧ 0 = 0 ∧ y'.snd.fst < y.snd.fst) ∧ ((!!(foR y.fst y.snd.fst).snd.fst == (0 : Int)) = Bool.false → ∃ (y' : Nat × Nat × Int × Int), (EuK x1 x2 y'.fst y'.snd.fst y'.snd.snd.fst y'.snd.snd.snd ∧ euE y'.fst y'.snd.fst y'.snd.snd.fst y'.snd.snd.snd = euE x1 x2 (0 : Int) (1 : Int) ∧ y'.fst ≤ x1) ∧ x2 = x2 ∧ 0 = 0 ∧ x1 = x1 ∧ 0 = 0 ∧ 0 = 0 ∧ (wrN (foR y.fst y.snd.fst).fst * y.fst + wrN (foR y.fst y.snd.fst).snd.fst * y.snd.fst) % M256 = y'.fst % M256 ∧ (wrN (foR y.fst y.snd.fst).snd.snd.fst * y.fst + wrN (foR y.fst y.snd.fst).snd.snd.snd * y.snd.fst) % M256 = y'.snd.fst % M256 ∧ 0 = 0 ∧ (wrN (foR y.fst y.snd.fst).fst * wrN y.snd.snd.fst + wrN (foR y.fst y.snd.fst).snd.fst * wrN y.snd.snd.snd) % M256 = wrN y'.snd.snd.fst % M256 ∧ (wrN (foR y.fst y.snd.fst).snd.snd.fst * wrN y.snd.snd.fst + wrN (foR y.fst y.snd.fst).snd.snd.snd * wrN y.snd.snd.snd) % M256 = wrN y'.snd.snd.snd % M256 ∧ 0 = 0 ∧ y'.snd.fst < y.snd.fst)) ∧ ((!conj [y.snd.fst % M256 == 0]) = Bool.false → ((!conj [y.fst % M256 == 1]) = Bool.true → (0 = x3 ∧ True) ∧ (5 : Int) = x4) ∧ ((!conj [y.fst % M256 == 1]) = Bool.false → ((if 57896044618658097711785492504343953926634992332820282019728792003956564819968 ≤ wrN y.snd.snd.fst % M256 then wrN y.snd.snd.fst + m else wrN y.snd.snd.fst) % M256 = x3 ∧ True) ∧ (0 : Int) = x4))) := by kernel_rfl
theorem vc_fInv (a m : Nat) :
    Owes Try.prog cxInv [] 100 Try.f76 [sU a, sU m] (finvG a m) =
    (let x1 : Nat := m % M256; let x2 : Nat := a % M256; let x3 : Nat := invN x2 x1; let x4 : Nat := (if finvE a m = (0 : Int) then x3 else 0) % M256; (conj [x1 == 0] = Bool.true → (0 = x4 ∧ True) ∧ (7 : Int) = finvE a m) ∧ (conj [x1 == 0] = Bool.false → (Decidable.decide (cmpN a m ≥ (0 : Int)) = Bool.true → (0 = x4 ∧ True) ∧ (6 : Int) = finvE a m) ∧ (Decidable.decide (cmpN a m ≥ (0 : Int)) = Bool.false → x2 < x1 ∧ (x3 % M256 = x4 ∧ True) ∧ invE x2 x1 = finvE a m))) := by kernel_rfl
end Go.Proofs.Ytohnkglcabfpjaa
end

section
namespace Go.Proofs.Ytohnkglcabfpjaa
open Go.Sx
set_option maxRecDepth 100000
def ixN (n : Int) : Nat := (n % 8).toNat
def cP (i : Nat) : Nat := [43, 67, 79, 139, 163, 211, 379, 691].getD i 0
def cB (i : Nat) : Nat := [7, 2, 6, 2, 3, 3, 2, 3].getD i 0
def cN (i : Nat) : Nat := [31, 73, 67, 163, 181, 199, 409, 643].getD i 0
def cX (i : Nat) : Nat := [2, 2, 5, 3, 1, 1, 5, 1].getD i 0
def cY (i : Nat) : Nat := [12, 12, 17, 53, 2, 2, 49, 2].getD i 0
def numG (k : Nat) : SV := .one (.sc (.num .i64 k))
def pickC (k : Nat) (a b : Int) : List Prop := [i64ok a, 0 < b ∧ b ≤ 1000000, a % b = (k : Int)]
def cxPickN (k : Nat) : Cx := [(21, specII (pickC k) fun _ _ => numG k)]
def curveS (i : Nat) : SA := .agg [.u (cP i), .u 0, .u (cB i), .u (cN i), .u (cX i), .u (cY i), .c (.bit false)]
def curveC : List (List At) → List Prop
  | [[.i n]] => [i64ok n]
  | _ => [False]
def curveG : List (List At) → SV
  | [[.i n]] => .one (curveS (ixN n))
  | _ => .tup []
theorem vc_pickN (k : Nat) (a b : Int) :
    Owes Try.prog Cx.none [] 100 Try.f21 [sI .i64 a, sI .i64 b] (numG k) =
    (b ≠ (0 : Int) ∧ (Decidable.decide (a.tmod b < (0 : Int)) = Bool.true → Go.IntKind.i64.wrap (a.tmod b + b) = (↑k : Int)) ∧ (Decidable.decide (a.tmod b < (0 : Int)) = Bool.false → a.tmod b = (↑k : Int))) := by kernel_rfl
theorem vc_Curve0 (n : Int) :
    Owes Try.prog (cxPickN 0) [] 100 Try.f10 [sI .i64 n] (curveG [[.i n]]) =
    (((-9223372036854775808 : Int) ≤ n ∧ n ≤ (9223372036854775807 : Int)) ∧ ((0 : Int) < (8 : Int) ∧ (8 : Int) ≤ (1000000 : Int)) ∧ n % (8 : Int) = (0 : Int) ∧ 43 = cP (ixN n) % M256 ∧ 0 = 0 ∧ 7 = cB (ixN n) % M256 ∧ 31 = cN (ixN n) % M256 ∧ 2 = cX (ixN n) % M256 ∧ 12 = cY (ixN n) % M256 ∧ Bool.false = Bool.false ∧ True) := by kernel_rfl
theorem vc_Curve1 (n : Int) :
    Owes Try.prog (cxPickN 1) [] 100 Try.f10 [sI .i64 n] (curveG [[.i n]]) =
    (((-9223372036854775808 : Int) ≤ n ∧ n ≤ (9223372036854775807 : Int)) ∧ ((0 : Int) < (8 : Int) ∧ (8 : Int) ≤ (1000000 : Int)) ∧ n % (8 : Int) = (1 : Int) ∧ 67 = cP (ixN n) % M256 ∧ 0 = 0 ∧ 2 = cB (ixN n) % M256 ∧ 73 = cN (ixN n) % M256 ∧ 2 = cX (ixN n) % M256 ∧ 12 = cY (ixN n) % M256 ∧ Bool.false = Bool.false ∧ True) := by kernel_rfl
theorem vc_Curve2 (n : Int) :
    Owes Try.prog (cxPickN 2) [] 100 Try.f10 [sI .i64 n] (curveG [[.i n]]) =
    (((-9223372036854775808 : Int) ≤ n ∧ n ≤ (9223372036854775807 : Int)) ∧ ((0 : Int) < (8 : Int) ∧ (8 : Int) ≤ (1000000 : Int)) ∧ n % (8 : Int) = (2 : Int) ∧ 79 = cP (ixN n) % M256 ∧ 0 = 0 ∧ 6 = cB (ixN n) % M256 ∧ 67 = cN (ixN n) % M256 ∧ 5 = cX (ixN n) % M256 ∧ 17 = cY (ixN n) % M256 ∧ Bool.false = Bool.false ∧ True) := by kernel_rfl
theorem vc_Curve3 (n : Int) :
    Owes Try.prog (cxPickN 3) [] 100 Try.f10 [sI .i64 n] (curveG [[.i n]]) =
    (((-9223372036854775808 : Int) ≤ n ∧ n ≤ (9223372036854775807 : Int)) ∧ ((0 : Int) < (8 : Int) ∧ (8 : Int) ≤ (1000000 : Int)) ∧ n % (8 : Int) = (3 : Int) ∧ 139 = cP (ixN n) % M256 ∧ 0 = 0 ∧ 2 = cB (ixN n) % M256 ∧ 163 = cN (ixN n) % M256 ∧ 3 = cX (ixN n) % M256 ∧ 53 = cY (ixN n) % M256 ∧ Bool.false = Bool.false ∧ True) := by kernel_rfl
theorem vc_Curve4 (n : Int) :
    Owes Try.prog (cxPickN 4) [] 100 Try.f10 [sI .i64 n] (curveG [[.i n]]) =
    (((-9223372036854775808 : Int) ≤ n ∧ n ≤ (9223372036854775807 : Int)) ∧ ((0 : Int) < (8 : Int) ∧ (8 : Int) ≤ (1000000 : Int)) ∧ n % (8 : Int) = (4 : Int) ∧ 163 = cP (ixN n) % M256 ∧ 0 = 0 ∧ 3 = cB (ixN n) % M256 ∧ 181 = cN (ixN n) % M256 ∧ 1 = cX (ixN n) % M256 ∧ 2 = cY (ixN n) % M256 ∧ Bool.false = Bool.false ∧ True) := by kernel_rfl
theorem vc_Curve5 (n : Int) :
    Owes Try.prog (cxPickN 5) [] 100 Try.f10 [sI .i64 n] (curveG [[.i n]]) =
    (((-9223372036854775808 : Int) ≤ n ∧ n ≤ (9223372036854775807 : Int)) ∧ ((0 : Int) < (8 : Int) ∧ (8 : Int) ≤ (1000000 : Int)) ∧ n % (8 : Int) = (5 : Int) ∧ 211 = cP (ixN n) % M256 ∧ 0 = 0 ∧ 3 = cB (ixN n) % M256 ∧ 199 = cN (ixN n) % M256 ∧ 1 = cX (ixN n) % M256 ∧ 2 = cY (ixN n) % M256 ∧ Bool.false = Bool.false ∧ True) := by kernel_rfl
theorem vc_Curve6 (n : Int) :
    Owes Try.prog (cxPickN 6) [] 100 Try.f10 [sI .i64 n] (curveG [[.i n]]) =
    (((-9223372036854775808 : Int) ≤ n ∧ n ≤ (9223372036854775807 : Int)) ∧ ((0 : Int) < (8 : Int) ∧ (8 : Int) ≤ (1000000 : Int)) ∧ n % (8 : Int) = (6 : Int) ∧ 379 = cP (ixN n) % M256 ∧ 0 = 0 ∧ 2 = cB (ixN n) % M256 ∧ 409 = cN (ixN n) % M256 ∧ 5 = cX (ixN n) % M256 ∧ 49 = cY (ixN n) % M256 ∧ Bool.false = Bool.false ∧ True) := by kernel_rfl
theorem vc_Curve7 (n : Int) :
    Owes Try.prog (cxPickN 7) [] 100 Try.f10 [sI .i64 n] (curveG [[.i n]]) =
    (((-9223372036854775808 : Int) ≤ n ∧ n ≤ (9223372036854775807 : Int)) ∧ ((0 : Int) < (8 : Int) ∧ (8 : Int) ≤ (1000000 : Int)) ∧ n % (8 : Int) = (7 : Int) ∧ 691 = cP (ixN n) % M256 ∧ 0 = 0 ∧ 3 = cB (ixN n) % M256 ∧ 643 = cN (ixN n) % M256 ∧ 1 = cX (ixN n) % M256 ∧ 2 = cY (ixN n) % M256 ∧ Bool.false = Bool.false ∧ True) := by kernel_rfl
theorem vc_pickBig (a b : Int) :
    Owes Try.prog Cx.none [] 100 Try.f21 [sI .i64 a, sI .i64 b] (pickedG a b) =
    (let x1 : Int := a % b; b ≠ (0 : Int) ∧ (Decidable.decide (a.tmod b < (0 : Int)) = Bool.true → Go.IntKind.i64.wrap (a.tmod b + b) = x1) ∧ (Decidable.decide (a.tmod b < (0 : Int)) = Bool.false → a.tmod b = x1)) := by kernel_rfl
end Go.Proofs.Ytohnkglcabfpjaa
end

section
namespace Go.Proofs.Ytohnkglcabfpjaa
open Go.Sx
set_option maxRecDepth 100000
abbrev shH1 : List AP := [.hand, .str [.u]]
abbrev shH2 : List AP := [.hand, .str [.u], .str [.u]]
abbrev sHand (m : Nat) (v : Option Addr) : SA := .agg [.u m, .c (.val (.pointer v))]
def keptC : List (List At) → List Prop
  | [[.u _], [.u _], [.i e]] => [e = 0]
  | _ => [False]
def keptG : List (List At) → SV
  | [[.u _], [.u a], [.i _]] => .one (sU a)
  | _ => .tup []
def h2C : List (List At) → List Prop
  | [[.u m], [.u a], [.u b]] => [a % M256 < m % M256, b % M256 < m % M256]
  | _ => [False]
def h1C : List (List At) → List Prop
  | [[.u m], [.u a]] => [a % M256 < m % M256]
  | _ => [False]
def hdivC : List (List At) → List Prop
  | [[.u m], [.u a], [.u b]] => [a % M256 < m % M256, b % M256 < m % M256, Nat.gcd (b % M256) (m % M256) = 1]
  | _ => [False]
def haddG : List (List At) → SV
  | [[.u m], [.u a], [.u b]] => .one (sU ((a % M256 + b % M256) % (m % M256)))
  | _ => .tup []
def hsubG : List (List At) → SV
  | [[.u m], [.u a], [.u b]] => .one (sU ((a % M256 + m % M256 - b % M256) % (m % M256)))
  | _ => .tup []
def hmulG : List (List At) → SV
  | [[.u m], [.u a], [.u b]] => .one (sU (a % M256 * (b % M256) % (m % M256)))
  | _ => .tup []
def hdivG : List (List At) → SV
  | [[.u m], [.u a], [.u b]] => .one (sU (a % M256 * invN (b % M256) (m % M256) % (m % M256)))
  | _ => .tup []
def htwiceG : List (List At) → SV
  | [[.u m], [.u a]] => .one (sU ((a % M256 + a % M256) % (m % M256)))
  | _ => .tup []
def hthriceG : List (List At) → SV
  | [[.u m], [.u a]] => .one (sU ((a % M256 + (a % M256 + a % M256) % (m % M256)) % (m % M256)))
  | _ => .tup []
def hrootG : List (List At) → SV
  | [[.u m], [.u a]] => .one (sU ((a % M256) ^ (m % M256 / 4 + 1) % (m % M256)))
  | _ => .tup []
def cKept : FSpec := specA [.hand, .str [.u], .int .i64] keptC keptG
def cHadd : FSpec := specA shH2 h2C haddG
def cHsub : FSpec := specA shH2 h2C hsubG
def cHmul : FSpec := specA shH2 h2C hmulG
def cHdiv : FSpec := specA shH2 hdivC hdivG
def cTwice : FSpec := specA shH1 h1C htwiceG
def cThrice : FSpec := specA shH1 h1C hthriceG
def cRoot : FSpec := specA shH1 h1C hrootG
def cxHadd : Cx := [(19, specUUU noC faddG), (72, cKept)]
def cxHsub : Cx := [(15, specUUU noC fsubG), (72, cKept)]
def cxHmul : Cx := [(20, specUUU noC fmulG), (72, cKept)]
def cxHdiv : Cx := [(76, specUU finvG), (72, cKept), (58, cHmul)]
def cxTwice : Cx := [(59, cHadd)]
def cxThrice : Cx := [(59, cHadd), (79, cTwice)]
def cxRoot : Cx := [(17, specUU dmG), (63, specUU addG), (73, specUUU noC fpowG), (72, cKept)]
theorem vc_kept (m a : Nat) (e : Int) (v : Option Addr) :
    Owes Try.prog Cx.none [] 100 Try.f72 [sHand m v, sU a, sI .i64 e] (keptG [[.u m], [.u a], [.i e]]) =
    (let x1 : Nat := a % M256; ((!e == (0 : Int)) = Bool.true → Stuck { dst := Option.some 8, op := Go.Op.nilCheck (Go.Operand.tmp 7), type := 0, pos := "hand.go:19", after := #[{ on := 1, ground := Go.Ground.data }, { on := 0, ground := Go.Ground.phase }, { on := 1, ground := Go.Ground.phase }], guard := Option.none }) ∧ ((!e == (0 : Int)) = Bool.false → x1 = x1 ∧ True)) := by kernel_rfl
theorem vc_hadd (m a b : Nat) (v : Option Addr) :
    Owes Try.prog cxHadd [] 100 Try.f59 [sHand m v, sU a, sU b] (haddG [[.u m], [.u a], [.u b]]) =
    (let x1 : Nat := (a % M256 + b % M256) % (m % M256); fE a b m = (0 : Int) ∧ (if fE a b m = (0 : Int) then x1 else 0) % M256 = x1 % M256 ∧ True) := by kernel_rfl
theorem vc_hsub (m a b : Nat) (v : Option Addr) :
    Owes Try.prog cxHsub [] 100 Try.f44 [sHand m v, sU a, sU b] (hsubG [[.u m], [.u a], [.u b]]) =
    (let x1 : Nat := m % M256; let x2 : Nat := (a % M256 + x1 - b % M256) % x1; fE a b m = (0 : Int) ∧ (if fE a b m = (0 : Int) then x2 else 0) % M256 = x2 % M256 ∧ True) := by kernel_rfl
theorem vc_hmul (m a b : Nat) (v : Option Addr) :
    Owes Try.prog cxHmul [] 100 Try.f58 [sHand m v, sU a, sU b] (hmulG [[.u m], [.u a], [.u b]]) =
    (let x1 : Nat := a % M256 * (b % M256) % (m % M256); fE a b m = (0 : Int) ∧ (if fE a b m = (0 : Int) then x1 else 0) % M256 = x1 % M256 ∧ True) := by kernel_rfl
theorem vc_hdiv (m a b : Nat) (v : Option Addr) :
    Owes Try.prog cxHdiv [] 100 Try.f81 [sHand m v, sU a, sU b] (hdivG [[.u m], [.u a], [.u b]]) =
    (let x1 : Nat := a % M256; let x2 : Nat := m % M256; let x3 : Nat := invN (b % M256) x2; let x4 : Nat := (if finvE b m = (0 : Int) then x3 else 0) % M256; finvE b m = (0 : Int) ∧ x1 < x2 ∧ x4 < x2 ∧ x1 * x4 % x2 % M256 = x1 * x3 % x2 % M256 ∧ True) := by kernel_rfl
theorem vc_twice (m a : Nat) (v : Option Addr) :
    Owes Try.prog cxTwice [] 100 Try.f79 [sHand m v, sU a] (htwiceG [[.u m], [.u a]]) =
    (let x1 : Nat := a % M256; let x2 : Nat := m % M256; let x3 : Nat := (x1 + x1) % x2 % M256; x1 < x2 ∧ x1 < x2 ∧ x3 = x3 ∧ True) := by kernel_rfl
theorem vc_thrice (m a : Nat) (v : Option Addr) :
    Owes Try.prog cxThrice [] 100 Try.f80 [sHand m v, sU a] (hthriceG [[.u m], [.u a]]) =
    (let x1 : Nat := a % M256; let x2 : Nat := m % M256; let x3 : Nat := (x1 + x1) % x2; let x4 : Nat := x3 % M256; x1 < x2 ∧ x1 < x2 ∧ x4 < x2 ∧ (x1 + x4) % x2 % M256 = (x1 + x3) % x2 % M256 ∧ True) := by kernel_rfl
theorem vc_root (m a : Nat) (v : Option Addr) :
    Owes Try.prog cxRoot [] 100 Try.f41 [sHand m v, sU a] (hrootG [[.u m], [.u a]]) =
    (let x1 : Nat := m % M256; let x2 : Nat := x1 / 4; pE a m = (0 : Int) ∧ (if pE a m = (0 : Int) then (a % M256) ^ (((if 4 = 0 then 0 else x2) + 1) % M256) % x1 else 0) % M256 = (a % M256) ^ (x2 + 1) % x1 % M256 ∧ True) := by kernel_rfl
end Go.Proofs.Ytohnkglcabfpjaa
end

section
namespace Go.Sx
open Go.RowKit
inductive RK where
  | k (x : SK)
  | s (n w : Nat) (g : Nat → Nat → SC)
inductive RS where
  | v (x : SA)
  | s (n : Nat) (k : IntKind) (g : Nat → Int)
  | rows (n wd : Nat) (g : Nat → Nat → SC)
  | st (ks : List RK)
structure SSpec where
  share : Bool
  of : List SA → Option (List Prop × List RS)
def xsI (a : Option Addr) (n cap : Nat) (k : IntKind) (g : Nat → Int) : SA := .sc (.xs a n cap 1 fun i _ => .val (.int k (g i)))
def answersK : List RK → (List SK → Prop) → Prop
  | [], K => K []
  | .k x :: r, K => answersK r fun l => K (x :: l)
  | .s n w g :: r, K => ∀ (a : Option Addr) (cap : Nat), (a = none → n = 0 ∧ cap = 0) → n ≤ cap → answersK r fun l => K (.c (.xs a n cap w g) :: l)
def answers : List RS → (List SA → Prop) → Prop
  | [], K => K []
  | .v x :: r, K => answers r fun l => K (x :: l)
  | .s n k g :: r, K => ∀ (a : Option Addr) (cap : Nat), (a = none → n = 0 ∧ cap = 0) → n ≤ cap → answers r fun l => K (xsI a n cap k g :: l)
  | .rows n wd g :: r, K => ∀ (a : Option Addr) (cap : Nat), (a = none → n = 0 ∧ cap = 0) → n ≤ cap → answers r fun l => K (.sc (.xs a n cap wd g) :: l)
  | .st ks :: r, K => answersK ks fun l => answers r fun l' => K (.agg l :: l')
def isSl (w : World) (far : Nat → Prop) (n wd : Nat) (g : Nat → Nat → SC) (y : Value) : Prop :=
  ∃ a cap, y = .slice a n cap ∧ (a = none → n = 0 ∧ cap = 0) ∧ n ≤ cap ∧ ∀ b, a = some b → b.spot = none ∧ ∀ i, i < n → ∀ c, c < wd → ((g i c).bnd none0 ∧ (g i c).fit = true) ∧ far b.block ∧ w.cell? ⟨b.block, b.off + (i * wd + c), none⟩ = some ((g i c).conc Rho.nil)
def isG (w : World) (far : Nat → Prop) : List RK → List Value → Prop
  | [], vs => vs = []
  | .k x :: r, vs => ∃ vs', vs = concs Rho.nil [x] ++ vs' ∧ x.bnd none0 ∧ isG w far r vs'
  | .s n wd g :: r, vs => ∃ v vs', vs = v :: vs' ∧ isSl w far n wd g v ∧ isG w far r vs'
def RS.is (w : World) (far : Nat → Prop) : RS → Value → Prop
  | .v x, y => y = x.conc Rho.nil ∧ x.bnd none0
  | .s n k g, y => ∃ a cap, y = .slice a n cap ∧ (a = none → n = 0 ∧ cap = 0) ∧ n ≤ cap ∧ ∀ b, a = some b → b.spot = none ∧ ∀ i, i < n → far b.block ∧ w.cell? ⟨b.block, b.off + i, none⟩ = some (.int k (g i))
  | .rows n wd g, y => isSl w far n wd g y
  | .st ks, y => ∃ vs : List Value, y = .agg vs.toArray ∧ isG w far ks vs
def RS.isL (w : World) (far : Nat → Prop) : List RS → List Value → Prop
  | [], [] => True
  | r :: rs, y :: ys => r.is w far y ∧ RS.isL w far rs ys
  | _, _ => False
def valL : List Value → Value
  | [v] => v
  | vs => .tuple vs.toArray
def FnOKs (P : Program) (gl : Globs) (f : Nat) (s : SSpec) : Prop :=
  ∀ args ps rs, s.of args = some (ps, rs) → Ok ps → ∀ (ρ : Rho) (w : World), FzOK ρ.fz w → GlobsOK gl ρ.fz → (∀ x ∈ args, x.bnd ⟨fun _ => True, ρ.fz⟩) →
    (callFunc f (args.map (SA.conc ρ)).toArray).run P w = .ok (.enter f (args.map (SA.conc ρ)).toArray) w ∧
      Calls P f (args.map (SA.conc ρ)).toArray w fun e w' => ∃ vs, e = .returned (valL vs) ∧ RS.isL w' (fun b => w.heap.size ≤ b ∨ (s.share = true ∧ ∃ o u, ρ.fz b o u)) rs vs ∧ Below w.heap.size w w'
def getSS : List (Nat × SSpec) → Nat → Option SSpec
  | [], _ => none
  | (g, s) :: r, f => match Nat.beq g f with
    | true => some s
    | false => getSS r f
theorem getSS_ok {P : Program} {gl : Globs} : ∀ {l : List (Nat × SSpec)} {f : Nat} {s : SSpec}, (∀ p ∈ l, FnOKs P gl p.1 p.2) → getSS l f = some s → FnOKs P gl f s
  | [], _, _, _, h => by simp [getSS] at h
  | (g, s') :: r, f, s, hc, h => by
    simp only [getSS] at h
    split at h
    · rename_i hg
      simp only [Option.some.injEq] at h; subst h
      have : g = f := Nat.eq_of_beq_eq_true hg
      subst this
      exact hc (g, s') (by simp)
    · exact getSS_ok (fun p hp => hc p (by simp [hp])) h
def lentK (ob : List SO) : List SK → (List SK → Prop) → Prop
  | [], K => K []
  | .c (.slw o w off len cap) :: r, K => match ob[o]? with
    | some (.row _ w' n g _) => match Nat.beq w w' with
      | true => ands [off + len ≤ n, len ≤ cap] (∀ a : Addr, lentK ob r fun l => K (.c (.xs (some a) len cap w (fun i c => g (off + i) c)) :: l))
      | false => StuckAt "lent"
    | _ => StuckAt "lent"
  | k :: r, K => lentK ob r fun l => K (k :: l)
def lent (ob : List SO) : List SA → (List SA → Prop) → Prop
  | [], K => K []
  | .sc (.sl o off len cap) :: r, K => match ob[o]? with
    | some (.cells _ ks _) => match sub ks off len with
      | some cs => match kindHead cs with
        | some k => match kindAll k cs with
          | true => ands [len ≤ cap] (∀ a : Addr, lent ob r fun l => K (xsI (some a) len cap k (selG cs) :: l))
          | false => StuckAt "lent"
        | none => StuckAt "lent"
      | none => StuckAt "lent"
    | _ => StuckAt "lent"
  | .sc (.slw o w off len cap) :: r, K => match ob[o]? with
    | some (.row _ w' n g _) => match Nat.beq w w' with
      | true => ands [off + len ≤ n, len ≤ cap] (∀ a : Addr, lent ob r fun l => K (.sc (.xs (some a) len cap w (fun i c => g (off + i) c)) :: l))
      | false => StuckAt "lent"
    | _ => StuckAt "lent"
  | .agg ks :: r, K => lentK ob ks fun ks' => lent ob r fun l => K (.agg ks' :: l)
  | x :: r, K => lent ob r fun l => K (x :: l)
def inlS (sl : List (Nat × SSpec)) (inner : Inl) : Inl := fun f args ob k =>
  match getSS sl f with
  | none => inner f args ob k
  | some s => match s.share with
    | false => lent ob args fun args' => match s.of args' with
      | some (ps, rs) => ands ps (answers rs fun l => k (resV l) ob)
      | none => StuckAt "card"
    | true => match frzOf args with
      | none => match s.of args with
        | some (ps, rs) => ands ps (answers rs fun l => k (resV l) ob)
        | none => StuckAt "card"
      | some (pre, o, off, len, cap, post) => match ob[o]? with
        | some (.cells _ ks _) => match sub ks off len with
          | some cs => match kindHead cs with
            | some kd => match kindAll kd cs && (ob.set o .dead).all (obB (liveB (ob.set o .dead))) with
              | true => ands [len ≤ cap] (∀ a : Addr, match s.of (pre ++ xsI (some a) len cap kd (selG cs) :: post) with
                | some (ps, rs) => ands ps (answers rs fun l => k (resV l) (ob.set o .dead))
                | none => StuckAt "card")
              | false => StuckAt "taken"
            | none => StuckAt "taken"
          | none => StuckAt "taken"
        | _ => StuckAt "taken"
section
variable {P : Program} {W0 : Base} {ρ : Rho} {tm : List SV} {ob : List SO} {a : Act} {w : World}
theorem valL_conc (ρ : Rho) (l : List SA) : (resV l).rep ρ (valL (l.map (SA.conc ρ))) := by
  match l with
  | [] => rfl
  | [x] => rfl
  | x :: y :: r => rfl
theorem resV_bnd {n : Env} {l : List SA} (h : ∀ x ∈ l, x.bnd n) : (resV l).bnd n := by
  match l, h with
  | [], _ => exact fun x hx => by cases hx
  | [x], h => exact h x (by simp)
  | x :: y :: r, h => exact h
theorem isSl.far {w : World} {p q : Nat → Prop} (h : ∀ b, p b → q b) {n wd : Nat} {g : Nat → Nat → SC} {y : Value} : isSl w p n wd g y → isSl w q n wd g y :=
  fun ⟨a, c, e, h1, h2, h3⟩ => ⟨a, c, e, h1, h2, fun b hb => ⟨(h3 b hb).1, fun i hi c hc => ⟨((h3 b hb).2 i hi c hc).1, h _ ((h3 b hb).2 i hi c hc).2.1, ((h3 b hb).2 i hi c hc).2.2⟩⟩⟩
theorem isG.far {w : World} {p q : Nat → Prop} (h : ∀ b, p b → q b) : ∀ {ks : List RK} {vs : List Value}, isG w p ks vs → isG w q ks vs
  | [], _, k => k
  | .k _ :: _, _, ⟨vs', e, hb, k⟩ => ⟨vs', e, hb, isG.far h k⟩
  | .s _ _ _ :: _, _, ⟨v, vs', e, hs, k⟩ => ⟨v, vs', e, hs.far h, isG.far h k⟩
theorem RS.is.far {w : World} {p q : Nat → Prop} (h : ∀ b, p b → q b) : ∀ {r : RS} {y : Value}, r.is w p y → r.is w q y
  | .v _, _, k => k
  | .s _ _ _, _, ⟨a, c, e, h1, h2, h3⟩ => ⟨a, c, e, h1, h2, fun b hb => ⟨(h3 b hb).1, fun i hi => ⟨h _ ((h3 b hb).2 i hi).1, ((h3 b hb).2 i hi).2⟩⟩⟩
  | .rows _ _ _, _, k => isSl.far h k
  | .st _, _, ⟨vs, e, k⟩ => ⟨vs, e, k.far h⟩
theorem RS.isL.far {w : World} {p q : Nat → Prop} : ∀ {rs : List RS} {ys : List Value}, RS.isL w p rs ys → (∀ b, p b → q b) → RS.isL w q rs ys
  | [], [], _, _ => trivial
  | _ :: _, _ :: _, k, h => ⟨k.1.far h, RS.isL.far k.2 h⟩
  | [], _ :: _, k, _ => by exact k.elim
  | _ :: _, [], k, _ => by exact k.elim
theorem isSl.bnd {w : World} {far : Nat → Prop} {n wd : Nat} {g : Nat → Nat → SC} {a : Option Addr} {cap : Nat} (h1 : a = none → n = 0 ∧ cap = 0) (h2 : n ≤ cap)
    (h3 : ∀ b, a = some b → b.spot = none ∧ ∀ i, i < n → ∀ c, c < wd → ((g i c).bnd none0 ∧ (g i c).fit = true) ∧ far b.block ∧ w.cell? ⟨b.block, b.off + (i * wd + c), none⟩ = some ((g i c).conc Rho.nil))
    (fz : Nat → Nat → Value → Prop) (hz : ∀ b o v, far b → w.cell? ⟨b, o, none⟩ = some v → fz b o v) : (SC.xs a n cap wd g).bnd ⟨fun _ => False, fz⟩ :=
  ⟨h1, h2, fun b hb => ⟨(h3 b hb).1, fun i hi c hc => by
    obtain ⟨⟨q1, q2⟩, q3, q4⟩ := (h3 b hb).2 i hi c hc
    exact ⟨SC.bnd_mono none0_le q1, q2, hz _ _ _ q3 q4⟩⟩⟩
theorem answersK_pick {w : World} {far : Nat → Prop} : ∀ {ks : List RK} {vs : List Value} {K : List SK → Prop}, answersK ks K → isG w far ks vs → ∃ l, K l ∧ (∀ ρ : Rho, concs ρ l = vs) ∧
    ∀ fz : Nat → Nat → Value → Prop, (∀ b o v, far b → w.cell? ⟨b, o, none⟩ = some v → fz b o v) → ∀ x ∈ l, x.bnd ⟨fun _ => False, fz⟩
  | [], _, K, h, hv => ⟨[], h, fun _ => by rw [show _ = [] from hv]; rfl, fun _ _ x hx => by cases hx⟩
  | .k x :: r, vs, K, h, hv => by
    obtain ⟨vs', rfl, hb, hr⟩ := hv
    obtain ⟨l, k1, k2, k3⟩ := answersK_pick (K := fun l => K (x :: l)) h hr
    refine ⟨x :: l, k1, fun ρ => ?_, fun fz hz y hy => ?_⟩
    · rw [concs_cons ρ x l, k2 ρ, Agree.sks (n := none0) (ρ := Rho.nil) (ρ' := ρ) (fun _ hi => hi.elim) (fun c hc => by rw [List.mem_singleton.1 hc]; exact hb)]
    · rcases List.mem_cons.1 hy with rfl | hy
      · exact SK.bnd_mono none0_le hb
      · exact k3 fz hz y hy
  | .s n wd g :: r, vs, K, h, hv => by
    obtain ⟨v, vs', rfl, ⟨ad, cap, e, h1, h2, h3⟩, hr⟩ := hv
    obtain ⟨l, k1, k2, k3⟩ := answersK_pick (K := fun l => K (.c (.xs ad n cap wd g) :: l)) (h ad cap h1 h2) hr
    refine ⟨.c (.xs ad n cap wd g) :: l, k1, fun ρ => ?_, fun fz hz y hy => ?_⟩
    · rw [concs_cons ρ _ l, k2 ρ, e]; rfl
    · rcases List.mem_cons.1 hy with rfl | hy
      · exact isSl.bnd h1 h2 h3 fz hz
      · exact k3 fz hz y hy
theorem answers_pick {w : World} {far : Nat → Prop} : ∀ {rs : List RS} {vs : List Value} {K : List SA → Prop}, answers rs K → RS.isL w far rs vs → ∃ l, K l ∧ (∀ ρ : Rho, l.map (SA.conc ρ) = vs) ∧
    ∀ fz : Nat → Nat → Value → Prop, (∀ b o v, far b → w.cell? ⟨b, o, none⟩ = some v → fz b o v) → ∀ x ∈ l, x.bnd ⟨fun _ => False, fz⟩
  | [], [], K, h, _ => ⟨[], h, fun _ => rfl, fun _ _ x hx => by cases hx⟩
  | .v x :: r, v :: vs, K, h, hv => by
    obtain ⟨⟨e, hb⟩, hr⟩ := hv
    obtain ⟨l, k1, k2, k3⟩ := answers_pick (K := fun l => K (x :: l)) h hr
    refine ⟨x :: l, k1, fun ρ => ?_, fun fz hz y hy => ?_⟩
    · rw [List.map_cons, k2 ρ, e, Agree.sa (n := none0) (ρ := Rho.nil) (ρ' := ρ) (fun _ hi => hi.elim) hb]
    · rcases List.mem_cons.1 hy with rfl | hy
      · exact SA.bnd_mono none0_le hb
      · exact k3 fz hz y hy
  | .s n k g :: r, v :: vs, K, h, hv => by
    obtain ⟨⟨ad, cap, e, h1, h2, h3⟩, hr⟩ := hv
    obtain ⟨l, k1, k2, k3⟩ := answers_pick (K := fun l => K (xsI ad n cap k g :: l)) (h ad cap h1 h2) hr
    refine ⟨xsI ad n cap k g :: l, k1, fun ρ => ?_, fun fz hz y hy => ?_⟩
    · rw [List.map_cons, k2 ρ, e]; rfl
    · rcases List.mem_cons.1 hy with rfl | hy
      · refine ⟨h1, h2, fun b hb => ⟨(h3 b hb).1, fun i hi c hc => ⟨trivial, rfl, ?_⟩⟩⟩
        have hc0 : c = 0 := by omega
        subst hc0
        have := (h3 b hb).2 i hi
        rw [Nat.mul_one, Nat.add_zero]
        exact hz _ _ _ this.1 this.2
      · exact k3 fz hz y hy
  | .rows n wd g :: r, v :: vs, K, h, hv => by
    obtain ⟨⟨ad, cap, e, h1, h2, h3⟩, hr⟩ := hv
    obtain ⟨l, k1, k2, k3⟩ := answers_pick (K := fun l => K (.sc (.xs ad n cap wd g) :: l)) (h ad cap h1 h2) hr
    refine ⟨.sc (.xs ad n cap wd g) :: l, k1, fun ρ => ?_, fun fz hz y hy => ?_⟩
    · rw [List.map_cons, k2 ρ, e]; rfl
    · rcases List.mem_cons.1 hy with rfl | hy
      · exact isSl.bnd h1 h2 h3 fz hz
      · exact k3 fz hz y hy
  | .st ks :: r, v :: vs, K, h, hv => by
    obtain ⟨⟨us, e, hg⟩, hr⟩ := hv
    obtain ⟨l1, h', e1, b1⟩ := answersK_pick (K := fun l => answers r fun l' => K (.agg l :: l')) h hg
    obtain ⟨l, k1, k2, k3⟩ := answers_pick (K := fun l => K (.agg l1 :: l)) h' hr
    refine ⟨.agg l1 :: l, k1, fun ρ => ?_, fun fz hz y hy => ?_⟩
    · rw [List.map_cons, k2 ρ, e]; simp only [SA.conc, e1]
    · rcases List.mem_cons.1 hy with rfl | hy
      · exact b1 fz hz
      · exact k3 fz hz y hy
  | [], _ :: _, _, _, hv => by exact hv.elim
  | .v _ :: _, [], _, _, hv => by exact hv.elim
  | .s _ _ _ :: _, [], _, _, hv => by exact hv.elim
  | .rows _ _ _ :: _, [], _, _, hv => by exact hv.elim
  | .st _ :: _, [], _, _, hv => by exact hv.elim
abbrev seenEnv (w : World) : Env := ⟨fun _ => True, fun b o v => w.cell? ⟨b, o, none⟩ = some v⟩
theorem lent_row (H : Holds W0 ρ tm ob a w) {o : Nat} {e' : TypeId} {w1 n sp off len cap : Nat} {g : Nat → Nat → SC} (hob : ob[o]? = some (.row e' w1 n g sp)) (hol : off + len ≤ n) (hlc : len ≤ cap) :
    (SC.xs (some ⟨ρ o, off * w1, none⟩) len cap w1 fun i c => g (off + i) c).bnd (seenEnv w) := by
  have hle : Env.le (lv ρ ob) (seenEnv w) := ⟨fun _ _ => trivial, fun b o v hv => (H.mem.frz b o v hv).1⟩
  obtain ⟨_, ⟨rest, _, hrow⟩, hok⟩ := H.mem.rows hob
  refine ⟨fun e => (by cases e), hlc, fun bb hbb => ?_⟩
  simp only [Option.some.injEq] at hbb
  subst hbb
  refine ⟨rfl, fun i hi c hc => ?_⟩
  obtain ⟨q1, q2⟩ := hok (off + i) (by omega) c hc
  refine ⟨SC.bnd_mono (n := (lv ρ ob).bare) (m := (seenEnv w).bare) ⟨fun _ x => x, hle.fz⟩ q1, q2, ?_⟩
  have hg := rowc_get (w := w1) (n := n) (g := g) (i := off + i) (c := c) (by omega) hc
  have hlt : (off + i) * w1 + c < n * w1 := by
    have : (off + i + 1) * w1 ≤ n * w1 := Nat.mul_le_mul_right _ (by omega)
    rw [Nat.add_mul, Nat.one_mul] at this
    omega
  simp only [World.cell?, hrow]
  rw [show off * w1 + (i * w1 + c) = (off + i) * w1 + c by rw [Nat.add_mul]; omega, List.getElem?_toArray, List.getElem?_append_left (by rw [rowc_length]; exact hlt)]
  exact hg
theorem lentK_sound (H : Holds W0 ρ tm ob a w) : ∀ {ks : List SK} {K : List SK → Prop}, (∀ k ∈ ks, k.bnd (lv ρ ob)) → lentK ob ks K → ∃ l, K l ∧ concs ρ l = concs ρ ks ∧ ∀ k ∈ l, k.bnd (seenEnv w)
  | [], K, _, h => ⟨[], h, rfl, fun x hx => by cases hx⟩
  | x :: r, K, hb, h => by
    have hle : Env.le (lv ρ ob) (seenEnv w) := ⟨fun _ _ => trivial, fun b o v hv => (H.mem.frz b o v hv).1⟩
    have hr : ∀ y ∈ r, y.bnd (lv ρ ob) := fun y hy => hb y (by simp [hy])
    unfold lentK at h
    split at h
    · rename_i heq; cases heq
    · rename_i o w1 off len cap r' heq
      simp only [List.cons.injEq] at heq
      obtain ⟨rfl, rfl⟩ := heq
      split at h
      case h_2 => exact h.no
      rename_i e' w2 n g sp hob
      split at h
      case h_2 => exact h.no
      rename_i hw
      have hw1 := Nat.eq_of_beq_eq_true hw
      subst hw1
      obtain ⟨⟨hol, hlc, _⟩, h⟩ := ands_iff.1 h
      obtain ⟨l, k1, k2, k3⟩ := lentK_sound H hr (h ⟨ρ o, off * w1, none⟩)
      refine ⟨_, k1, by rw [concs_cons, concs_cons ρ (.c (.slw o w1 off len cap)), k2]; rfl, fun y hy => ?_⟩
      rcases List.mem_cons.1 hy with rfl | hy
      · exact lent_row H hob hol hlc
      · exact k3 y hy
    · rename_i y r' K' _ heq
      simp only [List.cons.injEq] at heq
      obtain ⟨rfl, rfl⟩ := heq
      obtain ⟨l, k1, k2, k3⟩ := lentK_sound H hr h
      refine ⟨_, k1, by rw [concs_cons ρ x l, concs_cons ρ x r, k2], fun y hy => ?_⟩
      rcases List.mem_cons.1 hy with rfl | hy
      · exact SK.bnd_mono hle (hb y (by simp))
      · exact k3 y hy
theorem lent_sound (H : Holds W0 ρ tm ob a w) : ∀ {args : List SA} {K : List SA → Prop}, (∀ x ∈ args, x.bnd (lv ρ ob)) → lent ob args K → ∃ l, K l ∧ l.map (SA.conc ρ) = args.map (SA.conc ρ) ∧ ∀ x ∈ l, x.bnd ⟨fun _ => True, fun b o v => w.cell? ⟨b, o, none⟩ = some v⟩
  | [], K, _, h => ⟨[], h, rfl, fun x hx => by cases hx⟩
  | x :: r, K, hb, h => by
    have hle : Env.le (lv ρ ob) ⟨fun _ => True, fun b o v => w.cell? ⟨b, o, none⟩ = some v⟩ := ⟨fun _ _ => trivial, fun b o v hv => (H.mem.frz b o v hv).1⟩
    have hr : ∀ y ∈ r, y.bnd (lv ρ ob) := fun y hy => hb y (by simp [hy])
    unfold lent at h
    split at h
    · rename_i heq; cases heq
    · rename_i o off len cap r' heq
      simp only [List.cons.injEq] at heq
      obtain ⟨rfl, rfl⟩ := heq
      split at h
      case h_2 => exact h.no
      rename_i e' ks sp hob
      split at h
      case h_2 => exact h.no
      rename_i cs hcs
      split at h
      case h_2 => exact h.no
      rename_i k hk
      split at h
      case h_2 => exact h.no
      rename_i hka
      obtain ⟨⟨hlc, _⟩, h⟩ := ands_iff.1 h
      obtain ⟨_, ⟨rest, _, hrow⟩, _⟩ := H.mem.obj o e' ks sp hob
      obtain ⟨l, k1, k2, k3⟩ := lent_sound H hr (h ⟨ρ o, off, none⟩)
      refine ⟨_, k1, by rw [List.map_cons, List.map_cons, k2]; rfl, fun y hy => ?_⟩
      rcases List.mem_cons.1 hy with rfl | hy
      · refine ⟨fun e => (by cases e), hlc, fun bb hbb => ?_⟩
        simp only [Option.some.injEq] at hbb
        subst hbb
        refine ⟨rfl, fun i hi c hc => ⟨trivial, rfl, ?_⟩⟩
        have hc0 : c = 0 := by omega
        subst hc0
        obtain ⟨l1, l2⟩ := concs_sub hcs ρ
        have hlen : (flat cs).length = len := by
          obtain ⟨a, b⟩ := sub_flat hcs
          rw [b]; simp; omega
        have := selG_conc hka ρ (j := i) (by omega)
        rw [l2, List.getElem?_take, if_pos hi, List.getElem?_drop] at this
        simp only [World.cell?, hrow, Nat.mul_one, Nat.add_zero]
        rw [List.getElem?_toArray, List.getElem?_append_left (List.getElem?_eq_some_iff.1 this).1]
        exact this
      · exact k3 y hy
    · rename_i o w1 off len cap r' heq
      simp only [List.cons.injEq] at heq
      obtain ⟨rfl, rfl⟩ := heq
      split at h
      case h_2 => exact h.no
      rename_i e' w2 n g sp hob
      split at h
      case h_2 => exact h.no
      rename_i hw
      have hw1 := Nat.eq_of_beq_eq_true hw
      subst hw1
      obtain ⟨⟨hol, hlc, _⟩, h⟩ := ands_iff.1 h
      obtain ⟨l, k1, k2, k3⟩ := lent_sound H hr (h ⟨ρ o, off * w1, none⟩)
      refine ⟨_, k1, by rw [List.map_cons, List.map_cons, k2]; rfl, fun y hy => ?_⟩
      rcases List.mem_cons.1 hy with rfl | hy
      · exact lent_row H hob hol hlc
      · exact k3 y hy
    · rename_i ks r' heq
      simp only [List.cons.injEq] at heq
      obtain ⟨rfl, rfl⟩ := heq
      obtain ⟨ks', h', e1, e2⟩ := lentK_sound H (hb (.agg ks) (by simp)) h
      obtain ⟨l, k1, k2, k3⟩ := lent_sound H hr h'
      refine ⟨_, k1, by rw [List.map_cons, List.map_cons, k2]; simp only [SA.conc, e1], fun y hy => ?_⟩
      rcases List.mem_cons.1 hy with rfl | hy
      · exact e2
      · exact k3 y hy
    · rename_i y r' K' _ _ _ heq
      simp only [List.cons.injEq] at heq
      obtain ⟨rfl, rfl⟩ := heq
      obtain ⟨l, k1, k2, k3⟩ := lent_sound H hr h
      refine ⟨_, k1, by rw [List.map_cons, List.map_cons, k2], fun y hy => ?_⟩
      rcases List.mem_cons.1 hy with rfl | hy
      · exact SA.bnd_mono hle (hb y (by simp))
      · exact k3 y hy
theorem shared (H : Holds W0 ρ tm ob a w) {w' : World} (hbl : Below w.heap.size w w') {sh : Prop} {rs : List RS} {vs : List Value} {k : SV → List SO → Prop} (h : answers rs fun l => k (resV l) ob) (hvs : RS.isL w' (fun b => w.heap.size ≤ b ∨ (sh ∧ ∃ o u, ρ.fz b o u)) rs vs) :
    ∃ ρ' sv, k sv ob ∧ sv.rep ρ' (valL vs) ∧ sv.bnd (lv ρ' ob) ∧ Holds W0 ρ' tm ob a w' := by
  obtain ⟨xs, hk, hx1, hx2⟩ := answers_pick h hvs
  have hlt : ∀ i, live ob i → ρ i < w.heap.size := by
    rintro i ⟨x, hi, hx⟩
    obtain ⟨_, ⟨_, _, h2⟩, _⟩ := H.mem.objs i x hi hx
    exact heap_lt h2
  have H1 := (H.world hbl).frozen (fun b o v => (w.heap.size ≤ b ∨ (sh ∧ ∃ o u, ρ.fz b o u)) ∧ w'.cell? ⟨b, o, none⟩ = some v)
    (fun b o v hF => ⟨hF.2, fun i hi => by
      rcases hF.1 with hb | ⟨_, o, u, hf⟩
      · have := hlt i hi; omega
      · exact (H.mem.frz b o u hf).2 i hi⟩)
    (fun b o v hF => by
      rcases hF.1 with hb | ⟨_, hf⟩
      · exact .inr (Nat.le_trans H.below.size hb)
      · exact .inl hf)
  refine ⟨⟨ρ.pos, _⟩, _, hk, ?_, ?_, H1⟩
  · rw [← hx1 ⟨ρ.pos, _⟩]
    exact valL_conc _ xs
  · have hle : Env.le ⟨fun _ => False, fun b o v => ρ.fz b o v ∨ (w.heap.size ≤ b ∨ sh ∧ ∃ o u, ρ.fz b o u) ∧ w'.cell? ⟨b, o, none⟩ = some v⟩ (lv ⟨ρ.pos, fun b o v => ρ.fz b o v ∨ (w.heap.size ≤ b ∨ sh ∧ ∃ o u, ρ.fz b o u) ∧ w'.cell? ⟨b, o, none⟩ = some v⟩ ob) := ⟨fun _ h => h.elim, fun _ _ _ h => h⟩
    exact resV_bnd fun x hx => SA.bnd_mono hle (hx2 _ (fun b o v hf hc => .inr ⟨hf, hc⟩) x hx)
end
theorem inlS_ok {P : Program} {gl : Globs} {sl : List (Nat × SSpec)} (hsl : ∀ p ∈ sl, FnOKs P gl p.1 p.2) {inner : Inl} (hin : InlOK P gl inner) : InlOK P gl (inlS sl inner) := by
  intro f args ob k h Z ρ tm a w hz H hargs
  unfold inlS at h
  split at h
  · exact hin f args ob k h hz H hargs
  rename_i s hs
  have hfn := getSS_ok hsl hs
  split at h
  · -- lent
    rename_i hsh
    obtain ⟨l, hl, e1, b1⟩ := lent_sound H hargs h
    split at hl
    case h_2 => exact hl.no
    rename_i ps rs hof
    obtain ⟨hp, hl⟩ := ands_iff.1 hl
    have hle : Env.le (lv ρ ob) ⟨fun _ => True, fun b o v => w.cell? ⟨b, o, none⟩ = some v⟩ := ⟨fun _ _ => trivial, fun b o v hv => (H.mem.frz b o v hv).1⟩
    have hgl : GlobsOK gl fun b o v => w.cell? ⟨b, o, none⟩ = some v := by
      rw [← hz]
      intro p hp
      obtain ⟨g1, g2⟩ := H.gl p hp
      exact ⟨fun k hk => SK.bnd_mono (n := ⟨fun _ => False, ρ.fz⟩) (m := ⟨fun _ => False, fun b o v => w.cell? ⟨b, o, none⟩ = some v⟩) ⟨fun _ x => x, hle.fz⟩ (g1 k hk), fun o v h => hle.fz _ _ _ (g2 o v h)⟩
    obtain ⟨r, hc⟩ := hfn l ps rs hof hp ⟨ρ.pos, fun b o v => w.cell? ⟨b, o, none⟩ = some v⟩ w (fun _ _ _ h => h) hgl b1
    have hpos : l.map (SA.conc ⟨ρ.pos, fun b o v => w.cell? ⟨b, o, none⟩ = some v⟩) = args.map (SA.conc ρ) := by
      rw [← e1]; exact List.map_congr_left fun x _ => conc_pos x
    rw [hpos] at r hc
    refine ⟨r, hc.mono ?_⟩
    rintro e w' ⟨vs, rfl, hvs, hbl⟩
    have hvs' : RS.isL w' (fun b => w.heap.size ≤ b ∨ (False ∧ ∃ o u, ρ.fz b o u)) rs vs := hvs.far fun b hb => by
      rcases hb with hb | ⟨hb, _⟩
      · exact .inl hb
      · rw [hsh] at hb; cases hb
    obtain ⟨ρ', sv, q1, q2, q3, q4⟩ := shared H hbl hl hvs'
    exact ⟨_, rfl, ρ', sv, ob, q1, q2, q3, q4.scrubbed⟩
  · split at h
    · -- nothing of one's own
      split at h
      case h_2 => exact h.no
      rename_i ps rs hof
      obtain ⟨hp, h⟩ := ands_iff.1 h
      obtain ⟨r, hc⟩ := hfn args ps rs hof hp ρ w (fun b o v hv => (H.mem.frz b o v hv).1) (hz ▸ H.gl) (fun x hx => SA.bnd_mono lv_all (hargs x hx))
      refine ⟨r, hc.mono ?_⟩
      rintro e w' ⟨vs, rfl, hvs, hbl⟩
      obtain ⟨ρ', sv, q1, q2, q3, q4⟩ := shared H hbl h hvs
      exact ⟨_, rfl, ρ', sv, ob, q1, q2, q3, q4.scrubbed⟩
    · rename_i pre o off len cap post hfz
      split at h
      case h_2 => exact h.no
      rename_i e' ks sp hob
      split at h
      case h_2 => exact h.no
      rename_i cs hcs
      split at h
      case h_2 => exact h.no
      rename_i kd hkd
      split at h
      case h_2 => exact h.no
      rename_i hkb
      simp only [Bool.and_eq_true] at hkb
      obtain ⟨⟨hlc, _⟩, h⟩ := ands_iff.1 h
      have hys := frzOf_spec hfz
      obtain ⟨_, ⟨rest, _, hrow⟩, _⟩ := H.mem.obj o e' ks sp hob
      have hgb : w.grownBy w (some (ρ o)) := ⟨rfl, rfl, rfl, Nat.le_refl _, fun _ _ _ => rfl⟩
      have H1 := (H.killed hob rfl hgb hkb.2).frozen (fun bl c v => bl = ρ o ∧ (concs ρ ks ++ rest)[c]? = some v) (fun bl c v hF => by
        obtain ⟨rfl, hv⟩ := hF
        refine ⟨by simp only [World.cell?, hrow]; simpa using hv, fun i hi => ?_⟩
        obtain ⟨q1, q2⟩ := live_dead.1 hi
        exact fun e => q2 (H.mem.injs _ _ q1 (live_cells hob) e)) (fun bl c v hF => by rw [hF.1]; exact .inr (H.mem.objs _ _ hob rfl).1)
      have h := h ⟨ρ o, off, none⟩
      split at h
      case h_2 => exact h.no
      rename_i ps rs hof
      obtain ⟨hp, h⟩ := ands_iff.1 h
      have hle : Env.le (lv ρ ob) ⟨fun _ => True, fun bl c v => ρ.fz bl c v ∨ (bl = ρ o ∧ (concs ρ ks ++ rest)[c]? = some v)⟩ := ⟨fun _ _ => trivial, fun _ _ _ x => .inl x⟩
      have hxs : (xsI (some ⟨ρ o, off, none⟩) len cap kd (selG cs)).bnd ⟨fun _ => True, fun bl c v => ρ.fz bl c v ∨ (bl = ρ o ∧ (concs ρ ks ++ rest)[c]? = some v)⟩ := by
        refine ⟨fun e => (by cases e), hlc, fun bb hb => ?_⟩
        simp only [Option.some.injEq] at hb
        subst hb
        refine ⟨rfl, fun i hi c hc => ⟨trivial, rfl, .inr ⟨rfl, ?_⟩⟩⟩
        have hc0 : c = 0 := by omega
        subst hc0
        obtain ⟨l1, l2⟩ := concs_sub hcs ρ
        have hlen : (flat cs).length = len := by
          obtain ⟨a, b⟩ := sub_flat hcs
          rw [b]; simp; omega
        have := selG_conc hkb.1 ρ (j := i) (by omega)
        rw [l2, List.getElem?_take, if_pos hi, List.getElem?_drop] at this
        rw [Nat.mul_one, Nat.add_zero, List.getElem?_append_left (List.getElem?_eq_some_iff.1 this).1]
        exact this
      have hall : ∀ x ∈ pre ++ xsI (some ⟨ρ o, off, none⟩) len cap kd (selG cs) :: post, x.bnd ⟨fun _ => True, fun bl c v => ρ.fz bl c v ∨ (bl = ρ o ∧ (concs ρ ks ++ rest)[c]? = some v)⟩ := by
        intro x hx
        have old : ∀ y ∈ args, y.bnd ⟨fun _ => True, fun bl c v => ρ.fz bl c v ∨ (bl = ρ o ∧ (concs ρ ks ++ rest)[c]? = some v)⟩ := fun y hy => SA.bnd_mono hle (hargs y hy)
        rw [hys] at old
        rcases List.mem_append.1 hx with hx | hx
        · exact old x (by simp [hx])
        · rcases List.mem_cons.1 hx with rfl | hx
          · exact hxs
          · exact old x (by simp [hx])
      have hconc : (pre ++ xsI (some ⟨ρ o, off, none⟩) len cap kd (selG cs) :: post).map (SA.conc ⟨ρ.pos, fun bl c v => ρ.fz bl c v ∨ (bl = ρ o ∧ (concs ρ ks ++ rest)[c]? = some v)⟩) = args.map (SA.conc ρ) := by
        rw [List.map_congr_left (fun x _ => conc_pos x), hys]
        simp only [List.map_append, List.map_cons]
        rfl
      obtain ⟨r, hc⟩ := hfn _ ps rs hof hp ⟨ρ.pos, fun bl c v => ρ.fz bl c v ∨ (bl = ρ o ∧ (concs ρ ks ++ rest)[c]? = some v)⟩ w (fun b c v hv => (H1.mem.frz b c v hv).1) (hz ▸ H1.gl) hall
      rw [hconc] at r hc
      refine ⟨r, hc.mono ?_⟩
      rintro e w' ⟨vs, rfl, hvs, hbl⟩
      obtain ⟨ρ', sv, q1, q2, q3, q4⟩ := shared H1 hbl h hvs
      exact ⟨_, rfl, ρ', sv, _, q1, q2, q3, q4⟩
section
variable {P : Program} {W0 : Base} {ρ : Rho} {tm : List SV} {ob : List SO} {a : Act} {w : World}
def inlX (P : Program) (cx : Cx) (sl : List (Nat × SSpec)) (dr : Drawn) (iv : List (Nat × Hint)) (N : Nat) : Nat → Inl
  | 0 => inlS sl noInl
  | d + 1 => inlS sl fun f args ob k =>
    match P.funcs[f]? with
    | some fn =>
      match fn.body, fn.name == "runtime.NumGoroutine" with
      | some c, false => sx P { cx with kn := ob.length } (inlX P cx sl dr iv N d) dr iv N ((f + 1) * 100000) ob.length c (slots0 args fn.ntmps) ob (ret P fn.results.toList k)
      | _, _ => StuckAt "no text"
    | none => StuckAt "no function"
def isInt (k : IntKind) (n : Int) (s : SC) : Prop :=
  match asI (.sc s) with
  | some (k', m) => if k' = k then m = n else False
  | none => False
theorem isInt_sound {k : IntKind} {n : Int} {s : SC} (h : isInt k n s) (ρ : Rho) : s.conc ρ = .int k n := by
  unfold isInt at h
  split at h
  · rename_i k' m hm
    split at h
    · rename_i e
      subst e
      subst h
      exact asI_sound hm ρ
    · exact h.elim
  · exact h.elim
def okS (sh : Bool) (ob : List SO) (n wd : Nat) (g : Nat → Nat → SC) : SC → Prop
  | .val (.slice none 0 0) => n = 0
  | .slw o w off len cap => match ob[o]? with
    | some (.row _ w' m h _) => match Nat.beq w wd && Nat.beq w' wd with
      | true => ands [off + len ≤ m, len = n, len ≤ cap] (∀ i, i < n → allC wd fun c => simC (h (off + i) c) (g i c))
      | false => StuckAt "row"
    | _ => StuckAt "row"
  | .xs _ len _ w h => match sh, Nat.beq w wd with
    | true, true => ands [len = n] (∀ i, i < n → allC wd fun c => simC (h i c) (g i c))
    | _, _ => StuckAt "shared"
  | _ => StuckAt "result"
def okK (sh : Bool) (ob : List SO) : List RK → List SK → Prop
  | [], [] => True
  | .k x :: r, y :: r' => match grab (y :: r') x.cells.length, seek (y :: r') x.cells.length with
    | some a, some b => ands [sameK a [x]] (okK sh ob r b)
    | _, _ => StuckAt "parts"
  | .s n wd g :: r, .c y :: r' => okS sh ob n wd g y ∧ okK sh ob r r'
  | _, _ => StuckAt "parts"
def okR (sh : Bool) (ob : List SO) : RS → SA → Prop
  | .v y, x => sameA x y
  | .s n k g, .sc x => match x with
    | .val (.slice none 0 0) => n = 0
    | .slw o w off len cap => match ob[o]? with
      | some (.row _ w' m h _) => match Nat.beq w 1 && Nat.beq w' 1 with
        | true => ands [off + len ≤ m, len = n, len ≤ cap] (∀ i, i < n → isInt k (g i) (h (off + i) 0))
        | false => StuckAt "row"
      | _ => StuckAt "row"
    | .sl o off len cap => match ob[o]? with
      | some (.cells _ ks _) => match sub ks off len with
        | some cs => match kindAll k cs with
          | true => ands [len = n, len ≤ cap] (∀ i, i < n → selG cs i = g i)
          | false => StuckAt "cells"
        | none => StuckAt "cells"
      | _ => StuckAt "cells"
    | .xs _ len _ w h => match sh, Nat.beq w 1 with
      | true, true => ands [len = n] (∀ i, i < n → isInt k (g i) (h i 0))
      | _, _ => StuckAt "shared"
    | _ => StuckAt "result"
  | .rows n wd g, .sc x => okS sh ob n wd g x
  | .st ks, .agg l => okK sh ob ks l
  | _, _ => StuckAt "result"
def okRL (sh : Bool) (ob : List SO) : List RS → List SA → Prop
  | [], [] => True
  | [r], [x] => okR sh ob r x
  | r :: rs, x :: xs => okR sh ob r x ∧ okRL sh ob rs xs
  | _, _ => False
def okRS (sh : Bool) (rs : List RS) (sv : SV) (ob : List SO) : Prop :=
  match sv with
  | .one x => okRL sh ob rs [x]
  | .tup [_] => False
  | .tup xs => okRL sh ob rs xs
  | _ => False
def OwesS (P : Program) (cx : Cx) (sl : List (Nat × SSpec)) (iv : List (Nat × Hint)) (N : Nat) (fn : Func) (args : List SA) (post : SV → List SO → Prop) : Prop :=
  sx P cx (inlX P cx sl drawOK iv N 8) drawOK iv N 0 0 (fn.body.getD .skip) (slots0 args fn.ntmps) [] (ret P fn.results.toList post)
def OwesV (P : Program) (cx : Cx) (sl : List (Nat × SSpec)) (iv : List (Nat × Hint)) (N : Nat) (fn : Func) (args : List SA) (out : SV) : Prop :=
  OwesS P cx sl iv N fn args fun sv _ => same sv out
def OwesR (P : Program) (cx : Cx) (sl : List (Nat × SSpec)) (iv : List (Nat × Hint)) (N : Nat) (fn : Func) (args : List SA) (sh : Bool) (rs : List RS) : Prop :=
  OwesS P cx sl iv N fn args (okRS sh rs)
end
attribute [irreducible] OwesS OwesV OwesR
end Go.Sx
end

section
namespace Go.Sx
open Go.RowKit
def inlW (wl : List (Nat × WSpec)) (inner : Inl) : Inl := fun f args ob k =>
  match getW wl f with
  | none => inner f args ob k
  | some s => match wdo s args ob with
    | some (ps, sv, o, _, m) => ands ps (k sv (ob.set o (noteO s.e s.k m)))
    | none => StuckAt "cell"
theorem inlW_ok {P : Program} {gl : Globs} {wl : List (Nat × WSpec)} (hwl : ∀ p ∈ wl, FnOKw P gl p.1 p.2) {inner : Inl} (hin : InlOK P gl inner) : InlOK P gl (inlW wl inner) := by
  intro f args ob k h Z ρ tm a w hz H hargs
  unfold inlW at h
  split at h
  · exact hin f args ob k h hz H hargs
  rename_i s hs
  split at h
  case h_2 => exact h.no
  rename_i ps sv o n m hd
  obtain ⟨hp, h⟩ := ands_iff.1 h
  obtain ⟨r, hc⟩ := wdo_sound H (hz ▸ getW_ok hwl hs) hargs hd hp
  refine ⟨r, hc.mono ?_⟩
  rintro e w' ⟨v, rfl, hv, hb, H'⟩
  exact ⟨v, rfl, ρ, sv, _, h, hv, SV.bnd_mono none0_le hb, H'.scrubbed⟩
section
variable {P : Program}
def inlY (P : Program) (cx : Cx) (sl : List (Nat × SSpec)) (dr : Drawn) (iv : List (Nat × Hint)) (N : Nat) : Nat → Inl
  | 0 => inlW cx.wf (inlS sl noInl)
  | d + 1 => inlW cx.wf (inlS sl fun f args ob k =>
    match P.funcs[f]? with
    | some fn =>
      match fn.body, fn.name == "runtime.NumGoroutine" with
      | some c, false => sx P { cx with kn := ob.length } (inlY P cx sl dr iv N d) dr iv N ((f + 1) * 100000) ob.length c (slots0 args fn.ntmps) ob (ret P fn.results.toList k)
      | _, _ => StuckAt "no text"
    | none => StuckAt "no function")
theorem inlY_ok {cx : Cx} (hcx : CxOK P cx) {sl : List (Nat × SSpec)} (hsl : ∀ p ∈ sl, FnOKs P cx.gl p.1 p.2) {dr : Drawn} (hdr : DrawnOK P cx dr) (iv : List (Nat × Hint)) (N : Nat) : ∀ d, InlOK P cx.gl (inlY P cx sl dr iv N d)
  | 0 => inlW_ok hcx.2 (inlS_ok hsl (noInl_ok P cx.gl))
  | d + 1 => by
    refine inlW_ok hcx.2 (inlS_ok hsl ?_)
    intro f args ob k h Z ρ tm a w hz H hargs
    split at h
    case h_2 => exact h.no
    rename_i fn hf
    split at h
    case h_2 => exact h.no
    rename_i c hb hn
    refine ⟨run_callFunc_enter hf (by rw [hb]; rfl) hn _ w, ?_⟩
    refine calls_of_sx (cx := { cx with kn := ob.length }) hcx (inlY_ok hcx hsl hdr iv N d) hdr iv N _ hf hb args ρ hargs w H.below H.mem (by rw [← hz]; exact H.gl) (Nat.le_refl _) H.keeps k (fun sv ob' ρ' v w' hk hr hbd hB hm hkp hfz hkk => ?_) h
    refine ⟨v, rfl, ρ', sv, ob', hk, hr, hbd, H.onto (fun i hi hi' => ?_) hfz.le hfz.own hB hm ⟨fun i hi => ?_, fun i hi => hkp.2.1 i (H.kept.2.1 i hi), Nat.le_trans H.kept.2.2 hkp.2.2⟩ hkk⟩
    · rcases hkp.1 i hi with ⟨_, e⟩ | e
      · exact e
      · obtain ⟨_, h', hh⟩ := hi'; rw [e] at h'; cases h'; cases hh
    · rcases H.kept.1 i hi with ⟨k1, k2⟩ | k1
      · rcases hkp.1 i k1 with ⟨q1, q2⟩ | q
        · exact .inl ⟨q1, Eq.trans q2 k2⟩
        · exact .inr q
      · exact .inr (hkp.2.1 i k1)
def noteIs (ob : List SO) (e : TypeId) (k : IntKind) (m : Int) : Prop :=
  match ob with
  | .cells e' [.c x] 0 :: _ => match Nat.beq e' e with
    | true => isInt k m x
    | false => False
  | _ => False
def OwesW (P : Program) (cx : Cx) (sl : List (Nat × SSpec)) (iv : List (Nat × Hint)) (N : Nat) (fn : Func) (args : List SA) (e : TypeId) (k : IntKind) (n : Int) (out : SV) (m : Int) : Prop :=
  sx P { cx with kn := 1 } (inlY P cx sl drawOK iv N 8) drawOK iv N 0 1 (fn.body.getD .skip) (slots0 args fn.ntmps) [noteO e k n] (ret P fn.results.toList fun sv ob => same sv out ∧ noteIs ob e k m)
def OwesU (P : Program) (cx : Cx) (sl : List (Nat × SSpec)) (iv : List (Nat × Hint)) (N : Nat) (fn : Func) (args : List SA) (out : SV) : Prop :=
  sx P { cx with kn := 0 } (inlY P cx sl drawOK iv N 8) drawOK iv N 0 0 (fn.body.getD .skip) (slots0 args fn.ntmps) [] (ret P fn.results.toList fun sv _ => same sv out)
theorem calls_of_owesU {cx : Cx} (hcx : CxOK P cx) {sl : List (Nat × SSpec)} (hsl : ∀ p ∈ sl, FnOKs P cx.gl p.1 p.2) {iv : List (Nat × Hint)} {N : Nat} {f : FuncId} {fn : Func} (hf : P.funcs[f]? = some fn) (hb : fn.body.isSome = true) {args : List SA} {out : SV}
    (h : OwesU P cx sl iv N fn args out) (ρ : Rho) (w : World) (hz : FzOK ρ.fz w) (hg : GlobsOK cx.gl ρ.fz) (hargs : ∀ x ∈ args, x.bnd ⟨fun _ => False, ρ.fz⟩) :
    Calls P f (args.map (SA.conc ρ)).toArray w fun e w' => ∃ v, e = .returned v ∧ (∃ ρ', out.rep ρ' v) ∧ Below w.heap.size w w' := by
  obtain ⟨c, hc⟩ := Option.isSome_iff_exists.1 hb
  unfold OwesU at h
  rw [hc] at h
  exact calls_of_sx (cx := { cx with kn := 0 }) hcx (inlY_ok hcx hsl (drawOK_ok hcx) iv N 8) (drawOK_ok hcx) iv N 0 hf hc (Z := w) (ob := []) args ρ (fun x hx => SA.bnd_mono (n := ⟨fun _ => False, ρ.fz⟩) (m := lv ρ []) ⟨fun _ k => k.elim, fun _ _ _ k => k⟩ (hargs x hx)) w (Below.refl _ _) (Mem.start hz) hg (Nat.zero_le _) (Keeps.none _ _ _) _
    (fun sv ob' ρ' v w' hp hr hbd hb hm _ hfz _ => ⟨v, rfl, ⟨ρ', same_sound hp ρ' v hr⟩, hb⟩) h
theorem FnOKw_owes {cx : Cx} (hcx : CxOK P cx) {sl : List (Nat × SSpec)} (hsl : ∀ p ∈ sl, FnOKs P cx.gl p.1 p.2) {f : Nat} {fn : Func} (hf : P.funcs[f]? = some fn) (hb : fn.body.isSome = true) (hn : (fn.name == "runtime.NumGoroutine") = false) {s : WSpec}
    (h : ∀ args n ps sv m, s.of args n = some (ps, sv, m) → Ok ps → ∃ iv N args', (∀ ρ, args.map (SA.conc ρ) = args'.map (SA.conc ρ)) ∧ (∀ E : Env, E.lv 0 → (∀ x ∈ args, x.bnd E) → ∀ x ∈ args', x.bnd E) ∧ sv.bnd none0 ∧ OwesW P cx sl iv N fn args' s.e s.k n sv m) : FnOKw P cx.gl f s := by
  intro args n ps sv m hs hp
  obtain ⟨iv, N, args', h1, h2, h3, h4⟩ := h args n ps sv m hs hp
  refine ⟨h3, fun Z ρ w hB hm hg ha keep hkeep => ⟨run_callFunc_enter hf hb hn _ w, ?_⟩⟩
  rw [h1]
  obtain ⟨c, hc⟩ := Option.isSome_iff_exists.1 hb
  unfold OwesW at h4
  rw [hc] at h4
  refine calls_of_sx (cx := { cx with kn := 1 }) hcx (inlY_ok hcx hsl (drawOK_ok hcx) iv N 8) (drawOK_ok hcx) iv N 0 hf hc (Z := Z) (ob := [noteO s.e s.k n]) args' ρ (h2 _ ⟨_, rfl, rfl⟩ ha) w hB hm hg (Nat.le_refl _) hkeep _ (fun sv' ob' ρ' v w' hq hr hbd hB' hm' hkp hfz hkk => ?_) h4
  obtain ⟨q1, q2⟩ := hq
  unfold noteIs at q2
  split at q2
  case h_2 => exact q2.elim
  rename_i e' x r
  split at q2
  case h_2 => exact q2.elim
  rename_i he
  have he := Nat.eq_of_beq_eq_true he
  subst he
  have hx := isInt_sound q2 ρ'
  have hl0 : live (SO.cells s.e [.c x] 0 :: r) 0 := ⟨_, rfl, rfl⟩
  refine ⟨v, ρ', rfl, rep_none0 h3 (same_sound q1 ρ' v hr), hB', ⟨fun i y hi hy => ?_, fun i j hi hj _ => ?_, fun b c v hv => ?_⟩, ?_, hfz.le, fun b y hy => ⟨(hkk b y hy).1, fun i hi => ?_⟩⟩
  · cases i with
    | succ i => simp at hi
    | zero =>
      simp only [List.getElem?_cons_zero, Option.some.injEq] at hi
      subst hi
      obtain ⟨p1, ⟨rest, p2, p3⟩, _⟩ := hm'.obj 0 s.e [.c x] 0 rfl
      refine ⟨p1, ⟨rest, p2, ?_⟩, fun k hk => ?_, fun k hk => ?_⟩
      · rw [p3]
        simp only [concs, flat, SK.cells, List.cons_append, List.nil_append, List.append_nil, List.map_cons, List.map_nil, hx, noteO, SO.vals, SO.elem]
        rfl
      · simp only [List.mem_singleton] at hk; subst hk; exact trivial
      · simp only [List.mem_singleton] at hk; subst hk; rfl
  · obtain ⟨y, hy, _⟩ := hi
    obtain ⟨z, hz', _⟩ := hj
    cases i with
    | succ i => simp at hy
    | zero => cases j with
      | succ j => simp at hz'
      | zero => rfl
  · obtain ⟨k1, k2⟩ := hm'.frz b c v hv
    refine ⟨k1, fun i hi => ?_⟩
    obtain ⟨y, hy, _⟩ := hi
    cases i with
    | succ i => simp at hy
    | zero => exact k2 0 hl0
  · rcases hkp.1 0 ⟨_, rfl, rfl⟩ with ⟨_, e⟩ | e
    · exact e
    · cases e
  · obtain ⟨z, hz', _⟩ := hi
    cases i with
    | succ i => simp at hz'
    | zero => exact (hkk b y hy).2 0 hl0
def asArgW : AP → SA → Option (List Prop × List At)
  | .hand, .agg ks => match takeU ks with
    | some (p, n, [.c (.ptr i off)]) => match Nat.beq i 0 && Nat.beq off 0 with
      | true => some (p, [.u n])
      | false => none
    | _ => none
  | .hand, _ => none
  | ap, x => asArg ap x
def mkArgW : AP → List At → SA
  | .hand, [.u n] => .agg [.u n, .c (.ptr 0 0)]
  | .hand, _ => .agg []
  | ap, l => mkArg ap l none
theorem asArgW_sound {ap : AP} {x : SA} {q : List Prop} {l : List At} (h : asArgW ap x = some (q, l)) (hq : Ok q) (ρ : Rho) : x.conc ρ = (mkArgW ap l).conc ρ := by
  unfold asArgW at h
  split at h
  · rename_i ks
    split at h
    · rename_i p n i off hu
      split at h
      · rename_i hs
        simp only [Bool.and_eq_true] at hs
        have h1 := Nat.eq_of_beq_eq_true hs.1
        have h2 := Nat.eq_of_beq_eq_true hs.2
        subst h1
        subst h2
        simp only [Option.some.injEq, Prod.mk.injEq] at h
        obtain ⟨rfl, rfl⟩ := h
        simp only [SA.conc, mkArgW, takeU_sound hu hq ρ]
      · cases h
    · cases h
  · cases h
  · rename_i hne
    cases ap with
    | hand =>
      cases x with
      | sc c => cases h
      | agg ks => exact (hne ks rfl rfl).elim
    | str ps =>
      unfold asArg at h
      cases x with
      | sc c => cases h
      | agg ks =>
        simp only [SA.conc, mkArgW, mkArg, asKs_sound ρ h hq]
    | int k =>
      simp only [asArg] at h
      split at h
      · rename_i k' n hi
        split at h
        · rename_i hk
          subst hk
          simp only [Option.some.injEq, Prod.mk.injEq] at h
          obtain ⟨rfl, rfl⟩ := h
          exact asI_canon hi ρ
        · cases h
      · cases h
    | bit =>
      unfold asArg at h
      cases x with
      | agg ks => cases h
      | sc c =>
        simp only at h
        split at h
        · rename_i b hb
          simp only [Option.some.injEq, Prod.mk.injEq] at h
          obtain ⟨rfl, rfl⟩ := h
          exact asBit_sound hb ρ
        · cases h
theorem mkArgW_bnd (ap : AP) (l : List At) {E : Env} (h : E.lv 0) : (mkArgW ap l).bnd E := by
  unfold mkArgW
  split
  · intro k hk
    simp only [List.mem_cons, List.not_mem_nil, or_false] at hk
    rcases hk with rfl | rfl
    · exact trivial
    · exact h
  · intro k hk
    simp at hk
  · exact SA.bnd_mono none0_le (mkArg_bnd _ _ _)
def asArgsW : List AP → List SA → Option (List Prop × List (List At))
  | [], [] => some ([], [])
  | ap :: sh, x :: r => match asArgW ap x with
    | some (p, l) => match asArgsW sh r with
      | some (q, ls) => some (p ++ q, l :: ls)
      | none => none
    | none => none
  | _, _ => none
def mkArgsW : List AP → List (List At) → List SA
  | ap :: sh, l :: ls => mkArgW ap l :: mkArgsW sh ls
  | _, _ => []
theorem asArgsW_sound (ρ : Rho) : ∀ {sh : List AP} {xs : List SA} {q : List Prop} {ls : List (List At)}, asArgsW sh xs = some (q, ls) → Ok q → xs.map (SA.conc ρ) = (mkArgsW sh ls).map (SA.conc ρ)
  | [], [], q, ls, h, _ => by simp only [asArgsW, Option.some.injEq, Prod.mk.injEq] at h; obtain ⟨_, rfl⟩ := h; rfl
  | [], _ :: _, q, ls, h, _ => by simp [asArgsW] at h
  | _ :: _, [], q, ls, h, _ => by simp [asArgsW] at h
  | ap :: sh, x :: r, q, ls, h, hq => by
    simp only [asArgsW] at h
    split at h
    · rename_i p l hx
      split at h
      · rename_i q' l' hr
        simp only [Option.some.injEq, Prod.mk.injEq] at h
        obtain ⟨rfl, rfl⟩ := h
        obtain ⟨h1, h2⟩ := Ok.append.1 hq
        simp only [mkArgsW, List.map_cons, asArgW_sound hx h1 ρ, asArgsW_sound ρ hr h2]
      · cases h
    · cases h
theorem mkArgsW_bnd {E : Env} (h : E.lv 0) : ∀ (sh : List AP) (ls : List (List At)), ∀ x ∈ mkArgsW sh ls, x.bnd E
  | [], _, x, hx => by simp [mkArgsW] at hx
  | _ :: _, [], x, hx => by simp [mkArgsW] at hx
  | ap :: sh, l :: ls, x, hx => by
    simp only [mkArgsW, List.mem_cons] at hx
    rcases hx with rfl | hx
    · exact mkArgW_bnd _ _ h
    · exact mkArgsW_bnd h sh ls x hx
def specWn (e : TypeId) (k : IntKind) (sh : List AP) (c : List (List At) → List Prop) (g : List (List At) → Int → SV) (t : List (List At) → Int → Int) : WSpec where
  e := e
  k := k
  of := fun args n => match asArgsW sh args with
    | some (p, ls) => some (p ++ c ls, g ls n, t ls n)
    | none => none
theorem FnOKw_N {cx : Cx} (hcx : CxOK P cx) {sl : List (Nat × SSpec)} (hsl : ∀ p ∈ sl, FnOKs P cx.gl p.1 p.2) {e : TypeId} {k : IntKind} {sh : List AP} {c : List (List At) → List Prop} {g : List (List At) → Int → SV} {t : List (List At) → Int → Int} {iv : List (List At) → List (Nat × Hint)} {N : Nat} {f : Nat} {fn : Func} (hf : P.funcs[f]? = some fn) (hb : fn.body.isSome = true) (hn : (fn.name == "runtime.NumGoroutine") = false) (hg : ∀ ls n, (g ls n).bnd none0)
    (h : ∀ ls n, Ok (c ls) → OwesW P cx sl (iv ls) N fn (mkArgsW sh ls) e k n (g ls n) (t ls n)) : FnOKw P cx.gl f (specWn e k sh c g t) := by
  refine FnOKw_owes hcx hsl hf hb hn fun args n ps sv m hs hp => ?_
  simp only [specWn] at hs
  split at hs
  · rename_i p ls ha
    simp only [Option.some.injEq, Prod.mk.injEq] at hs
    obtain ⟨rfl, rfl, rfl⟩ := hs
    obtain ⟨o1, o2⟩ := Ok.append.1 hp
    exact ⟨iv ls, N, mkArgsW sh ls, fun ρ => asArgsW_sound ρ ha o1, fun E hE _ => mkArgsW_bnd hE sh ls, hg ls n, h ls n o2⟩
  · cases hs
theorem FnOKU_A {cx : Cx} (hcx : CxOK P cx) {sl : List (Nat × SSpec)} (hsl : ∀ p ∈ sl, FnOKs P cx.gl p.1 p.2) {sh : List AP} {c : List (List At) → List Prop} {g : List (List At) → SV} {iv : List (List At) → List (Nat × Hint)} {N : Nat} {f : Nat} {fn : Func} (hf : P.funcs[f]? = some fn) (hb : fn.body.isSome = true) (hn : (fn.name == "runtime.NumGoroutine") = false) (hg : ∀ ls, (g ls).bnd none0)
    (h : ∀ ls vs, Ok (c ls) → OwesU P cx sl (iv ls) N fn (mkArgs sh ls vs) (g ls)) : FnOKg P cx.gl f (specA sh c g) := by
  refine FnOK_of hf hb hn fun args ps sv hs hp => ?_
  unfold specA at hs
  split at hs
  · rename_i p ls ha
    simp only [Option.some.injEq, Prod.mk.injEq] at hs
    obtain ⟨rfl, rfl⟩ := hs
    obtain ⟨o1, o2⟩ := Ok.append.1 hp
    refine ⟨hg ls, fun ρ w hzz hgg _ => ?_⟩
    obtain ⟨vs, hv⟩ := asArgs_sound ρ ha o1
    rw [hv]
    refine (calls_of_owesU hcx hsl hf hb (h ls vs o2) ρ w hzz hgg fun x hx => SA.bnd_mono none0_le (mkArgs_bnd sh ls vs x hx)).mono ?_
    rintro e w' ⟨v, rfl, ⟨ρ', hr⟩, hbl⟩
    exact ⟨v, rfl, rep_none0 (hg ls) hr, hbl⟩
  · cases hs
end
attribute [irreducible] OwesW OwesU
end Go.Sx
end
