/-
  Texts: Leh, V11, V12, V13, V14, V6, V4, P1, P2, P3.
-/
import Derived.Test.YtbfcccoeekonlaaDoorM1
import Derived.Test.YtbfcccoeekonlaaDoorM2
import Derived.Test.YtbfcccoeekonlaaDoorM3
import Derived.Test.YtbfcccoeekonlaaDoorM4
import Derived.Test.YtbfcccoeekonlaaDoorM5
import Derived.Test.YtbfcccoeekonlaaDoorM6
import Derived.Test.YtbfcccoeekonlaaDoorM7
import Derived.Test.YtbfcccoeekonlaaDoorM8
section
/-
  Euclid's way, and several of its steps told by the highest bits: numbers alone.
-/
namespace Go.Sx

/-- Euclid's steps: what is left, and how often a number goes into it. -/
def eu : Nat → Nat → Nat → Int → Int → Nat × Int
  | 0, r0, _, s0, _ => (r0, s0)
  | n + 1, r0, r1, s0, s1 => if r1 = 0 then (r0, s0) else eu n r1 (r0 % r1) s1 (s0 - ((r0 / r1 : Nat) : Int) * s1)
theorem eu_more : ∀ (n k r0 r1 : Nat) (s0 s1 : Int), r1 ≤ n → r1 ≤ k → eu n r0 r1 s0 s1 = eu k r0 r1 s0 s1
  | 0, 0, _, _, _, _, _, _ => rfl
  | 0, k + 1, r0, r1, s0, s1, h, _ => by
    have : r1 = 0 := by omega
    simp only [eu, if_pos this]
  | n + 1, 0, r0, r1, s0, s1, _, h => by
    have : r1 = 0 := by omega
    simp only [eu, if_pos this]
  | n + 1, k + 1, r0, r1, s0, s1, h, h' => by
    simp only [eu]
    by_cases e : r1 = 0
    · rw [if_pos e, if_pos e]
    · have := Nat.mod_lt r0 (Nat.pos_of_ne_zero e)
      rw [if_neg e, if_neg e, eu_more n k _ _ _ _ (by omega) (by omega)]
def euE (r0 r1 : Nat) (s0 s1 : Int) : Nat × Int := eu r1 r0 r1 s0 s1
theorem euE_zero (r0 : Nat) (s0 s1 : Int) : euE r0 0 s0 s1 = (r0, s0) := rfl
theorem euE_step {r0 r1 : Nat} (h : r1 ≠ 0) (s0 s1 : Int) : euE r0 r1 s0 s1 = euE r1 (r0 % r1) s1 (s0 - ((r0 / r1 : Nat) : Int) * s1) := by
  unfold euE
  obtain ⟨k, rfl⟩ : ∃ k, r1 = k + 1 := ⟨r1 - 1, by omega⟩
  rw [eu, if_neg h]
  have : r0 % (k + 1) < k + 1 := Nat.mod_lt r0 (Nat.succ_pos k)
  exact eu_more _ _ _ _ _ _ (by omega) (Nat.le_refl _)
theorem eu_gcd : ∀ (n r0 r1 : Nat) (s0 s1 : Int), r1 ≤ n → (eu n r0 r1 s0 s1).1 = Nat.gcd r1 r0
  | 0, r0, r1, s0, s1, h => by
    have : r1 = 0 := by omega
    subst this
    simp [eu]
  | n + 1, r0, r1, s0, s1, h => by
    simp only [eu]
    by_cases e : r1 = 0
    · subst e
      simp
    · have := Nat.mod_lt r0 (Nat.pos_of_ne_zero e)
      rw [if_neg e, eu_gcd n _ _ _ _ (by omega), Nat.gcd_rec r1 r0]
theorem euE_gcd (r0 r1 : Nat) (s0 s1 : Int) : (euE r0 r1 s0 s1).1 = Nat.gcd r1 r0 := eu_gcd _ _ _ _ _ (Nat.le_refl _)

/-- What holds at each of Euclid's steps. -/
structure EuK (m a r0 r1 : Nat) (s0 s1 : Int) : Prop where
  lt : r1 < r0
  d0 : (m : Int) ∣ (a : Int) * s0 - r0
  d1 : (m : Int) ∣ (a : Int) * s1 - r1
  sg : (s0 ≤ 0 ∧ 0 ≤ s1 ∧ (r0 : Int) * s1 - (r1 : Int) * s0 = m) ∨ (0 ≤ s0 ∧ s1 ≤ 0 ∧ (r1 : Int) * s0 - (r0 : Int) * s1 = m)
  le : s0.natAbs ≤ s1.natAbs
  tw : r1 = 0 → 2 * s0.natAbs ≤ s1.natAbs
theorem EuK.start {m a : Nat} (h : a < m) : EuK m a m a 0 1 where
  lt := h
  d0 := ⟨-1, by omega⟩
  d1 := ⟨0, by omega⟩
  sg := .inl ⟨by omega, by omega, by omega⟩
  le := by decide
  tw := fun _ => by decide
theorem EuK.step {m a r0 r1 : Nat} {s0 s1 : Int} (k : EuK m a r0 r1 s0 s1) (h : r1 ≠ 0) : EuK m a r1 (r0 % r1) s1 (s0 - ((r0 / r1 : Nat) : Int) * s1) := by
  have hr := Nat.div_add_mod r0 r1
  have hlt := Nat.mod_lt r0 (Nat.pos_of_ne_zero h)
  have hq : 1 ≤ r0 / r1 := by
    rw [Nat.le_div_iff_mul_le (Nat.pos_of_ne_zero h)]
    have := k.lt
    omega
  have hq2 : r0 % r1 = 0 → 2 ≤ r0 / r1 := by
    intro e
    have h1 := k.lt
    rcases Nat.lt_or_ge (r0 / r1) 2 with g | g
    · have : r0 / r1 = 1 := by omega
      rw [this, e] at hr
      omega
    · exact g
  have e0 : (r0 : Int) = (r1 : Int) * ((r0 / r1 : Nat) : Int) + ((r0 % r1 : Nat) : Int) := by exact_mod_cast hr.symm
  generalize r0 / r1 = q at *
  generalize r0 % r1 = r2 at *
  have hab : s0.natAbs ≤ s1.natAbs := k.le
  have hsg := k.sg
  have hz : ∀ t : Nat, t ≤ q → ∃ z : Int, (q : Int) * s1 = z ∧ (0 ≤ s1 → (t : Int) * s1 ≤ z) ∧ (s1 ≤ 0 → z ≤ (t : Int) * s1) := by
    intro t ht
    refine ⟨_, rfl, fun g => Int.mul_le_mul_of_nonneg_right (by omega) g, fun g => ?_⟩
    have := Int.mul_le_mul_of_nonneg_right (show (t : Int) ≤ q by omega) (show 0 ≤ -s1 by omega)
    rw [Int.mul_neg, Int.mul_neg] at this
    omega
  refine ⟨hlt, k.d1, ?_, ?_, ?_, ?_⟩
  · obtain ⟨u, hu⟩ := k.d0
    obtain ⟨v, hv⟩ := k.d1
    refine ⟨u - q * v, ?_⟩
    rw [Int.mul_sub (m : Int), ← Int.mul_assoc (m : Int), Int.mul_comm (m : Int) q, Int.mul_assoc (q : Int), ← hu, ← hv]
    grind
  · rcases hsg with ⟨g1, g2, g3⟩ | ⟨g1, g2, g3⟩
    · refine .inr ⟨g2, ?_, by grind⟩
      obtain ⟨z, hz1, hz2, _⟩ := hz 1 hq
      have := hz2 g2
      omega
    · refine .inl ⟨g2, ?_, by grind⟩
      obtain ⟨z, hz1, _, hz3⟩ := hz 1 hq
      have := hz3 g2
      omega
  · obtain ⟨z, hz1, hz2, hz3⟩ := hz 1 hq
    rw [hz1]
    rcases hsg with ⟨g1, g2, g3⟩ | ⟨g1, g2, g3⟩
    · have := hz2 g2; omega
    · have := hz3 g2; omega
  · intro e
    obtain ⟨z, hz1, hz2, hz3⟩ := hz 2 (hq2 e)
    rw [hz1]
    rcases hsg with ⟨g1, g2, g3⟩ | ⟨g1, g2, g3⟩
    · have := hz2 g2; omega
    · have := hz3 g2; omega
theorem EuK.half {m a r0 : Nat} {s0 s1 : Int} (k : EuK m a r0 0 s0 s1) : 2 * s0.natAbs ≤ m := by
  have h1 := k.tw rfl
  have h2 := k.lt
  have h3 : r0 * s1.natAbs = m := by
    rcases k.sg with ⟨_, g, e⟩ | ⟨_, g, e⟩
    · obtain ⟨n, rfl⟩ := Int.eq_ofNat_of_zero_le g
      simp only [Int.natAbs_natCast]
      have : ((r0 * n : Nat) : Int) = m := by rw [Int.natCast_mul]; simpa using e
      exact_mod_cast this
    · obtain ⟨n, hn⟩ := Int.eq_ofNat_of_zero_le (show 0 ≤ -s1 by omega)
      obtain rfl : s1 = -(n : Int) := by omega
      simp only [Int.natAbs_neg, Int.natAbs_natCast]
      have : ((r0 * n : Nat) : Int) = m := by rw [Int.natCast_mul]; rw [Int.mul_neg] at e; omega
      exact_mod_cast this
  have : 1 * s1.natAbs ≤ r0 * s1.natAbs := Nat.mul_le_mul_right _ h2
  omega

/-- Several steps at once. -/
structure Goes (r0 r1 R0 R1 : Nat) (a b c d : Int) : Prop where
  e0 : (R0 : Int) = a * r0 + b * r1
  e1 : (R1 : Int) = c * r0 + d * r1
  gE : ∀ s0 s1, euE r0 r1 s0 s1 = euE R0 R1 (a * s0 + b * s1) (c * s0 + d * s1)
  gK : ∀ (m x : Nat) (s0 s1 : Int), EuK m x r0 r1 s0 s1 → EuK m x R0 R1 (a * s0 + b * s1) (c * s0 + d * s1)
theorem Goes.id (r0 r1 : Nat) : Goes r0 r1 r0 r1 1 0 0 1 where
  e0 := by omega
  e1 := by omega
  gE s0 s1 := by rw [show (1 : Int) * s0 + 0 * s1 = s0 by omega, show (0 : Int) * s0 + 1 * s1 = s1 by omega]
  gK m x s0 s1 k := by rw [show (1 : Int) * s0 + 0 * s1 = s0 by omega, show (0 : Int) * s0 + 1 * s1 = s1 by omega]; exact k
theorem Goes.step {r0 r1 R0 R1 : Nat} {a b c d : Int} (g : Goes r0 r1 R0 R1 a b c d) (h : R1 ≠ 0) {q : Int} (hq : ((R0 / R1 : Nat) : Int) = q) : Goes r0 r1 R1 (R0 % R1) c d (a - q * c) (b - q * d) where
  e0 := g.e1
  e1 := by
    have h1 : (R0 : Int) = (R1 : Int) * ((R0 / R1 : Nat) : Int) + ((R0 % R1 : Nat) : Int) := by exact_mod_cast (Nat.div_add_mod R0 R1).symm
    have h2 := g.e0
    have h3 := g.e1
    rw [hq] at h1
    grind
  gE s0 s1 := by
    rw [g.gE, euE_step h, hq]
    congr 1
    grind
  gK m x s0 s1 k := by
    have := (g.gK m x s0 s1 k).step h
    rw [hq] at this
    rw [show (a - q * c) * s0 + (b - q * d) * s1 = a * s0 + b * s1 - q * (c * s0 + d * s1) by grind]
    exact this

/-- Steps as long as the highest bits tell them. -/
def fs : Nat → Int → Int → Int → Int → Int → Int → Int × Int × Int × Int
  | 0, _, _, a, b, c, d => (a, b, c, d)
  | n + 1, x, y, a, b, c, d => if y + c = 0 ∨ y + d = 0 then (a, b, c, d) else if (x + a) / (y + c) ≠ (x + b) / (y + d) then (a, b, c, d) else fs n y (x - (x + a) / (y + c) * y) c d (a - (x + a) / (y + c) * c) (b - (x + a) / (y + c) * d)

theorem low_side {y c d e0 e1 B t : Int} (hs : (c ≤ 0 ∧ 0 ≤ d) ∨ (0 ≤ c ∧ d ≤ 0)) (h0 : 0 ≤ e0) (h0' : e0 ≤ B) (h1 : 0 ≤ e1) (h1' : e1 ≤ B) (hc : t ≤ y + c) (hd : t ≤ y + d) : t * B ≤ y * B + c * e0 + d * e1 := by
  rcases hs with ⟨g1, g2⟩ | ⟨g1, g2⟩
  · have p1 := Int.mul_le_mul_of_nonpos_left g1 h0'
    have p2 := Int.mul_nonneg g2 h1
    have p3 := Int.mul_le_mul_of_nonneg_right hc (show 0 ≤ B by omega)
    rw [Int.add_mul] at p3
    omega
  · have p1 := Int.mul_le_mul_of_nonpos_left g2 h1'
    have p2 := Int.mul_nonneg g1 h0
    have p3 := Int.mul_le_mul_of_nonneg_right hd (show 0 ≤ B by omega)
    rw [Int.add_mul] at p3
    omega
theorem high_side {y c d e0 e1 B t : Int} (hs : (c ≤ 0 ∧ 0 ≤ d) ∨ (0 ≤ c ∧ d ≤ 0)) (h0 : 0 ≤ e0) (h0' : e0 ≤ B) (h1 : 0 ≤ e1) (h1' : e1 ≤ B) (hc : y + c ≤ t) (hd : y + d ≤ t) : y * B + c * e0 + d * e1 ≤ t * B := by
  have := low_side (y := -y) (c := -c) (d := -d) (t := -t) (by omega) h0 h0' h1 h1' (by omega) (by omega)
  rw [Int.neg_mul, Int.neg_mul, Int.neg_mul, Int.neg_mul] at this
  omega
theorem nn_of_mul {x n : Int} (hn : 0 < n) (h : 0 ≤ x * n) : 0 ≤ x := by
  rcases Int.lt_or_le x 0 with g | g
  · have := Int.mul_neg_of_neg_of_pos g hn
    omega
  · exact g
theorem pos_of_mul' {x n : Int} (hn : 0 < n) (h : 0 < x * n) : 0 < x := by
  rcases Int.lt_or_le 0 x with g | g
  · exact g
  · have := Int.mul_nonpos_of_nonpos_of_nonneg g (Int.le_of_lt hn)
    omega

theorem ring1 {r0 r1 N x0 y0 B e0 e1 c d : Int} (h0 : r0 * N = x0 * B + e0) (h1 : r1 * N = y0 * B + e1) : (c * r0 + d * r1) * N = (c * x0 + d * y0) * B + c * e0 + d * e1 := by grind
theorem ring2 {r0 r1 N x0 y0 B e0 e1 a b c d q : Int} (h0 : r0 * N = x0 * B + e0) (h1 : r1 * N = y0 * B + e1) : (a * r0 + b * r1 - q * (c * r0 + d * r1)) * N = (a * x0 + b * y0 - q * (c * x0 + d * y0)) * B + (a - q * c) * e0 + (b - q * d) * e1 := by grind
theorem ring3 {r0 r1 N x0 y0 B e0 e1 a b c d q : Int} (h0 : r0 * N = x0 * B + e0) (h1 : r1 * N = y0 * B + e1) : (a * r0 + b * r1 - q * (c * r0 + d * r1) - (c * r0 + d * r1)) * N = (a * x0 + b * y0 - q * (c * x0 + d * y0) - (c * x0 + d * y0)) * B + (a - q * c - c) * e0 + (b - q * d - d) * e1 := by grind
theorem ring4 {x y a c q u : Int} (h : (y + c) * q + u = x + a) : x - q * y + (a - q * c) = u := by grind
theorem ring5 {x0 y0 x y a b c d q : Int} (ex : x = a * x0 + b * y0) (ey : y = c * x0 + d * y0) : (c * (b - q * d) - d * (a - q * c)) * (x0 + 1) = (b - q * d) * (y + c) - d * (x - q * y + (a - q * c)) := by subst ex ey; grind
theorem ring6 {x0 y0 x y a b c d q : Int} (ex : x = a * x0 + b * y0) (ey : y = c * x0 + d * y0) : (c * (b - q * d) - d * (a - q * c)) * y0 = c * (x - q * y + (a - q * c)) - (a - q * c) * (y + c) := by subst ex ey; grind
theorem ring7 {a b c d q : Int} : c * (b - q * d) - d * (a - q * c) = -(a * d - b * c) := by grind
theorem ring8 {x0 y0 x y a b c d q : Int} (ex : x = a * x0 + b * y0) (ey : y = c * x0 + d * y0) : x - q * y = (a - q * c) * x0 + (b - q * d) * y0 := by subst ex ey; grind

/-- What holds where the highest bits tell the steps. W: what they are below. -/
structure FsK (r0 r1 : Nat) (N B x0 y0 e0 e1 W : Int) (x y a b c d : Int) : Prop where
  g : ∃ R0 R1 : Nat, Goes r0 r1 R0 R1 a b c d ∧ (R1 < r1 ∨ R1 = r1 ∧ b = 0)
  ex : x = a * x0 + b * y0
  ey : y = c * x0 + d * y0
  p1 : 1 ≤ x + a ∧ x + a ≤ W
  p2 : 1 ≤ x + b ∧ x + b ≤ W
  p3 : 0 ≤ y + c ∧ y + c ≤ W
  p4 : 0 ≤ y + d ∧ y + d ≤ W
  sg : (0 ≤ a ∧ b ≤ 0 ∧ c ≤ 0 ∧ 0 ≤ d ∧ a * d - b * c = 1) ∨ (a ≤ 0 ∧ 0 ≤ b ∧ 0 ≤ c ∧ d ≤ 0 ∧ a * d - b * c = -1)
  ba : a.natAbs ≤ W.toNat
  bb : b.natAbs ≤ W.toNat
  bc : c.natAbs ≤ W.toNat
  bd : d.natAbs ≤ W.toNat

structure FsC (r0 r1 : Nat) (N B x0 y0 e0 e1 W : Int) : Prop where
  N0 : 0 < N
  h0 : (r0 : Int) * N = x0 * B + e0
  h1 : (r1 : Int) * N = y0 * B + e1
  l0 : 0 ≤ e0 ∧ e0 < B
  l1 : 0 ≤ e1 ∧ e1 < B
  x1 : 1 ≤ x0 ∧ x0 < W
  y1 : 0 ≤ y0 ∧ y0 < W

theorem FsK.start {r0 r1 : Nat} {N B x0 y0 e0 e1 W : Int} (k : FsC r0 r1 N B x0 y0 e0 e1 W) : FsK r0 r1 N B x0 y0 e0 e1 W x0 y0 1 0 0 1 := by
  obtain ⟨_, _, _, _, _, x1, y1⟩ := k
  refine ⟨⟨r0, r1, Goes.id _ _, .inr ⟨rfl, rfl⟩⟩, by omega, by omega, by omega, by omega, by omega, by omega, .inl (by omega), ?_, ?_, ?_, ?_⟩ <;> omega

theorem sg_next {a b c d q : Int} (hq : 0 ≤ q) (sg : (0 ≤ a ∧ b ≤ 0 ∧ c ≤ 0 ∧ 0 ≤ d ∧ a * d - b * c = 1) ∨ (a ≤ 0 ∧ 0 ≤ b ∧ 0 ≤ c ∧ d ≤ 0 ∧ a * d - b * c = -1)) :
    (0 ≤ c ∧ d ≤ 0 ∧ a - q * c ≤ 0 ∧ 0 ≤ b - q * d ∧ c * (b - q * d) - d * (a - q * c) = 1) ∨ (c ≤ 0 ∧ 0 ≤ d ∧ 0 ≤ a - q * c ∧ b - q * d ≤ 0 ∧ c * (b - q * d) - d * (a - q * c) = -1) := by
  have sgc : (0 ≤ c → 0 ≤ q * c) ∧ (c ≤ 0 → q * c ≤ 0) := ⟨fun h => Int.mul_nonneg hq h, fun h => Int.mul_nonpos_of_nonneg_of_nonpos hq h⟩
  have sgd : (0 ≤ d → 0 ≤ q * d) ∧ (d ≤ 0 → q * d ≤ 0) := ⟨fun h => Int.mul_nonneg hq h, fun h => Int.mul_nonpos_of_nonneg_of_nonpos hq h⟩
  rw [ring7]
  generalize a * d - b * c = D at *
  generalize q * c = Z at *
  generalize q * d = Y at *
  rcases sg with ⟨i1, i2, i3, i4, i5⟩ | ⟨i1, i2, i3, i4, i5⟩
  · refine .inr ⟨i3, i4, ?_, ?_, ?_⟩ <;> omega
  · refine .inl ⟨i3, i4, ?_, ?_, ?_⟩ <;> omega
theorem quot_told {R0 R1 : Nat} {N B e0 e1 x' y c d c' d' q : Int} (N0 : 0 < N) (B0 : 0 < B) (l0 : 0 ≤ e0 ∧ e0 < B) (l1 : 0 ≤ e1 ∧ e1 < B)
    (s1 : (R1 : Int) * N = y * B + c * e0 + d * e1) (s2 : ((R0 : Int) - q * R1) * N = x' * B + c' * e0 + d' * e1) (s3 : ((R0 : Int) - q * R1 - R1) * N = (x' - y) * B + (c' - c) * e0 + (d' - d) * e1)
    (sg : (0 ≤ c ∧ d ≤ 0 ∧ c' ≤ 0 ∧ 0 ≤ d') ∨ (c ≤ 0 ∧ 0 ≤ d ∧ 0 ≤ c' ∧ d' ≤ 0)) (p1 : 1 ≤ y + c) (p2 : 1 ≤ y + d) (p3 : 0 ≤ x' + c') (p4 : 0 ≤ x' + d') (p5 : x' + c' < y + c) (p6 : x' + d' < y + d) :
    R1 ≠ 0 ∧ ((R0 / R1 : Nat) : Int) = q := by
  have g1 : (c ≤ 0 ∧ 0 ≤ d) ∨ (0 ≤ c ∧ d ≤ 0) := by rcases sg with h | h <;> omega
  have g2 : (c' ≤ 0 ∧ 0 ≤ d') ∨ (0 ≤ c' ∧ d' ≤ 0) := by rcases sg with h | h <;> omega
  have g3 : (c' - c ≤ 0 ∧ 0 ≤ d' - d) ∨ (0 ≤ c' - c ∧ d' - d ≤ 0) := by rcases sg with h | h <;> omega
  have z1 : 0 < (R1 : Int) := by
    refine pos_of_mul' N0 ?_
    rw [s1]
    have := low_side (y := y) (c := c) (d := d) (t := 1) g1 l0.1 (Int.le_of_lt l0.2) l1.1 (Int.le_of_lt l1.2) p1 p2
    rw [Int.one_mul] at this
    exact Int.lt_of_lt_of_le B0 this
  have z2 : 0 ≤ (R0 : Int) - q * R1 := by
    refine nn_of_mul N0 ?_
    rw [s2]
    have := low_side (y := x') (c := c') (d := d') (t := 0) g2 l0.1 (Int.le_of_lt l0.2) l1.1 (Int.le_of_lt l1.2) p3 p4
    rwa [Int.zero_mul] at this
  have z3 : (R0 : Int) - q * R1 - R1 < 0 := by
    have : 0 < -((R0 : Int) - q * R1 - R1) := by
      refine pos_of_mul' N0 ?_
      rw [Int.neg_mul, s3]
      have := high_side (y := x' - y) (c := c' - c) (d := d' - d) (t := -1) g3 l0.1 (Int.le_of_lt l0.2) l1.1 (Int.le_of_lt l1.2) (by omega) (by omega)
      rw [Int.neg_mul, Int.one_mul] at this
      omega
    omega
  refine ⟨by omega, ?_⟩
  rw [Int.natCast_ediv]
  refine Int.le_antisymm ?_ (Int.le_ediv_of_mul_le z1 (by omega))
  have := Int.ediv_lt_of_lt_mul z1 (show (R0 : Int) < (q + 1) * R1 by rw [Int.add_mul]; omega)
  omega
theorem ent_le {w u c d c' d' y0 x0 W : Int} (hw : 1 ≤ w) (hu : 0 ≤ u) (x1 : x0 + 1 ≤ W) (y1 : y0 ≤ W)
    (sg : (0 ≤ c ∧ d ≤ 0 ∧ c' ≤ 0 ∧ 0 ≤ d' ∧ c * d' - d * c' = 1) ∨ (c ≤ 0 ∧ 0 ≤ d ∧ 0 ≤ c' ∧ d' ≤ 0 ∧ c * d' - d * c' = -1))
    (f1 : (c * d' - d * c') * (x0 + 1) = d' * w - d * u) (f2 : (c * d' - d * c') * y0 = c * u - c' * w) : c'.natAbs ≤ W.toNat ∧ d'.natAbs ≤ W.toNat := by
  have big : ∀ A : Int, (0 ≤ A → A ≤ A * w) ∧ (A ≤ 0 → A * w ≤ A) := by
    intro A
    refine ⟨fun h => ?_, fun h => ?_⟩
    · have := Int.mul_le_mul_of_nonneg_left hw h
      omega
    · have := Int.mul_le_mul_of_nonpos_left h hw
      omega
  have bD := big d'
  have bC := big c'
  have sgu : ∀ A : Int, (0 ≤ A → 0 ≤ A * u) ∧ (A ≤ 0 → A * u ≤ 0) := fun A => ⟨fun h => Int.mul_nonneg h hu, fun h => Int.mul_nonpos_of_nonpos_of_nonneg h hu⟩
  have uD := sgu d
  have uC := sgu c
  clear big sgu
  rcases sg with ⟨i1, i2, i3, i4, i5⟩ | ⟨i1, i2, i3, i4, i5⟩
  · rw [i5] at f1 f2
    have a1 := uC.1 i1
    have a2 := bC.2 i3
    have a3 := uD.2 i2
    have a4 := bD.1 i4
    clear uD uC bD bC
    generalize c' * w = z1 at *
    generalize d' * w = z2 at *
    generalize c * u = z3 at *
    generalize d * u = z4 at *
    omega
  · rw [i5] at f1 f2
    have a1 := uC.2 i1
    have a2 := bC.1 i3
    have a3 := uD.1 i2
    have a4 := bD.2 i4
    clear uD uC bD bC
    generalize c' * w = z1 at *
    generalize d' * w = z2 at *
    generalize c * u = z3 at *
    generalize d * u = z4 at *
    omega
theorem FsK.step {r0 r1 : Nat} {N B x0 y0 e0 e1 W x y a b c d q : Int} (k : FsC r0 r1 N B x0 y0 e0 e1 W) (f : FsK r0 r1 N B x0 y0 e0 e1 W x y a b c d) (hc : y + c ≠ 0) (hd : y + d ≠ 0) (q1 : (x + a) / (y + c) = q) (q2 : (x + b) / (y + d) = q) :
    FsK r0 r1 N B x0 y0 e0 e1 W y (x - q * y) c d (a - q * c) (b - q * d) ∧ x - q * y + (a - q * c) < y + c := by
  obtain ⟨⟨R0, R1, g, hg⟩, ex, ey, p1, p2, p3, p4, sg, ba, bb, bc, bd⟩ := f
  obtain ⟨N0, h0, h1, l0, l1, x1, y1⟩ := k
  have hq : 0 ≤ q := by rw [← q1]; exact Int.ediv_nonneg (Int.le_trans (by decide) p1.1) p3.1
  have hw : 1 ≤ y + c := by clear sg; omega
  have hw' : 1 ≤ y + d := by clear sg; omega
  have u1 : (y + c) * q + (x + a) % (y + c) = x + a := by rw [← q1]; exact Int.mul_ediv_add_emod _ _
  have u2 : (y + d) * q + (x + b) % (y + d) = x + b := by rw [← q2]; exact Int.mul_ediv_add_emod _ _
  have v1 := Int.emod_nonneg (x + a) hc
  have v2 := Int.emod_nonneg (x + b) hd
  have w1 := Int.emod_lt_of_pos (x + a) hw
  have w2 := Int.emod_lt_of_pos (x + b) hw'
  have t1 : x - q * y + (a - q * c) = (x + a) % (y + c) := ring4 u1
  have t2 : x - q * y + (b - q * d) = (x + b) % (y + d) := ring4 u2
  rw [← t1] at v1 w1
  rw [← t2] at v2 w2
  have E0 := g.e0
  have E1 := g.e1
  have s1 : (R1 : Int) * N = y * B + c * e0 + d * e1 := by rw [E1, ey]; exact ring1 h0 h1
  have s2 : ((R0 : Int) - q * R1) * N = (x - q * y) * B + (a - q * c) * e0 + (b - q * d) * e1 := by rw [E0, E1, ex, ey]; exact ring2 h0 h1
  have s3 : ((R0 : Int) - q * R1 - R1) * N = (x - q * y - y) * B + (a - q * c - c) * e0 + (b - q * d - d) * e1 := by rw [E0, E1, ex, ey]; exact ring3 h0 h1
  have nsg := sg_next hq sg
  have nsg' : (0 ≤ c ∧ d ≤ 0 ∧ a - q * c ≤ 0 ∧ 0 ≤ b - q * d) ∨ (c ≤ 0 ∧ 0 ≤ d ∧ 0 ≤ a - q * c ∧ b - q * d ≤ 0) := nsg.imp (fun h => ⟨h.1, h.2.1, h.2.2.1, h.2.2.2.1⟩) (fun h => ⟨h.1, h.2.1, h.2.2.1, h.2.2.2.1⟩)
  obtain ⟨hR, hQ⟩ := quot_told N0 (Int.lt_of_le_of_lt l0.1 l0.2) l0 l1 s1 s2 s3 nsg' hw hw' v1 v2 w1 w2
  have hmod := Nat.mod_lt R0 (Nat.pos_of_ne_zero hR)
  obtain ⟨b1, b2⟩ := ent_le hw v1 (show x0 + 1 ≤ W by omega) (show y0 ≤ W by omega) nsg (ring5 ex ey) (ring6 ex ey)
  refine ⟨⟨⟨R1, R0 % R1, g.step hR hQ, .inl ?_⟩, ey, ring8 ex ey, ⟨hw, p3.2⟩, ⟨hw', p4.2⟩, ⟨v1, Int.le_of_lt (Int.lt_of_lt_of_le w1 p3.2)⟩, ⟨v2, Int.le_of_lt (Int.lt_of_lt_of_le w2 p4.2)⟩, ?_, bc, bd, b1, b2⟩, w1⟩
  · rcases hg with h | h
    · exact Nat.lt_trans hmod h
    · rw [← h.1]; exact hmod
  · rcases nsg with h | h
    · exact .inl h
    · exact .inr h
theorem FsK.run {r0 r1 : Nat} {N B x0 y0 e0 e1 W : Int} (k : FsC r0 r1 N B x0 y0 e0 e1 W) : ∀ (n : Nat) (x y a b c d : Int), FsK r0 r1 N B x0 y0 e0 e1 W x y a b c d →
    ∃ x' y' : Int, FsK r0 r1 N B x0 y0 e0 e1 W x' y' (fs n x y a b c d).1 (fs n x y a b c d).2.1 (fs n x y a b c d).2.2.1 (fs n x y a b c d).2.2.2
  | 0, x, y, a, b, c, d, f => ⟨x, y, f⟩
  | n + 1, x, y, a, b, c, d, f => by
    simp only [fs]
    by_cases e1 : y + c = 0 ∨ y + d = 0
    · rw [if_pos e1]; exact ⟨x, y, f⟩
    · rw [if_neg e1]
      by_cases e2 : (x + a) / (y + c) ≠ (x + b) / (y + d)
      · rw [if_pos e2]; exact ⟨x, y, f⟩
      · rw [if_neg e2]
        exact FsK.run k n _ _ _ _ _ _ (f.step k (by omega) (by omega) rfl (by omega)).1
end Go.Sx
end

section
/-
  Package field: inverses: reckoned by the kernel. (Laid by program.)
-/
namespace Go.Proofs.YtbfcccoeekonlaaDoor
open Go.Sx
set_option maxRecDepth 100000
def wrN (z : Int) : Nat := (z % (M256 : Int)).toNat
def signedC (z : Int) : List Prop := [i64ok z]
def signedG (z : Int) : SV := .one (sU (wrN z))
def highN (a : Nat) (n : Int) : Nat := a % M256 * 2 ^ n.toNat / 2 ^ 194
def highC (a : Nat) (n : Int) : List Prop := [0 ≤ n ∧ n ≤ 255, a % M256 * 2 ^ n.toNat < M256]
def highG (a : Nat) (n : Int) : SV := .one (sI .i64 ((highN a n : Nat) : Int))
def foN (p : Nat) : Int := ((256 - bitsN (p % M256) : Nat) : Int)
def foR (p q : Nat) : Int × Int × Int × Int := fs (highN q (foN p) + 1) (highN p (foN p) : Nat) (highN q (foN p) : Nat) 1 0 0 1
def foC : List (List At) → List Prop
  | [[.u p, .u q]] => [q % M256 < p % M256]
  | _ => [False]
def foG : List (List At) → SV
  | [[.u p, .u q]] => .tup [.agg [.u (wrN (foR p q).1), .u (wrN (foR p q).2.1), .u (wrN (foR p q).2.2.1), .u (wrN (foR p q).2.2.2)], sB (!((foR p q).2.1 == 0))]
  | _ => .tup []
def turnC : List (List At) → List Prop
  | [[.u _, .u _, .u _, .u _], [.u _, .u _]] => []
  | _ => [False]
def turnG : List (List At) → SV
  | [[.u a, .u b, .u c, .u d], [.u p, .u q]] => .one (.agg [.u (a * p + b * q), .u (c * p + d * q)])
  | _ => .tup []
def aboveG (a m : Nat) : SV := .one (sU (if 2 ^ 255 ≤ a % M256 then a + m else a))
def invN (a m : Nat) : Nat := if (euE m a 0 1).1 = 1 then ((euE m a 0 1).2 % (m : Int)).toNat else 0
def invE (a m : Nat) : Int := if (euE m a 0 1).1 = 1 then 0 else 5
def inverseC (a m : Nat) : List Prop := [a % M256 < m % M256]
def inverseG (a m : Nat) : SV := .tup [sU (invN (a % M256) (m % M256)), sI .i64 (invE (a % M256) (m % M256))]
def finvE (a m : Nat) : Int := if m % M256 = 0 then 7 else if a % M256 < m % M256 then invE (a % M256) (m % M256) else 6
def finvG (a m : Nat) : SV := .tup [sU (if finvE a m = 0 then invN (a % M256) (m % M256) else 0), sI .i64 (finvE a m)]
def zeroT : List SK := zeroU ++ zeroU ++ zeroU ++ zeroU
def invFo (p q : Nat) : Inv where
  X := Int × Int × Int × Int × Int × Int × Nat
  tm j := slotsAt 80 [(2, .one (.sc (.ptr 1 0))), (5, .one (sI .i64 j.1)), (6, .one (sI .i64 j.2.1)), (7, .one (sI .i64 j.2.2.1)), (8, .one (sI .i64 j.2.2.2.1)), (9, .one (sI .i64 j.2.2.2.2.1)), (10, .one (sI .i64 j.2.2.2.2.2.1))]
  ob _ := [.cells 108 [.u p, .u q] 0, .cells 110 zeroT 0]
  holds j := fs j.2.2.2.2.2.2 j.1 j.2.1 j.2.2.1 j.2.2.2.1 j.2.2.2.2.1 j.2.2.2.2.2.1 = foR p q ∧ (j.2.1 + j.2.2.2.2.1).toNat < j.2.2.2.2.2.2 ∧
    ∃ N B e0 e1 : Int, FsC (p % M256) (q % M256) N B (highN p (foN p) : Nat) (highN q (foN p) : Nat) e0 e1 (2 ^ 62) ∧ FsK (p % M256) (q % M256) N B (highN p (foN p) : Nat) (highN q (foN p) : Nat) e0 e1 (2 ^ 62) j.1 j.2.1 j.2.2.1 j.2.2.2.1 j.2.2.2.2.1 j.2.2.2.2.2.1
  less j := j.2.2.2.2.2.2
def cxFo : Cx := [(52, specU noughtsG), (74, specUJ highC highG), (75, specI signedC signedG)]
def cxTurn : Cx := [(54, specUU mulG), (56, specUU addG)]
def cxAbove : Cx := [(56, specUU addG)]
def invInv (a m : Nat) : Inv where
  X := Nat × Nat × Int × Int
  tm _ := slotsAt 44 [(2, .one (.sc (.ptr 0 0))), (3, .one (.sc (.ptr 1 0))), (4, .one (.sc (.ptr 2 0))), (6, .one (.sc (.ptr 3 0))), (7, .one (.sc (.ptr 4 0)))]
  ob j := [.cells 24 [.u a] 0, .cells 24 [.u m] 0, .cells 24 zeroU 0, .cells 108 [.u j.1, .u j.2.1] 0, .cells 108 [.u (wrN j.2.2.1), .u (wrN j.2.2.2)] 0]
  holds j := EuK (m % M256) (a % M256) j.1 j.2.1 j.2.2.1 j.2.2.2 ∧ euE j.1 j.2.1 j.2.2.1 j.2.2.2 = euE (m % M256) (a % M256) 0 1 ∧ j.1 ≤ m % M256
  less j := j.2.1
def cxInverse : Cx := [(66, specA [.str [.u, .u]] foC foG), (68, specA [.str [.u, .u, .u, .u], .str [.u, .u]] turnC turnG), (69, specUU aboveG), (76, specUU dmG), (57, specUU subG)]
def cxInv : Cx := [(24, specUU cmpG), (58, specUUC inverseC inverseG)]
-- VC vc_signed HASH 112e6f980bb1209c
theorem vc_signed (z : Int) :
    Owes Tryd.prog Cx.none [] 100 Tryd.f75 [sI .i64 z] (signedG z) =
    (let x1 : Int := Go.IntKind.u64.wrap (z.fdiv (9223372036854775808 : Int)); ((0 : Int) ≤ Go.IntKind.u64.wrap z ∧ Go.IntKind.u64.wrap z < (18446744073709551616 : Int)) ∧ ((0 : Int) ≤ x1 ∧ x1 < (18446744073709551616 : Int)) ∧ ((0 : Int) ≤ x1 ∧ x1 < (18446744073709551616 : Int)) ∧ ((0 : Int) ≤ x1 ∧ x1 < (18446744073709551616 : Int)) ∧ Go.Sx.join (Go.IntKind.u64.wrap z) x1 x1 x1 % Go.Sx.M256 = wrN z % Go.Sx.M256 ∧ True) := by kernel_rfl
-- END VC
-- VC vc_highest HASH 9c4b98e673ac0f89
theorem vc_highest (a : Nat) (n : Int) :
    Owes Tryd.prog Cx.none [] 100 Tryd.f74 [sU a, sI .i64 n] (highG a n) =
    (let x1 : Int := Go.IntKind.i64.wrap ((3 : Int) - Go.IntKind.i64.wrap (n.tdiv (64 : Int))); let x2 : Int := Go.IntKind.i64.wrap (x1 - (1 : Int)); let x3 : Int := Go.IntKind.i64.wrap ((64 : Int) - n.tmod (64 : Int)); let x4 : Int := Go.IntKind.u64.wrap (Go.Sx.limb a x1.toNat * (2 : Int) ^ Min.min (n.tmod (64 : Int)).toNat (64 : Nat)); ((0 : Int) ≤ x1 ∧ x1 < (4 : Int)) ∧ ((0 : Int) ≤ x1 ∧ x1 < (4 : Int)) ∧ (0 : Int) ≤ n.tmod (64 : Int) ∧ (Decidable.decide (x1 > (0 : Int)) = Bool.true → ((0 : Int) ≤ x2 ∧ x2 < (4 : Int)) ∧ ((0 : Int) ≤ x2 ∧ x2 < (4 : Int)) ∧ (0 : Int) ≤ x3 ∧ Go.IntKind.i64.wrap ((Go.IntKind.u64.wrap (↑(BitVec.ofInt (64 : Nat) x4 ||| BitVec.ofInt (64 : Nat) ((Go.Sx.limb a x2.toNat).fdiv ((2 : Int) ^ Min.min x3.toNat (64 : Nat)))).toNat : Int)).fdiv (4 : Int)) = (↑(highN a n) : Int)) ∧ (Decidable.decide (x1 > (0 : Int)) = Bool.false → Go.IntKind.i64.wrap (x4.fdiv (4 : Int)) = (↑(highN a n) : Int))) := by kernel_rfl
-- END VC
-- VC vc_foresee HASH 7882f32bd018081d
theorem vc_foresee (p q : Nat) :
    Owes Tryd.prog cxFo [(4, .inv (invFo p q))] 100 Tryd.f66 [.agg [.u p, .u q]] (foG [[.u p, .u q]]) =
    (let x1 : Nat := p % Go.Sx.M256; let x2 : Int := (↑((256 : Nat) - bitsN x1) : Int); let x3 : Nat := (2 : Nat) ^ x2.toNat; let x4 : Nat := q % Go.Sx.M256; let x5 : Nat := wrN (foR p q).fst % Go.Sx.M256; let x6 : Int := (foR p q).snd.fst; let x7 : Nat := wrN x6 % Go.Sx.M256; let x8 : Nat := wrN (foR p q).snd.snd.fst % Go.Sx.M256; let x9 : Nat := wrN (foR p q).snd.snd.snd % Go.Sx.M256; let x10 : Bool := !x6 == (0 : Int); ((0 : Int) ≤ x2 ∧ x2 ≤ (255 : Int)) ∧ x1 * x3 < Go.Sx.M256 ∧ ((0 : Int) ≤ x2 ∧ x2 ≤ (255 : Int)) ∧ x4 * x3 < Go.Sx.M256 ∧ (∀ (y : Int × Int × Int × Int × Int × Int × Nat), Go.Sx.closedB (Go.Sx.slotsAt (80 : Nat) [((2 : Nat), Go.Sx.SV.one (Go.Sx.SA.sc (Go.Sx.SC.ptr (1 : Nat) (0 : Nat)))), ((5 : Nat), Go.Sx.SV.one (Go.Sx.sI Go.IntKind.i64 y.fst)), ((6 : Nat), Go.Sx.SV.one (Go.Sx.sI Go.IntKind.i64 y.snd.fst)), ((7 : Nat), Go.Sx.SV.one (Go.Sx.sI Go.IntKind.i64 y.snd.snd.fst)), ((8 : Nat), Go.Sx.SV.one (Go.Sx.sI Go.IntKind.i64 y.snd.snd.snd.fst)), ((9 : Nat), Go.Sx.SV.one (Go.Sx.sI Go.IntKind.i64 y.snd.snd.snd.snd.fst)), ((10 : Nat), Go.Sx.SV.one (Go.Sx.sI Go.IntKind.i64 y.snd.snd.snd.snd.snd.fst))]) [Go.Sx.SO.cells (108 : Go.TypeId) [Go.Sx.SK.u p, Go.Sx.SK.u q] (0 : Nat), Go.Sx.SO.cells (110 : Go.TypeId) zeroT (0 : Nat)] = Bool.true) ∧ ∃ (y : Int × Int × Int × Int × Int × Int × Nat), (Go.Sx.fs y.snd.snd.snd.snd.snd.snd y.fst y.snd.fst y.snd.snd.fst y.snd.snd.snd.fst y.snd.snd.snd.snd.fst y.snd.snd.snd.snd.snd.fst = foR p q ∧ (y.snd.fst + y.snd.snd.snd.snd.fst).toNat < y.snd.snd.snd.snd.snd.snd ∧ ∃ (N : Int), ∃ (B : Int), ∃ (e0 : Int), ∃ (e1 : Int), Go.Sx.FsC x1 x4 N B (↑(highN p (foN p)) : Int) (↑(highN q (foN p)) : Int) e0 e1 (4611686018427387904 : Int) ∧ Go.Sx.FsK x1 x4 N B (↑(highN p (foN p)) : Int) (↑(highN q (foN p)) : Int) e0 e1 (4611686018427387904 : Int) y.fst y.snd.fst y.snd.snd.fst y.snd.snd.snd.fst y.snd.snd.snd.snd.fst y.snd.snd.snd.snd.snd.fst) ∧ (↑(highN p x2) : Int) = y.fst ∧ (↑(highN q x2) : Int) = y.snd.fst ∧ (1 : Int) = y.snd.snd.fst ∧ (0 : Int) = y.snd.snd.snd.fst ∧ (0 : Int) = y.snd.snd.snd.snd.fst ∧ (1 : Int) = y.snd.snd.snd.snd.snd.fst ∧ x1 = x1 ∧ x4 = x4 ∧ (0 : Nat) = (0 : Nat) ∧ (0 : Nat) = (0 : Nat) ∧ ∀ (y : Int × Int × Int × Int × Int × Int × Nat), (Go.Sx.fs y.snd.snd.snd.snd.snd.snd y.fst y.snd.fst y.snd.snd.fst y.snd.snd.snd.fst y.snd.snd.snd.snd.fst y.snd.snd.snd.snd.snd.fst = foR p q ∧ (y.snd.fst + y.snd.snd.snd.snd.fst).toNat < y.snd.snd.snd.snd.snd.snd ∧ ∃ (N : Int), ∃ (B : Int), ∃ (e0 : Int), ∃ (e1 : Int), Go.Sx.FsC x1 x4 N B (↑(highN p (foN p)) : Int) (↑(highN q (foN p)) : Int) e0 e1 (4611686018427387904 : Int) ∧ Go.Sx.FsK x1 x4 N B (↑(highN p (foN p)) : Int) (↑(highN q (foN p)) : Int) e0 e1 (4611686018427387904 : Int) y.fst y.snd.fst y.snd.snd.fst y.snd.snd.snd.fst y.snd.snd.snd.snd.fst y.snd.snd.snd.snd.snd.fst) → ((Go.IntKind.i64.wrap (y.snd.fst + y.snd.snd.snd.snd.fst) != (0 : Int)) = Bool.true → (Go.IntKind.i64.wrap (y.snd.fst + y.snd.snd.snd.snd.fst) != (0 : Int)) = Bool.true) ∧ ((Go.IntKind.i64.wrap (y.snd.fst + y.snd.snd.snd.snd.fst) != (0 : Int)) = Bool.true → (Go.IntKind.i64.wrap (y.snd.fst + y.snd.snd.snd.snd.fst) != (0 : Int)) = Bool.true) ∧ ((Go.IntKind.i64.wrap (y.snd.fst + y.snd.snd.snd.snd.fst) != (0 : Int)) = Bool.true → (Go.IntKind.i64.wrap (y.snd.fst + y.snd.snd.snd.snd.fst) != (0 : Int)) = Bool.true) ∧ ((Go.IntKind.i64.wrap (y.snd.fst + y.snd.snd.snd.snd.fst) != (0 : Int)) = Bool.true → (Go.IntKind.i64.wrap (y.snd.fst + y.snd.snd.snd.snd.fst) != (0 : Int)) = Bool.true) ∧ ((Go.IntKind.i64.wrap (y.snd.fst + y.snd.snd.snd.snd.fst) != (0 : Int) && Go.IntKind.i64.wrap (y.snd.fst + y.snd.snd.snd.snd.snd.fst) != (0 : Int)) = Bool.true → Go.IntKind.i64.wrap (y.snd.fst + y.snd.snd.snd.snd.fst) ≠ (0 : Int) ∧ Go.IntKind.i64.wrap (y.snd.fst + y.snd.snd.snd.snd.snd.fst) ≠ (0 : Int) ∧ ((Go.IntKind.i64.wrap ((Go.IntKind.i64.wrap (y.fst + y.snd.snd.fst)).tdiv (Go.IntKind.i64.wrap (y.snd.fst + y.snd.snd.snd.snd.fst))) != Go.IntKind.i64.wrap ((Go.IntKind.i64.wrap (y.fst + y.snd.snd.snd.fst)).tdiv (Go.IntKind.i64.wrap (y.snd.fst + y.snd.snd.snd.snd.snd.fst)))) = Bool.true → ((-9223372036854775808 : Int) ≤ y.snd.snd.fst ∧ y.snd.snd.fst ≤ (9223372036854775807 : Int)) ∧ ((-9223372036854775808 : Int) ≤ y.snd.snd.snd.fst ∧ y.snd.snd.snd.fst ≤ (9223372036854775807 : Int)) ∧ ((-9223372036854775808 : Int) ≤ y.snd.snd.snd.snd.fst ∧ y.snd.snd.snd.snd.fst ≤ (9223372036854775807 : Int)) ∧ ((-9223372036854775808 : Int) ≤ y.snd.snd.snd.snd.snd.fst ∧ y.snd.snd.snd.snd.snd.fst ≤ (9223372036854775807 : Int)) ∧ (wrN y.snd.snd.fst % Go.Sx.M256 = x5 ∧ wrN y.snd.snd.snd.fst % Go.Sx.M256 = x7 ∧ wrN y.snd.snd.snd.snd.fst % Go.Sx.M256 = x8 ∧ wrN y.snd.snd.snd.snd.snd.fst % Go.Sx.M256 = x9 ∧ True) ∧ (y.snd.snd.snd.fst != (0 : Int)) = x10) ∧ ((Go.IntKind.i64.wrap ((Go.IntKind.i64.wrap (y.fst + y.snd.snd.fst)).tdiv (Go.IntKind.i64.wrap (y.snd.fst + y.snd.snd.snd.snd.fst))) != Go.IntKind.i64.wrap ((Go.IntKind.i64.wrap (y.fst + y.snd.snd.snd.fst)).tdiv (Go.IntKind.i64.wrap (y.snd.fst + y.snd.snd.snd.snd.snd.fst)))) = Bool.false → ∃ (y' : Int × Int × Int × Int × Int × Int × Nat), (Go.Sx.fs y'.snd.snd.snd.snd.snd.snd y'.fst y'.snd.fst y'.snd.snd.fst y'.snd.snd.snd.fst y'.snd.snd.snd.snd.fst y'.snd.snd.snd.snd.snd.fst = foR p q ∧ (y'.snd.fst + y'.snd.snd.snd.snd.fst).toNat < y'.snd.snd.snd.snd.snd.snd ∧ ∃ (N : Int), ∃ (B : Int), ∃ (e0 : Int), ∃ (e1 : Int), Go.Sx.FsC x1 x4 N B (↑(highN p (foN p)) : Int) (↑(highN q (foN p)) : Int) e0 e1 (4611686018427387904 : Int) ∧ Go.Sx.FsK x1 x4 N B (↑(highN p (foN p)) : Int) (↑(highN q (foN p)) : Int) e0 e1 (4611686018427387904 : Int) y'.fst y'.snd.fst y'.snd.snd.fst y'.snd.snd.snd.fst y'.snd.snd.snd.snd.fst y'.snd.snd.snd.snd.snd.fst) ∧ y.snd.fst = y'.fst ∧ Go.IntKind.i64.wrap (y.fst - Go.IntKind.i64.wrap (Go.IntKind.i64.wrap ((Go.IntKind.i64.wrap (y.fst + y.snd.snd.fst)).tdiv (Go.IntKind.i64.wrap (y.snd.fst + y.snd.snd.snd.snd.fst))) * y.snd.fst)) = y'.snd.fst ∧ y.snd.snd.snd.snd.fst = y'.snd.snd.fst ∧ y.snd.snd.snd.snd.snd.fst = y'.snd.snd.snd.fst ∧ Go.IntKind.i64.wrap (y.snd.snd.fst - Go.IntKind.i64.wrap (Go.IntKind.i64.wrap ((Go.IntKind.i64.wrap (y.fst + y.snd.snd.fst)).tdiv (Go.IntKind.i64.wrap (y.snd.fst + y.snd.snd.snd.snd.fst))) * y.snd.snd.snd.snd.fst)) = y'.snd.snd.snd.snd.fst ∧ Go.IntKind.i64.wrap (y.snd.snd.snd.fst - Go.IntKind.i64.wrap (Go.IntKind.i64.wrap ((Go.IntKind.i64.wrap (y.fst + y.snd.snd.fst)).tdiv (Go.IntKind.i64.wrap (y.snd.fst + y.snd.snd.snd.snd.fst))) * y.snd.snd.snd.snd.snd.fst)) = y'.snd.snd.snd.snd.snd.fst ∧ x1 = x1 ∧ x4 = x4 ∧ (0 : Nat) = (0 : Nat) ∧ (0 : Nat) = (0 : Nat) ∧ y'.snd.snd.snd.snd.snd.snd < y.snd.snd.snd.snd.snd.snd)) ∧ ((Go.IntKind.i64.wrap (y.snd.fst + y.snd.snd.snd.snd.fst) != (0 : Int) && Go.IntKind.i64.wrap (y.snd.fst + y.snd.snd.snd.snd.snd.fst) != (0 : Int)) = Bool.false → ((-9223372036854775808 : Int) ≤ y.snd.snd.fst ∧ y.snd.snd.fst ≤ (9223372036854775807 : Int)) ∧ ((-9223372036854775808 : Int) ≤ y.snd.snd.snd.fst ∧ y.snd.snd.snd.fst ≤ (9223372036854775807 : Int)) ∧ ((-9223372036854775808 : Int) ≤ y.snd.snd.snd.snd.fst ∧ y.snd.snd.snd.snd.fst ≤ (9223372036854775807 : Int)) ∧ ((-9223372036854775808 : Int) ≤ y.snd.snd.snd.snd.snd.fst ∧ y.snd.snd.snd.snd.snd.fst ≤ (9223372036854775807 : Int)) ∧ (wrN y.snd.snd.fst % Go.Sx.M256 = x5 ∧ wrN y.snd.snd.snd.fst % Go.Sx.M256 = x7 ∧ wrN y.snd.snd.snd.snd.fst % Go.Sx.M256 = x8 ∧ wrN y.snd.snd.snd.snd.snd.fst % Go.Sx.M256 = x9 ∧ True) ∧ (y.snd.snd.snd.fst != (0 : Int)) = x10)) := by kernel_rfl
-- END VC
-- VC vc_of HASH d3233c265dbc61d8
theorem vc_of (a b c d p q : Nat) :
    Owes Tryd.prog cxTurn [] 100 Tryd.f68 [.agg [.u a, .u b, .u c, .u d], .agg [.u p, .u q]] (turnG [[.u a, .u b, .u c, .u d], [.u p, .u q]]) =
    (let x1 : Nat := (a * p + b * q) % Go.Sx.M256; let x2 : Nat := (c * p + d * q) % Go.Sx.M256; x1 = x1 ∧ x2 = x2 ∧ True) := by kernel_rfl
-- END VC
-- VC vc_above HASH 1eb1242aee8dd8e7
theorem vc_above (a m : Nat) :
    Owes Tryd.prog cxAbove [] 100 Tryd.f69 [sU a, sU m] (aboveG a m) =
    (let x1 : Nat := a + m; let x2 : Nat := a % Go.Sx.M256; let x3 : Nat := (if (57896044618658097711785492504343953926634992332820282019728792003956564819968 : Nat) ≤ x2 then x1 else a) % Go.Sx.M256; (((Go.Sx.limb a (3 : Nat)).fdiv (9223372036854775808 : Int) == (1 : Int)) = Bool.true → x1 % Go.Sx.M256 = x3 ∧ True) ∧ (((Go.Sx.limb a (3 : Nat)).fdiv (9223372036854775808 : Int) == (1 : Int)) = Bool.false → x2 = x3 ∧ True)) := by kernel_rfl
-- END VC
-- VC vc_inverse HASH 825a42b1a85797b6
theorem vc_inverse (a m : Nat) :
    Owes Tryd.prog cxInverse [(2, .inv (invInv a m))] 100 Tryd.f58 [sU a, sU m] (inverseG a m) =
    (let x1 : Nat := m % Go.Sx.M256; let x2 : Nat := a % Go.Sx.M256; let x3 : Nat := invN x2 x1 % Go.Sx.M256; let x4 : Int := invE x2 x1; (∀ (y : Nat × Nat × Int × Int), Go.Sx.closedB (Go.Sx.slotsAt (44 : Nat) [((2 : Nat), Go.Sx.SV.one (Go.Sx.SA.sc (Go.Sx.SC.ptr (0 : Nat) (0 : Nat)))), ((3 : Nat), Go.Sx.SV.one (Go.Sx.SA.sc (Go.Sx.SC.ptr (1 : Nat) (0 : Nat)))), ((4 : Nat), Go.Sx.SV.one (Go.Sx.SA.sc (Go.Sx.SC.ptr (2 : Nat) (0 : Nat)))), ((6 : Nat), Go.Sx.SV.one (Go.Sx.SA.sc (Go.Sx.SC.ptr (3 : Nat) (0 : Nat)))), ((7 : Nat), Go.Sx.SV.one (Go.Sx.SA.sc (Go.Sx.SC.ptr (4 : Nat) (0 : Nat))))]) [Go.Sx.SO.cells (24 : Go.TypeId) [Go.Sx.SK.u a] (0 : Nat), Go.Sx.SO.cells (24 : Go.TypeId) [Go.Sx.SK.u m] (0 : Nat), Go.Sx.SO.cells (24 : Go.TypeId) zeroU (0 : Nat), Go.Sx.SO.cells (108 : Go.TypeId) [Go.Sx.SK.u y.fst, Go.Sx.SK.u y.snd.fst] (0 : Nat), Go.Sx.SO.cells (108 : Go.TypeId) [Go.Sx.SK.u (wrN y.snd.snd.fst), Go.Sx.SK.u (wrN y.snd.snd.snd)] (0 : Nat)] = Bool.true) ∧ ∃ (y : Nat × Nat × Int × Int), (Go.Sx.EuK x1 x2 y.fst y.snd.fst y.snd.snd.fst y.snd.snd.snd ∧ Go.Sx.euE y.fst y.snd.fst y.snd.snd.fst y.snd.snd.snd = Go.Sx.euE x1 x2 (0 : Int) (1 : Int) ∧ y.fst ≤ x1) ∧ x2 = x2 ∧ (0 : Nat) = (0 : Nat) ∧ x1 = x1 ∧ (0 : Nat) = (0 : Nat) ∧ (0 : Nat) = (0 : Nat) ∧ x1 = y.fst % Go.Sx.M256 ∧ x2 = y.snd.fst % Go.Sx.M256 ∧ (0 : Nat) = (0 : Nat) ∧ ((0 : Nat) = wrN y.snd.snd.fst % Go.Sx.M256 ∧ (1 : Nat) = wrN y.snd.snd.snd % Go.Sx.M256 ∧ True) ∧ (0 : Nat) = (0 : Nat) ∧ ∀ (y : Nat × Nat × Int × Int), Go.Sx.EuK x1 x2 y.fst y.snd.fst y.snd.snd.fst y.snd.snd.snd ∧ Go.Sx.euE y.fst y.snd.fst y.snd.snd.fst y.snd.snd.snd = Go.Sx.euE x1 x2 (0 : Int) (1 : Int) ∧ y.fst ≤ x1 → ((!Go.Sx.conj [y.snd.fst % Go.Sx.M256 == (0 : Nat)]) = Bool.true → y.snd.fst % Go.Sx.M256 < y.fst % Go.Sx.M256 ∧ ((!!(foR y.fst y.snd.fst).snd.fst == (0 : Int)) = Bool.true → ∃ (y' : Nat × Nat × Int × Int), (Go.Sx.EuK x1 x2 y'.fst y'.snd.fst y'.snd.snd.fst y'.snd.snd.snd ∧ Go.Sx.euE y'.fst y'.snd.fst y'.snd.snd.fst y'.snd.snd.snd = Go.Sx.euE x1 x2 (0 : Int) (1 : Int) ∧ y'.fst ≤ x1) ∧ x2 = x2 ∧ (0 : Nat) = (0 : Nat) ∧ x1 = x1 ∧ (0 : Nat) = (0 : Nat) ∧ (0 : Nat) = (0 : Nat) ∧ ((0 : Nat) * y.fst + (1 : Nat) * y.snd.fst) % Go.Sx.M256 = y'.fst % Go.Sx.M256 ∧ ((1 : Nat) * y.fst + ((115792089237316195423570985008687907853269984665640564039457584007913129639936 : Nat) - (if y.snd.fst % Go.Sx.M256 = (0 : Nat) then (0 : Nat) else y.fst % Go.Sx.M256 / (y.snd.fst % Go.Sx.M256)) % Go.Sx.M256) * y.snd.fst) % Go.Sx.M256 = y'.snd.fst % Go.Sx.M256 ∧ (0 : Nat) = (0 : Nat) ∧ ((0 : Nat) * wrN y.snd.snd.fst + (1 : Nat) * wrN y.snd.snd.snd) % Go.Sx.M256 = wrN y'.snd.snd.fst % Go.Sx.M256 ∧ ((1 : Nat) * wrN y.snd.snd.fst + ((115792089237316195423570985008687907853269984665640564039457584007913129639936 : Nat) - (if y.snd.fst % Go.Sx.M256 = (0 : Nat) then (0 : Nat) else y.fst % Go.Sx.M256 / (y.snd.fst % Go.Sx.M256)) % Go.Sx.M256) * wrN y.snd.snd.snd) % Go.Sx.M256 = wrN y'.snd.snd.snd % Go.Sx.M256 ∧ (0 : Nat) = (0 : Nat) ∧ y'.snd.fst < y.snd.fst) ∧ ((!!(foR y.fst y.snd.fst).snd.fst == (0 : Int)) = Bool.false → ∃ (y' : Nat × Nat × Int × Int), (Go.Sx.EuK x1 x2 y'.fst y'.snd.fst y'.snd.snd.fst y'.snd.snd.snd ∧ Go.Sx.euE y'.fst y'.snd.fst y'.snd.snd.fst y'.snd.snd.snd = Go.Sx.euE x1 x2 (0 : Int) (1 : Int) ∧ y'.fst ≤ x1) ∧ x2 = x2 ∧ (0 : Nat) = (0 : Nat) ∧ x1 = x1 ∧ (0 : Nat) = (0 : Nat) ∧ (0 : Nat) = (0 : Nat) ∧ (wrN (foR y.fst y.snd.fst).fst * y.fst + wrN (foR y.fst y.snd.fst).snd.fst * y.snd.fst) % Go.Sx.M256 = y'.fst % Go.Sx.M256 ∧ (wrN (foR y.fst y.snd.fst).snd.snd.fst * y.fst + wrN (foR y.fst y.snd.fst).snd.snd.snd * y.snd.fst) % Go.Sx.M256 = y'.snd.fst % Go.Sx.M256 ∧ (0 : Nat) = (0 : Nat) ∧ (wrN (foR y.fst y.snd.fst).fst * wrN y.snd.snd.fst + wrN (foR y.fst y.snd.fst).snd.fst * wrN y.snd.snd.snd) % Go.Sx.M256 = wrN y'.snd.snd.fst % Go.Sx.M256 ∧ (wrN (foR y.fst y.snd.fst).snd.snd.fst * wrN y.snd.snd.fst + wrN (foR y.fst y.snd.fst).snd.snd.snd * wrN y.snd.snd.snd) % Go.Sx.M256 = wrN y'.snd.snd.snd % Go.Sx.M256 ∧ (0 : Nat) = (0 : Nat) ∧ y'.snd.fst < y.snd.fst)) ∧ ((!Go.Sx.conj [y.snd.fst % Go.Sx.M256 == (0 : Nat)]) = Bool.false → ((!Go.Sx.conj [y.fst % Go.Sx.M256 == (1 : Nat)]) = Bool.true → ((0 : Nat) = x3 ∧ True) ∧ (5 : Int) = x4) ∧ ((!Go.Sx.conj [y.fst % Go.Sx.M256 == (1 : Nat)]) = Bool.false → ((if (57896044618658097711785492504343953926634992332820282019728792003956564819968 : Nat) ≤ wrN y.snd.snd.fst % Go.Sx.M256 then wrN y.snd.snd.fst + m else wrN y.snd.snd.fst) % Go.Sx.M256 = x3 ∧ True) ∧ (0 : Int) = x4))) := by kernel_rfl
-- END VC
-- VC vc_fInv HASH 8224b387e4246db1
theorem vc_fInv (a m : Nat) :
    Owes Tryd.prog cxInv [] 100 Tryd.f46 [sU a, sU m] (finvG a m) =
    (let x1 : Nat := m % Go.Sx.M256; let x2 : Nat := a % Go.Sx.M256; let x3 : Nat := invN x2 x1; let x4 : Nat := (if finvE a m = (0 : Int) then x3 else (0 : Nat)) % Go.Sx.M256; (Go.Sx.conj [x1 == (0 : Nat)] = Bool.true → ((0 : Nat) = x4 ∧ True) ∧ (7 : Int) = finvE a m) ∧ (Go.Sx.conj [x1 == (0 : Nat)] = Bool.false → (Decidable.decide (Go.Sx.cmpN a m ≥ (0 : Int)) = Bool.true → ((0 : Nat) = x4 ∧ True) ∧ (6 : Int) = finvE a m) ∧ (Decidable.decide (Go.Sx.cmpN a m ≥ (0 : Int)) = Bool.false → x2 < x1 ∧ (x3 % Go.Sx.M256 = x4 ∧ True) ∧ invE x2 x1 = finvE a m))) := by kernel_rfl
-- END VC

end Go.Proofs.YtbfcccoeekonlaaDoor
end

section
/-
  Small curves by number; inverses: laws: reckoned by the kernel. (Laid by program.)
-/
namespace Go.Proofs.YtbfcccoeekonlaaDoor
open Go.Sx
set_option maxRecDepth 100000
def cP (i : Nat) : Nat := [43, 67, 79, 139, 163, 211, 379, 691].getD i 0
def cB (i : Nat) : Nat := [7, 2, 6, 2, 3, 3, 2, 3].getD i 0
def cN (i : Nat) : Nat := [31, 73, 67, 163, 181, 199, 409, 643].getD i 0
def cX (i : Nat) : Nat := [2, 2, 5, 3, 1, 1, 5, 1].getD i 0
def cY (i : Nat) : Nat := [12, 12, 17, 53, 2, 2, 49, 2].getD i 0
-- VC vc_pickBig HASH c70aa24e9f6edddb
theorem vc_pickBig (a b : Int) :
    Owes Tryd.prog Cx.none [] 100 Tryd.f5 [sI .i64 a, sI .i64 b] (pickedG a b) =
    (let x1 : Int := a % b; b ≠ (0 : Int) ∧ (Decidable.decide (a.tmod b < (0 : Int)) = Bool.true → Go.IntKind.i64.wrap (a.tmod b + b) = x1) ∧ (Decidable.decide (a.tmod b < (0 : Int)) = Bool.false → a.tmod b = x1)) := by kernel_rfl
-- END VC
end Go.Proofs.YtbfcccoeekonlaaDoor
end

section
/-
  Package curve: hands: reckoned by the kernel. (Laid by program.)
-/
namespace Go.Proofs.YtbfcccoeekonlaaDoor
open Go.Sx
set_option maxRecDepth 100000
abbrev shH1 : List AP := [.hand, .str [.u]]
abbrev shH2 : List AP := [.hand, .str [.u], .str [.u]]
abbrev sHand (m : Nat) (v : Option Addr) : SA := .agg [.u m, .c (.val (.pointer v))]
def keptC : List (List At) → List Prop
  | [[.u _], [.u _], [.i e]] => [e = 0]
  | _ => [False]
def keptG : List (List At) → SV
  | [[.u _], [.u a], [.i _]] => .one (sU a)
  | _ => .tup []
def h2C : List (List At) → List Prop
  | [[.u m], [.u a], [.u b]] => [a % M256 < m % M256, b % M256 < m % M256]
  | _ => [False]
def h1C : List (List At) → List Prop
  | [[.u m], [.u a]] => [a % M256 < m % M256]
  | _ => [False]
def hdivC : List (List At) → List Prop
  | [[.u m], [.u a], [.u b]] => [a % M256 < m % M256, b % M256 < m % M256, Nat.gcd (b % M256) (m % M256) = 1]
  | _ => [False]
def haddG : List (List At) → SV
  | [[.u m], [.u a], [.u b]] => .one (sU ((a % M256 + b % M256) % (m % M256)))
  | _ => .tup []
def hsubG : List (List At) → SV
  | [[.u m], [.u a], [.u b]] => .one (sU ((a % M256 + m % M256 - b % M256) % (m % M256)))
  | _ => .tup []
def hmulG : List (List At) → SV
  | [[.u m], [.u a], [.u b]] => .one (sU (a % M256 * (b % M256) % (m % M256)))
  | _ => .tup []
def hdivG : List (List At) → SV
  | [[.u m], [.u a], [.u b]] => .one (sU (a % M256 * invN (b % M256) (m % M256) % (m % M256)))
  | _ => .tup []
def htwiceG : List (List At) → SV
  | [[.u m], [.u a]] => .one (sU ((a % M256 + a % M256) % (m % M256)))
  | _ => .tup []
def hthriceG : List (List At) → SV
  | [[.u m], [.u a]] => .one (sU ((a % M256 + (a % M256 + a % M256) % (m % M256)) % (m % M256)))
  | _ => .tup []
def cKept : FSpec := specA [.hand, .str [.u], .int .i64] keptC keptG
def cHadd : FSpec := specA shH2 h2C haddG
def cHsub : FSpec := specA shH2 h2C hsubG
def cHmul : FSpec := specA shH2 h2C hmulG
def cHdiv : FSpec := specA shH2 hdivC hdivG
def cTwice : FSpec := specA shH1 h1C htwiceG
def cThrice : FSpec := specA shH1 h1C hthriceG
def cxHadd : Cx := [(39, specUUU noC faddG), (37, cKept)]
def cxHsub : Cx := [(41, specUUU noC fsubG), (37, cKept)]
def cxHmul : Cx := [(38, specUUU noC fmulG), (37, cKept)]
def cxHdiv : Cx := [(46, specUU finvG), (37, cKept), (27, cHmul)]
def cxTwice : Cx := [(29, cHadd)]
def cxThrice : Cx := [(29, cHadd), (35, cTwice)]
-- VC vc_kept HASH 3e4b98832f16c661
theorem vc_kept (m a : Nat) (e : Int) (v : Option Addr) :
    Owes Tryd.prog Cx.none [] 100 Tryd.f37 [sHand m v, sU a, sI .i64 e] (keptG [[.u m], [.u a], [.i e]]) =
    (let x1 : Nat := a % Go.Sx.M256; ((!e == (0 : Int)) = Bool.true → Go.Sx.Stuck { dst := Option.some (8 : Nat), op := Go.Op.nilCheck (Go.Operand.tmp (7 : Nat)), type := (0 : Nat), pos := "hand.go:19", after := #[{ on := (1 : Nat), ground := Go.Ground.data }, { on := (0 : Nat), ground := Go.Ground.phase }, { on := (1 : Nat), ground := Go.Ground.phase }], guard := Option.none }) ∧ ((!e == (0 : Int)) = Bool.false → x1 = x1 ∧ True)) := by kernel_rfl
-- END VC
-- VC vc_hadd HASH 8153c6ad2572595a
theorem vc_hadd (m a b : Nat) (v : Option Addr) :
    Owes Tryd.prog cxHadd [] 100 Tryd.f29 [sHand m v, sU a, sU b] (haddG [[.u m], [.u a], [.u b]]) =
    (let x1 : Nat := (a % Go.Sx.M256 + b % Go.Sx.M256) % (m % Go.Sx.M256); fE a b m = (0 : Int) ∧ (if fE a b m = (0 : Int) then x1 else (0 : Nat)) % Go.Sx.M256 = x1 % Go.Sx.M256 ∧ True) := by kernel_rfl
-- END VC
-- VC vc_hsub HASH 70646fafcbdf2cdd
theorem vc_hsub (m a b : Nat) (v : Option Addr) :
    Owes Tryd.prog cxHsub [] 100 Tryd.f31 [sHand m v, sU a, sU b] (hsubG [[.u m], [.u a], [.u b]]) =
    (let x1 : Nat := m % Go.Sx.M256; let x2 : Nat := (a % Go.Sx.M256 + x1 - b % Go.Sx.M256) % x1; fE a b m = (0 : Int) ∧ (if fE a b m = (0 : Int) then x2 else (0 : Nat)) % Go.Sx.M256 = x2 % Go.Sx.M256 ∧ True) := by kernel_rfl
-- END VC
-- VC vc_hmul HASH e72e041cdec4ccbc
theorem vc_hmul (m a b : Nat) (v : Option Addr) :
    Owes Tryd.prog cxHmul [] 100 Tryd.f27 [sHand m v, sU a, sU b] (hmulG [[.u m], [.u a], [.u b]]) =
    (let x1 : Nat := a % Go.Sx.M256 * (b % Go.Sx.M256) % (m % Go.Sx.M256); fE a b m = (0 : Int) ∧ (if fE a b m = (0 : Int) then x1 else (0 : Nat)) % Go.Sx.M256 = x1 % Go.Sx.M256 ∧ True) := by kernel_rfl
-- END VC
-- VC vc_hdiv HASH a76823f540f55690
theorem vc_hdiv (m a b : Nat) (v : Option Addr) :
    Owes Tryd.prog cxHdiv [] 100 Tryd.f40 [sHand m v, sU a, sU b] (hdivG [[.u m], [.u a], [.u b]]) =
    (let x1 : Nat := a % Go.Sx.M256; let x2 : Nat := m % Go.Sx.M256; let x3 : Nat := invN (b % Go.Sx.M256) x2; let x4 : Nat := (if finvE b m = (0 : Int) then x3 else (0 : Nat)) % Go.Sx.M256; finvE b m = (0 : Int) ∧ x1 < x2 ∧ x4 < x2 ∧ x1 * x4 % x2 % Go.Sx.M256 = x1 * x3 % x2 % Go.Sx.M256 ∧ True) := by kernel_rfl
-- END VC
-- VC vc_twice HASH 6cb39db844b7e4b6
theorem vc_twice (m a : Nat) (v : Option Addr) :
    Owes Tryd.prog cxTwice [] 100 Tryd.f35 [sHand m v, sU a] (htwiceG [[.u m], [.u a]]) =
    (let x1 : Nat := a % Go.Sx.M256; let x2 : Nat := m % Go.Sx.M256; let x3 : Nat := (x1 + x1) % x2 % Go.Sx.M256; x1 < x2 ∧ x1 < x2 ∧ x3 = x3 ∧ True) := by kernel_rfl
-- END VC
-- VC vc_thrice HASH def012398cdf2bed
theorem vc_thrice (m a : Nat) (v : Option Addr) :
    Owes Tryd.prog cxThrice [] 100 Tryd.f36 [sHand m v, sU a] (hthriceG [[.u m], [.u a]]) =
    (let x1 : Nat := a % Go.Sx.M256; let x2 : Nat := m % Go.Sx.M256; let x3 : Nat := (x1 + x1) % x2; let x4 : Nat := x3 % Go.Sx.M256; x1 < x2 ∧ x1 < x2 ∧ x4 < x2 ∧ (x1 + x4) % x2 % Go.Sx.M256 = (x1 + x3) % x2 % Go.Sx.M256 ∧ True) := by kernel_rfl
-- END VC
end Go.Proofs.YtbfcccoeekonlaaDoor
end

section
/-
  Package curve: points: reckoned by the kernel. (Laid by program.)
-/
namespace Go.Proofs.YtbfcccoeekonlaaDoor
open Go.Sx
set_option maxRecDepth 100000
abbrev pPt : List PK := [.u, .u, .b]
abbrev pCv : List PK := [.u, .u, .u, .u, .u, .u, .b]
abbrev Pt := Nat × Nat × Bool
abbrev sPt (x y : Nat) (f : Bool) : SA := .agg [.u x, .u y, .c (.val (.bool f))]
abbrev sCv (P A B N X Y : Nat) (F : Bool) : SA := .agg [.u P, .u A, .u B, .u N, .u X, .u Y, .c (.val (.bool F))]
def ptS (p : Pt) : SA := .agg [.u p.1, .u p.2.1, .c (.val (.bool p.2.2))]
def red (x y : Nat) (f : Bool) : Pt := (x % M256, y % M256, f)
def tw3 (m x : Nat) : Nat := (x + (x + x) % m) % m
def rhsN (m A B x : Nat) : Nat := ((x * (x * x % m) % m + A * x % m) % m + B) % m
def slopesN (m A B : Nat) : Nat := (((A * (A * A % m) % m + A * (A * A % m) % m) % m + (A * (A * A % m) % m + A * (A * A % m) % m) % m) % m + tw3 m (tw3 m (tw3 m (B * B % m)))) % m
def slopeN (m A : Nat) (p q : Pt) : Nat :=
  if p = q then (tw3 m (p.1 * p.1 % m) + A) % m * invN ((p.2.1 + p.2.1) % m) m % m
  else (q.2.1 + m - p.2.1) % m * invN ((q.1 + m - p.1) % m) m % m
def throughN (m : Nat) (s : Nat) (p q : Pt) : Pt :=
  (((s * s % m + m - p.1) % m + m - q.1) % m, (s * ((p.1 + m - ((s * s % m + m - p.1) % m + m - q.1) % m) % m) % m + m - p.2.1) % m, false)
def csum (m A : Nat) (p q : Pt) : Pt :=
  if p.2.2 = true then q else if q.2.2 = true then p else if p.1 = q.1 ∧ (p.2.1 + q.2.1) % m = 0 then (0, 0, true) else throughN m (slopeN m A p q) p q
structure inP (m : Nat) (p : Pt) : Prop where
  lt : p.2.2 = false → p.1 < m ∧ p.2.1 < m
structure slopeOK (m : Nat) (p q : Pt) : Prop where
  eq : p = q → Nat.gcd ((p.2.1 + p.2.1) % m) m = 1
  ne : p ≠ q → Nat.gcd ((q.1 + m - p.1) % m) m = 1
structure sumOK (m A : Nat) (p q : Pt) : Prop where
  A0 : A < m
  p0 : inP m p
  q0 : inP m q
  sl : p.2.2 = false → q.2.2 = false → ¬ (p.1 = q.1 ∧ (p.2.1 + q.2.1) % m = 0) → slopeOK m p q
structure onP (m A B : Nat) (p : Pt) : Prop where
  far : p.2.2 = true → p.1 = 0 ∧ p.2.1 = 0
  near : p.2.2 = false → p.1 < m ∧ p.2.1 < m ∧ p.2.1 * p.2.1 % m = rhsN m A B p.1
structure goodP (P A B N : Nat) (b : Pt) : Prop where
  P3 : 3 < P
  P4 : P % 4 = 3
  N1 : 1 < N
  A0 : A < P
  B0 : B < P
  s0 : slopesN P A B ≠ 0
  b0 : b.2.2 = false
  on : onP P A B b
/-- A point so often, by the bits of a number, from the highest one on. -/
def cmulR (m A k : Nat) (p : Pt) : Nat → Pt
  | 0 => (0, 0, true)
  | n + 1 => if k.testBit (255 - n) = true then csum m A (csum m A (cmulR m A k p n) (cmulR m A k p n)) p else csum m A (cmulR m A k p n) (cmulR m A k p n)
structure mulOK (m A k : Nat) (p : Pt) : Prop where
  dbl : ∀ n, n < 256 → sumOK m A (cmulR m A k p n) (cmulR m A k p n)
  add : ∀ n, n < 256 → k.testBit (255 - n) = true → sumOK m A (csum m A (cmulR m A k p n) (cmulR m A k p n)) p
def rightC : List (List At) → List Prop
  | [[.u m], [.u _, .u A, .u B, .u _, .u _, .u _, .b _], [.u x]] => [A % M256 < m % M256, B % M256 < m % M256, x % M256 < m % M256]
  | _ => [False]
def rightG : List (List At) → SV
  | [[.u m], [.u _, .u A, .u B, .u _, .u _, .u _, .b _], [.u x]] => .one (sU (rhsN (m % M256) (A % M256) (B % M256) (x % M256)))
  | _ => .tup []
def slopesC : List (List At) → List Prop
  | [[.u m], [.u _, .u A, .u B, .u _, .u _, .u _, .b _]] => [A % M256 < m % M256, B % M256 < m % M256]
  | _ => [False]
def slopesG : List (List At) → SV
  | [[.u m], [.u _, .u A, .u B, .u _, .u _, .u _, .b _]] => .one (sU (slopesN (m % M256) (A % M256) (B % M256)))
  | _ => .tup []
def haveC : List (List At) → List Prop
  | [[.u m], [.u _, .u A, .u B, .u _, .u _, .u _, .b _], [.u x, .u y, .b f]] => [A % M256 < m % M256, B % M256 < m % M256, onP (m % M256) (A % M256) (B % M256) (red x y f)]
  | _ => [False]
def voidG : List (List At) → SV := fun _ => .tup []
def beC : List (List At) → List Prop
  | [[.u m], [.u P, .u A, .u B, .u N, .u X, .u Y, .b F]] => [m % M256 = P % M256, goodP (P % M256) (A % M256) (B % M256) (N % M256) (red X Y F)]
  | _ => [False]
def slopeC : List (List At) → List Prop
  | [[.u m], [.u A], [.u x, .u y, .b f], [.u z, .u w, .b g]] => [A % M256 < m % M256, f = false, g = false, inP (m % M256) (red x y f), inP (m % M256) (red z w g), slopeOK (m % M256) (red x y f) (red z w g)]
  | _ => [False]
def slopeG : List (List At) → SV
  | [[.u m], [.u A], [.u x, .u y, .b f], [.u z, .u w, .b g]] => .one (sU (slopeN (m % M256) (A % M256) (red x y f) (red z w g)))
  | _ => .tup []
def sumPC : List (List At) → List Prop
  | [[.u m], [.u A], [.u x, .u y, .b f], [.u z, .u w, .b g]] => [sumOK (m % M256) (A % M256) (red x y f) (red z w g)]
  | _ => [False]
def sumPG : List (List At) → SV
  | [[.u m], [.u A], [.u x, .u y, .b f], [.u z, .u w, .b g]] => .one (ptS (csum (m % M256) (A % M256) (red x y f) (red z w g)))
  | _ => .tup []
def toldC : List (List At) → List Prop
  | [[.u _, .u _, .b _], [.i e]] => [e = 0]
  | _ => [False]
def toldG : List (List At) → SV
  | [[.u x, .u y, .b f], [.i _]] => .tup [sPt x y f, .sc (.num .i64 0)]
  | _ => .tup []
def farG : SV := .one (.agg [.u 0, .u 0, .c (.bit true)])
def cMultC : List (List At) → List Prop
  | [[.u P, .u A, .u B, .u N, .u X, .u Y, .b F], [.u k], [.u x, .u y, .b f]] => [goodP (P % M256) (A % M256) (B % M256) (N % M256) (red X Y F), onP (P % M256) (A % M256) (B % M256) (red x y f), mulOK (P % M256) (A % M256) (k % M256) (red x y f)]
  | _ => [False]
def cMultG : List (List At) → SV
  | [[.u P, .u A, .u _, .u _, .u _, .u _, .b _], [.u k], [.u x, .u y, .b f]] => .tup [ptS (cmulR (P % M256) (A % M256) (k % M256) (red x y f) 256), .sc (.num .i64 0)]
  | _ => .tup []
def cRight : FSpec := specA [.hand, .str pCv, .str [.u]] rightC rightG
def cSlopes : FSpec := specA [.hand, .str pCv] slopesC slopesG
def cHave : FSpec := specA [.hand, .str pCv, .str pPt] haveC voidG
def cBe : FSpec := specA [.hand, .str pCv] beC voidG
def cSlope : FSpec := specA [.hand, .str [.u], .str pPt, .str pPt] slopeC slopeG
def cSum : FSpec := specA [.hand, .str [.u], .str pPt, .str pPt] sumPC sumPG
def cTold : FSpec := specA [.str pPt, .int .i64] toldC toldG
def cxRight : Cx := [(29, cHadd), (27, cHmul)]
def cxSlopes : Cx := [(29, cHadd), (27, cHmul), (35, cTwice), (36, cThrice)]
def cxHave : Cx := [(27, cHmul), (28, cRight), (17, spec0 farG)]
def cxBe : Cx := [(24, specUU cmpG), (26, cSlopes), (16, cHave)]
def cxSlope : Cx := [(29, cHadd), (31, cHsub), (27, cHmul), (40, cHdiv), (35, cTwice), (36, cThrice)]
def cxSumP : Cx := [(29, cHadd), (31, cHsub), (27, cHmul), (30, cSlope), (17, spec0 farG)]
def cxCMult : Cx := [(15, cBe), (16, cHave), (18, cSum), (19, cTold), (17, spec0 farG)]
def invMult (P A B N X Y : Nat) (F : Bool) (k x y : Nat) (f : Bool) : Inv where
  X := Nat
  tm j := slotsAt 57 [(3, .one (.sc (.ptr 0 0))), (4, .one (.sc (.ptr 1 0))), (5, .one (.sc (.ptr 2 0))), (6, .one (.sc (.ptr 3 0))), (8, .one (.sc (.ptr 4 0))), (9, .one (.sc (.ptr 5 0))), (10, .one (.sc (.ptr 6 0))), (11, .one (sI .i64 (255 - (j : Int))))]
  ob j := [.cells 28 [.u P, .u A, .u B, .u N, .u X, .u Y, .c (.val (.bool F))] 0, .cells 24 [.u k] 0, .cells 26 [.u x, .u y, .c (.val (.bool f))] 0, .cells 26 (zeroU ++ zeroU ++ [.c (.bit false)]) 0, .cells 31 [.c (.num .i64 0)] 0, .cells 51 [.u P, .c (.ptr 4 0)] 0, .cells 26 [.u (cmulR (P % M256) (A % M256) (k % M256) (red x y f) j).1, .u (cmulR (P % M256) (A % M256) (k % M256) (red x y f) j).2.1, .c (.val (.bool (cmulR (P % M256) (A % M256) (k % M256) (red x y f) j).2.2))] 0]
  holds j := j ≤ 256
  less j := 256 - j
-- VC vc_right HASH 098b51404ff67e2c
theorem vc_right (m P A B N X Y x : Nat) (F : Bool) (v : Option Addr) :
    Owes Tryd.prog cxRight [] 100 Tryd.f28 [sHand m v, sCv P A B N X Y F, sU x] (rightG [[.u m], [.u P, .u A, .u B, .u N, .u X, .u Y, .b F], [.u x]]) =
    (let x1 : Nat := x % Go.Sx.M256; let x2 : Nat := m % Go.Sx.M256; let x3 : Nat := x1 * x1 % x2 % Go.Sx.M256; let x4 : Nat := A % Go.Sx.M256; let x5 : Nat := x1 * x3 % x2 % Go.Sx.M256; let x6 : Nat := x4 * x1 % x2 % Go.Sx.M256; let x7 : Nat := (x5 + x6) % x2 % Go.Sx.M256; let x8 : Nat := B % Go.Sx.M256; x1 < x2 ∧ x1 < x2 ∧ x1 < x2 ∧ x3 < x2 ∧ x4 < x2 ∧ x1 < x2 ∧ x5 < x2 ∧ x6 < x2 ∧ x7 < x2 ∧ x8 < x2 ∧ (x7 + x8) % x2 % Go.Sx.M256 = rhsN x2 x4 x8 x1 % Go.Sx.M256 ∧ True) := by kernel_rfl
-- END VC
-- VC vc_slopes HASH 16eff754cb9287e9
theorem vc_slopes (m P A B N X Y : Nat) (F : Bool) (v : Option Addr) :
    Owes Tryd.prog cxSlopes [] 100 Tryd.f26 [sHand m v, sCv P A B N X Y F] (slopesG [[.u m], [.u P, .u A, .u B, .u N, .u X, .u Y, .b F]]) =
    (let x1 : Nat := A % Go.Sx.M256; let x2 : Nat := m % Go.Sx.M256; let x3 : Nat := x1 * x1 % x2 % Go.Sx.M256; let x4 : Nat := B % Go.Sx.M256; let x5 : Nat := x1 * x3 % x2 % Go.Sx.M256; let x6 : Nat := (x5 + x5) % x2 % Go.Sx.M256; let x7 : Nat := x4 * x4 % x2 % Go.Sx.M256; let x8 : Nat := (x7 + (x7 + x7) % x2) % x2 % Go.Sx.M256; let x9 : Nat := (x8 + (x8 + x8) % x2) % x2 % Go.Sx.M256; let x10 : Nat := (x6 + x6) % x2 % Go.Sx.M256; let x11 : Nat := (x9 + (x9 + x9) % x2) % x2 % Go.Sx.M256; x1 < x2 ∧ x1 < x2 ∧ x1 < x2 ∧ x3 < x2 ∧ x4 < x2 ∧ x4 < x2 ∧ x5 < x2 ∧ x6 < x2 ∧ x7 < x2 ∧ x8 < x2 ∧ x9 < x2 ∧ x10 < x2 ∧ x11 < x2 ∧ (x10 + x11) % x2 % Go.Sx.M256 = slopesN x2 x1 x4 % Go.Sx.M256 ∧ True) := by kernel_rfl
-- END VC
-- VC vc_have HASH d61cd70bb51e3529
theorem vc_have (m P A B N X Y x y : Nat) (F f : Bool) (v : Option Addr) :
    Owes Tryd.prog cxHave [] 100 Tryd.f16 [sHand m v, sCv P A B N X Y F, sPt x y f] (.tup []) =
    (let x1 : Nat := x % Go.Sx.M256; let x2 : Nat := y % Go.Sx.M256; let x3 : Nat := m % Go.Sx.M256; let x4 : Nat := A % Go.Sx.M256; let x5 : Nat := B % Go.Sx.M256; (f = Bool.true → ((!Go.Sx.conj [x1 == (0 : Nat), x2 == (0 : Nat), f == Bool.true]) = Bool.true → Go.Sx.Stuck { dst := Option.some (8 : Nat), op := Go.Op.nilCheck (Go.Operand.tmp (7 : Nat)), type := (0 : Nat), pos := "hand.go:19", after := #[{ on := (1 : Nat), ground := Go.Ground.data }, { on := (0 : Nat), ground := Go.Ground.phase }, { on := (1 : Nat), ground := Go.Ground.phase }], guard := Option.none }) ∧ ((!Go.Sx.conj [x1 == (0 : Nat), x2 == (0 : Nat), f == Bool.true]) = Bool.false → True)) ∧ (f = Bool.false → x2 < x3 ∧ x2 < x3 ∧ x4 < x3 ∧ x5 < x3 ∧ x1 < x3 ∧ ((!Go.Sx.conj [x2 * x2 % x3 % Go.Sx.M256 == rhsN x3 x4 x5 x1 % Go.Sx.M256]) = Bool.true → Go.Sx.Stuck { dst := Option.some (8 : Nat), op := Go.Op.nilCheck (Go.Operand.tmp (7 : Nat)), type := (0 : Nat), pos := "hand.go:19", after := #[{ on := (1 : Nat), ground := Go.Ground.data }, { on := (0 : Nat), ground := Go.Ground.phase }, { on := (1 : Nat), ground := Go.Ground.phase }], guard := Option.none }) ∧ ((!Go.Sx.conj [x2 * x2 % x3 % Go.Sx.M256 == rhsN x3 x4 x5 x1 % Go.Sx.M256]) = Bool.false → True))) := by kernel_rfl
-- END VC
-- VC vc_be HASH 370d9ef6fab6277d
theorem vc_be (m P A B N X Y : Nat) (F : Bool) (v : Option Addr) :
    Owes Tryd.prog cxBe [] 100 Tryd.f15 [sHand m v, sCv P A B N X Y F] (.tup []) =
    (let x1 : Bool := Decidable.decide (Go.Sx.cmpN P (3 : Nat) > (0 : Int)); let x2 : Nat := A % Go.Sx.M256; let x3 : Nat := m % Go.Sx.M256; let x4 : Nat := B % Go.Sx.M256; (x1 = Bool.true → x1 = Bool.true) ∧ (x1 = Bool.true → x1 = Bool.true) ∧ (x1 = Bool.true → x1 = Bool.true) ∧ (x1 = Bool.true → x1 = Bool.true) ∧ (x1 = Bool.true → x1 = Bool.true) ∧ ((!(x1 && (Go.Sx.limb P (0 : Nat)).tmod (4 : Int) == (3 : Int))) = Bool.true → Go.Sx.Stuck { dst := Option.some (8 : Nat), op := Go.Op.nilCheck (Go.Operand.tmp (7 : Nat)), type := (0 : Nat), pos := "hand.go:19", after := #[{ on := (1 : Nat), ground := Go.Ground.data }, { on := (0 : Nat), ground := Go.Ground.phase }, { on := (1 : Nat), ground := Go.Ground.phase }], guard := Option.none }) ∧ ((!(x1 && (Go.Sx.limb P (0 : Nat)).tmod (4 : Int) == (3 : Int))) = Bool.false → ((!Decidable.decide (Go.Sx.cmpN N (1 : Nat) > (0 : Int))) = Bool.true → Go.Sx.Stuck { dst := Option.some (8 : Nat), op := Go.Op.nilCheck (Go.Operand.tmp (7 : Nat)), type := (0 : Nat), pos := "hand.go:19", after := #[{ on := (1 : Nat), ground := Go.Ground.data }, { on := (0 : Nat), ground := Go.Ground.phase }, { on := (1 : Nat), ground := Go.Ground.phase }], guard := Option.none }) ∧ ((!Decidable.decide (Go.Sx.cmpN N (1 : Nat) > (0 : Int))) = Bool.false → x2 < x3 ∧ x4 < x3 ∧ ((!!Go.Sx.conj [slopesN x3 x2 x4 % Go.Sx.M256 == (0 : Nat)]) = Bool.true → Go.Sx.Stuck { dst := Option.some (8 : Nat), op := Go.Op.nilCheck (Go.Operand.tmp (7 : Nat)), type := (0 : Nat), pos := "hand.go:19", after := #[{ on := (1 : Nat), ground := Go.Ground.data }, { on := (0 : Nat), ground := Go.Ground.phase }, { on := (1 : Nat), ground := Go.Ground.phase }], guard := Option.none }) ∧ ((!!Go.Sx.conj [slopesN x3 x2 x4 % Go.Sx.M256 == (0 : Nat)]) = Bool.false → ((!!F) = Bool.true → Go.Sx.Stuck { dst := Option.some (8 : Nat), op := Go.Op.nilCheck (Go.Operand.tmp (7 : Nat)), type := (0 : Nat), pos := "hand.go:19", after := #[{ on := (1 : Nat), ground := Go.Ground.data }, { on := (0 : Nat), ground := Go.Ground.phase }, { on := (1 : Nat), ground := Go.Ground.phase }], guard := Option.none }) ∧ ((!!F) = Bool.false → x2 < x3 ∧ x4 < x3 ∧ onP x3 x2 x4 (red X Y F) ∧ True))))) := by kernel_rfl
-- END VC
-- VC vc_slope HASH b549eaebe7a84ed6
theorem vc_slope (m A x y z w : Nat) (f g : Bool) (v : Option Addr) :
    Owes Tryd.prog cxSlope [] 100 Tryd.f30 [sHand m v, sU A, sPt x y f, sPt z w g] (slopeG [[.u m], [.u A], [.u x, .u y, .b f], [.u z, .u w, .b g]]) =
    (let x1 : Nat := x % Go.Sx.M256; let x2 : Nat := z % Go.Sx.M256; let x3 : Nat := y % Go.Sx.M256; let x4 : Nat := w % Go.Sx.M256; let x5 : Nat := m % Go.Sx.M256; let x6 : Nat := x1 * x1 % x5 % Go.Sx.M256; let x7 : Nat := (x6 + (x6 + x6) % x5) % x5 % Go.Sx.M256; let x8 : Nat := A % Go.Sx.M256; let x9 : Nat := (x7 + x8) % x5 % Go.Sx.M256; let x10 : Nat := (x3 + x3) % x5 % Go.Sx.M256; let x11 : Nat := slopeN x5 x8 (red x y f) (red z w g) % Go.Sx.M256; let x12 : Nat := (x4 + x5 - x3) % x5 % Go.Sx.M256; let x13 : Nat := (x2 + x5 - x1) % x5 % Go.Sx.M256; (Go.Sx.conj [x1 == x2, x3 == x4, f == g] = Bool.true → x1 < x5 ∧ x1 < x5 ∧ x6 < x5 ∧ x7 < x5 ∧ x8 < x5 ∧ x3 < x5 ∧ x9 < x5 ∧ x10 < x5 ∧ x10.gcd x5 = (1 : Nat) ∧ x9 * invN x10 x5 % x5 % Go.Sx.M256 = x11 ∧ True) ∧ (Go.Sx.conj [x1 == x2, x3 == x4, f == g] = Bool.false → x4 < x5 ∧ x3 < x5 ∧ x2 < x5 ∧ x1 < x5 ∧ x12 < x5 ∧ x13 < x5 ∧ x13.gcd x5 = (1 : Nat) ∧ x12 * invN x13 x5 % x5 % Go.Sx.M256 = x11 ∧ True)) := by kernel_rfl
-- END VC
-- VC vc_sumP HASH e34dd2d08acdd81c
theorem vc_sumP (m A x y z w : Nat) (f g : Bool) (v : Option Addr) :
    Owes Tryd.prog cxSumP [] 100 Tryd.f18 [sHand m v, sU A, sPt x y f, sPt z w g] (sumPG [[.u m], [.u A], [.u x, .u y, .b f], [.u z, .u w, .b g]]) =
    (let x1 : Nat := z % Go.Sx.M256; let x2 : Nat := m % Go.Sx.M256; let x3 : Nat := A % Go.Sx.M256; let x4 : Nat := (csum x2 x3 (red x y f) (red z w g)).fst % Go.Sx.M256; let x5 : Nat := w % Go.Sx.M256; let x6 : Nat := (csum x2 x3 (red x y f) (red z w g)).snd.fst % Go.Sx.M256; let x7 : Bool := (csum x2 x3 (red x y f) (red z w g)).snd.snd; let x8 : Nat := x % Go.Sx.M256; let x9 : Nat := y % Go.Sx.M256; let x10 : Bool := Go.Sx.conj [x8 == x1]; let x11 : Nat := slopeN x2 x3 (red x y f) (red z w g) % Go.Sx.M256; let x12 : Nat := x11 * x11 % x2 % Go.Sx.M256; let x13 : Nat := (x12 + x2 - x8) % x2 % Go.Sx.M256; let x14 : Nat := (x13 + x2 - x1) % x2 % Go.Sx.M256; let x15 : Nat := (x8 + x2 - x14) % x2 % Go.Sx.M256; let x16 : Nat := x11 * x15 % x2 % Go.Sx.M256; (f = Bool.true → x1 = x4 ∧ x5 = x6 ∧ g = x7 ∧ True) ∧ (f = Bool.false → (g = Bool.true → x8 = x4 ∧ x9 = x6 ∧ f = x7 ∧ True) ∧ (g = Bool.false → (x10 = Bool.true → x10 = Bool.true) ∧ (x10 = Bool.true → x10 = Bool.true) ∧ (x10 = Bool.true → x10 = Bool.true) ∧ (x10 = Bool.true → x10 = Bool.true) ∧ (x10 = Bool.true → x10 = Bool.true) ∧ (x10 = Bool.true → x9 < x2) ∧ (x10 = Bool.true → x5 < x2) ∧ (x10 = Bool.true → x10 = Bool.true) ∧ (x10 = Bool.true → x10 = Bool.true) ∧ (x10 = Bool.true → x10 = Bool.true) ∧ ((x10 && Go.Sx.conj [(x9 + x5) % x2 % Go.Sx.M256 == (0 : Nat)]) = Bool.true → (0 : Nat) = x4 ∧ (0 : Nat) = x6 ∧ Bool.true = x7 ∧ True) ∧ ((x10 && Go.Sx.conj [(x9 + x5) % x2 % Go.Sx.M256 == (0 : Nat)]) = Bool.false → x3 < x2 ∧ f = Bool.false ∧ g = Bool.false ∧ inP x2 (red x y f) ∧ inP x2 (red z w g) ∧ slopeOK x2 (red x y f) (red z w g) ∧ x11 < x2 ∧ x11 < x2 ∧ x12 < x2 ∧ x8 < x2 ∧ x13 < x2 ∧ x1 < x2 ∧ x8 < x2 ∧ x14 < x2 ∧ x11 < x2 ∧ x15 < x2 ∧ x16 < x2 ∧ x9 < x2 ∧ x14 = x4 ∧ (x16 + x2 - x9) % x2 % Go.Sx.M256 = x6 ∧ Bool.false = x7 ∧ True)))) := by kernel_rfl
-- END VC
-- VC vc_told HASH 47556c5346772630
theorem vc_told (x y : Nat) (f : Bool) (e : Int) :
    Owes Tryd.prog Cx.none [] 100 Tryd.f19 [sPt x y f, sI .i64 e] (toldG [[.u x, .u y, .b f], [.i e]]) =
    (let x1 : Nat := x % Go.Sx.M256; let x2 : Nat := y % Go.Sx.M256; ((e != (0 : Int)) = Bool.true → ((0 : Nat) = x1 ∧ (0 : Nat) = x2 ∧ Bool.false = f ∧ True) ∧ e = (0 : Int)) ∧ ((e != (0 : Int)) = Bool.false → (x1 = x1 ∧ x2 = x2 ∧ f = f ∧ True) ∧ (0 : Int) = (0 : Int))) := by kernel_rfl
-- END VC
-- VC vc_far HASH f56beee36032bea9
theorem vc_far  :
    Owes Tryd.prog Cx.none [] 100 Tryd.f17 [] farG =
    ((0 : Nat) = (0 : Nat) ∧ (0 : Nat) = (0 : Nat) ∧ Bool.true = Bool.true ∧ True) := by kernel_rfl
-- END VC
-- VC vc_cMult HASH 3f2358f69f6c91b1
theorem vc_cMult (P A B N X Y k x y : Nat) (F f : Bool) :
    Owes Tryd.prog cxCMult [(7, .inv (invMult P A B N X Y F k x y f))] 100 Tryd.f9 [sCv P A B N X Y F, sU k, sPt x y f] (cMultG [[.u P, .u A, .u B, .u N, .u X, .u Y, .b F], [.u k], [.u x, .u y, .b f]]) =
    (let x1 : Nat := P % Go.Sx.M256; let x2 : Nat := A % Go.Sx.M256; let x3 : Nat := B % Go.Sx.M256; let x4 : Nat := N % Go.Sx.M256; let x5 : Nat := k % Go.Sx.M256; let x6 : Nat := X % Go.Sx.M256; let x7 : Nat := Y % Go.Sx.M256; let x8 : Nat := x % Go.Sx.M256; let x9 : Nat := y % Go.Sx.M256; x1 = x1 ∧ goodP x1 x2 x3 x4 (red X Y F) ∧ x2 < x1 ∧ x3 < x1 ∧ onP x1 x2 x3 (red x y f) ∧ (∀ (y_1 : Nat), Go.Sx.closedB (Go.Sx.slotsAt (57 : Nat) [((3 : Nat), Go.Sx.SV.one (Go.Sx.SA.sc (Go.Sx.SC.ptr (0 : Nat) (0 : Nat)))), ((4 : Nat), Go.Sx.SV.one (Go.Sx.SA.sc (Go.Sx.SC.ptr (1 : Nat) (0 : Nat)))), ((5 : Nat), Go.Sx.SV.one (Go.Sx.SA.sc (Go.Sx.SC.ptr (2 : Nat) (0 : Nat)))), ((6 : Nat), Go.Sx.SV.one (Go.Sx.SA.sc (Go.Sx.SC.ptr (3 : Nat) (0 : Nat)))), ((8 : Nat), Go.Sx.SV.one (Go.Sx.SA.sc (Go.Sx.SC.ptr (4 : Nat) (0 : Nat)))), ((9 : Nat), Go.Sx.SV.one (Go.Sx.SA.sc (Go.Sx.SC.ptr (5 : Nat) (0 : Nat)))), ((10 : Nat), Go.Sx.SV.one (Go.Sx.SA.sc (Go.Sx.SC.ptr (6 : Nat) (0 : Nat)))), ((11 : Nat), Go.Sx.SV.one (Go.Sx.sI Go.IntKind.i64 ((255 : Int) - (↑y_1 : Int))))]) [Go.Sx.SO.cells (28 : Go.TypeId) [Go.Sx.SK.u P, Go.Sx.SK.u A, Go.Sx.SK.u B, Go.Sx.SK.u N, Go.Sx.SK.u X, Go.Sx.SK.u Y, Go.Sx.SK.c (Go.Sx.SC.val (Go.Value.bool F))] (0 : Nat), Go.Sx.SO.cells (24 : Go.TypeId) [Go.Sx.SK.u k] (0 : Nat), Go.Sx.SO.cells (26 : Go.TypeId) [Go.Sx.SK.u x, Go.Sx.SK.u y, Go.Sx.SK.c (Go.Sx.SC.val (Go.Value.bool f))] (0 : Nat), Go.Sx.SO.cells (26 : Go.TypeId) (zeroU ++ zeroU ++ [Go.Sx.SK.c (Go.Sx.SC.bit Bool.false)]) (0 : Nat), Go.Sx.SO.cells (31 : Go.TypeId) [Go.Sx.SK.c (Go.Sx.SC.num Go.IntKind.i64 (0 : Int))] (0 : Nat), Go.Sx.SO.cells (51 : Go.TypeId) [Go.Sx.SK.u P, Go.Sx.SK.c (Go.Sx.SC.ptr (4 : Nat) (0 : Nat))] (0 : Nat), Go.Sx.SO.cells (26 : Go.TypeId) [Go.Sx.SK.u (cmulR x1 x2 x5 (red x y f) y_1).fst, Go.Sx.SK.u (cmulR x1 x2 x5 (red x y f) y_1).snd.fst, Go.Sx.SK.c (Go.Sx.SC.val (Go.Value.bool (cmulR x1 x2 x5 (red x y f) y_1).snd.snd))] (0 : Nat)] = Bool.true) ∧ ∃ (y_1 : Nat), y_1 ≤ (256 : Nat) ∧ (255 : Int) = (255 : Int) - (↑y_1 : Int) ∧ x1 = x1 ∧ x2 = x2 ∧ x3 = x3 ∧ x4 = x4 ∧ x6 = x6 ∧ x7 = x7 ∧ F = F ∧ (0 : Nat) = (0 : Nat) ∧ x5 = x5 ∧ (0 : Nat) = (0 : Nat) ∧ x8 = x8 ∧ x9 = x9 ∧ f = f ∧ (0 : Nat) = (0 : Nat) ∧ (0 : Nat) = (0 : Nat) ∧ (0 : Nat) = (0 : Nat) ∧ x1 = x1 ∧ (0 : Nat) = (0 : Nat) ∧ (0 : Nat) = (cmulR x1 x2 x5 (red x y f) y_1).fst % Go.Sx.M256 ∧ (0 : Nat) = (cmulR x1 x2 x5 (red x y f) y_1).snd.fst % Go.Sx.M256 ∧ Bool.true = (cmulR x1 x2 x5 (red x y f) y_1).snd.snd ∧ (0 : Nat) = (0 : Nat) ∧ ∀ (y_2 : Nat), y_2 ≤ (256 : Nat) → (Decidable.decide ((255 : Int) - (↑y_2 : Int) ≥ (0 : Int)) = Bool.true → Decidable.decide ((255 : Int) - (↑y_2 : Int) ≥ (0 : Int)) = Bool.true) ∧ (Decidable.decide ((255 : Int) - (↑y_2 : Int) ≥ (0 : Int)) = Bool.true → Decidable.decide ((255 : Int) - (↑y_2 : Int) ≥ (0 : Int)) = Bool.true) ∧ ((Decidable.decide ((255 : Int) - (↑y_2 : Int) ≥ (0 : Int)) && (0 : Int) == (0 : Int)) = Bool.true → sumOK x1 x2 (red (cmulR x1 x2 x5 (red x y f) y_2).fst (cmulR x1 x2 x5 (red x y f) y_2).snd.fst (cmulR x1 x2 x5 (red x y f) y_2).snd.snd) (red (cmulR x1 x2 x5 (red x y f) y_2).fst (cmulR x1 x2 x5 (red x y f) y_2).snd.fst (cmulR x1 x2 x5 (red x y f) y_2).snd.snd) ∧ ((0 : Int) ≤ Go.IntKind.i64.wrap (((255 : Int) - (↑y_2 : Int)).tdiv (64 : Int)) ∧ Go.IntKind.i64.wrap (((255 : Int) - (↑y_2 : Int)).tdiv (64 : Int)) < (4 : Int)) ∧ ((0 : Int) ≤ Go.IntKind.i64.wrap (((255 : Int) - (↑y_2 : Int)).tdiv (64 : Int)) ∧ Go.IntKind.i64.wrap (((255 : Int) - (↑y_2 : Int)).tdiv (64 : Int)) < (4 : Int)) ∧ (0 : Int) ≤ ((255 : Int) - (↑y_2 : Int)).tmod (64 : Int) ∧ ((Go.IntKind.u64.wrap (↑(BitVec.ofInt (64 : Nat) ((Go.Sx.limb k (Go.IntKind.i64.wrap (((255 : Int) - (↑y_2 : Int)).tdiv (64 : Int))).toNat).fdiv ((2 : Int) ^ Min.min (((255 : Int) - (↑y_2 : Int)).tmod (64 : Int)).toNat (64 : Nat))) &&& BitVec.ofInt (64 : Nat) (1 : Int)).toNat : Int) == (1 : Int)) = Bool.true → sumOK x1 x2 (red (csum x1 x2 (red (cmulR x1 x2 x5 (red x y f) y_2).fst (cmulR x1 x2 x5 (red x y f) y_2).snd.fst (cmulR x1 x2 x5 (red x y f) y_2).snd.snd) (red (cmulR x1 x2 x5 (red x y f) y_2).fst (cmulR x1 x2 x5 (red x y f) y_2).snd.fst (cmulR x1 x2 x5 (red x y f) y_2).snd.snd)).fst (csum x1 x2 (red (cmulR x1 x2 x5 (red x y f) y_2).fst (cmulR x1 x2 x5 (red x y f) y_2).snd.fst (cmulR x1 x2 x5 (red x y f) y_2).snd.snd) (red (cmulR x1 x2 x5 (red x y f) y_2).fst (cmulR x1 x2 x5 (red x y f) y_2).snd.fst (cmulR x1 x2 x5 (red x y f) y_2).snd.snd)).snd.fst (csum x1 x2 (red (cmulR x1 x2 x5 (red x y f) y_2).fst (cmulR x1 x2 x5 (red x y f) y_2).snd.fst (cmulR x1 x2 x5 (red x y f) y_2).snd.snd) (red (cmulR x1 x2 x5 (red x y f) y_2).fst (cmulR x1 x2 x5 (red x y f) y_2).snd.fst (cmulR x1 x2 x5 (red x y f) y_2).snd.snd)).snd.snd) (red x y f) ∧ ∃ (y' : Nat), y' ≤ (256 : Nat) ∧ Go.IntKind.i64.wrap ((255 : Int) - (↑y_2 : Int) - (1 : Int)) = (255 : Int) - (↑y' : Int) ∧ x1 = x1 ∧ x2 = x2 ∧ x3 = x3 ∧ x4 = x4 ∧ x6 = x6 ∧ x7 = x7 ∧ F = F ∧ (0 : Nat) = (0 : Nat) ∧ x5 = x5 ∧ (0 : Nat) = (0 : Nat) ∧ x8 = x8 ∧ x9 = x9 ∧ f = f ∧ (0 : Nat) = (0 : Nat) ∧ (0 : Nat) = (0 : Nat) ∧ (0 : Nat) = (0 : Nat) ∧ x1 = x1 ∧ (0 : Nat) = (0 : Nat) ∧ (csum x1 x2 (red (csum x1 x2 (red (cmulR x1 x2 x5 (red x y f) y_2).fst (cmulR x1 x2 x5 (red x y f) y_2).snd.fst (cmulR x1 x2 x5 (red x y f) y_2).snd.snd) (red (cmulR x1 x2 x5 (red x y f) y_2).fst (cmulR x1 x2 x5 (red x y f) y_2).snd.fst (cmulR x1 x2 x5 (red x y f) y_2).snd.snd)).fst (csum x1 x2 (red (cmulR x1 x2 x5 (red x y f) y_2).fst (cmulR x1 x2 x5 (red x y f) y_2).snd.fst (cmulR x1 x2 x5 (red x y f) y_2).snd.snd) (red (cmulR x1 x2 x5 (red x y f) y_2).fst (cmulR x1 x2 x5 (red x y f) y_2).snd.fst (cmulR x1 x2 x5 (red x y f) y_2).snd.snd)).snd.fst (csum x1 x2 (red (cmulR x1 x2 x5 (red x y f) y_2).fst (cmulR x1 x2 x5 (red x y f) y_2).snd.fst (cmulR x1 x2 x5 (red x y f) y_2).snd.snd) (red (cmulR x1 x2 x5 (red x y f) y_2).fst (cmulR x1 x2 x5 (red x y f) y_2).snd.fst (cmulR x1 x2 x5 (red x y f) y_2).snd.snd)).snd.snd) (red x y f)).fst % Go.Sx.M256 = (cmulR x1 x2 x5 (red x y f) y').fst % Go.Sx.M256 ∧ (csum x1 x2 (red (csum x1 x2 (red (cmulR x1 x2 x5 (red x y f) y_2).fst (cmulR x1 x2 x5 (red x y f) y_2).snd.fst (cmulR x1 x2 x5 (red x y f) y_2).snd.snd) (red (cmulR x1 x2 x5 (red x y f) y_2).fst (cmulR x1 x2 x5 (red x y f) y_2).snd.fst (cmulR x1 x2 x5 (red x y f) y_2).snd.snd)).fst (csum x1 x2 (red (cmulR x1 x2 x5 (red x y f) y_2).fst (cmulR x1 x2 x5 (red x y f) y_2).snd.fst (cmulR x1 x2 x5 (red x y f) y_2).snd.snd) (red (cmulR x1 x2 x5 (red x y f) y_2).fst (cmulR x1 x2 x5 (red x y f) y_2).snd.fst (cmulR x1 x2 x5 (red x y f) y_2).snd.snd)).snd.fst (csum x1 x2 (red (cmulR x1 x2 x5 (red x y f) y_2).fst (cmulR x1 x2 x5 (red x y f) y_2).snd.fst (cmulR x1 x2 x5 (red x y f) y_2).snd.snd) (red (cmulR x1 x2 x5 (red x y f) y_2).fst (cmulR x1 x2 x5 (red x y f) y_2).snd.fst (cmulR x1 x2 x5 (red x y f) y_2).snd.snd)).snd.snd) (red x y f)).snd.fst % Go.Sx.M256 = (cmulR x1 x2 x5 (red x y f) y').snd.fst % Go.Sx.M256 ∧ (csum x1 x2 (red (csum x1 x2 (red (cmulR x1 x2 x5 (red x y f) y_2).fst (cmulR x1 x2 x5 (red x y f) y_2).snd.fst (cmulR x1 x2 x5 (red x y f) y_2).snd.snd) (red (cmulR x1 x2 x5 (red x y f) y_2).fst (cmulR x1 x2 x5 (red x y f) y_2).snd.fst (cmulR x1 x2 x5 (red x y f) y_2).snd.snd)).fst (csum x1 x2 (red (cmulR x1 x2 x5 (red x y f) y_2).fst (cmulR x1 x2 x5 (red x y f) y_2).snd.fst (cmulR x1 x2 x5 (red x y f) y_2).snd.snd) (red (cmulR x1 x2 x5 (red x y f) y_2).fst (cmulR x1 x2 x5 (red x y f) y_2).snd.fst (cmulR x1 x2 x5 (red x y f) y_2).snd.snd)).snd.fst (csum x1 x2 (red (cmulR x1 x2 x5 (red x y f) y_2).fst (cmulR x1 x2 x5 (red x y f) y_2).snd.fst (cmulR x1 x2 x5 (red x y f) y_2).snd.snd) (red (cmulR x1 x2 x5 (red x y f) y_2).fst (cmulR x1 x2 x5 (red x y f) y_2).snd.fst (cmulR x1 x2 x5 (red x y f) y_2).snd.snd)).snd.snd) (red x y f)).snd.snd = (cmulR x1 x2 x5 (red x y f) y').snd.snd ∧ (0 : Nat) = (0 : Nat) ∧ (256 : Nat) - y' < (256 : Nat) - y_2) ∧ ((Go.IntKind.u64.wrap (↑(BitVec.ofInt (64 : Nat) ((Go.Sx.limb k (Go.IntKind.i64.wrap (((255 : Int) - (↑y_2 : Int)).tdiv (64 : Int))).toNat).fdiv ((2 : Int) ^ Min.min (((255 : Int) - (↑y_2 : Int)).tmod (64 : Int)).toNat (64 : Nat))) &&& BitVec.ofInt (64 : Nat) (1 : Int)).toNat : Int) == (1 : Int)) = Bool.false → ∃ (y' : Nat), y' ≤ (256 : Nat) ∧ Go.IntKind.i64.wrap ((255 : Int) - (↑y_2 : Int) - (1 : Int)) = (255 : Int) - (↑y' : Int) ∧ x1 = x1 ∧ x2 = x2 ∧ x3 = x3 ∧ x4 = x4 ∧ x6 = x6 ∧ x7 = x7 ∧ F = F ∧ (0 : Nat) = (0 : Nat) ∧ x5 = x5 ∧ (0 : Nat) = (0 : Nat) ∧ x8 = x8 ∧ x9 = x9 ∧ f = f ∧ (0 : Nat) = (0 : Nat) ∧ (0 : Nat) = (0 : Nat) ∧ (0 : Nat) = (0 : Nat) ∧ x1 = x1 ∧ (0 : Nat) = (0 : Nat) ∧ (csum x1 x2 (red (cmulR x1 x2 x5 (red x y f) y_2).fst (cmulR x1 x2 x5 (red x y f) y_2).snd.fst (cmulR x1 x2 x5 (red x y f) y_2).snd.snd) (red (cmulR x1 x2 x5 (red x y f) y_2).fst (cmulR x1 x2 x5 (red x y f) y_2).snd.fst (cmulR x1 x2 x5 (red x y f) y_2).snd.snd)).fst % Go.Sx.M256 = (cmulR x1 x2 x5 (red x y f) y').fst % Go.Sx.M256 ∧ (csum x1 x2 (red (cmulR x1 x2 x5 (red x y f) y_2).fst (cmulR x1 x2 x5 (red x y f) y_2).snd.fst (cmulR x1 x2 x5 (red x y f) y_2).snd.snd) (red (cmulR x1 x2 x5 (red x y f) y_2).fst (cmulR x1 x2 x5 (red x y f) y_2).snd.fst (cmulR x1 x2 x5 (red x y f) y_2).snd.snd)).snd.fst % Go.Sx.M256 = (cmulR x1 x2 x5 (red x y f) y').snd.fst % Go.Sx.M256 ∧ (csum x1 x2 (red (cmulR x1 x2 x5 (red x y f) y_2).fst (cmulR x1 x2 x5 (red x y f) y_2).snd.fst (cmulR x1 x2 x5 (red x y f) y_2).snd.snd) (red (cmulR x1 x2 x5 (red x y f) y_2).fst (cmulR x1 x2 x5 (red x y f) y_2).snd.fst (cmulR x1 x2 x5 (red x y f) y_2).snd.snd)).snd.snd = (cmulR x1 x2 x5 (red x y f) y').snd.snd ∧ (0 : Nat) = (0 : Nat) ∧ (256 : Nat) - y' < (256 : Nat) - y_2)) ∧ ((Decidable.decide ((255 : Int) - (↑y_2 : Int) ≥ (0 : Int)) && (0 : Int) == (0 : Int)) = Bool.false → (0 : Int) = (0 : Int) ∧ ((cmulR x1 x2 x5 (red x y f) y_2).fst % Go.Sx.M256 = (cmulR x1 x2 x5 (red x y f) (256 : Nat)).fst % Go.Sx.M256 ∧ (cmulR x1 x2 x5 (red x y f) y_2).snd.fst % Go.Sx.M256 = (cmulR x1 x2 x5 (red x y f) (256 : Nat)).snd.fst % Go.Sx.M256 ∧ (cmulR x1 x2 x5 (red x y f) y_2).snd.snd = (cmulR x1 x2 x5 (red x y f) (256 : Nat)).snd.snd ∧ True) ∧ (0 : Int) = (0 : Int))) := by kernel_rfl
-- END VC

end Go.Proofs.YtbfcccoeekonlaaDoor
end

section
/-
  Texts of numbers: reckoned by the kernel. (Laid by program.)
-/
namespace Go.Proofs.YtbfcccoeekonlaaDoor
open Go.Sx
set_option maxRecDepth 100000
end Go.Proofs.YtbfcccoeekonlaaDoor
end

section
/-
  What powers of ten, and bytes, come to: reckoned by the kernel. (Laid by program.)
-/
namespace Go.Proofs.YtbfcccoeekonlaaDoor
open Go.Sx
set_option maxRecDepth 100000
-- VC vc_Bytes HASH cc146449d67d07bd
theorem vc_Bytes (a : Nat) :
    Owes Tryd.prog Cx.none [] 400 Tryd.f10 [sU a] (bytesG a) =
    (Go.IntKind.u8.wrap ((Go.Sx.limb a (3 : Nat)).fdiv (72057594037927936 : Int)) = Go.Sx.by8 a (31 : Nat) ∧ Go.IntKind.u8.wrap ((Go.Sx.limb a (3 : Nat)).fdiv (281474976710656 : Int)) = Go.Sx.by8 a (30 : Nat) ∧ Go.IntKind.u8.wrap ((Go.Sx.limb a (3 : Nat)).fdiv (1099511627776 : Int)) = Go.Sx.by8 a (29 : Nat) ∧ Go.IntKind.u8.wrap ((Go.Sx.limb a (3 : Nat)).fdiv (4294967296 : Int)) = Go.Sx.by8 a (28 : Nat) ∧ Go.IntKind.u8.wrap ((Go.Sx.limb a (3 : Nat)).fdiv (16777216 : Int)) = Go.Sx.by8 a (27 : Nat) ∧ Go.IntKind.u8.wrap ((Go.Sx.limb a (3 : Nat)).fdiv (65536 : Int)) = Go.Sx.by8 a (26 : Nat) ∧ Go.IntKind.u8.wrap ((Go.Sx.limb a (3 : Nat)).fdiv (256 : Int)) = Go.Sx.by8 a (25 : Nat) ∧ Go.IntKind.u8.wrap ((Go.Sx.limb a (3 : Nat)).fdiv (1 : Int)) = Go.Sx.by8 a (24 : Nat) ∧ Go.IntKind.u8.wrap ((Go.Sx.limb a (2 : Nat)).fdiv (72057594037927936 : Int)) = Go.Sx.by8 a (23 : Nat) ∧ Go.IntKind.u8.wrap ((Go.Sx.limb a (2 : Nat)).fdiv (281474976710656 : Int)) = Go.Sx.by8 a (22 : Nat) ∧ Go.IntKind.u8.wrap ((Go.Sx.limb a (2 : Nat)).fdiv (1099511627776 : Int)) = Go.Sx.by8 a (21 : Nat) ∧ Go.IntKind.u8.wrap ((Go.Sx.limb a (2 : Nat)).fdiv (4294967296 : Int)) = Go.Sx.by8 a (20 : Nat) ∧ Go.IntKind.u8.wrap ((Go.Sx.limb a (2 : Nat)).fdiv (16777216 : Int)) = Go.Sx.by8 a (19 : Nat) ∧ Go.IntKind.u8.wrap ((Go.Sx.limb a (2 : Nat)).fdiv (65536 : Int)) = Go.Sx.by8 a (18 : Nat) ∧ Go.IntKind.u8.wrap ((Go.Sx.limb a (2 : Nat)).fdiv (256 : Int)) = Go.Sx.by8 a (17 : Nat) ∧ Go.IntKind.u8.wrap ((Go.Sx.limb a (2 : Nat)).fdiv (1 : Int)) = Go.Sx.by8 a (16 : Nat) ∧ Go.IntKind.u8.wrap ((Go.Sx.limb a (1 : Nat)).fdiv (72057594037927936 : Int)) = Go.Sx.by8 a (15 : Nat) ∧ Go.IntKind.u8.wrap ((Go.Sx.limb a (1 : Nat)).fdiv (281474976710656 : Int)) = Go.Sx.by8 a (14 : Nat) ∧ Go.IntKind.u8.wrap ((Go.Sx.limb a (1 : Nat)).fdiv (1099511627776 : Int)) = Go.Sx.by8 a (13 : Nat) ∧ Go.IntKind.u8.wrap ((Go.Sx.limb a (1 : Nat)).fdiv (4294967296 : Int)) = Go.Sx.by8 a (12 : Nat) ∧ Go.IntKind.u8.wrap ((Go.Sx.limb a (1 : Nat)).fdiv (16777216 : Int)) = Go.Sx.by8 a (11 : Nat) ∧ Go.IntKind.u8.wrap ((Go.Sx.limb a (1 : Nat)).fdiv (65536 : Int)) = Go.Sx.by8 a (10 : Nat) ∧ Go.IntKind.u8.wrap ((Go.Sx.limb a (1 : Nat)).fdiv (256 : Int)) = Go.Sx.by8 a (9 : Nat) ∧ Go.IntKind.u8.wrap ((Go.Sx.limb a (1 : Nat)).fdiv (1 : Int)) = Go.Sx.by8 a (8 : Nat) ∧ Go.IntKind.u8.wrap ((Go.Sx.limb a (0 : Nat)).fdiv (72057594037927936 : Int)) = Go.Sx.by8 a (7 : Nat) ∧ Go.IntKind.u8.wrap ((Go.Sx.limb a (0 : Nat)).fdiv (281474976710656 : Int)) = Go.Sx.by8 a (6 : Nat) ∧ Go.IntKind.u8.wrap ((Go.Sx.limb a (0 : Nat)).fdiv (1099511627776 : Int)) = Go.Sx.by8 a (5 : Nat) ∧ Go.IntKind.u8.wrap ((Go.Sx.limb a (0 : Nat)).fdiv (4294967296 : Int)) = Go.Sx.by8 a (4 : Nat) ∧ Go.IntKind.u8.wrap ((Go.Sx.limb a (0 : Nat)).fdiv (16777216 : Int)) = Go.Sx.by8 a (3 : Nat) ∧ Go.IntKind.u8.wrap ((Go.Sx.limb a (0 : Nat)).fdiv (65536 : Int)) = Go.Sx.by8 a (2 : Nat) ∧ Go.IntKind.u8.wrap ((Go.Sx.limb a (0 : Nat)).fdiv (256 : Int)) = Go.Sx.by8 a (1 : Nat) ∧ Go.IntKind.u8.wrap ((Go.Sx.limb a (0 : Nat)).fdiv (1 : Int)) = Go.Sx.by8 a (0 : Nat) ∧ True) := by kernel_rfl
-- END VC
end Go.Proofs.YtbfcccoeekonlaaDoor
end

section
/-
  Package wide's functions, each held to its card: the numbers' side.
-/
namespace Go.Proofs.YtbfcccoeekonlaaDoor
open Go.Sx

theorem split4 (n : Nat) : ∃ a b c d : Nat, limb n 0 = a ∧ limb n 1 = b ∧ limb n 2 = c ∧ limb n 3 = d ∧ a < 18446744073709551616 ∧ b < 18446744073709551616 ∧ c < 18446744073709551616 ∧ d < 18446744073709551616 ∧
    n % M256 = a + 18446744073709551616 * b + 340282366920938463463374607431768211456 * c + 6277101735386680763835789423207666416102355444464034512896 * d := by
  refine ⟨n / 2 ^ (64 * 0) % 2 ^ 64, n / 2 ^ (64 * 1) % 2 ^ 64, n / 2 ^ (64 * 2) % 2 ^ 64, n / 2 ^ (64 * 3) % 2 ^ 64, rfl, rfl, rfl, rfl, Nat.mod_lt _ (by decide), Nat.mod_lt _ (by decide), Nat.mod_lt _ (by decide), Nat.mod_lt _ (by decide), ?_⟩
  rw [limbs_sum]
  simp only [Nat.mul_zero, Nat.pow_zero, Nat.div_one, Nat.mul_one, Nat.reduceMul, Nat.reducePow]

theorem M256_eq : M256 = 115792089237316195423570985008687907853269984665640564039457584007913129639936 := by decide

theorem carry_step (x y c : Nat) (hx : x < 18446744073709551616) (hy : y < 18446744073709551616) (hc : c ≤ 1) :
    ∃ s d : Nat, ((x : Int) + y + c) % 18446744073709551616 = s ∧ ((x : Int) + y + c) / 18446744073709551616 = d ∧ s < 18446744073709551616 ∧ d ≤ 1 ∧ x + y + c = s + 18446744073709551616 * d :=
  ⟨(x + y + c) % 18446744073709551616, (x + y + c) / 18446744073709551616, by omega, by omega, by omega, by omega, by omega⟩

theorem divmod_of {A S c M : Nat} (h : A = S + M * c) (hS : S < M) : A % M = S ∧ A / M = c := by
  subst h
  rw [Nat.add_mul_mod_self_left, Nat.mod_eq_of_lt hS, Nat.add_mul_div_left _ _ (by omega), Nat.div_eq_of_lt hS]
  exact ⟨rfl, by omega⟩

theorem ok_plus : ∀ a b, Owes Tryd.prog cxPlus [] 100 Tryd.f64 [sU a, sU b] (plusG a b) := by
  intro a b
  rw [vc_plus]
  have hab := Nat.add_mod a b M256
  obtain ⟨a0, a1, a2, a3, e0, e1, e2, e3, h0, h1, h2, h3, ha⟩ := split4 a
  obtain ⟨b0, b1, b2, b3, f0, f1, f2, f3, k0, k1, k2, k3, hb⟩ := split4 b
  rw [e0, e1, e2, e3, f0, f1, f2, f3]
  rw [ha, hb] at hab
  rw [ha, hb]
  obtain ⟨s0, c0, p0, q0, r0, t0, w0⟩ := carry_step a0 b0 0 h0 k0 (by omega)
  obtain ⟨s1, c1, p1, q1, r1, t1, w1⟩ := carry_step a1 b1 c0 h1 k1 t0
  obtain ⟨s2, c2, p2, q2, r2, t2, w2⟩ := carry_step a2 b2 c1 h2 k2 t1
  obtain ⟨s3, c3, p3, q3, r3, t3, w3⟩ := carry_step a3 b3 c2 h3 k3 t2
  simp only [Int.natCast_zero] at p0 q0
  obtain ⟨m1, m2⟩ := divmod_of (A := a0 + 18446744073709551616 * a1 + 340282366920938463463374607431768211456 * a2 + 6277101735386680763835789423207666416102355444464034512896 * a3 +
    (b0 + 18446744073709551616 * b1 + 340282366920938463463374607431768211456 * b2 + 6277101735386680763835789423207666416102355444464034512896 * b3))
    (S := s0 + 2 ^ 64 * s1 + 2 ^ 128 * s2 + 2 ^ 192 * s3) (c := c3) (M := M256) (by rw [M256_eq]; omega) (by rw [M256_eq]; omega)
  rw [m1] at hab
  have hS : (s0 + 2 ^ 64 * s1 + 2 ^ 128 * s2 + 2 ^ 192 * s3) % M256 = s0 + 2 ^ 64 * s1 + 2 ^ 128 * s2 + 2 ^ 192 * s3 := Nat.mod_eq_of_lt (by rw [M256_eq]; omega)
  simp only [q0, q1, q2, q3, p0, p1, p2, p3, join, Int.toNat_natCast, and_true, hab, hS, m2]
  clear ha hb hab hS m1 m2 p0 p1 p2 p3 q0 q1 q2 q3 w0 w1 w2 w3 e0 e1 e2 e3 f0 f1 f2 f3
  refine ⟨?_, ?_, ?_, ?_, ?_, ?_, ?_, ?_, ?_, ?_, ?_, ?_, ?_, ?_, ?_, ?_⟩ <;> omega

theorem borrow_step (x y c : Nat) (hx : x < 18446744073709551616) (hy : y < 18446744073709551616) (hc : c ≤ 1) :
    ∃ s d : Nat, ((x : Int) - y - c) % 18446744073709551616 = s ∧ -(((x : Int) - y - c) / 18446744073709551616) = d ∧ s < 18446744073709551616 ∧ d ≤ 1 ∧ x + 18446744073709551616 * d = s + y + c :=
  ⟨(((x : Int) - y - c) % 18446744073709551616).toNat, (-(((x : Int) - y - c) / 18446744073709551616)).toNat, by omega, by omega, by omega, by omega, by omega⟩

theorem ok_less : ∀ a b, Owes Tryd.prog cxLess [] 100 Tryd.f65 [sU a, sU b] (lessG a b) := by
  intro a b
  rw [vc_less]
  obtain ⟨a0, a1, a2, a3, e0, e1, e2, e3, h0, h1, h2, h3, ha⟩ := split4 a
  obtain ⟨b0, b1, b2, b3, f0, f1, f2, f3, k0, k1, k2, k3, hb⟩ := split4 b
  rw [e0, e1, e2, e3, f0, f1, f2, f3, ha, hb]
  obtain ⟨s0, c0, p0, q0, r0, t0, w0⟩ := borrow_step a0 b0 0 h0 k0 (by omega)
  obtain ⟨s1, c1, p1, q1, r1, t1, w1⟩ := borrow_step a1 b1 c0 h1 k1 t0
  obtain ⟨s2, c2, p2, q2, r2, t2, w2⟩ := borrow_step a2 b2 c1 h2 k2 t1
  obtain ⟨s3, c3, p3, q3, r3, t3, w3⟩ := borrow_step a3 b3 c2 h3 k3 t2
  simp only [Int.natCast_zero] at p0 q0
  have key : a0 + 18446744073709551616 * a1 + 340282366920938463463374607431768211456 * a2 + 6277101735386680763835789423207666416102355444464034512896 * a3 + M256 * c3 =
    (s0 + 2 ^ 64 * s1 + 2 ^ 128 * s2 + 2 ^ 192 * s3) + (b0 + 18446744073709551616 * b1 + 340282366920938463463374607431768211456 * b2 + 6277101735386680763835789423207666416102355444464034512896 * b3) := by
    rw [M256_eq]; omega
  simp only [q0, q1, q2, q3, p0, p1, p2, p3, join, Int.toNat_natCast, and_true]
  generalize hA : a0 + 18446744073709551616 * a1 + 340282366920938463463374607431768211456 * a2 + 6277101735386680763835789423207666416102355444464034512896 * a3 = A at *
  generalize hB : b0 + 18446744073709551616 * b1 + 340282366920938463463374607431768211456 * b2 + 6277101735386680763835789423207666416102355444464034512896 * b3 = B at *
  have hA' : A < M256 := by rw [M256_eq]; omega
  have hB' : B < M256 := by rw [M256_eq]; omega
  have hS' : s0 + 2 ^ 64 * s1 + 2 ^ 128 * s2 + 2 ^ 192 * s3 < M256 := by rw [M256_eq]; omega
  generalize s0 + 2 ^ 64 * s1 + 2 ^ 128 * s2 + 2 ^ 192 * s3 = S at *
  rw [Nat.mod_eq_of_lt hS']
  have hc3 : c3 = 0 ∨ c3 = 1 := by omega
  have fin : S = (A + M256 - B) % M256 ∧ (c3 : Int) = if A < B then 1 else 0 := by
    rcases hc3 with rfl | rfl
    · have : ¬ A < B := by omega
      rw [if_neg this]
      refine ⟨?_, rfl⟩
      rw [show A + M256 - B = S + M256 by omega, Nat.add_mod_right, Nat.mod_eq_of_lt hS']
    · have : A < B := by omega
      rw [if_pos this]
      refine ⟨?_, rfl⟩
      rw [show A + M256 - B = S by omega, Nat.mod_eq_of_lt hS']
  obtain ⟨g1, g2⟩ := fin
  rw [← g1, ← g2]
  clear ha hb hA hB key hA' hB' hS' g1 g2 p0 p1 p2 p3 q0 q1 q2 q3 w0 w1 w2 w3 e0 e1 e2 e3 f0 f1 f2 f3
  repeat' apply And.intro
  all_goals first | rfl | omega

theorem ok_Add : ∀ a b, Owes Tryd.prog cxAdd [] 100 Tryd.f56 [sU a, sU b] (addG a b) := by
  intro a b
  rw [vc_Add]
  refine ⟨⟨rfl, trivial⟩, ?_⟩
  have hM : 0 < M256 := by decide
  have h1 := Nat.mod_lt a hM
  have h2 := Nat.mod_lt b hM
  rw [Bool.eq_iff_iff]
  simp only [bne_iff_ne, ne_eq, decide_eq_true_eq]
  by_cases h : M256 ≤ a % M256 + b % M256
  · have : (a % M256 + b % M256) / M256 ≠ 0 := by
      have := Nat.div_pos h hM
      omega
    simp only [h, iff_true]; omega
  · have : (a % M256 + b % M256) / M256 = 0 := Nat.div_eq_of_lt (by omega)
    simp [h, this]

theorem ok_Sub : ∀ a b, Owes Tryd.prog cxSub [] 100 Tryd.f57 [sU a, sU b] (subG a b) := by
  intro a b
  rw [vc_Sub]
  refine ⟨⟨rfl, trivial⟩, ?_⟩
  by_cases h : a % M256 < b % M256 <;> simp [h]

theorem ok_Cmp : ∀ a b, Owes Tryd.prog Cx.none [] 100 Tryd.f24 [sU a, sU b] (cmpG a b) := by
  intro a b
  rw [vc_Cmp]
  obtain ⟨a0, a1, a2, a3, e0, e1, e2, e3, h0, h1, h2, h3, ha⟩ := split4 a
  obtain ⟨b0, b1, b2, b3, f0, f1, f2, f3, k0, k1, k2, k3, hb⟩ := split4 b
  rw [e0, e1, e2, e3, f0, f1, f2, f3]
  simp only [cmpN, ha, hb, decide_eq_true_eq, decide_eq_false_iff_not]
  clear e0 e1 e2 e3 f0 f1 f2 f3 ha hb
  refine ⟨fun h => ?_, fun h => ⟨fun h' => ?_, fun h' => ⟨fun g => ?_, fun g => ⟨fun g' => ?_, fun g' => ⟨fun i => ?_, fun i => ⟨fun i' => ?_, fun i' => ⟨fun j => ?_, fun j => ⟨fun j' => ?_, fun j' => ?_⟩⟩⟩⟩⟩⟩⟩⟩
  all_goals
    split
    · omega
    · first
      | omega
      | (split <;> omega)

end Go.Proofs.YtbfcccoeekonlaaDoor
end

section
/-
  The laws' drawn numbers, and the laws of sums: the numbers' side.
-/
namespace Go.Proofs.YtbfcccoeekonlaaDoor
open Go.Sx

end Go.Proofs.YtbfcccoeekonlaaDoor
end

section
/-
  Products: the numbers' side.
-/
namespace Go.Proofs.YtbfcccoeekonlaaDoor
open Go.Sx

theorem wrap_id {n : Int} (h : 0 ≤ n ∧ n < 18446744073709551616) : IntKind.u64.wrap n = n := by
  unfold IntKind.wrap
  simp [IntKind.signed, IntKind.bits]
  omega

theorem limbs_int (a : Nat) : ((a % M256 : Nat) : Int) = limb a 0 + 18446744073709551616 * limb a 1 + 340282366920938463463374607431768211456 * limb a 2 + 6277101735386680763835789423207666416102355444464034512896 * limb a 3 := by
  obtain ⟨a0, a1, a2, a3, e0, e1, e2, e3, _, _, _, _, ha⟩ := split4 a
  rw [ha, e0, e1, e2, e3]
  omega
theorem mul_fin (a b : Nat) (c0 c1 c2 c3 c4 c5 c6 c7 : Int) (h0 : 0 ≤ c0 ∧ c0 < 18446744073709551616) (h1 : 0 ≤ c1 ∧ c1 < 18446744073709551616) (h2 : 0 ≤ c2 ∧ c2 < 18446744073709551616) (h3 : 0 ≤ c3 ∧ c3 < 18446744073709551616)
    (h4 : 0 ≤ c4 ∧ c4 < 18446744073709551616) (h5 : 0 ≤ c5 ∧ c5 < 18446744073709551616) (h6 : 0 ≤ c6 ∧ c6 < 18446744073709551616) (h7 : 0 ≤ c7 ∧ c7 < 18446744073709551616)
    (h : ((a % M256 : Nat) : Int) * ((b % M256 : Nat) : Int) = c0 + 18446744073709551616 * c1 + 340282366920938463463374607431768211456 * c2 + 6277101735386680763835789423207666416102355444464034512896 * c3 + 115792089237316195423570985008687907853269984665640564039457584007913129639936 * (c4 + 18446744073709551616 * c5 + 340282366920938463463374607431768211456 * c6 + 6277101735386680763835789423207666416102355444464034512896 * c7)) :
    join c0 c1 c2 c3 % M256 = a * b % M256 ∧ join c4 c5 c6 c7 % M256 = a % M256 * (b % M256) / M256 % M256 := by
  obtain ⟨c0, rfl⟩ := Int.eq_ofNat_of_zero_le h0.1
  obtain ⟨c1, rfl⟩ := Int.eq_ofNat_of_zero_le h1.1
  obtain ⟨c2, rfl⟩ := Int.eq_ofNat_of_zero_le h2.1
  obtain ⟨c3, rfl⟩ := Int.eq_ofNat_of_zero_le h3.1
  obtain ⟨c4, rfl⟩ := Int.eq_ofNat_of_zero_le h4.1
  obtain ⟨c5, rfl⟩ := Int.eq_ofNat_of_zero_le h5.1
  obtain ⟨c6, rfl⟩ := Int.eq_ofNat_of_zero_le h6.1
  obtain ⟨c7, rfl⟩ := Int.eq_ofNat_of_zero_le h7.1
  have hm := Nat.mul_mod a b M256
  rw [← Int.natCast_mul] at h
  generalize a % M256 * (b % M256) = g at h hm
  have e : g = join c0 c1 c2 c3 + M256 * join c4 c5 c6 c7 := by
    unfold join
    rw [M256_eq]
    simp only [Int.toNat_natCast, Nat.reducePow]
    omega
  have hlt : join c0 c1 c2 c3 < M256 := join_lt (by omega) (by omega) (by omega) (by omega)
  obtain ⟨k1, k2⟩ := divmod_of e hlt
  refine ⟨by rw [hm, k1, Nat.mod_eq_of_lt hlt], by rw [k2]⟩
theorem mac (X O P : Int) (hX : 0 ≤ X ∧ X ≤ 340282366920938463426481119284349108225) (hO : 0 ≤ O ∧ O < 18446744073709551616) (hP : 0 ≤ P ∧ P < 18446744073709551616) :
    X + O + P = (P + (X % 18446744073709551616 + O + 0) % 18446744073709551616 + 0) % 18446744073709551616 +
      18446744073709551616 * IntKind.u64.wrap (IntKind.u64.wrap (X / 18446744073709551616 + (X % 18446744073709551616 + O + 0) / 18446744073709551616) + (P + (X % 18446744073709551616 + O + 0) % 18446744073709551616 + 0) / 18446744073709551616) ∧
    (0 ≤ (P + (X % 18446744073709551616 + O + 0) % 18446744073709551616 + 0) % 18446744073709551616 ∧ (P + (X % 18446744073709551616 + O + 0) % 18446744073709551616 + 0) % 18446744073709551616 < 18446744073709551616) ∧
    (0 ≤ IntKind.u64.wrap (IntKind.u64.wrap (X / 18446744073709551616 + (X % 18446744073709551616 + O + 0) / 18446744073709551616) + (P + (X % 18446744073709551616 + O + 0) % 18446744073709551616 + 0) / 18446744073709551616) ∧
     IntKind.u64.wrap (IntKind.u64.wrap (X / 18446744073709551616 + (X % 18446744073709551616 + O + 0) / 18446744073709551616) + (P + (X % 18446744073709551616 + O + 0) % 18446744073709551616 + 0) / 18446744073709551616) < 18446744073709551616) := by
  have h1 : IntKind.u64.wrap (X / 18446744073709551616 + (X % 18446744073709551616 + O + 0) / 18446744073709551616) = X / 18446744073709551616 + (X % 18446744073709551616 + O + 0) / 18446744073709551616 := wrap_id (by omega)
  rw [h1, wrap_id (by omega)]
  omega
theorem limb_mul (a b : Nat) (i j : Nat) : 0 ≤ limb a i * limb b j ∧ limb a i * limb b j ≤ 340282366920938463426481119284349108225 := by
  have h1 := limb_nonneg a i
  have h2 := limb_nonneg b j
  have h3 := limb_lt a i
  have h4 := limb_lt b j
  refine ⟨Int.mul_nonneg h1 h2, ?_⟩
  have : limb a i * limb b j ≤ 18446744073709551615 * 18446744073709551615 := Int.mul_le_mul (by omega) (by omega) h2 (by decide)
  omega

/-- What the sixteen products come to, weighed. -/
theorem mul_weigh (a b c0 c1 c2 c3 c4 c5 c6 c7 : Int) (a0 a1 a2 a3 b0 b1 b2 b3 : Int) (ha : a = a0 + 18446744073709551616 * a1 + 340282366920938463463374607431768211456 * a2 + 6277101735386680763835789423207666416102355444464034512896 * a3)
    (hb : b = b0 + 18446744073709551616 * b1 + 340282366920938463463374607431768211456 * b2 + 6277101735386680763835789423207666416102355444464034512896 * b3)
    (h : a0 * b0 + 18446744073709551616 * (a0 * b1 + a1 * b0) + 340282366920938463463374607431768211456 * (a0 * b2 + a1 * b1 + a2 * b0) + 6277101735386680763835789423207666416102355444464034512896 * (a0 * b3 + a1 * b2 + a2 * b1 + a3 * b0) +
      115792089237316195423570985008687907853269984665640564039457584007913129639936 * (a1 * b3 + a2 * b2 + a3 * b1) + 2135987035920910082395021706169552114602704522356652769947041607822219725780640550022962086936576 * (a2 * b3 + a3 * b2) + 39402006196394479212279040100143613805079739270465446667948293404245721771497210611414266254884915640806627990306816 * (a3 * b3) =
      c0 + 18446744073709551616 * c1 + 340282366920938463463374607431768211456 * c2 + 6277101735386680763835789423207666416102355444464034512896 * c3 + 115792089237316195423570985008687907853269984665640564039457584007913129639936 * c4 + 2135987035920910082395021706169552114602704522356652769947041607822219725780640550022962086936576 * c5 + 39402006196394479212279040100143613805079739270465446667948293404245721771497210611414266254884915640806627990306816 * c6 + 726838724295606890549323807888004534353641360687318060281490199180639288113397923326191050713763565560762521606266177933534601628614656 * c7) :
    a * b = c0 + 18446744073709551616 * c1 + 340282366920938463463374607431768211456 * c2 + 6277101735386680763835789423207666416102355444464034512896 * c3 + 115792089237316195423570985008687907853269984665640564039457584007913129639936 * (c4 + 18446744073709551616 * c5 + 340282366920938463463374607431768211456 * c6 + 6277101735386680763835789423207666416102355444464034512896 * c7) := by
  subst ha hb
  simp only [Int.add_mul, Int.mul_add, Int.mul_assoc] at h ⊢
  have e : ∀ (x y : Int) (k : Int), x * (k * y) = k * (x * y) := fun x y k => Int.mul_left_comm x k y
  simp only [e a0, e a1, e a2, e a3] at h ⊢
  omega

set_option maxRecDepth 100000 in
theorem ok_Mul : ∀ a b, Owes Tryd.prog cxMul2 [] 100 Tryd.f54 [sU a, sU b] (mulG a b) := by
  intro a b
  rw [vc_Mul]
  have hm := limb_mul a b
  have h01 : (0 : Int) ≤ 1 := by decide
  have hz : (0 : Int) ≤ 0 ∧ (0 : Int) < 18446744073709551616 := by decide
  have hl : ∀ n i, (0 : Int) ≤ limb n i ∧ limb n i < 18446744073709551616 := fun n i => ⟨limb_nonneg n i, limb_lt n i⟩
  intro x1 x2 x3 x4 x5 x6 x7 x8 x9 x10 x11 x12 x13 x14 x15 x16 x17 x18 x19 x20 x21 x22 x23 x24 x25 x26 x27 x28 x29 x30 x31 x32 x33 x34 x35 x36 x37 x38 x39 x40 x41 x42 x43 x44 x45 x46 x47 x48 x49 x50 x51 x52 x53 x54 x55 x56 x57 x58 x59 x60 x61 x62 x63 x64 x65 x66 x67 x68 x69 x70 x71 x72 x73 x74 x75 x76 x77 x78 x79 x80 x81 x82 x83 x84 x85 x86 x87 x88 x89 x90 x91 x92 x93 x94 x95 x96 x97 x98 x99 x100 x101 x102 x103 x104 x105 x106 x107 x108 x109 x110 x111 x112
  obtain ⟨f0_0, p0_0, r0_0⟩ : x1 + 0 + 0 = x104 + 18446744073709551616 * x8 ∧ (0 ≤ x104 ∧ x104 < 18446744073709551616) ∧ (0 ≤ x8 ∧ x8 < 18446744073709551616) := mac x1 0 0 (hm 0 0) hz hz
  obtain ⟨f0_1, p0_1, r0_1⟩ : x5 + x8 + 0 = x25 + 18446744073709551616 * x14 ∧ (0 ≤ x25 ∧ x25 < 18446744073709551616) ∧ (0 ≤ x14 ∧ x14 < 18446744073709551616) := mac x5 x8 0 (hm 0 1) r0_0 hz
  obtain ⟨f0_2, p0_2, r0_2⟩ : x11 + x14 + 0 = x32 + 18446744073709551616 * x20 ∧ (0 ≤ x32 ∧ x32 < 18446744073709551616) ∧ (0 ≤ x20 ∧ x20 < 18446744073709551616) := mac x11 x14 0 (hm 0 2) r0_1 hz
  obtain ⟨f0_3, p0_3, r0_3⟩ : x17 + x20 + 0 = x40 + 18446744073709551616 * x47 ∧ (0 ≤ x40 ∧ x40 < 18446744073709551616) ∧ (0 ≤ x47 ∧ x47 < 18446744073709551616) := mac x17 x20 0 (hm 0 3) r0_2 hz
  obtain ⟨f1_0, p1_0, r1_0⟩ : x23 + 0 + x25 = x105 + 18446744073709551616 * x31 ∧ (0 ≤ x105 ∧ x105 < 18446744073709551616) ∧ (0 ≤ x31 ∧ x31 < 18446744073709551616) := mac x23 0 x25 (hm 1 0) hz p0_1
  obtain ⟨f1_1, p1_1, r1_1⟩ : x28 + x31 + x32 = x52 + 18446744073709551616 * x38 ∧ (0 ≤ x52 ∧ x52 < 18446744073709551616) ∧ (0 ≤ x38 ∧ x38 < 18446744073709551616) := mac x28 x31 x32 (hm 1 1) r1_0 p0_2
  obtain ⟨f1_2, p1_2, r1_2⟩ : x35 + x38 + x40 = x59 + 18446744073709551616 * x46 ∧ (0 ≤ x59 ∧ x59 < 18446744073709551616) ∧ (0 ≤ x46 ∧ x46 < 18446744073709551616) := mac x35 x38 x40 (hm 1 2) r1_1 p0_3
  obtain ⟨f1_3, p1_3, r1_3⟩ : x43 + x46 + x47 = x67 + 18446744073709551616 * x74 ∧ (0 ≤ x67 ∧ x67 < 18446744073709551616) ∧ (0 ≤ x74 ∧ x74 < 18446744073709551616) := mac x43 x46 x47 (hm 1 3) r1_2 r0_3
  obtain ⟨f2_0, p2_0, r2_0⟩ : x50 + 0 + x52 = x106 + 18446744073709551616 * x58 ∧ (0 ≤ x106 ∧ x106 < 18446744073709551616) ∧ (0 ≤ x58 ∧ x58 < 18446744073709551616) := mac x50 0 x52 (hm 2 0) hz p1_1
  obtain ⟨f2_1, p2_1, r2_1⟩ : x55 + x58 + x59 = x79 + 18446744073709551616 * x65 ∧ (0 ≤ x79 ∧ x79 < 18446744073709551616) ∧ (0 ≤ x65 ∧ x65 < 18446744073709551616) := mac x55 x58 x59 (hm 2 1) r2_0 p1_2
  obtain ⟨f2_2, p2_2, r2_2⟩ : x62 + x65 + x67 = x86 + 18446744073709551616 * x73 ∧ (0 ≤ x86 ∧ x86 < 18446744073709551616) ∧ (0 ≤ x73 ∧ x73 < 18446744073709551616) := mac x62 x65 x67 (hm 2 2) r2_1 p1_3
  obtain ⟨f2_3, p2_3, r2_3⟩ : x70 + x73 + x74 = x94 + 18446744073709551616 * x101 ∧ (0 ≤ x94 ∧ x94 < 18446744073709551616) ∧ (0 ≤ x101 ∧ x101 < 18446744073709551616) := mac x70 x73 x74 (hm 2 3) r2_2 r1_3
  obtain ⟨f3_0, p3_0, r3_0⟩ : x77 + 0 + x79 = x107 + 18446744073709551616 * x85 ∧ (0 ≤ x107 ∧ x107 < 18446744073709551616) ∧ (0 ≤ x85 ∧ x85 < 18446744073709551616) := mac x77 0 x79 (hm 3 0) hz p2_1
  obtain ⟨f3_1, p3_1, r3_1⟩ : x82 + x85 + x86 = x108 + 18446744073709551616 * x92 ∧ (0 ≤ x108 ∧ x108 < 18446744073709551616) ∧ (0 ≤ x92 ∧ x92 < 18446744073709551616) := mac x82 x85 x86 (hm 3 1) r3_0 p2_2
  obtain ⟨f3_2, p3_2, r3_2⟩ : x89 + x92 + x94 = x109 + 18446744073709551616 * x100 ∧ (0 ≤ x109 ∧ x109 < 18446744073709551616) ∧ (0 ≤ x100 ∧ x100 < 18446744073709551616) := mac x89 x92 x94 (hm 3 2) r3_1 p2_3
  obtain ⟨f3_3, p3_3, r3_3⟩ : x97 + x100 + x101 = x111 + 18446744073709551616 * x112 ∧ (0 ≤ x111 ∧ x111 < 18446744073709551616) ∧ (0 ≤ x112 ∧ x112 < 18446744073709551616) := mac x97 x100 x101 (hm 3 3) r3_2 r2_3
  have n_x2 : 0 ≤ x2 := Int.emod_nonneg _ (by decide)
  have n_x4 : 0 ≤ x4 := Int.emod_nonneg _ (by decide)
  have n_x6 : 0 ≤ x6 := Int.emod_nonneg _ (by decide)
  have n_x10 : 0 ≤ x10 := Int.emod_nonneg _ (by decide)
  have n_x12 : 0 ≤ x12 := Int.emod_nonneg _ (by decide)
  have n_x16 : 0 ≤ x16 := Int.emod_nonneg _ (by decide)
  have n_x18 : 0 ≤ x18 := Int.emod_nonneg _ (by decide)
  have n_x22 : 0 ≤ x22 := Int.emod_nonneg _ (by decide)
  have n_x24 : 0 ≤ x24 := Int.emod_nonneg _ (by decide)
  have n_x25 : 0 ≤ x25 := Int.emod_nonneg _ (by decide)
  have n_x27 : 0 ≤ x27 := Int.emod_nonneg _ (by decide)
  have n_x29 : 0 ≤ x29 := Int.emod_nonneg _ (by decide)
  have n_x32 : 0 ≤ x32 := Int.emod_nonneg _ (by decide)
  have n_x34 : 0 ≤ x34 := Int.emod_nonneg _ (by decide)
  have n_x36 : 0 ≤ x36 := Int.emod_nonneg _ (by decide)
  have n_x40 : 0 ≤ x40 := Int.emod_nonneg _ (by decide)
  have n_x42 : 0 ≤ x42 := Int.emod_nonneg _ (by decide)
  have n_x44 : 0 ≤ x44 := Int.emod_nonneg _ (by decide)
  have n_x49 : 0 ≤ x49 := Int.emod_nonneg _ (by decide)
  have n_x51 : 0 ≤ x51 := Int.emod_nonneg _ (by decide)
  have n_x52 : 0 ≤ x52 := Int.emod_nonneg _ (by decide)
  have n_x54 : 0 ≤ x54 := Int.emod_nonneg _ (by decide)
  have n_x56 : 0 ≤ x56 := Int.emod_nonneg _ (by decide)
  have n_x59 : 0 ≤ x59 := Int.emod_nonneg _ (by decide)
  have n_x61 : 0 ≤ x61 := Int.emod_nonneg _ (by decide)
  have n_x63 : 0 ≤ x63 := Int.emod_nonneg _ (by decide)
  have n_x67 : 0 ≤ x67 := Int.emod_nonneg _ (by decide)
  have n_x69 : 0 ≤ x69 := Int.emod_nonneg _ (by decide)
  have n_x71 : 0 ≤ x71 := Int.emod_nonneg _ (by decide)
  have n_x76 : 0 ≤ x76 := Int.emod_nonneg _ (by decide)
  have n_x78 : 0 ≤ x78 := Int.emod_nonneg _ (by decide)
  have n_x79 : 0 ≤ x79 := Int.emod_nonneg _ (by decide)
  have n_x81 : 0 ≤ x81 := Int.emod_nonneg _ (by decide)
  have n_x83 : 0 ≤ x83 := Int.emod_nonneg _ (by decide)
  have n_x86 : 0 ≤ x86 := Int.emod_nonneg _ (by decide)
  have n_x88 : 0 ≤ x88 := Int.emod_nonneg _ (by decide)
  have n_x90 : 0 ≤ x90 := Int.emod_nonneg _ (by decide)
  have n_x94 : 0 ≤ x94 := Int.emod_nonneg _ (by decide)
  have n_x96 : 0 ≤ x96 := Int.emod_nonneg _ (by decide)
  have n_x98 : 0 ≤ x98 := Int.emod_nonneg _ (by decide)
  have n_x103 : 0 ≤ x103 := Int.emod_nonneg _ (by decide)
  have n_x104 : 0 ≤ x104 := Int.emod_nonneg _ (by decide)
  have n_x105 : 0 ≤ x105 := Int.emod_nonneg _ (by decide)
  have n_x106 : 0 ≤ x106 := Int.emod_nonneg _ (by decide)
  have n_x107 : 0 ≤ x107 := Int.emod_nonneg _ (by decide)
  have n_x108 : 0 ≤ x108 := Int.emod_nonneg _ (by decide)
  have n_x109 : 0 ≤ x109 := Int.emod_nonneg _ (by decide)
  have n_x111 : 0 ≤ x111 := Int.emod_nonneg _ (by decide)
  have g0_0 : limb a 0 * limb b 0 = x1 := rfl
  have g0_1 : limb a 0 * limb b 1 = x5 := rfl
  have g0_2 : limb a 0 * limb b 2 = x11 := rfl
  have g0_3 : limb a 0 * limb b 3 = x17 := rfl
  have g1_0 : limb a 1 * limb b 0 = x23 := rfl
  have g1_1 : limb a 1 * limb b 1 = x28 := rfl
  have g1_2 : limb a 1 * limb b 2 = x35 := rfl
  have g1_3 : limb a 1 * limb b 3 = x43 := rfl
  have g2_0 : limb a 2 * limb b 0 = x50 := rfl
  have g2_1 : limb a 2 * limb b 1 = x55 := rfl
  have g2_2 : limb a 2 * limb b 2 = x62 := rfl
  have g2_3 : limb a 2 * limb b 3 = x70 := rfl
  have g3_0 : limb a 3 * limb b 0 = x77 := rfl
  have g3_1 : limb a 3 * limb b 1 = x82 := rfl
  have g3_2 : limb a 3 * limb b 2 = x89 := rfl
  have g3_3 : limb a 3 * limb b 3 = x97 := rfl
  clear_value x112 x111 x110 x109 x108 x107 x106 x105 x104 x103 x102 x101 x100 x99 x98 x97 x96 x95 x94 x93 x92 x91 x90 x89 x88 x87 x86 x85 x84 x83 x82 x81 x80 x79 x78 x77 x76 x75 x74 x73 x72 x71 x70 x69 x68 x67 x66 x65 x64 x63 x62 x61 x60 x59 x58 x57 x56 x55 x54 x53 x52 x51 x50 x49 x48 x47 x46 x45 x44 x43 x42 x41 x40 x39 x38 x37 x36 x35 x34 x33 x32 x31 x30 x29 x28 x27 x26 x25 x24 x23 x22 x21 x20 x19 x18 x17 x16 x15 x14 x13 x12 x11 x10 x9 x8 x7 x6 x5 x4 x3 x2 x1
  have hw := mul_weigh ((a % M256 : Nat) : Int) ((b % M256 : Nat) : Int) x104 x105 x106 x107 x108 x109 x111 x112 (limb a 0) (limb a 1) (limb a 2) (limb a 3) (limb b 0) (limb b 1) (limb b 2) (limb b 3) (limbs_int a) (limbs_int b)
    (by rw [g0_0, g0_1, g0_2, g0_3, g1_0, g1_1, g1_2, g1_3, g2_0, g2_1, g2_2, g2_3, g3_0, g3_1, g3_2, g3_3]; clear hm hl n_x2 n_x4 n_x6 n_x10 n_x12 n_x16 n_x18 n_x22 n_x24 n_x25 n_x27 n_x29 n_x32 n_x34 n_x36 n_x40 n_x42 n_x44 n_x49 n_x51 n_x52 n_x54 n_x56 n_x59 n_x61 n_x63 n_x67 n_x69 n_x71 n_x76 n_x78 n_x79 n_x81 n_x83 n_x86 n_x88 n_x90 n_x94 n_x96 n_x98 n_x103 n_x104 n_x105 n_x106 n_x107 n_x108 n_x109 n_x111; omega)
  obtain ⟨q1, q2⟩ := mul_fin a b x104 x105 x106 x107 x108 x109 x111 x112 p0_0 p1_0 p2_0 p3_0 p3_1 p3_2 p3_3 r3_3 hw
  have o_x8 := r0_0.1
  have o_x14 := r0_1.1
  have o_x20 := r0_2.1
  have o_x47 := r0_3.1
  have o_x31 := r1_0.1
  have o_x38 := r1_1.1
  have o_x46 := r1_2.1
  have o_x74 := r1_3.1
  have o_x58 := r2_0.1
  have o_x65 := r2_1.1
  have o_x73 := r2_2.1
  have o_x101 := r2_3.1
  have o_x85 := r3_0.1
  have o_x92 := r3_1.1
  have o_x100 := r3_2.1
  have o_x112 := r3_3.1
  exact ⟨⟨(limb_nonneg _ _), (limb_lt _ _)⟩, ⟨(limb_nonneg _ _), (limb_lt _ _)⟩, n_x2, hz.1, ⟨hz.1, h01⟩, hz.1, n_x4, ⟨hz.1, h01⟩, ⟨(limb_nonneg _ _), (limb_lt _ _)⟩, ⟨(limb_nonneg _ _), (limb_lt _ _)⟩, n_x6, r0_0.1, ⟨hz.1, h01⟩, hz.1, n_x10, ⟨hz.1, h01⟩, ⟨(limb_nonneg _ _), (limb_lt _ _)⟩, ⟨(limb_nonneg _ _), (limb_lt _ _)⟩, n_x12, r0_1.1, ⟨hz.1, h01⟩, hz.1, n_x16, ⟨hz.1, h01⟩, ⟨(limb_nonneg _ _), (limb_lt _ _)⟩, ⟨(limb_nonneg _ _), (limb_lt _ _)⟩, n_x18, r0_2.1, ⟨hz.1, h01⟩, hz.1, n_x22, ⟨hz.1, h01⟩, ⟨(limb_nonneg _ _), (limb_lt _ _)⟩, ⟨(limb_nonneg _ _), (limb_lt _ _)⟩, n_x24, hz.1, ⟨hz.1, h01⟩, p0_1.1, n_x27, ⟨hz.1, h01⟩, ⟨(limb_nonneg _ _), (limb_lt _ _)⟩, ⟨(limb_nonneg _ _), (limb_lt _ _)⟩, n_x29, r1_0.1, ⟨hz.1, h01⟩, p0_2.1, n_x34, ⟨hz.1, h01⟩, ⟨(limb_nonneg _ _), (limb_lt _ _)⟩, ⟨(limb_nonneg _ _), (limb_lt _ _)⟩, n_x36, r1_1.1, ⟨hz.1, h01⟩, p0_3.1, n_x42, ⟨hz.1, h01⟩, ⟨(limb_nonneg _ _), (limb_lt _ _)⟩, ⟨(limb_nonneg _ _), (limb_lt _ _)⟩, n_x44, r1_2.1, ⟨hz.1, h01⟩, r0_3.1, n_x49, ⟨hz.1, h01⟩, ⟨(limb_nonneg _ _), (limb_lt _ _)⟩, ⟨(limb_nonneg _ _), (limb_lt _ _)⟩, n_x51, hz.1, ⟨hz.1, h01⟩, p1_1.1, n_x54, ⟨hz.1, h01⟩, ⟨(limb_nonneg _ _), (limb_lt _ _)⟩, ⟨(limb_nonneg _ _), (limb_lt _ _)⟩, n_x56, r2_0.1, ⟨hz.1, h01⟩, p1_2.1, n_x61, ⟨hz.1, h01⟩, ⟨(limb_nonneg _ _), (limb_lt _ _)⟩, ⟨(limb_nonneg _ _), (limb_lt _ _)⟩, n_x63, r2_1.1, ⟨hz.1, h01⟩, p1_3.1, n_x69, ⟨hz.1, h01⟩, ⟨(limb_nonneg _ _), (limb_lt _ _)⟩, ⟨(limb_nonneg _ _), (limb_lt _ _)⟩, n_x71, r2_2.1, ⟨hz.1, h01⟩, r1_3.1, n_x76, ⟨hz.1, h01⟩, ⟨(limb_nonneg _ _), (limb_lt _ _)⟩, ⟨(limb_nonneg _ _), (limb_lt _ _)⟩, n_x78, hz.1, ⟨hz.1, h01⟩, p2_1.1, n_x81, ⟨hz.1, h01⟩, ⟨(limb_nonneg _ _), (limb_lt _ _)⟩, ⟨(limb_nonneg _ _), (limb_lt _ _)⟩, n_x83, r3_0.1, ⟨hz.1, h01⟩, p2_2.1, n_x88, ⟨hz.1, h01⟩, ⟨(limb_nonneg _ _), (limb_lt _ _)⟩, ⟨(limb_nonneg _ _), (limb_lt _ _)⟩, n_x90, r3_1.1, ⟨hz.1, h01⟩, p2_3.1, n_x96, ⟨hz.1, h01⟩, ⟨(limb_nonneg _ _), (limb_lt _ _)⟩, ⟨(limb_nonneg _ _), (limb_lt _ _)⟩, n_x98, r3_2.1, ⟨hz.1, h01⟩, r2_3.1, n_x103, ⟨hz.1, h01⟩, ⟨⟨p0_0.1, p0_0.2⟩, ⟨p1_0.1, p1_0.2⟩, ⟨p2_0.1, p2_0.2⟩, ⟨p3_0.1, p3_0.2⟩, q1, trivial⟩, ⟨p3_1.1, p3_1.2⟩, ⟨p3_2.1, p3_2.2⟩, ⟨p3_3.1, p3_3.2⟩, ⟨r3_3.1, r3_3.2⟩, q2, trivial⟩
end Go.Proofs.YtbfcccoeekonlaaDoor
end
