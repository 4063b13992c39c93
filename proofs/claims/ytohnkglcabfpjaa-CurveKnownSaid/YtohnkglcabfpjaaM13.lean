/-
  Texts: P43, P44, P48.
-/
import Derived.Test.YtohnkglcabfpjaaM1
import Derived.Test.YtohnkglcabfpjaaM2
import Derived.Test.YtohnkglcabfpjaaM3
import Derived.Test.YtohnkglcabfpjaaM4
import Derived.Test.YtohnkglcabfpjaaM5
import Derived.Test.YtohnkglcabfpjaaM6
import Derived.Test.YtohnkglcabfpjaaM7
import Derived.Test.YtohnkglcabfpjaaM8
import Derived.Test.YtohnkglcabfpjaaM9
import Derived.Test.YtohnkglcabfpjaaM10
import Derived.Test.YtohnkglcabfpjaaM11
import Derived.Test.YtohnkglcabfpjaaM12
section
namespace Go.Proofs.Ytohnkglcabfpjaa
open Go.Sx
theorem pair_dvd {p x1 y1 : Nat} {q r : Nat × Nat} (h : pairOK p x1 y1 q r = true) (hr : r.2 ≠ 0) (h1 : x1 ≤ p) (h2 : y1 ≤ p) (h3 : r.1 ≤ p) :
    x1 ≠ q.1 ∧ (p : Int) ∣ ((r.1 : Int) + x1 + q.1) * (((q.1 : Int) - x1) * ((q.1 : Int) - x1)) - ((q.2 : Int) - y1) * ((q.2 : Int) - y1) ∧ (p : Int) ∣ ((r.2 : Int) + y1) * ((q.1 : Int) - x1) - ((q.2 : Int) - y1) * ((x1 : Int) - r.1) := by
  obtain ⟨x2, y2⟩ := q
  obtain ⟨x3, y3⟩ := r
  unfold pairOK at h
  have h3' : x3 ≤ p := h3
  have e : Nat.beq y3 0 = false := by
    rcases Bool.eq_false_or_eq_true (Nat.beq y3 0) with e | e
    · exact absurd (Nat.eq_of_beq_eq_true e) hr
    · exact e
  simp only [e, Bool.false_or, Bool.and_eq_true, Bool.not_eq_true'] at h
  obtain ⟨g1, g2, g3⟩ := h
  have cd := Cg.sub (Cg.self p x2) (Cg.self p x1) h1
  have ce := Cg.sub (Cg.self p y2) (Cg.self p y1) h2
  have cz := Cg.sub (Cg.self p x1) (Cg.self p x3) h3'
  refine ⟨fun h => ?_, ?_, ?_⟩
  · have h : x1 = x2 := h
    rw [h, Nat.beq_refl] at g1
    cases g1
  · exact Cg.of_eq (Nat.eq_of_beq_eq_true g2) (((Cg.self p x3).add (Cg.self p x1)).add (Cg.self p x2) |>.mul (cd.mul cd)) (ce.mul ce)
  · exact Cg.of_eq (Nat.eq_of_beq_eq_true g3) (((Cg.self p y3).add (Cg.self p y1)).mul cd) (ce.mul cz)
theorem through_is {p s x1 y1 x2 y2 x3 y3 : Nat} {f g : Bool} {D E u : Int} (hs : Cg p s (E * u)) (hx1 : x1 < p) (hy1 : y1 < p) (hx2 : x2 < p) (hx3 : x3 < p) (hy3 : y3 < p)
    (hu : (p : Int) ∣ D * u - 1) (h1 : (p : Int) ∣ ((x3 : Int) + x1 + x2) * (D * D) - E * E) (h2 : (p : Int) ∣ ((y3 : Int) + y1) * D - E * ((x1 : Int) - x3)) :
    throughN p s (x1, y1, f) (x2, y2, g) = (x3, y3, false) := by
  have h0 := lt_pos hx1
  have cx : Cg p (((s * s % p + p - x1) % p + p - x2) % p) (x3 : Int) := by
    have c := ((((hs.mul hs).md.sub (Cg.self p x1) (by omega)).md.sub (Cg.self p x2) (by omega)).md)
    refine c.to ?_
    have := line_x h1 hu
    rw [show E * u * (E * u) - (x1 : Int) - (x2 : Int) - (x3 : Int) = E * u * (E * u) - ((x3 : Int) + x1 + x2) by omega]
    exact this
  have ex : ((s * s % p + p - x1) % p + p - x2) % p = x3 := cx.eq (Cg.self p x3) (Nat.mod_lt _ h0) hx3
  unfold throughN
  dsimp only
  rw [ex]
  have cy : Cg p ((s * ((x1 + p - x3) % p) % p + p - y1) % p) (y3 : Int) := by
    have c := ((hs.mul ((Cg.self p x1).sub (Cg.self p x3) (by omega)).md).md.sub (Cg.self p y1) (by omega)).md
    refine c.to ?_
    have := line_y h2 hu
    rw [show E * u * ((x1 : Int) - x3) - (y1 : Int) - (y3 : Int) = E * u * ((x1 : Int) - x3) - ((y3 : Int) + y1) by omega]
    exact this
  have ey : (s * ((x1 + p - x3) % p) % p + p - y1) % p = y3 := cy.eq (Cg.self p y3) (Nat.mod_lt _ h0) hy3
  rw [ey]
theorem diff_ne {p x1 x2 : Nat} (h1 : x1 < p) (h2 : x2 < p) (h : x1 ≠ x2) : 1 ≤ (x2 + p - x1) % p ∧ (x2 + p - x1) % p < p := by
  have hlt := Nat.mod_lt (x2 + p - x1) (lt_pos h1)
  refine ⟨?_, hlt⟩
  rcases Nat.eq_zero_or_pos ((x2 + p - x1) % p) with e | e
  · obtain ⟨k, hk⟩ := Nat.dvd_of_mod_eq_zero e
    have : k = 1 := by
      rcases Nat.lt_or_ge k 1 with g | g
      · have : k = 0 := by omega
        subst this; omega
      · rcases Nat.lt_or_ge 1 k with g' | g'
        · have := Nat.mul_le_mul_left p g'
          omega
        · omega
    subst this
    omega
  · exact e
theorem csum_pt {i a b : Nat} (hi : i < 8) (ha : a < cN i) (hb : b < cN i) : sumOK (cP i) 0 (ptOf i a) (ptOf i b) ∧ csum (cP i) 0 (ptOf i a) (ptOf i b) = ptOf i ((a + b) % cN i) := by
  obtain ⟨r1, r2⟩ := cP_range hi
  have inp : ∀ j, j < cN i → inP (cP i) (ptOf i j) := by
    intro j hj
    refine ⟨fun h => ?_⟩
    rcases Nat.eq_zero_or_pos j with e | e
    · subst e; cases h
    · rw [pt_pos i e]
      have F := one_of hi e hj
      exact ⟨F.lx, F.ly⟩
  have odd : cN i % 2 = 1 := by
    have : ∀ i : Fin 8, cN i.val % 2 = 1 := by decide
    exact this ⟨i, hi⟩
  have ia := inp a ha
  have ib := inp b hb
  rcases Nat.eq_zero_or_pos a with e | ea
  · subst e
    refine ⟨⟨by omega, ia, ib, fun h => by cases h⟩, ?_⟩
    rw [Nat.zero_add, Nat.mod_eq_of_lt hb]
    rfl
  rcases Nat.eq_zero_or_pos b with e | eb
  · subst e
    refine ⟨⟨by omega, ia, ib, fun _ h => by cases h⟩, ?_⟩
    rw [Nat.add_zero, Nat.mod_eq_of_lt ha, pt_pos i ea]
    rfl
  have Fa := one_of hi ea ha
  have Fb := one_of hi eb hb
  by_cases hab : a + b = cN i
  · have eb' : cN i - a = b := by omega
    have nx := Fa.nx
    have ny := Fa.ny
    rw [eb'] at nx ny
    have hlt := Fa.ly
    have hc : (ptOf i a).1 = (ptOf i b).1 ∧ ((ptOf i a).2.1 + (ptOf i b).2.1) % cP i = 0 := by
      rw [pt_pos i ea, pt_pos i eb]
      refine ⟨nx.symm, ?_⟩
      show (((tabOf i).getD a (0, 0)).2 + ((tabOf i).getD b (0, 0)).2) % cP i = 0
      rw [ny, Nat.add_sub_cancel' (Nat.le_of_lt hlt), Nat.mod_self]
    refine ⟨⟨by omega, ia, ib, fun _ _ h => absurd hc h⟩, ?_⟩
    rw [hab, Nat.mod_self, pt_zero]
    unfold csum
    rw [if_neg (by rw [pt_pos i ea]; exact Bool.false_ne_true), if_neg (by rw [pt_pos i eb]; exact Bool.false_ne_true), if_pos hc]
  have hc0 : 1 ≤ (a + b) % cN i := by
    rcases Nat.lt_or_ge (a + b) (cN i) with g | g
    · rw [Nat.mod_eq_of_lt g]; omega
    · rw [← Nat.sub_add_cancel g, Nat.add_mod_right, Nat.mod_eq_of_lt (by omega)]
      omega
  have hcN : (a + b) % cN i < cN i := Nat.mod_lt _ (by omega)
  have Fc := one_of hi hc0 hcN
  have rel : a ≠ b → ((tabOf i).getD a (0, 0)).1 ≠ ((tabOf i).getD b (0, 0)).1 ∧ ((cP i : Nat) : Int) ∣ ((((tabOf i).getD ((a + b) % cN i) (0, 0)).1 : Int) + (((tabOf i).getD a (0, 0)).1 : Int) + (((tabOf i).getD b (0, 0)).1 : Int)) * (((((tabOf i).getD b (0, 0)).1 : Int) - (((tabOf i).getD a (0, 0)).1 : Int)) * ((((tabOf i).getD b (0, 0)).1 : Int) - (((tabOf i).getD a (0, 0)).1 : Int))) - ((((tabOf i).getD b (0, 0)).2 : Int) - (((tabOf i).getD a (0, 0)).2 : Int)) * ((((tabOf i).getD b (0, 0)).2 : Int) - (((tabOf i).getD a (0, 0)).2 : Int)) ∧
      ((cP i : Nat) : Int) ∣ ((((tabOf i).getD ((a + b) % cN i) (0, 0)).2 : Int) + (((tabOf i).getD a (0, 0)).2 : Int)) * ((((tabOf i).getD b (0, 0)).1 : Int) - (((tabOf i).getD a (0, 0)).1 : Int)) - ((((tabOf i).getD b (0, 0)).2 : Int) - (((tabOf i).getD a (0, 0)).2 : Int)) * ((((tabOf i).getD a (0, 0)).1 : Int) - (((tabOf i).getD ((a + b) % cN i) (0, 0)).1 : Int)) := by
    intro hne
    rcases Nat.lt_or_ge a b with g | g
    · exact pair_dvd (pair_of hi ea g hb) (by have := Fc.y0; omega) (Nat.le_of_lt Fa.lx) (Nat.le_of_lt Fa.ly) (Nat.le_of_lt Fc.lx)
    · have h := pair_of hi eb (show b < a by omega) ha
      rw [Nat.add_comm b a] at h
      obtain ⟨k1, k2, k3⟩ := pair_dvd h (by have := Fc.y0; omega) (Nat.le_of_lt Fb.lx) (Nat.le_of_lt Fb.ly) (Nat.le_of_lt Fc.lx)
      refine ⟨fun h => k1 h.symm, ?_, ?_⟩
      · obtain ⟨z, hz⟩ := k2
        exact ⟨z, by rw [← hz]; grind⟩
      · obtain ⟨z, hz⟩ := k3
        exact ⟨-z, by rw [Int.mul_neg, ← hz]; grind⟩
  have g1 : ∀ A, 1 ≤ A → A < cP i → Nat.gcd A (cP i) = 1 := fun A h1 h2 => (pp_fact hi h1 h2).2.2
  have pa := pt_pos i ea
  have pb := pt_pos i eb
  have pc := pt_pos i hc0
  have dxa := Fa.dx
  have dya := Fa.dy
  by_cases hne : a = b
  · subst hne
    rw [← Nat.two_mul] at pc Fc ⊢
    rw [pa, pc]
    have hd : Nat.gcd ((((tabOf i).getD a (0, 0)).2 + ((tabOf i).getD a (0, 0)).2) % cP i) (cP i) = 1 := g1 _ (by have := Fa.d0; omega) (Nat.mod_lt _ (by omega))
    have lx := Fa.lx
    have ly := Fa.ly
    have zx := Fc.lx
    have zy := Fc.ly
    have d0 := Fa.d0
    rw [pa] at ia
    generalize (tabOf i).getD (2 * a % cN i) (0, 0) = t at *
    generalize (tabOf i).getD a (0, 0) = q at *
    obtain ⟨x, y⟩ := q
    obtain ⟨z, w⟩ := t
    have hn : ¬ (x = x ∧ (y + y) % cP i = 0) := fun h => d0 h.2
    refine ⟨⟨by omega, ia, ia, fun _ _ _ => ⟨fun _ => hd, fun h => absurd rfl h⟩⟩, ?_⟩
    have e : csum (cP i) 0 (x, y, false) (x, y, false) = throughN (cP i) (slopeN (cP i) 0 (x, y, false) (x, y, false)) (x, y, false) (x, y, false) := by
      unfold csum
      rw [if_neg Bool.false_ne_true, if_neg Bool.false_ne_true, if_neg hn]
    have cy2 := (Cg.self (cP i) y).add (Cg.self (cP i) y)
    have cxx := ((Cg.self (cP i) x).mul (Cg.self (cP i) x)).md
    have c3 : Cg (cP i) (tw3 (cP i) (x * x % cP i)) ((x : Int) * x + ((x : Int) * x + (x : Int) * x)) := (cxx.add (cxx.add cxx).md).md
    have hu := inv_cg (Nat.mod_lt _ (by omega)) hd cy2.md
    have cs : Cg (cP i) (slopeN (cP i) 0 (x, y, false) (x, y, false)) (((x : Int) * x + ((x : Int) * x + (x : Int) * x)) * ((invN ((y + y) % cP i) (cP i) : Nat) : Int)) := by
      unfold slopeN
      rw [if_pos rfl]
      exact ((c3.add (Cg.self (cP i) 0)).md.mul (Cg.self _ _)).md.to ⟨0, by simp⟩
    have c33 : Cg (cP i) (3 * x * x) ((x : Int) * x + ((x : Int) * x + (x : Int) * x)) := ⟨⟨0, by rw [Int.natCast_mul, Int.natCast_mul]; grind⟩⟩
    have h1 := Cg.of_eq dxa ((((Cg.self (cP i) z).add (Cg.self (cP i) x)).add (Cg.self (cP i) x)).mul (cy2.mul cy2)) (c33.mul c33)
    have h2 := Cg.of_eq dya (((Cg.self (cP i) w).add (Cg.self (cP i) y)).mul cy2) (c33.mul ((Cg.self (cP i) x).sub (Cg.self (cP i) z) (Nat.le_of_lt zx)))
    rw [e]
    exact through_is cs lx ly lx zx zy hu h1 h2
  · obtain ⟨k1, k2, k3⟩ := rel hne
    rw [pa, pb, pc]
    obtain ⟨dn1, dn2⟩ := diff_ne Fa.lx Fb.lx k1
    have hd := g1 _ dn1 dn2
    have lx := Fa.lx
    have ly := Fa.ly
    have lx2 := Fb.lx
    have zx := Fc.lx
    have zy := Fc.ly
    rw [pa] at ia
    rw [pb] at ib
    generalize (tabOf i).getD ((a + b) % cN i) (0, 0) = t at *
    generalize (tabOf i).getD a (0, 0) = q at *
    generalize (tabOf i).getD b (0, 0) = r at *
    obtain ⟨x1, y1⟩ := q
    obtain ⟨x2, y2⟩ := r
    obtain ⟨x3, y3⟩ := t
    have hne' : ¬ ((x1, y1, false) : Pt) = (x2, y2, false) := fun h => k1 (congrArg (·.1) h)
    have hn : ¬ (x1 = x2 ∧ (y1 + y2) % cP i = 0) := fun h => k1 h.1
    refine ⟨⟨by omega, ia, ib, fun _ _ _ => ⟨fun h => absurd h hne', fun _ => hd⟩⟩, ?_⟩
    have e : csum (cP i) 0 (x1, y1, false) (x2, y2, false) = throughN (cP i) (slopeN (cP i) 0 (x1, y1, false) (x2, y2, false)) (x1, y1, false) (x2, y2, false) := by
      unfold csum
      rw [if_neg Bool.false_ne_true, if_neg Bool.false_ne_true, if_neg hn]
    have cD := ((Cg.self (cP i) x2).sub (Cg.self (cP i) x1) (Nat.le_of_lt lx)).md
    have cE := ((Cg.self (cP i) y2).sub (Cg.self (cP i) y1) (Nat.le_of_lt ly)).md
    have hu := inv_cg dn2 hd cD
    have cs : Cg (cP i) (slopeN (cP i) 0 (x1, y1, false) (x2, y2, false)) (((y2 : Int) - y1) * ((invN ((x2 + cP i - x1) % cP i) (cP i) : Nat) : Int)) := by
      unfold slopeN
      rw [if_neg hne']
      exact (cE.mul (Cg.self _ _)).md
    rw [e]
    exact through_is cs lx ly lx2 zx zy hu k2 k3
end Go.Proofs.Ytohnkglcabfpjaa
end

section
namespace Go.Proofs.Ytohnkglcabfpjaa
open Go.Sx
theorem good_all {i : Nat} (hi : i < 8) : goodP (cP i) 0 (cB i) (cN i) (cX i, cY i, false) := by
  match i, hi with
  | 0, _ | 1, _ | 2, _ | 3, _ | 4, _ | 5, _ | 6, _ | 7, _ => exact ⟨by decide, by decide, by decide, by decide, by decide, by decide +kernel, rfl, ⟨fun h => (by cases h), fun _ => by decide +kernel⟩⟩
  | k + 8, h => omega
theorem base_pt {i : Nat} (hi : i < 8) : (cX i, cY i, false) = ptOf i 1 := by
  match i, hi with
  | 0, _ | 1, _ | 2, _ | 3, _ | 4, _ | 5, _ | 6, _ | 7, _ => rfl
  | k + 8, h => omega
theorem cN_range {i : Nat} (h : i < 8) : 31 ≤ cN i ∧ cN i ≤ 643 := by
  have : ∀ i : Fin 8, 31 ≤ cN i.val ∧ cN i.val ≤ 643 := by decide
  exact this ⟨i, h⟩
theorem ixP_of {i : Nat} (hi : i < 8) : ixP (cP i) = i := by
  have : ∀ i : Fin 8, ixP (cP i.val) = i.val := by decide
  exact this ⟨i, hi⟩
theorem onP_pt {i j : Nat} (hi : i < 8) (hj : j < cN i) : onP (cP i) 0 (cB i) (ptOf i j) := by
  rcases Nat.eq_zero_or_pos j with e | e
  · subst e
    exact ⟨fun _ => ⟨rfl, rfl⟩, fun h => by cases h⟩
  · have F := one_of hi e hj
    rw [pt_pos i e]
    exact ⟨fun h => (by cases h), fun _ => ⟨F.lx, F.ly, F.on⟩⟩
theorem inM_pt {i j : Nat} (hi : i < 8) (hj : j < cN i) : inM (ptOf i j) := by
  have hM := M256_eq
  obtain ⟨_, r2⟩ := cP_range hi
  rcases Nat.eq_zero_or_pos j with e | e
  · subst e
    exact ⟨M_pos, M_pos⟩
  · have F := one_of hi e hj
    have h1 := F.lx
    have h2 := F.ly
    rw [pt_pos i e]
    exact ⟨by dsimp only; omega, by dsimp only; omega⟩
theorem cmul_at {i j k : Nat} (hi : i < 8) (hj : j < cN i) (hk : k < M256) : ∀ n, n ≤ 256 → cmulR (cP i) 0 k (ptOf i j) n = ptOf i (k / 2 ^ (256 - n) * j % cN i)
  | 0, _ => by
    rw [show k / 2 ^ (256 - 0) = 0 from Nat.div_eq_of_lt hk, Nat.zero_mul, Nat.zero_mod]
    rfl
  | n + 1, hn => by
    obtain ⟨r1, _⟩ := cN_range hi
    have ih := cmul_at hi hj hk n (by omega)
    obtain ⟨t, ht⟩ : ∃ t, t = 255 - n := ⟨_, rfl⟩
    rw [show 256 - n = t + 1 by omega] at ih
    have hs := half_step k t
    have lt : ∀ v, v % cN i < cN i := fun v => Nat.mod_lt v (by omega)
    have h1 := (csum_pt hi (lt (k / 2 ^ (t + 1) * j)) (lt (k / 2 ^ (t + 1) * j))).2
    have h2 := (csum_pt hi (lt (k / 2 ^ (t + 1) * j % cN i + k / 2 ^ (t + 1) * j % cN i)) hj).2
    rw [cmulR, ih, h1, h2, show 256 - (n + 1) = t by omega, show 255 - n = t by omega]
    have e1 : (k / 2 ^ (t + 1) * j % cN i + k / 2 ^ (t + 1) * j % cN i) % cN i = 2 * (k / 2 ^ (t + 1)) * j % cN i := by
      rw [← Nat.add_mod, ← Nat.two_mul, Nat.mul_assoc]
    by_cases hb : k.testBit t = true
    · rw [if_pos hb, e1, Nat.mod_add_mod, hs, hb, Bool.toNat_true, Nat.add_mul, Nat.one_mul]
    · rw [if_neg hb, e1, hs, Bool.eq_false_iff.2 hb, Bool.toNat_false]
      simp only [Nat.add_zero]
theorem cmul_pt {i j k : Nat} (hi : i < 8) (hj : j < cN i) (hk : k < M256) : mulOK (cP i) 0 k (ptOf i j) ∧ cmulR (cP i) 0 k (ptOf i j) 256 = ptOf i (k * j % cN i) := by
  obtain ⟨r1, _⟩ := cN_range hi
  have lt : ∀ v, v % cN i < cN i := fun v => Nat.mod_lt v (by omega)
  refine ⟨⟨fun n hn => ?_, fun n hn _ => ?_⟩, ?_⟩
  · rw [cmul_at hi hj hk n (by omega)]
    exact (csum_pt hi (lt _) (lt _)).1
  · rw [cmul_at hi hj hk n (by omega), (csum_pt hi (lt _) (lt _)).2]
    exact (csum_pt hi (lt _) hj).1
  · rw [cmul_at hi hj hk 256 (Nat.le_refl _), Nat.sub_self, Nat.pow_zero, Nat.div_one]
theorem isCv.good {i P A B N X Y : Nat} {F : Bool} (h : isCv i P A B N X Y F) : P % M256 = cP i ∧ A % M256 = 0 ∧ B % M256 = cB i ∧ N % M256 = cN i ∧ red X Y F = ptOf i 1 ∧ goodP (P % M256) (A % M256) (B % M256) (N % M256) (red X Y F) := by
  have e : red X Y F = (cX i, cY i, false) := by
    unfold red
    rw [h.x, h.y, h.f]
  refine ⟨h.p, h.a, h.b, h.n, by rw [e, base_pt h.lt], ?_⟩
  rw [h.p, h.a, h.b, h.n, e]
  exact good_all h.lt
theorem limb_low (N : Nat) : limb N 0 = ((N % M256 % 18446744073709551616 : Nat) : Int) := by
  have e : limb N 0 = ((N / 2 ^ (64 * 0) % 2 ^ 64 : Nat) : Int) := rfl
  rw [e, limb_mod N 0 (by decide), Nat.mul_zero, Nat.pow_zero, Nat.div_one]
theorem ok_point : ∀ (ls : List (List At)) (vs : List (Option Addr)), Ok (pointC ls) → Owes Try.prog cxPoint [] 100 Try.f11 (mkArgs [.str pCv, .int .i64] ls vs) (pointG ls) := by
  intro ls vs hc
  unfold pointC at hc
  split at hc
  · rename_i P A B N X Y F n
    have h : Owes Try.prog cxPoint [] 100 Try.f11 [sCv P A B N X Y F, sI .i64 n] (pointG [[.u P, .u A, .u B, .u N, .u X, .u Y, .b F], [.i n]]) := by
      rw [vc_point]
      obtain ⟨hcv, hn, _⟩ := hc
      obtain ⟨eP, eA, eB, eN, eb, hg⟩ := hcv.good
      have hi := hcv.lt
      obtain ⟨r1, r2⟩ := cN_range hi
      have hL := limb_low N
      have hM := M256_eq
      rw [eN] at hL hg
      obtain ⟨i, hix⟩ : ∃ i, ixP (P % M256) = i := ⟨_, rfl⟩
      rw [hix] at eP eB eN eb hg hi r1 r2 hL
      have m1 := Int.emod_nonneg n (show ((cN i : Nat) : Int) ≠ 0 by omega)
      have m2 := Int.emod_lt_of_pos n (show (0 : Int) < ((cN i : Nat) : Int) by omega)
      obtain ⟨a, ha⟩ := Int.eq_ofNat_of_zero_le m1
      have haN : a < cN i := by omega
      rw [eP, eA, eB, eb] at hg
      intro x1 x2 x3 x4 x5 x6 x7
      have E1 : x1 = ((cN i : Nat) : Int) := by
        simp only [x1]
        rw [hL, Nat.mod_eq_of_lt (by omega), IntWalk.i64_in _ (by omega)]
      have E2 : x2 = (a : Int) := by
        simp only [x2]
        rw [E1, ha, wrap_id (by omega)]
      have E6 : x6 = a := by
        simp only [x6]
        rw [join_one (by omega), E2, Int.toNat_natCast]
      have E3 : x3 = cP i := eP
      have E4 : x4 = 0 := eA
      have E5 : x5 = cB i := eB
      have E7 : x7 = i := hix
      clear_value x7 x6 x5 x4 x3 x2 x1
      obtain ⟨k1, k2⟩ := cmul_pt hi (show 1 < cN i by omega) (show a < M256 by omega)
      rw [Nat.mul_one, Nat.mod_eq_of_lt haN] at k2
      rw [E1, E2, E3, E4, E5, E6, E7, eb, k2, ha, Int.toNat_natCast, eN]
      exact ⟨hn, by omega, by omega, by decide, by decide, by decide, hg, onP_pt hi (by omega), k1, rfl, rfl, rfl, trivial⟩
    exact h
  · exact hc.1.elim
theorem ok_Secret : ∀ (ls : List (List At)) (vs : List (Option Addr)), Ok (pointC ls) → Owes Try.prog cxSecret [] 100 Try.f22 (mkArgs [.str pCv, .int .i64] ls vs) (secretG ls) := by
  intro ls vs hc
  unfold pointC at hc
  split at hc
  · rename_i P A B N X Y F n
    have h : Owes Try.prog cxSecret [] 100 Try.f22 [sCv P A B N X Y F, sI .i64 n] (secretG [[.u P, .u A, .u B, .u N, .u X, .u Y, .b F], [.i n]]) := by
      rw [vc_Secret]
      obtain ⟨hcv, hn, _⟩ := hc
      obtain ⟨eP, eA, eB, eN, eb, hg⟩ := hcv.good
      have hi := hcv.lt
      obtain ⟨r1, r2⟩ := cN_range hi
      have hL := limb_low N
      rw [eN] at hL
      generalize ixP (P % M256) = i at *
      have m1 := Int.emod_nonneg n (show ((cN i : Nat) : Int) - 1 ≠ 0 by omega)
      have m2 := Int.emod_lt_of_pos n (show (0 : Int) < ((cN i : Nat) : Int) - 1 by omega)
      obtain ⟨a, ha⟩ := Int.eq_ofNat_of_zero_le m1
      intro x1 x2
      have E1 : x1 = ((cN i : Nat) : Int) - 1 := by
        simp only [x1]
        rw [hL, Nat.mod_eq_of_lt (by omega), IntWalk.i64_in ((cN i : Nat) : Int) (by omega), IntWalk.i64_in _ (by omega)]
      have E2 : x2 = ((1 + a : Nat) : Int) := by
        simp only [x2]
        rw [E1, ha, wrap_id (n := (a : Int)) (by omega), wrap_id (by omega)]
        omega
      clear_value x2 x1
      rw [E1, ha, E2, Int.toNat_natCast]
      refine ⟨hn, by omega, by omega, by decide, by decide, by decide, ?_, trivial⟩
      rw [join_one (by omega), Int.toNat_natCast, small_mod (by omega)]
    exact h
  · exact hc.1.elim
theorem ok_Lift : ∀ (ls : List (List At)) (vs : List (Option Addr)), Ok (liftC ls) → OwesU Try.prog cxLift [] [] 100 Try.f23 (mkArgs [.str pCv, .str [.u], .bit] ls vs) (liftG ls) := by
  intro ls vs hc
  unfold liftC at hc
  split at hc
  · rename_i P A B N X Y F x odd
    have h : OwesU Try.prog cxLift [] [] 100 Try.f23 [sCv P A B N X Y F, sU x, sB odd] (liftG [[.u P, .u A, .u B, .u N, .u X, .u Y, .b F], [.u x], [.b odd]]) := by
      rw [vc_Lift]
      obtain ⟨hg, hl, _⟩ := hc
      have h0 := lt_pos hg.A0
      have mM := md_M h0
      have lt := fun v => Nat.mod_lt v h0
      intro x1 x2 x3 x4 x5 x6 x7 x8 x9 x10 x11 x12
      have hA : x2 < x1 := hg.A0
      have h0 : 0 < x1 := h0
      have hB : x3 < x1 := hg.B0
      have E8 : x8 = rhsN x1 x2 x3 x4 := mM _
      have l8 : x8 < x1 := by rw [E8]; exact lt _
      have E10 : x10 = x9 := mM _
      have l9 : x9 < x1 := lt _
      have E12 : x12 = x11 := mM _
      have l11 : x11 < x1 := lt _
      have E9 : x9 = rhsN x1 x2 x3 x4 ^ (x1 / 4 + 1) % x1 := by simp only [x9]; rw [E8]
      have E11 : x11 = (0 + x1 - x9) % x1 := by simp only [x11]; rw [E10]
      refine ⟨rfl, hg, fun h => ?_, fun h => ?_⟩
      · have hge : x1 ≤ x4 := cmp_ge.1 (of_decide_eq_true h)
        have E5 : x5 = 0 := by simp only [x5]; rw [if_pos hge, Nat.zero_mod]
        have E6 : x6 = 0 := by simp only [x6]; rw [if_pos hge, Nat.zero_mod]
        have E7 : x7 = 6 := by simp only [x7]; rw [if_pos hge]
        rw [E5, E6, E7]
        exact ⟨⟨rfl, rfl, rfl, trivial⟩, rfl⟩
      · have hlt : x4 < x1 := Nat.lt_of_not_le fun c => of_decide_eq_false h (cmp_ge.2 c)
        have hn : ¬ x1 ≤ x4 := by omega
        obtain ⟨o1, o2⟩ := hl hlt
        have o1 : (liftY x1 x2 x3 x4 odd % 2 == 1) = odd := o1
        have o2 : liftY x1 x2 x3 x4 odd * liftY x1 x2 x3 x4 odd % x1 = rhsN x1 x2 x3 x4 := o2
        have E5 : x5 = x4 := by simp only [x5]; rw [if_neg hn]; exact mod_M hlt
        have E7 : x7 = 0 := by simp only [x7]; rw [if_neg hn]
        have E6 : x6 = liftY x1 x2 x3 x4 odd := by
          simp only [x6]
          rw [if_neg hn]
          refine mod_M (m := P) ?_
          show liftY x1 x2 x3 x4 odd < x1
          unfold liftY
          split <;> exact lt _
        have m4 : x % M256 = x4 := rfl
        have near : ∀ v, v < x1 → v * v % x1 = rhsN x1 x2 x3 x4 → onP x1 x2 x3 (red x v false) := by
          intro v hv he
          have e : red x v false = (x4, v, false) := by
            unfold red
            rw [m4, mod_M hv]
          rw [e]
          exact ⟨fun h => (by cases h), fun _ => ⟨hlt, hv, he⟩⟩
        have yes : ((x9 % 2 == 1) == odd) = true → liftY x1 x2 x3 x4 odd = x9 := by
          intro hb
          unfold liftY
          rw [← E9, if_neg]
          rw [beq_iff_eq] at hb
          rw [hb]
          simp
        have no : ((x9 % 2 == 1) == odd) = false → liftY x1 x2 x3 x4 odd = x11 := by
          intro hb
          unfold liftY
          rw [← E9, if_pos, E11]
          rw [bne, hb]
          rfl
        clear_value x12 x11 x10 x9 x8 x7 x6 x5 x4 x3 x2 x1
        rw [E10, E12, E5, E6, E7]
        refine ⟨hA, hB, hlt, l8, fun hb => ⟨h0, l9, fun hb2 => ?_, fun hb2 => ?_⟩, fun hb => ⟨fun hb2 => ?_, fun hb2 => ?_⟩⟩
        · have e := no (by simpa using hb)
          rw [e] at o1
          rw [o1] at hb2
          simp at hb2
        · have e := no (by simpa using hb)
          rw [e] at o2 ⊢
          exact ⟨hA, hB, near _ l11 o2, ⟨rfl, rfl, rfl, trivial⟩, rfl⟩
        · rw [hb] at hb2; cases hb2
        · have e := yes (by simpa using hb)
          rw [e] at o2 ⊢
          exact ⟨hA, hB, near _ l9 o2, ⟨rfl, rfl, rfl, trivial⟩, rfl⟩
    exact h
  · exact hc.1.elim
theorem card_point : FnOK Try.prog 11 cPoint :=
  FnOK_A (CxOK_cons card_pickBig (CxOK_cons card_cMult CxOK_nil)) (iv := fun _ => []) (N := 100) Try.func11 (by kernel_rfl) (by kernel_rfl) (fun ls => by unfold pointG; split; exact bnd_one (bnd_pt _); exact bnd_none) ok_point
theorem card_Secret : FnOK Try.prog 22 cSecret :=
  FnOK_A (CxOK_cons card_pickBig CxOK_nil) (iv := fun _ => []) (N := 100) Try.func22 (by kernel_rfl) (by kernel_rfl) (fun ls => by unfold secretG; split; exact bnd_one (bnd_U _); exact bnd_none) ok_Secret
theorem card_Lift : FnOK Try.prog 23 cLift :=
  FnOKU_A (CxOK_cons card_be (CxOK_cons card_have (CxOK_cons card_right (CxOK_cons card_root (CxOK_cons card_hsub (CxOK_cons card_isOdd (CxOK_cons card_Cmp (CxOK_wcons wcard_told CxOK_wnil)))))))) (sl := []) (fun p hp => by cases hp) (iv := fun _ => []) (N := 100) Try.func23 (by kernel_rfl) (by kernel_rfl) (fun ls => by
    unfold liftG
    split
    · exact bnd_two (bnd_pt (_, _, _)) (bnd_I _ _)
    · exact bnd_none) ok_Lift
theorem ok_cTells : Owes Try.prog cxCTells [] 100 Try.f13 [] yes := by
  rw [vc_cTells]
  have hr : red 2 12 false = (cX 0, cY 0, false) := by
    unfold red
    rw [small_mod (by decide), small_mod (by decide)]
    rfl
  have hg : goodP 43 0 7 31 (red 2 12 false) := by rw [hr]; exact good_all (i := 0) (by decide)
  have hcv : isCv 0 43 0 7 31 2 12 false := ⟨by decide, small_mod (by decide), small_mod (by decide), small_mod (by decide), small_mod (by decide), small_mod (by decide), small_mod (by decide), rfl⟩
  intro x1 x2 x3 x4
  exact ⟨by decide, hg, fun h => (by cases h), fun _ => (by decide), id, id, id, id, fun _ => hg, fun _ h => (by cases h), fun _ _ => (by decide), id, id, id, fun _ => hcv, fun _ => (by decide), id, id, id, id, fun _ => hcv, fun _ => (by decide), id, id, id, id, rfl⟩
theorem card_cTells : FnOK Try.prog 13 (spec0 yes) :=
  FnOK_0 (CxOK_cons card_Curve (CxOK_cons card_cOn (CxOK_cons card_point CxOK_nil))) (iv := []) (N := 100) Try.func13 (by kernel_rfl) (by kernel_rfl) (bnd_one (bnd_B _)) ok_cTells
end Go.Proofs.Ytohnkglcabfpjaa
end

section
namespace Go.Proofs.Ytohnkglcabfpjaa
open Go.Sx
def inPB (m : Nat) (p : Pt) : Bool := p.2.2 || (Nat.blt p.1 m && Nat.blt p.2.1 m)
def slopeB (m : Nat) (p q : Pt) : Bool := match decide (p = q) with
  | true => Nat.beq (Nat.gcd ((p.2.1 + p.2.1) % m) m) 1
  | false => Nat.beq (Nat.gcd ((q.1 + m - p.1) % m) m) 1
def sumPB (m A : Nat) (p q : Pt) : Bool := (Nat.blt A m && (inPB m p && inPB m q)) && (p.2.2 || (q.2.2 || ((Nat.beq p.1 q.1 && Nat.beq ((p.2.1 + q.2.1) % m) 0) || slopeB m p q)))
theorem inPB_sound {m : Nat} {p : Pt} (h : inPB m p = true) : inP m p := by
  refine ⟨fun hf => ?_⟩
  unfold inPB at h
  rw [hf, Bool.false_or, Bool.and_eq_true] at h
  exact ⟨by simpa using h.1, by simpa using h.2⟩
theorem slopeB_sound {m : Nat} {p q : Pt} (h : slopeB m p q = true) : slopeOK m p q := by
  unfold slopeB at h
  split at h
  · rename_i e
    exact ⟨fun _ => Nat.eq_of_beq_eq_true h, fun n => absurd (of_decide_eq_true e) n⟩
  · rename_i e
    exact ⟨fun n => absurd n (of_decide_eq_false e), fun _ => Nat.eq_of_beq_eq_true h⟩
theorem sumPB_sound {m A : Nat} {p q : Pt} (h : sumPB m A p q = true) : sumOK m A p q := by
  unfold sumPB at h
  rw [Bool.and_eq_true, Bool.and_eq_true, Bool.and_eq_true] at h
  obtain ⟨⟨h1, h2, h3⟩, h4⟩ := h
  refine ⟨by simpa using h1, inPB_sound h2, inPB_sound h3, fun hp hq hn => ?_⟩
  rw [hp, hq, Bool.false_or, Bool.false_or, Bool.or_eq_true, Bool.and_eq_true] at h4
  rcases h4 with ⟨a, b⟩ | h4
  · exact absurd ⟨Nat.eq_of_beq_eq_true a, Nat.eq_of_beq_eq_true b⟩ hn
  · exact slopeB_sound h4
def mulB (m A k : Nat) (p : Pt) : Bool := (List.range 256).all fun n => sumPB m A (cmulR m A k p n) (cmulR m A k p n) && (!k.testBit (255 - n) || sumPB m A (csum m A (cmulR m A k p n) (cmulR m A k p n)) p)
theorem mulB_sound {m A k : Nat} {p : Pt} (h : mulB m A k p = true) : mulOK m A k p := by
  have h1 := fun n hn => List.all_eq_true.1 h n (List.mem_range.2 hn)
  refine ⟨fun n hn => ?_, fun n hn hb => ?_⟩
  · have := h1 n hn
    rw [Bool.and_eq_true] at this
    exact sumPB_sound this.1
  · have := h1 n hn
    rw [Bool.and_eq_true, hb, Bool.not_true, Bool.false_or] at this
    exact sumPB_sound this.2
theorem known_mul2 : mulB 115792089237316195423570985008687907853269984665640564039457584007908834671663 0 2 (red 55066263022277343669578718895168534326250603453777594175500187360389116729240 32670510020758816978083085130507043184471273380659243275938904335757337482424 false) = true := by kernel_rfl
theorem known_mul3 : mulB 115792089237316195423570985008687907853269984665640564039457584007908834671663 0 3 (red 55066263022277343669578718895168534326250603453777594175500187360389116729240 32670510020758816978083085130507043184471273380659243275938904335757337482424 false) = true := by kernel_rfl
theorem known_near2 : (cmulR 115792089237316195423570985008687907853269984665640564039457584007908834671663 0 2 (red 55066263022277343669578718895168534326250603453777594175500187360389116729240 32670510020758816978083085130507043184471273380659243275938904335757337482424 false) 256).2.2 = false := by kernel_rfl
theorem known_near3 : (cmulR 115792089237316195423570985008687907853269984665640564039457584007908834671663 0 3 (red 55066263022277343669578718895168534326250603453777594175500187360389116729240 32670510020758816978083085130507043184471273380659243275938904335757337482424 false) 256).2.2 = false := by kernel_rfl
theorem known_on : onP 115792089237316195423570985008687907853269984665640564039457584007908834671663 0 7 (red 55066263022277343669578718895168534326250603453777594175500187360389116729240 32670510020758816978083085130507043184471273380659243275938904335757337482424 false) := ⟨fun h => (by cases h), fun _ => (by decide +kernel)⟩
theorem known_good : goodP 115792089237316195423570985008687907853269984665640564039457584007908834671663 0 7 115792089237316195423570985008687907852837564279074904382605163141518161494337 (red 55066263022277343669578718895168534326250603453777594175500187360389116729240 32670510020758816978083085130507043184471273380659243275938904335757337482424 false) := ⟨by decide, by decide, by decide, by decide, by decide, by decide +kernel, rfl, known_on⟩
theorem cxok_CK : CxOK Try.prog cxCK := CxOK_cons card_pickBig (CxOK_cons card_cMult (CxOK_cons card_cOn CxOK_nil))
theorem ok_CurveKnown : ∀ n : Int, i64ok n → Owes Try.prog cxCK [(2, .split 4 1)] 100 Try.f8 [sI .i64 n] yes := by
  intro n hn
  rw [vc_CurveKnown]
  intro x1 x2 x3 x4
  have hx : 0 ≤ x1 ∧ x1 ≤ 1 := by
    simp only [x1]
    omega
  refine ⟨hn, by decide, hx, fun _ => ⟨known_good, known_on, mulB_sound known_mul2, id, id, fun _ => known_good, fun _ h => ?_, fun _ _ => by decide, id, id, rfl⟩, fun _ => ⟨known_good, known_on, mulB_sound known_mul3, id, id, fun _ => known_good, fun _ h => ?_, fun _ _ => by decide, id, id, rfl⟩⟩
  · rw [known_near2] at h
    cases h
  · rw [known_near3] at h
    cases h
end Go.Proofs.Ytohnkglcabfpjaa
end
