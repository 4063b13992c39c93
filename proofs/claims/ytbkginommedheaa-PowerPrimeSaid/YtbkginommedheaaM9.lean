/-
  Texts: P33, P34, P35.
-/
import Derived.Test.YtbkginommedheaaM1
import Derived.Test.YtbkginommedheaaM2
import Derived.Test.YtbkginommedheaaM3
import Derived.Test.YtbkginommedheaaM4
import Derived.Test.YtbkginommedheaaM5
import Derived.Test.YtbkginommedheaaM6
import Derived.Test.YtbkginommedheaaM7
import Derived.Test.YtbkginommedheaaM8
section
/-
  Package field: inverses.
-/
namespace Go.Proofs.Ytbkginommedheaa
open Go.Sx

theorem EuK.le_m {m a r0 r1 : Nat} {s0 s1 : Int} (k : EuK m a r0 r1 s0 s1) (hm : 0 < m) : r0 ≤ m := by
  have hle := k.le
  have hlt := k.lt
  rcases k.sg with ⟨g1, g2, e⟩ | ⟨g1, g2, e⟩
  · have h1 : 1 ≤ s1 := by
      rcases Int.lt_or_le 0 s1 with h | h
      · exact h
      · have : s1 = 0 := by omega
        have : s0 = 0 := by omega
        subst_vars
        omega
    have p1 := Int.mul_le_mul_of_nonneg_left h1 (show (0 : Int) ≤ r0 by omega)
    have p2 := Int.mul_nonpos_of_nonneg_of_nonpos (show (0 : Int) ≤ r1 by omega) g1
    omega
  · have h1 : s1 ≤ -1 := by
      rcases Int.lt_or_le s1 0 with h | h
      · omega
      · have : s1 = 0 := by omega
        have : s0 = 0 := by omega
        subst_vars
        omega
    have p1 := Int.mul_le_mul_of_nonneg_left h1 (show (0 : Int) ≤ r0 by omega)
    have p2 := Int.mul_nonneg (show (0 : Int) ≤ r1 by omega) g1
    omega
/-- Sums of products of numbers with a sign, by 2^256. -/
theorem wr_lin {x y u v : Nat} {X Y A B Z : Int} (hx : (x : Int) % (M256 : Int) = X % (M256 : Int)) (hy : (y : Int) % (M256 : Int) = Y % (M256 : Int)) (hu : (u : Int) % (M256 : Int) = A % (M256 : Int)) (hv : (v : Int) % (M256 : Int) = B % (M256 : Int)) (hZ : X * A + Y * B = Z) :
    (x * u + y * v) % M256 = wrN Z % M256 := by
  have e : (((x * u + y * v) % M256 : Nat) : Int) = ((wrN Z % M256 : Nat) : Int) := by
    rw [Int.natCast_emod, Int.natCast_emod, wrN_cast, Int.emod_emod, Int.natCast_add, Int.natCast_mul, Int.natCast_mul, Int.add_emod, Int.mul_emod (x : Int), Int.mul_emod (y : Int), hx, hy, hu, hv, ← Int.mul_emod, ← Int.mul_emod, ← Int.add_emod, hZ]
  exact_mod_cast e
theorem wr_nat (n : Nat) : wrN (n : Int) % M256 = n % M256 := by
  have e : ((wrN (n : Int) % M256 : Nat) : Int) = ((n % M256 : Nat) : Int) := by
    rw [Int.natCast_emod, wrN_cast, Int.emod_emod, Int.natCast_emod]
  exact_mod_cast e
theorem wr_cast (z : Int) : ((wrN z : Nat) : Int) % (M256 : Int) = z % (M256 : Int) := by rw [wrN_cast, Int.emod_emod]
theorem neg_cast (q : Nat) : (((115792089237316195423570985008687907853269984665640564039457584007913129639936 - q % M256 : Nat) : Int)) % (M256 : Int) = (-(q : Int)) % (M256 : Int) := by
  have hlt : q % M256 < M256 := Nat.mod_lt _ (by rw [M256_eq]; decide)
  rw [← M256_eq, Int.ofNat_sub (Nat.le_of_lt hlt), Int.natCast_emod]
  have e : (M256 : Int) - (q : Int) % (M256 : Int) = -(q : Int) + (M256 : Int) * ((q : Int) / (M256 : Int) + 1) := by
    have := Int.mul_ediv_add_emod (q : Int) (M256 : Int)
    rw [Int.mul_add]
    omega
  rw [e, Int.add_mul_emod_self_left]
theorem inv_end {m a r0 : Nat} {s0 s1 : Int} (hmM : m < M256) (ham : a < m) (k : EuK m a r0 0 s0 s1) (e : euE r0 0 s0 s1 = euE m a 0 1) :
    (r0 ≠ 1 → 0 = invN a m % M256 ∧ (5 : Int) = invE a m) ∧
    (r0 = 1 → ∀ mm : Nat, mm % M256 = m → (if 57896044618658097711785492504343953926634992332820282019728792003956564819968 ≤ wrN s0 % M256 then wrN s0 + mm else wrN s0) % M256 = invN a m % M256 ∧ (0 : Int) = invE a m) := by
  rw [euE_zero] at e
  unfold invN invE
  rw [← e]
  refine ⟨fun h => ?_, fun h mm hmm => ?_⟩
  · rw [if_neg h, if_neg h, Nat.zero_mod]
    exact ⟨rfl, rfl⟩
  · rw [if_pos h, if_pos h]
    refine ⟨?_, rfl⟩
    have hh := k.half
    rw [Nat.mod_eq_of_lt (wrN_lt s0)]
    have hM := M256_eq
    rcases Int.lt_or_le s0 0 with g | g
    · have w : wrN s0 = (s0 + 2 ^ 256).toNat := wrN_neg g (by omega)
      have v : s0 % (m : Int) = s0 + m := by
        rw [← Int.add_emod_right]
        exact Int.emod_eq_of_lt (by omega) (by omega)
      have c : 57896044618658097711785492504343953926634992332820282019728792003956564819968 ≤ wrN s0 := by omega
      rw [if_pos c, v, Nat.add_mod, hmm]
      have q1 : wrN s0 % M256 = wrN s0 := Nat.mod_eq_of_lt (wrN_lt s0)
      rw [q1]
      have q2 : wrN s0 + m = (s0 + m).toNat + M256 := by
        rw [w, hM]
        omega
      rw [q2, Nat.add_mod_right]
    · have w : wrN s0 = s0.toNat := wrN_nonneg g (by omega)
      have v : s0 % (m : Int) = s0 := Int.emod_eq_of_lt g (by omega)
      have c : ¬ 57896044618658097711785492504343953926634992332820282019728792003956564819968 ≤ wrN s0 := by omega
      rw [if_neg c, v, w]

set_option maxHeartbeats 1000000 in
theorem ok_inverse : ∀ a m : Nat, Ok (inverseC a m) → Owes Try.prog cxInverse [(2, .inv (invInv a m))] 100 Try.f31 [sU a, sU m] (inverseG a m) := by
  intro a m hc
  obtain ⟨ham, _⟩ := hc
  rw [vc_inverse]
  have hM0 : 0 < M256 := by rw [M256_eq]; decide
  have hM1 : 1 % M256 = 1 := by rw [M256_eq]
  have hmM : m % M256 < M256 := Nat.mod_lt _ hM0
  have END := fun (r0 : Nat) (s0 s1 : Int) => inv_end (r0 := r0) (s0 := s0) (s1 := s1) hmM ham
  intro x1 x2 x3 x4
  have E3 : x3 = invN x2 x1 % M256 := rfl
  have E4 : x4 = invE x2 x1 := rfl
  have X1 : m % M256 = x1 := rfl
  have X2 : a % M256 = x2 := rfl
  clear_value x4 x3
  rw [X1, X2] at END
  rw [X1] at hmM
  rw [X1, X2] at ham
  clear_value x2 x1
  refine ⟨fun y => rfl, ⟨x1, x2, 0, 1⟩, ⟨EuK.start ham, rfl, Nat.le_refl _⟩, rfl, rfl, rfl, rfl, rfl, (Nat.mod_eq_of_lt hmM).symm, (Nat.mod_eq_of_lt (Nat.lt_trans ham hmM)).symm, rfl, ⟨(wr_nat 0).symm, ?_, trivial⟩, rfl, ?_⟩
  · have := wr_nat 1
    rw [hM1] at this
    exact this.symm
  rintro ⟨r0, r1, s0, s1⟩ ⟨K, hE, hle⟩
  dsimp only at K hE hle ⊢
  have hlt := K.lt
  have m0 : r0 % M256 = r0 := Nat.mod_eq_of_lt (Nat.lt_of_le_of_lt hle hmM)
  have m1 : r1 % M256 = r1 := Nat.mod_eq_of_lt (Nat.lt_trans hlt (Nat.lt_of_le_of_lt hle hmM))
  rw [m1, m0]
  have hx1 : 0 < x1 := Nat.lt_of_le_of_lt (Nat.zero_le _) ham
  refine ⟨fun h => ⟨hlt, fun hb => ?_, fun hb => ?_⟩, fun h => ?_⟩
  · have hr : r1 ≠ 0 := by
      intro e
      subst e
      revert h
      decide
    rw [if_neg hr]
    have K' := K.step hr
    have l' := EuK.le_m K' hx1
    have hq : ((r0 / r1 : Nat) : Int) = ((r0 / r1 : Nat) : Int) := rfl
    have hdm : (r0 : Int) = (r1 : Int) * ((r0 / r1 : Nat) : Int) + ((r0 % r1 : Nat) : Int) := by exact_mod_cast (Nat.div_add_mod r0 r1).symm
    refine ⟨⟨r1, r0 % r1, s1, s0 - ((r0 / r1 : Nat) : Int) * s1⟩, ⟨K', by rw [← hE, ← euE_step hr], l'⟩, rfl, rfl, rfl, rfl, rfl, ?_, ?_, rfl, ?_, ?_, rfl, Nat.mod_lt _ (Nat.pos_of_ne_zero hr)⟩
    · rw [Nat.zero_mul, Nat.zero_add, Nat.one_mul]
    · rw [← wr_nat (r0 % r1)]
      refine wr_lin (X := 1) (Y := -((r0 / r1 : Nat) : Int)) (A := r0) (B := r1) rfl (neg_cast _) rfl rfl ?_
      rw [Int.one_mul, Int.neg_mul, Int.mul_comm ((r0 / r1 : Nat) : Int)]
      omega
    · rw [Nat.zero_mul, Nat.zero_add, Nat.one_mul]
    · refine wr_lin (X := 1) (Y := -((r0 / r1 : Nat) : Int)) (A := s0) (B := s1) rfl (neg_cast _) (wr_cast _) (wr_cast _) ?_
      show 1 * s0 + -((r0 / r1 : Nat) : Int) * s1 = s0 - ((r0 / r1 : Nat) : Int) * s1
      rw [Int.one_mul, Int.neg_mul, Int.sub_eq_add_neg]
  · obtain ⟨R0, R1, g, hg⟩ := foR_goes (p := r0) (q := r1) (by rw [m0, m1]; exact hlt)
    rw [m0, m1] at g
    rw [m1] at hg
    have hb' : (foR r0 r1).2.1 ≠ 0 := by
      intro e
      rw [e] at hb
      revert hb
      decide
    have hg' : R1 < r1 := hg.resolve_right hb'
    have K' := g.gK _ _ _ _ K
    have l' := EuK.le_m K' hx1
    refine ⟨⟨R0, R1, _, _⟩, ⟨K', by rw [← hE, g.gE], l'⟩, rfl, rfl, rfl, rfl, rfl, ?_, ?_, rfl, ?_, ?_, rfl, hg'⟩
    · rw [← wr_nat R0]
      exact wr_lin (wr_cast _) (wr_cast _) rfl rfl g.e0.symm
    · rw [← wr_nat R1]
      exact wr_lin (wr_cast _) (wr_cast _) rfl rfl g.e1.symm
    · exact wr_lin (wr_cast _) (wr_cast _) (wr_cast _) (wr_cast _) rfl
    · exact wr_lin (wr_cast _) (wr_cast _) (wr_cast _) (wr_cast _) rfl
  · have hr : r1 = 0 := by
      rcases Nat.eq_zero_or_pos r1 with e | e
      · exact e
      · have hne : (r1 == 0) = false := beq_eq_false_iff_ne.2 (by omega)
        rw [hne] at h
        exact absurd h (by decide)
    subst hr
    obtain ⟨e1, e2⟩ := END r0 s0 s1 K hE
    refine ⟨fun h1 => ?_, fun h1 => ?_⟩
    · have hne : r0 ≠ 1 := by
        intro e
        subst e
        revert h1
        decide
      obtain ⟨p, q⟩ := e1 hne
      rw [E3, E4]
      exact ⟨⟨p, trivial⟩, q⟩
    · have heq : r0 = 1 := by
        rcases Classical.em (r0 = 1) with e | e
        · exact e
        · rw [beq_eq_false_iff_ne.2 e] at h1
          exact absurd h1 (by decide)
      obtain ⟨p, q⟩ := e2 heq m X1
      rw [E3, E4]
      exact ⟨⟨p, trivial⟩, q⟩
theorem card_inverse : FnOK Try.prog 31 (specUUC inverseC inverseG) :=
  FnOK_UUC (CxOK_cons card_foresee (CxOK_cons card_of (CxOK_cons card_above (CxOK_cons card_DivMod (CxOK_cons card_Sub CxOK_nil))))) (iv := fun a m => [(2, .inv (invInv a m))]) (N := 100) Try.func31 (by kernel_rfl) (by kernel_rfl) (fun _ _ => bnd_two (bnd_U _) (bnd_I _ _)) ok_inverse

theorem ok_fInv : ∀ a m : Nat, Owes Try.prog cxInv [] 100 Try.f13 [sU a, sU m] (finvG a m) := by
  intro a m
  rw [vc_fInv]
  intro x1 x2 x3 x4
  refine ⟨fun h => ?_, fun h => ⟨fun h1 => ?_, fun h1 => ?_⟩⟩
  · have e : finvE a m = 7 := by unfold finvE; rw [if_pos (beq_iff_eq.1 h)]
    simp only [x4, e]
    exact ⟨⟨rfl, trivial⟩, trivial⟩
  · have hge := cmp_ge.1 (of_decide_eq_true h1)
    have e : finvE a m = 6 := by unfold finvE; rw [if_neg (beq_eq_false_iff_ne.1 h), if_neg (Nat.not_lt_of_le hge)]
    simp only [x4, e]
    exact ⟨⟨rfl, trivial⟩, trivial⟩
  · have l1 : a % M256 < m % M256 := Nat.lt_of_not_le fun c => of_decide_eq_false h1 (cmp_ge.2 c)
    have e : finvE a m = invE x2 x1 := by unfold finvE; rw [if_neg (beq_eq_false_iff_ne.1 h), if_pos l1]
    refine ⟨l1, ⟨?_, trivial⟩, e.symm⟩
    simp only [x4]
    rw [e]
    simp only [x3]
    unfold invE invN
    by_cases c : (euE x1 x2 0 1).1 = 1
    · rw [if_pos c, if_pos c, if_pos rfl]
    · rw [if_neg c, if_neg c, if_neg (by decide)]
theorem card_fInv : FnOK Try.prog 13 (specUU finvG) :=
  FnOK_UU (CxOK_cons card_Cmp (CxOK_cons card_inverse CxOK_nil)) (iv := []) (N := 100) Try.func13 (by kernel_rfl) (by kernel_rfl) (fun _ _ => bnd_two (bnd_U _) (bnd_I _ _)) ok_fInv
end Go.Proofs.Ytbkginommedheaa
end

section
/-
  Inverses: laws.
-/
namespace Go.Proofs.Ytbkginommedheaa
open Go.Sx

theorem euE_run {m a : Nat} : ∀ (n r0 r1 : Nat) (s0 s1 : Int), r1 ≤ n → EuK m a r0 r1 s0 s1 → ∃ s1', EuK m a (euE r0 r1 s0 s1).1 0 (euE r0 r1 s0 s1).2 s1'
  | 0, r0, r1, s0, s1, h, k => by
    have : r1 = 0 := by omega
    subst this
    exact ⟨s1, k⟩
  | n + 1, r0, r1, s0, s1, h, k => by
    by_cases e : r1 = 0
    · subst e
      exact ⟨s1, k⟩
    · have := Nat.mod_lt r0 (Nat.pos_of_ne_zero e)
      rw [euE_step e]
      exact euE_run n _ _ _ _ (by omega) (k.step e)
theorem invE_gcd (a m : Nat) : invE a m = if Nat.gcd a m = 1 then 0 else 5 := by
  unfold invE
  rw [euE_gcd]
theorem invN_gcd {a m : Nat} (h : Nat.gcd a m = 1) : invN a m = ((euE m a 0 1).2 % (m : Int)).toNat := by
  unfold invN
  rw [euE_gcd, if_pos h]
theorem invN_spec {a m : Nat} (ham : a < m) (h : Nat.gcd a m = 1) : invN a m < m ∧ a * invN a m % m = 1 % m := by
  rw [invN_gcd h]
  have hm : (m : Int) ≠ 0 := by omega
  have h1 := Int.emod_nonneg (euE m a 0 1).2 hm
  have h2 := Int.emod_lt_of_pos (euE m a 0 1).2 (show 0 < (m : Int) by omega)
  refine ⟨by omega, ?_⟩
  obtain ⟨_, k⟩ := euE_run a m a 0 1 (Nat.le_refl _) (EuK.start ham)
  have k0 := k.d0
  rw [euE_gcd, h] at k0
  have e : ((a * ((euE m a 0 1).2 % (m : Int)).toNat % m : Nat) : Int) = ((1 % m : Nat) : Int) := by
    rw [Int.natCast_emod, Int.natCast_mul, Int.toNat_of_nonneg h1, Int.natCast_emod, Int.mul_emod, Int.emod_emod, ← Int.mul_emod]
    exact Int.emod_eq_emod_iff_emod_sub_eq_zero.2 (Int.emod_eq_zero_of_dvd k0)
  exact_mod_cast e
theorem gcd_of_inv {a i m : Nat} (h : a * i % m = 1 % m) : Nat.gcd i m = 1 := by
  have d1 : Nat.gcd i m ∣ a * i := Nat.dvd_trans (Nat.gcd_dvd_left i m) (Nat.dvd_mul_left i a)
  have d2 := Nat.gcd_dvd_right i m
  have d3 : Nat.gcd i m ∣ a * i % m := (Nat.dvd_mod_iff d2).2 d1
  rw [h] at d3
  have d4 : Nat.gcd i m ∣ 1 := (Nat.dvd_mod_iff d2).1 d3
  exact Nat.eq_one_of_dvd_one d4
theorem inv_uniq {a i b m : Nat} (ha : a < m) (hb : b < m) (h : a * i % m = 1 % m) (h' : i * b % m = 1 % m) : b = a := by
  have e1 : a * (i * b) % m = a := by rw [Nat.mul_mod, h', ← Nat.mul_mod, Nat.mul_one, Nat.mod_eq_of_lt ha]
  have e2 : a * (i * b) % m = b := by rw [← Nat.mul_assoc, Nat.mul_mod, h, ← Nat.mul_mod, Nat.one_mul, Nat.mod_eq_of_lt hb]
  rw [← e1, e2]
theorem inv_all {u n m : Nat} (h : n % M256 = m) (hu : u < m) : u % M256 = u ∧ (finvE u n ≠ 0 → finvE u n = 5) ∧
    (finvE u n = 0 → invN u m < m ∧ invN u m % M256 = invN u m ∧ fE u (invN u m) n = 0 ∧ finvE (invN u m) n = 0 ∧ u * invN u m % m = 1 % m ∧ invN (invN u m) m = u) := by
  have hM := Nat.mod_lt n (show 0 < M256 by rw [M256_eq]; decide)
  have key : ∀ v, v < m → finvE v n = invE v m := by
    intro v hv
    unfold finvE
    rw [h, if_neg (by omega), Nat.mod_eq_of_lt (show v < M256 by omega), if_pos hv]
  refine ⟨Nat.mod_eq_of_lt (by omega), ?_, ?_⟩
  · rw [key u hu, invE_gcd]
    split
    · exact fun h => absurd rfl h
    · exact fun _ => rfl
  · rw [key u hu, invE_gcd]
    intro g
    have g : Nat.gcd u m = 1 := by
      rcases Classical.em (Nat.gcd u m = 1) with e | e
      · exact e
      · rw [if_neg e] at g; exact absurd g (by decide)
    obtain ⟨i1, i2⟩ := invN_spec hu g
    have g' := gcd_of_inv i2
    obtain ⟨j1, j2⟩ := invN_spec i1 g'
    refine ⟨i1, Nat.mod_eq_of_lt (by omega), fE_ok h hu i1, ?_, i2, inv_uniq hu j1 i2 j2⟩
    rw [key _ i1, invE_gcd, if_pos g']
theorem cxok_IB : CxOK Try.prog cxIB := CxOK_cons card_number (CxOK_cons card_DivMod (CxOK_cons card_fInv (CxOK_cons card_fMul CxOK_nil)))
theorem ok_InverseBack : ∀ (k a b : Int) (s : ByteArray) (k' a' b' : Int) (s' : ByteArray), i64ok k → i64ok a → i64ok b → i64ok k' → i64ok a' → i64ok b' → Owes Try.prog cxIB [] 100 Try.f3 [sRaw k a b s, sRaw k' a' b' s'] yes := by
  intro k a b s k' a' b' s' hk ha hb hk' ha' hb'
  rw [vc_InverseBack]
  have hM0 : 0 < M256 := by rw [M256_eq]; decide
  intro x1 x2 x3 x4 x5 x6 x7 x8 x9 x10 x11 x12 x13 x14 x15 x16 x17 x18 x19 x20 x21 x22
  refine ⟨hk, ha, hb, fun h => ⟨hk', ha', hb', fun c _ => ⟨id, id, fun _ => rfl, fun h => absurd h (by decide), fun _ => ⟨fun h => ?_, fun h => ?_⟩⟩⟩, fun h => ⟨hk', ha', hb', fun c _ => ⟨id, id, fun _ => rfl, fun h => absurd h (by decide), fun _ => ⟨fun h => ?_, fun h => ?_⟩⟩⟩⟩
  · have l3 : x3 < 1 := by
      simp only [x3]
      rw [if_neg (by decide)]
      exact Nat.mod_lt _ (by decide)
    obtain ⟨_, p, _⟩ := inv_all one_mod l3
    exact beq_iff_eq.2 (p (bne_iff_ne.1 h))
  · have l3 : x3 < 1 := by
      simp only [x3]
      rw [if_neg (by decide)]
      exact Nat.mod_lt _ (by decide)
    obtain ⟨m3, _, p⟩ := inv_all one_mod l3
    have e4 : x4 = 0 := by
      rcases Classical.em (x4 = 0) with e | e
      · exact e
      · rw [bne_iff_ne.2 e] at h; cases h
    obtain ⟨i1, i2, i3, i4, i5, i6⟩ := p e4
    have m5 : x5 = x3 := m3
    have v6 : x6 = invN x3 1 := by
      simp only [x6]
      rw [if_pos e4, m5]
    have e7 : x7 = 0 := by simp only [x7]; rw [v6]; exact i3
    have e9 : x9 = 0 := by simp only [x9]; rw [v6]; exact i4
    have m11 : x11 = invN x3 1 := by simp only [x11]; rw [v6, i2]
    have b8 : x8 = true := by simp only [x8, e7]; rfl
    have b10 : x10 = true := by simp only [x10, b8, e9]; rfl
    have q : x5 * x11 % 1 % M256 = 0 := by rw [Nat.mod_one, Nat.zero_mod]
    have b12 : x12 = true := by
      simp only [x12]
      rw [b10, if_pos e7]
      exact (beq_iff_eq.2 q : (x5 * x11 % 1 % M256 == 0) = true)
    have q2 : invN x11 1 % M256 = x5 := by rw [m11, i6, m5]; exact m3
    rw [b12, if_pos e9]
    exact ⟨id, id, id, id, id, id, id, id, id, id, (beq_iff_eq.2 q2 : (invN x11 1 % M256 == x5) = true)⟩
  · have hne : x1 ≠ 0 := beq_eq_false_iff_ne.1 ‹_›
    have l13 : x13 < x1 := by
      simp only [x13]
      rw [if_neg hne]
      exact Nat.mod_lt _ (Nat.pos_of_ne_zero hne)
    obtain ⟨_, p, _⟩ := inv_all (n := rawN k a b) rfl l13
    exact beq_iff_eq.2 (p (bne_iff_ne.1 h))
  · have hne : x1 ≠ 0 := beq_eq_false_iff_ne.1 ‹_›
    have hmM : x1 < M256 := Nat.mod_lt _ hM0
    have l13 : x13 < x1 := by
      simp only [x13]
      rw [if_neg hne]
      exact Nat.mod_lt _ (Nat.pos_of_ne_zero hne)
    obtain ⟨m13, _, p⟩ := inv_all (n := rawN k a b) rfl l13
    have e14 : x14 = 0 := by
      rcases Classical.em (x14 = 0) with e | e
      · exact e
      · rw [bne_iff_ne.2 e] at h; cases h
    obtain ⟨i1, i2, i3, i4, i5, i6⟩ := p e14
    have m15 : x15 = x13 := m13
    have v16 : x16 = invN x13 x1 := by
      simp only [x16]
      rw [if_pos e14, m15]
    have e17 : x17 = 0 := by simp only [x17]; rw [v16]; exact i3
    have e19 : x19 = 0 := by simp only [x19]; rw [v16]; exact i4
    have m21 : x21 = invN x13 x1 := by simp only [x21]; rw [v16]; exact i2
    have b18 : x18 = true := by simp only [x18, e17]; rfl
    have b20 : x20 = true := by simp only [x20, b18, e19]; rfl
    have q : x15 * x21 % x1 % M256 = 1 % x1 % M256 := by rw [m15, m21]; exact congrArg (· % M256) i5
    have b22 : x22 = true := by
      simp only [x22]
      rw [b20, if_pos e17, if_neg hne]
      exact (beq_iff_eq.2 q : (x15 * x21 % x1 % M256 == 1 % x1 % M256) = true)
    have q2 : invN x21 x1 % M256 = x15 := by rw [m21, m15]; exact (congrArg (· % M256) i6).trans m13
    rw [b22, if_pos e19]
    exact ⟨id, id, id, id, id, id, id, id, id, id, (beq_iff_eq.2 q2 : (invN x21 x1 % M256 == x15) = true)⟩

theorem ok_pickBig (n m : Int) (hn : i64ok n) (hm : 0 < m ∧ m ≤ 1048576) : Owes Try.prog [] [] 100 Try.f16 [sI .i64 n, sI .i64 m] (pickedG n m) := by
  rw [vc_pickBig]
  obtain ⟨h1, h2⟩ := hn
  have hd := Int.tmod_add_mul_tdiv n m
  have b1 := Int.emod_nonneg n (show m ≠ 0 by omega)
  have b2 := Int.emod_lt_of_pos n hm.1
  have hlt := Int.tmod_lt_of_pos n hm.1
  have hgt := Int.lt_tmod_of_pos n hm.1
  have e0 : n.tmod m % m = n % m := by
    conv => rhs; rw [← hd, Int.add_mul_emod_self_left]
  refine ⟨by omega, fun h => ?_, fun h => ?_⟩
  · have h := of_decide_eq_true h
    have e : n.tmod m + m = n % m := by
      rw [← e0, ← Int.add_emod_right]
      exact (Int.emod_eq_of_lt (by omega) (by omega)).symm
    rw [e, IntWalk.i64_in _ (by omega)]
  · have h := of_decide_eq_false h
    rw [← e0]
    exact (Int.emod_eq_of_lt (by omega) hlt).symm
theorem card_pickBig : FnOK Try.prog 16 (specII (fun a b => [i64ok a, 0 < b ∧ b ≤ 1048576]) pickedG) :=
  FnOK_II CxOK_nil (iv := []) (N := 100) Try.func16 (by kernel_rfl) (by kernel_rfl) (fun _ _ => bnd_one (bnd_I _ _)) (fun a b h => ok_pickBig a b h.1 h.2.1)
theorem ok_pickN (k : Nat) (n m : Int) (h : Ok (pickC k n m)) : Owes Try.prog [] [] 100 Try.f16 [sI .i64 n, sI .i64 m] (numG k) := by
  obtain ⟨h1, h2, h3, _⟩ := h
  have := ok_pickBig n m h1 (by omega)
  rw [vc_pickBig] at this
  rw [vc_pickN]
  rw [h3] at this
  exact this
theorem card_pickN (k : Nat) : FnOK Try.prog 16 (specII (pickC k) fun _ _ => numG k) :=
  FnOK_II CxOK_nil (iv := []) (N := 100) Try.func16 (by kernel_rfl) (by kernel_rfl) (fun _ _ => trivial) (ok_pickN k)
theorem ok_Curve : ∀ (ls : List (List At)) (vs : List Value), Ok (curveC ls) → Owes Try.prog (match ls with | [[.i n]] => cxPickN (ixN n) | _ => []) [] 100 Try.f17 (mkArgs [.int .i64] ls vs) (curveG ls) := by
  intro ls vs hc
  unfold curveC at hc
  split at hc
  · rename_i n
    obtain ⟨hn, _⟩ := hc
    have hlt : ixN n < 8 := by unfold ixN; omega
    have hix : n % 8 = ((ixN n : Nat) : Int) := by unfold ixN; omega
    have M : ∀ v, v < 1000 → v % M256 = v := fun v h => Nat.mod_eq_of_lt (by rw [M256_eq]; omega)
    show Owes Try.prog (cxPickN (ixN n)) [] 100 Try.f17 [sI .i64 n] (curveG [[.i n]])
    generalize hi : ixN n = i at *
    match i, hlt with
    | 0, _ => rw [vc_Curve0, hi]; exact ⟨hn, by decide, hix, (M 43 (by decide)).symm, rfl, (M 7 (by decide)).symm, (M 31 (by decide)).symm, (M 2 (by decide)).symm, (M 12 (by decide)).symm, rfl, trivial⟩
    | 1, _ => rw [vc_Curve1, hi]; exact ⟨hn, by decide, hix, (M 67 (by decide)).symm, rfl, (M 2 (by decide)).symm, (M 73 (by decide)).symm, (M 2 (by decide)).symm, (M 12 (by decide)).symm, rfl, trivial⟩
    | 2, _ => rw [vc_Curve2, hi]; exact ⟨hn, by decide, hix, (M 79 (by decide)).symm, rfl, (M 6 (by decide)).symm, (M 67 (by decide)).symm, (M 5 (by decide)).symm, (M 17 (by decide)).symm, rfl, trivial⟩
    | 3, _ => rw [vc_Curve3, hi]; exact ⟨hn, by decide, hix, (M 139 (by decide)).symm, rfl, (M 2 (by decide)).symm, (M 163 (by decide)).symm, (M 3 (by decide)).symm, (M 53 (by decide)).symm, rfl, trivial⟩
    | 4, _ => rw [vc_Curve4, hi]; exact ⟨hn, by decide, hix, (M 163 (by decide)).symm, rfl, (M 3 (by decide)).symm, (M 181 (by decide)).symm, (M 1 (by decide)).symm, (M 2 (by decide)).symm, rfl, trivial⟩
    | 5, _ => rw [vc_Curve5, hi]; exact ⟨hn, by decide, hix, (M 211 (by decide)).symm, rfl, (M 3 (by decide)).symm, (M 199 (by decide)).symm, (M 1 (by decide)).symm, (M 2 (by decide)).symm, rfl, trivial⟩
    | 6, _ => rw [vc_Curve6, hi]; exact ⟨hn, by decide, hix, (M 379 (by decide)).symm, rfl, (M 2 (by decide)).symm, (M 409 (by decide)).symm, (M 5 (by decide)).symm, (M 49 (by decide)).symm, rfl, trivial⟩
    | 7, _ => rw [vc_Curve7, hi]; exact ⟨hn, by decide, hix, (M 691 (by decide)).symm, rfl, (M 3 (by decide)).symm, (M 643 (by decide)).symm, (M 1 (by decide)).symm, (M 2 (by decide)).symm, rfl, trivial⟩
    | k + 8, h => omega
  · exact hc.1.elim
theorem bnd_curve (i : Nat) : SA.bnd none0 (curveS i) := by
  intro k hk
  simp only [List.mem_cons, List.not_mem_nil, or_false] at hk
  rcases hk with rfl | rfl | rfl | rfl | rfl | rfl | rfl <;> trivial
theorem card_Curve : FnOK Try.prog 17 (specA [.int .i64] curveC curveG) :=
  FnOK_AX (cx := fun ls => match ls with | [[.i n]] => cxPickN (ixN n) | _ => []) (iv := fun _ => []) (N := 100) (fun ls _ => by
    split
    · exact CxOK_cons (card_pickN _) CxOK_nil
    · exact CxOK_nil) Try.func17 (by kernel_rfl) (by kernel_rfl) (fun ls => by
    unfold curveG
    split
    · exact bnd_one (bnd_curve _)
    · intro z hz; simp at hz) ok_Curve
end Go.Proofs.Ytbkginommedheaa
end

section
/-
  Inverses: laws on small numbers.
-/
namespace Go.Proofs.Ytbkginommedheaa
open Go.Sx

theorem small_mod {v : Nat} (h : v < 18446744073709551616) : v % M256 = v := Nat.mod_eq_of_lt (by rw [M256_eq]; omega)
theorem join_one {z : Int} (h : 0 ≤ z ∧ z < 18446744073709551616) : join z 0 0 0 % M256 = z.toNat := by
  have e : join z 0 0 0 = z.toNat := by unfold join; simp
  rw [e, small_mod (by omega)]
theorem cxok_IN : CxOK Try.prog cxIN := CxOK_cons card_pickBig (CxOK_cons card_DivMod (CxOK_cons card_fInv CxOK_nil))
theorem ok_InverseNone : ∀ k a b : Int, i64ok k → i64ok a → i64ok b → Owes Try.prog cxIN [] 100 Try.f4 [sI .i64 k, sI .i64 a, sI .i64 b] yes := by
  intro k a b hk ha hb
  rw [vc_InverseNone]
  obtain ⟨d, hd, hd2⟩ : ∃ d : Nat, (d : Int) = 2 + k % 1000 ∧ d < 1002 := ⟨(2 + k % 1000).toNat, by omega, by omega⟩
  obtain ⟨u, hu, hu2⟩ : ∃ u : Nat, (u : Int) = 1 + a % 1048576 ∧ u < 1048577 := ⟨(1 + a % 1048576).toNat, by omega, by omega⟩
  obtain ⟨v, hv, hv2⟩ : ∃ v : Nat, (v : Int) = b % 1048576 ∧ v < 1048576 := ⟨(b % 1048576).toNat, by omega, by omega⟩
  have hd0 : 2 ≤ d := by omega
  have hu0 : 1 ≤ u := by omega
  have big : ∀ w : Nat, w < 1048577 → d * w < 18446744073709551616 := by
    intro w hw
    have := Nat.mul_lt_mul'' hd2 hw
    omega
  have W : ∀ w : Nat, w < 1048577 → IntKind.u64.wrap ((d : Int) * (w : Int)) = ((d * w : Nat) : Int) := by
    intro w hw
    have := big w hw
    rw [← Int.natCast_mul, wrap_id (word_nat this)]
  have w1 : IntKind.u64.wrap (IntKind.i64.wrap ((2 : Int) + k % 1000)) = (d : Int) := by rw [← hd, IntWalk.i64_in _ (by omega), wrap_id (by omega)]
  have w2 : IntKind.u64.wrap (IntKind.i64.wrap ((1 : Int) + a % 1048576)) = (u : Int) := by rw [← hu, IntWalk.i64_in _ (by omega), wrap_id (by omega)]
  have w3 : IntKind.u64.wrap (b % 1048576) = (v : Int) := by rw [← hv, wrap_id (by omega)]
  have bu := big u hu2
  have bv := big v (by omega)
  have hpos : 0 < d * u := Nat.mul_pos (by omega) hu0
  intro x1 x2 x3 x4 x5 x6 x7 x8
  have E1 : x1 = ((d * v : Nat) : Int) := by simp only [x1]; rw [w1, w3]; exact W v (by omega)
  have E2 : x2 = ((d * u : Nat) : Int) := by simp only [x2]; rw [w1, w2]; exact W u hu2
  have E4 : x4 = d * u := by simp only [x4, x3]; rw [join_one (by omega), E2, Int.toNat_natCast]
  have E5 : x5 = d * v % (d * u) := by
    simp only [x5]
    rw [E4, if_neg (by omega), join_one (by omega), E1, Int.toNat_natCast]
  have l5 : x5 < d * u := by rw [E5]; exact Nat.mod_lt _ hpos
  have hg : Nat.gcd x5 (d * u) ≠ 1 := by
    intro h
    have d1 : d ∣ x5 := by rw [E5]; exact (Nat.dvd_mod_iff (Nat.dvd_mul_right d u)).2 (Nat.dvd_mul_right d v)
    have := Nat.dvd_gcd d1 (Nat.dvd_mul_right d u)
    rw [h] at this
    have := Nat.le_of_dvd (by decide) this
    omega
  have e6 : x6 = 5 := by
    have E4' : x3 % M256 = d * u := E4
    simp only [x6]
    unfold finvE
    rw [E4', if_neg (by omega), small_mod (show x5 < 18446744073709551616 by omega), if_pos l5, invE_gcd, if_neg hg]
  have b7 : x7 = true := by simp only [x7, e6]; rfl
  have b8 : x8 = true := by simp only [x8]; rw [b7, e6]; rfl
  clear_value x8 x7 x6 x5 x4 x3 x2 x1
  rw [b8]
  exact ⟨hk, by decide, ha, by decide, hb, by decide, by omega, by decide, by decide, by decide, by omega, by decide, by decide, by decide, by omega, by decide, by decide, by decide, id, id, id, fun _ => rfl, fun _ => rfl, rfl⟩

/-- Of each small prime: powers, and inverses. -/
def ppOK (p : Nat) : Bool := (List.range (p - 1)).all fun k => Nat.beq ((k + 1) ^ (p - 1) % p) 1 && Nat.beq ((k + 1) ^ (p - 2) % p) (invN (k + 1) p) && Nat.beq (Nat.gcd (k + 1) p) 1
theorem pp_all : (List.range 8).all (fun i => ppOK (cP i)) = true := by kernel_rfl
theorem cP_range {i : Nat} (h : i < 8) : 43 ≤ cP i ∧ cP i ≤ 691 := by
  have : ∀ i : Fin 8, 43 ≤ cP i.val ∧ cP i.val ≤ 691 := by decide
  exact this ⟨i, h⟩
theorem pp_fact {i A : Nat} (hi : i < 8) (h1 : 1 ≤ A) (h2 : A < cP i) : A ^ (cP i - 1) % cP i = 1 ∧ A ^ (cP i - 2) % cP i = invN A (cP i) ∧ Nat.gcd A (cP i) = 1 := by
  have h := List.all_eq_true.1 (List.all_eq_true.1 pp_all i (List.mem_range.2 hi)) (A - 1) (List.mem_range.2 (by omega))
  rw [show A - 1 + 1 = A by omega] at h
  simp only [Bool.and_eq_true] at h
  exact ⟨Nat.eq_of_beq_eq_true h.1.1, Nat.eq_of_beq_eq_true h.1.2, Nat.eq_of_beq_eq_true h.2⟩
theorem limb_small {v : Nat} (h : v < 18446744073709551616) : limb v 0 = (v : Int) := by
  have e : limb v 0 = ((v / 2 ^ (64 * 0) % 2 ^ 64 : Nat) : Int) := rfl
  rw [e, Nat.mul_zero, Nat.pow_zero, Nat.div_one, Nat.mod_eq_of_lt h]
theorem cxok_PP : CxOK Try.prog cxPP := CxOK_cons card_Curve (CxOK_cons card_pickBig (CxOK_cons card_fPow (CxOK_cons card_fInv CxOK_nil)))
theorem ixN_lt (n : Int) : ixN n < 8 := by unfold ixN; omega
theorem ok_PowerPrime : ∀ n x : Int, i64ok n → i64ok x → Owes Try.prog cxPP [] 100 Try.f5 [sI .i64 n, sI .i64 x] yes := by
  intro n x hn hx
  rw [vc_PowerPrime]
  have hi := ixN_lt n
  generalize ixN n = i at *
  obtain ⟨r1, r2⟩ := cP_range hi
  have F := fun (A : Nat) h1 h2 => pp_fact (i := i) (A := A) hi h1 h2
  have L := limb_small (v := cP i) (by omega)
  have mP := small_mod (v := cP i) (by omega)
  generalize cP i = p at *
  have hq : (0 : Int) < (p : Int) - 1 := by omega
  have m1 := Int.emod_nonneg x (show (p : Int) - 1 ≠ 0 by omega)
  have m2 := Int.emod_lt_of_pos x hq
  intro x1 x2 x3 x4 x5 x6 x7 x8 x9 x10 x11 x12 x13 x14
  have E1 : x1 = (p : Int) := L
  have E2 : x2 = (p : Int) - 1 := by simp only [x2]; rw [E1, IntWalk.i64_in (p : Int) (by omega), IntWalk.i64_in _ (by omega)]
  have E3 : x3 = 1 + x % ((p : Int) - 1) := by simp only [x3]; rw [E2, wrap_id (n := x % ((p : Int) - 1)) (by omega), wrap_id (by omega)]
  have E4 : x4 = (p : Int) - 1 := by simp only [x4]; rw [E1, wrap_id (by omega)]
  have E5 : x5 = (p : Int) - 2 := by simp only [x5]; rw [E1, wrap_id (by omega)]
  obtain ⟨A, hA⟩ := Int.eq_ofNat_of_zero_le (show 0 ≤ x3 by omega)
  have E12 : x12 = A := by simp only [x12, x6]; rw [join_one (by omega), hA, Int.toNat_natCast]
  have hA1 : 1 ≤ A := by omega
  have hA2 : A < p := by omega
  obtain ⟨f1, f2, f3⟩ := F A hA1 hA2
  have E6 : x6 % M256 = A := E12
  have E13 : x13 = p := mP
  have e7 : x7 = 0 := by
    simp only [x7]
    unfold pE
    rw [mP, E6, if_neg (by omega), if_pos hA2]
  have e10 : x10 = 0 := by
    simp only [x10]
    unfold finvE
    rw [mP, E6, if_neg (by omega), if_pos hA2, invE_gcd, if_pos f3]
  have j4 : join x4 0 0 0 % M256 = p - 1 := by rw [join_one (by omega)]; omega
  have j5 : join x5 0 0 0 % M256 = p - 2 := by rw [join_one (by omega)]; omega
  have b8 : x8 = true := by simp only [x8, e7]; rfl
  have b9 : x9 = true := by simp only [x9, b8]; rfl
  have b11 : x11 = true := by simp only [x11, b9, e10]; rfl
  have b14 : x14 = true := by
    simp only [x14]
    rw [b11, if_pos e7, j4, E12, E13, f1]
    have : (1 % M256 == 1) = true := beq_iff_eq.2 (small_mod (by decide))
    exact this
  clear_value x14 x13 x12 x11 x10 x9 x8 x7 x6 x5 x4 x3 x2 x1
  rw [b14, if_pos e7, if_pos e10, j5, E12, E13, f2]
  have fin : (invN A p % M256 == invN A p % M256) = true := beq_self_eq_true _
  exact ⟨hn, hx, by omega, by omega, by decide, by decide, by decide, by omega, by decide, by decide, by decide, by omega, by decide, by decide, by decide, by omega, by decide, by decide, by decide, by omega, by decide, by decide, by decide, id, id, id, id, id, id, id, fun _ => rfl, fun _ => rfl, fun _ => rfl, fin⟩
end Go.Proofs.Ytbkginommedheaa
end
