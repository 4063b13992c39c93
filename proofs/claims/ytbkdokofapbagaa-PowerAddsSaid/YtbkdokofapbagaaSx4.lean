/-
  A calculus of symbolic states for walks over translated Go code, part 4: operations that make a value, one by one.
-/
import Derived.Test.YtbkdokofapbagaaSx3
namespace Go.Sx
open Go.RowKit

/-! ## Numbers by their parts -/

theorem limbs_sum (n : Nat) : n % M256 = n % 2 ^ 64 + 2 ^ 64 * (n / 2 ^ 64 % 2 ^ 64) + 2 ^ 128 * (n / 2 ^ 128 % 2 ^ 64) + 2 ^ 192 * (n / 2 ^ 192 % 2 ^ 64) := by
  have h1 : M256 = 2 ^ 192 * 2 ^ 64 := by decide
  have h2 : (2 : Nat) ^ 192 = 2 ^ 128 * 2 ^ 64 := by decide
  have h3 : (2 : Nat) ^ 128 = 2 ^ 64 * 2 ^ 64 := by decide
  rw [h1, Nat.mod_mul, h2, Nat.mod_mul, h3, Nat.mod_mul]
theorem limb_nonneg (n i : Nat) : 0 ≤ limb n i := Int.natCast_nonneg _
theorem limb_lt (n i : Nat) : limb n i < 18446744073709551616 := by
  unfold limb
  have : n / 2 ^ (64 * i) % 2 ^ 64 < 2 ^ 64 := Nat.mod_lt _ (by decide)
  omega
theorem limb_toNat (n i : Nat) : (limb n i).toNat = n / 2 ^ (64 * i) % 2 ^ 64 := by unfold limb; exact Int.toNat_natCast _
theorem limbs_eq {a b : Nat} : (a % M256 = b % M256) ↔ (limb a 0 = limb b 0 ∧ limb a 1 = limb b 1 ∧ limb a 2 = limb b 2 ∧ limb a 3 = limb b 3) := by
  constructor
  · intro h
    have key : ∀ i, i < 4 → limb a i = limb b i := by
      intro i hi
      unfold limb
      have e : ∀ n : Nat, n / 2 ^ (64 * i) % 2 ^ 64 = n % M256 / 2 ^ (64 * i) % 2 ^ 64 := by
        intro n
        have hM : M256 = 2 ^ (64 * i) * (2 ^ 64 * 2 ^ (192 - 64 * i)) := by
          have : 64 * i + (64 + (192 - 64 * i)) = 256 := by omega
          rw [← Nat.pow_add, ← Nat.pow_add, this]; rfl
        rw [hM, Nat.mod_mul_right_div_self, Nat.mod_mul_right_mod]
      rw [e a, e b, h]
    exact ⟨key 0 (by omega), key 1 (by omega), key 2 (by omega), key 3 (by omega)⟩
  · rintro ⟨h0, h1, h2, h3⟩
    unfold limb at h0 h1 h2 h3
    simp only [Nat.mul_zero, Nat.pow_zero, Nat.div_one, Nat.mul_one, Nat.reduceMul] at h0 h1 h2 h3
    rw [limbs_sum a, limbs_sum b]
    omega
theorem U_congr {a b : Nat} (h : a % M256 = b % M256) : U a = U b := by
  obtain ⟨h0, h1, h2, h3⟩ := limbs_eq.1 h
  simp only [U, h0, h1, h2, h3]

/-- Four parts put together. -/
def join (a b c d : Int) : Nat := a.toNat + 2 ^ 64 * b.toNat + 2 ^ 128 * c.toNat + 2 ^ 192 * d.toNat
theorem join_lt {a b c d : Int} (ha : a < 2 ^ 64) (hb : b < 2 ^ 64) (hc : c < 2 ^ 64) (hd : d < 2 ^ 64) : join a b c d < M256 := by
  unfold join M256
  have h1 : a.toNat ≤ 2 ^ 64 - 1 := by omega
  have h2 : b.toNat ≤ 2 ^ 64 - 1 := by omega
  have h3 : c.toNat ≤ 2 ^ 64 - 1 := by omega
  have h4 : d.toNat ≤ 2 ^ 64 - 1 := by omega
  omega
theorem limb_join {a b c d : Int} (ha : 0 ≤ a ∧ a < 2 ^ 64) (hb : 0 ≤ b ∧ b < 2 ^ 64) (hc : 0 ≤ c ∧ c < 2 ^ 64) (hd : 0 ≤ d ∧ d < 2 ^ 64) :
    limb (join a b c d) 0 = a ∧ limb (join a b c d) 1 = b ∧ limb (join a b c d) 2 = c ∧ limb (join a b c d) 3 = d := by
  unfold limb join
  simp only [Nat.mul_zero, Nat.pow_zero, Nat.div_one, Nat.mul_one, Nat.reduceMul]
  refine ⟨?_, ?_, ?_, ?_⟩ <;> omega
theorem U_join {a b c d : Int} (ha : 0 ≤ a ∧ a < 2 ^ 64) (hb : 0 ≤ b ∧ b < 2 ^ 64) (hc : 0 ≤ c ∧ c < 2 ^ 64) (hd : 0 ≤ d ∧ d < 2 ^ 64) :
    U (join a b c d) = .agg #[.int .u64 a, .int .u64 b, .int .u64 c, .int .u64 d] := by
  obtain ⟨h0, h1, h2, h3⟩ := limb_join ha hb hc hd
  simp only [U, h0, h1, h2, h3]
theorem join_limbs (n : Nat) : join (limb n 0) (limb n 1) (limb n 2) (limb n 3) = n % M256 := by
  rw [limbs_sum]
  simp only [join, limb_toNat, Nat.mul_zero, Nat.pow_zero, Nat.div_one, Nat.mul_one, Nat.reduceMul]

/-! ## Equality of rows -/

def okLit (n : Int) : Bool := decide (0 ≤ n) && decide (n < 18446744073709551616)
def cmpC (l : Nat) (x y : SC) : Option Bool :=
  match asV (.sc x), asV (.sc y) with
  | some v, some w => eqC l v w
  | _, _ => none
def eqKs : List Nat → List SK → List SK → Option (List Bool)
  | [], [], [] => some []
  | 1 :: 1 :: 1 :: 1 :: ls, .u a :: r, .u b :: r' => (eqKs ls r r').map ((a % M256 == b % M256) :: ·)
  | 1 :: 1 :: 1 :: 1 :: ls, .u a :: r, .c (.num .u64 p) :: .c (.num .u64 q) :: .c (.num .u64 s) :: .c (.num .u64 t) :: r' =>
    if okLit p && okLit q && okLit s && okLit t then (eqKs ls r r').map ((a % M256 == join p q s t) :: ·) else none
  | 1 :: 1 :: 1 :: 1 :: ls, .c (.num .u64 p) :: .c (.num .u64 q) :: .c (.num .u64 s) :: .c (.num .u64 t) :: r', .u a :: r =>
    if okLit p && okLit q && okLit s && okLit t then (eqKs ls r' r).map ((join p q s t == a % M256) :: ·) else none
  | l :: ls, .c x :: r, .c y :: r' =>
    match cmpC l x y, eqKs ls r r' with
    | some b, some bs => some (b :: bs)
    | _, _ => none
  | _, _, _ => none
def eqFl : List Nat → List SC → List SC → Option (List Bool)
  | [], [], [] => some []
  | l :: ls, x :: r, y :: r' =>
    match cmpC l x y, eqFl ls r r' with
    | some b, some bs => some (b :: bs)
    | _, _ => none
  | _, _, _ => none
def conj : List Bool → Bool
  | [] => true
  | [b] => b
  | b :: r => b && conj r
theorem conj_all : ∀ bs : List Bool, conj bs = bs.all id
  | [] => rfl
  | [b] => by simp [conj]
  | b :: c :: r => by rw [conj, conj_all (c :: r)]; rfl; intro h; cases h

theorem cmpC_sound {l : Nat} {x y : SC} {b : Bool} (h : cmpC l x y = some b) (ρ : Nat → Nat) : eqC l (x.conc ρ) (y.conc ρ) = some b := by
  unfold cmpC at h
  split at h
  · rename_i v w hv hw
    have h1 := asV_sound hv ρ
    have h2 := asV_sound hw ρ
    simp only [SA.conc] at h1 h2
    rw [h1, h2]; exact h
  · cases h
theorem eqFl_sound (ρ : Nat → Nat) : ∀ {ls : List Nat} {xs ys : List SC} {bs : List Bool}, eqFl ls xs ys = some bs → eqL ls (xs.map (SC.conc ρ)) (ys.map (SC.conc ρ)) = some bs
  | [], [], [], bs, h => by simpa [eqFl, eqL] using h
  | l :: ls, x :: r, y :: r', bs, h => by
    simp only [eqFl] at h
    split at h
    · rename_i b bs' h1 h2
      simp only [List.map_cons, eqL, cmpC_sound h1 ρ, eqFl_sound ρ h2]; exact h
    · cases h
  | [], x :: xs, ys, _, h | [], [], y :: ys, _, h | l :: ls, [], ys, _, h | l :: ls, x :: xs, [], _, h => by simp [eqFl] at h
theorem okLit_iff {n : Int} (h : okLit n = true) : 0 ≤ n ∧ n < 2 ^ 64 := by
  simp only [okLit, Bool.and_eq_true, decide_eq_true_eq] at h; exact ⟨h.1, by have := h.2; omega⟩
theorem eqKs_sound (ρ : Nat → Nat) (ls : List Nat) (xs ys : List SK) : ∀ {bs : List Bool}, eqKs ls xs ys = some bs → ∃ bs0, eqL ls (concs ρ xs) (concs ρ ys) = some bs0 ∧ bs0.all id = bs.all id := by
  induction ls, xs, ys using eqKs.induct with
  | case1 => intro bs h; simp only [eqKs, Option.some.injEq] at h; subst h; exact ⟨[], rfl, rfl⟩
  | case2 ls a r b r' ih =>
    intro bs h
    simp only [eqKs, Option.map_eq_some_iff] at h
    obtain ⟨bs', h, rfl⟩ := h
    obtain ⟨b0, e0, e1⟩ := ih h
    simp only [concs] at e0
    refine ⟨(limb a 0 == limb b 0) :: (limb a 1 == limb b 1) :: (limb a 2 == limb b 2) :: (limb a 3 == limb b 3) :: b0, ?_, ?_⟩
    · simp [concs, flat, SK.cells, SC.conc, eqL, eqC, e0]
    · simp only [List.all_cons, id, e1]
      rw [Bool.eq_iff_iff]
      simp only [Bool.and_eq_true, beq_iff_eq, limbs_eq, and_assoc]
  | case3 ls a r p q s t r' hl ih =>
    intro bs h
    simp only [eqKs, hl, if_true, Option.map_eq_some_iff] at h
    obtain ⟨bs', h, rfl⟩ := h
    obtain ⟨b0, e0, e1⟩ := ih h
    simp only [concs] at e0
    simp only [Bool.and_eq_true] at hl
    obtain ⟨⟨⟨hp, hq⟩, hs⟩, ht⟩ := hl
    have hp := okLit_iff hp; have hq := okLit_iff hq; have hs := okLit_iff hs; have ht := okLit_iff ht
    refine ⟨(limb a 0 == p) :: (limb a 1 == q) :: (limb a 2 == s) :: (limb a 3 == t) :: b0, ?_, ?_⟩
    · simp [concs, flat, SK.cells, SC.conc, eqL, eqC, e0]
    · simp only [List.all_cons, id, e1]
      obtain ⟨j0, j1, j2, j3⟩ := limb_join hp hq hs ht
      rw [Bool.eq_iff_iff]
      have hj : join p q s t = join p q s t % M256 := (Nat.mod_eq_of_lt (join_lt hp.2 hq.2 hs.2 ht.2)).symm
      rw [hj]
      simp only [Bool.and_eq_true, beq_iff_eq, limbs_eq, and_assoc, j0, j1, j2, j3]
  | case4 ls a r p q s t r' hl => intro bs h; simp [eqKs, hl] at h
  | case5 ls p q s t r' a r hl ih =>
    intro bs h
    simp only [eqKs, hl, if_true, Option.map_eq_some_iff] at h
    obtain ⟨bs', h, rfl⟩ := h
    obtain ⟨b0, e0, e1⟩ := ih h
    simp only [concs] at e0
    simp only [Bool.and_eq_true] at hl
    obtain ⟨⟨⟨hp, hq⟩, hs⟩, ht⟩ := hl
    have hp := okLit_iff hp; have hq := okLit_iff hq; have hs := okLit_iff hs; have ht := okLit_iff ht
    refine ⟨(p == limb a 0) :: (q == limb a 1) :: (s == limb a 2) :: (t == limb a 3) :: b0, ?_, ?_⟩
    · simp [concs, flat, SK.cells, SC.conc, eqL, eqC, e0]
    · simp only [List.all_cons, id, e1]
      obtain ⟨j0, j1, j2, j3⟩ := limb_join hp hq hs ht
      rw [Bool.eq_iff_iff]
      have hj : join p q s t = join p q s t % M256 := (Nat.mod_eq_of_lt (join_lt hp.2 hq.2 hs.2 ht.2)).symm
      rw [hj]
      simp only [Bool.and_eq_true, beq_iff_eq, limbs_eq, and_assoc, j0, j1, j2, j3]
  | case6 ls p q s t r' a r hl => intro bs h; simp [eqKs, hl] at h
  | case7 l ls x r y r' b bs' h2 h1 ih =>
    intro bs h
    simp only [eqKs, h1, h2, Option.some.injEq] at h
    subst h
    obtain ⟨b0, e0, e1⟩ := ih h2
    simp only [concs] at e0
    refine ⟨b :: b0, ?_, by simp [e1]⟩
    simp [concs, flat, SK.cells, eqL, cmpC_sound h1 ρ, e0]
  | case8 l ls x r y r' hx ih =>
    intro bs h
    simp only [eqKs] at h
    cases h
  | case9 ls xs ys h1 h2 h3 h4 h5 =>
    intro bs h
    rw [eqKs] at h <;> first | cases h | assumption

def onesB : List Nat → Nat → Bool
  | [], 0 => true
  | 1 :: r, n + 1 => onesB r n
  | _, _ => false
theorem onesB_eq : ∀ {l : List Nat} {n : Nat}, onesB l n = true → l = List.replicate n 1
  | [], 0, _ => rfl
  | 1 :: r, n + 1, h => by simp only [onesB] at h; rw [onesB_eq h]; rfl
  | [], _ + 1, h | 0 :: _, 0, h | (_ + 2) :: _, 0, h | 1 :: _, 0, h | 0 :: _, _ + 1, h | (_ + 2) :: _, _ + 1, h => by simp [onesB] at h
/-- Two rows that functions tell. -/
def eqF (ls : List Nat) (xs ys : List SK) : Option (List Bool) :=
  match xs, ys with
  | [.f k n g], [.f k' n' g'] => if k = k' ∧ n = n' ∧ onesB ls n = true then some [(List.range n).all fun j => g j == g' j] else none
  | _, _ => none
theorem eqL_ints (k : IntKind) : ∀ (xs ys : List Int), xs.length = ys.length → eqL (List.replicate xs.length 1) (xs.map (Value.int k)) (ys.map (Value.int k)) = some (List.zipWith (· == ·) xs ys)
  | [], [], _ => rfl
  | x :: xs, y :: ys, h => by
    have ih := eqL_ints k xs ys (by simpa using h)
    simp only [List.length_cons, List.replicate_succ, List.map_cons, eqL, eqC, ih, if_true, List.zipWith_cons_cons]
  | [], _ :: _, h | _ :: _, [], h => by simp at h
theorem eqF_sound (ρ : Nat → Nat) {ls : List Nat} {xs ys : List SK} {bs : List Bool} (h : eqF ls xs ys = some bs) : ∃ bs0, eqL ls (concs ρ xs) (concs ρ ys) = some bs0 ∧ bs0.all id = bs.all id := by
  unfold eqF at h
  split at h
  · rename_i k n g k' n' g'
    split at h
    · rename_i hc
      obtain ⟨rfl, rfl, ho⟩ := hc
      simp only [Option.some.injEq] at h
      subst h
      have hl := onesB_eq ho
      subst hl
      have e : ∀ f : Nat → Int, concs ρ [SK.f k n f] = ((List.range n).map f).map (Value.int k) := fun f => by simp [concs, flat, SK.cells, Function.comp_def, SC.conc]
      have := eqL_ints k ((List.range n).map g) ((List.range n).map g') (by simp)
      rw [e, e]
      rw [List.length_map, List.length_range] at this
      refine ⟨_, this, ?_⟩
      simp only [List.all_cons, List.all_nil, id, Bool.and_true]
      rw [List.zipWith_map_left, List.zipWith_map_right, List.zipWith_self, List.all_map]
      rfl
    · cases h
  · cases h

def eqAgg (ls : List Nat) (xs ys : List SK) : Option (List Bool) :=
  match eqF ls xs ys with
  | some bs => some bs
  | none => match eqKs ls xs ys with
    | some bs => some bs
    | none => eqFl ls (flat xs) (flat ys)
theorem eqAgg_sound (ρ : Nat → Nat) {ls : List Nat} {xs ys : List SK} {bs : List Bool} (h : eqAgg ls xs ys = some bs) : ∃ bs0, eqL ls (concs ρ xs) (concs ρ ys) = some bs0 ∧ bs0.all id = bs.all id := by
  unfold eqAgg at h
  split at h
  · rename_i bs' h1; simp only [Option.some.injEq] at h; subst h; exact eqF_sound ρ h1
  · split at h
    · rename_i bs' h1; simp only [Option.some.injEq] at h; subst h; exact eqKs_sound ρ _ _ _ h1
    · exact ⟨bs, eqFl_sound ρ h, rfl⟩

end Go.Sx
