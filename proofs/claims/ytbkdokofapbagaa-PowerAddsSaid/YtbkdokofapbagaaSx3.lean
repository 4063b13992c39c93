/-
  A calculus of symbolic states for walks over translated Go code, part 3: each operation that makes a value and leaves memory alone.
-/
import Derived.Test.YtbkdokofapbagaaSx2
namespace Go.Sx
open Go.RowKit

/-! ## Two aggregates held against each other -/

def leafsF (lf : TypeId → Option (List Nat)) (sz : TypeId → Nat) : List Field → Nat → Option (List Nat)
  | [], _ => some []
  | f :: r, off =>
    if f.name == "_" || f.offset != off then none else
    match lf f.type with
    | some l => if sz f.type == l.length && l.length != 0 then (leafsF lf sz r (off + l.length)).map (l ++ ·) else none
    | none => none
def rep (l : List Nat) : Nat → List Nat
  | 0 => []
  | n + 1 => l ++ rep l n
/-- The kinds of a type's cells: 0 bool, 1 a whole number, 2 a text. -/
def leafs (P : Program) : Nat → TypeId → Option (List Nat)
  | 0, _ => none
  | d + 1, t =>
    match P.underlying t with
    | some .bool => some [0]
    | some (.int _) => some [1]
    | some .string => some [2]
    | some (.array n e) =>
      match leafs P d e with
      | some l => if P.cellsOf e == l.length && l.length != 0 && (P.info? e).isSome then some (rep l n) else none
      | none => none
    | some (.struct fs) => if P.stoodInHeld t then none else leafsF (leafs P d) P.cellsOf fs.toList 0
    | _ => none

def eqC : Nat → Value → Value → Option Bool
  | 0, .bool a, .bool b => some (a == b)
  | 1, .int k a, .int k' b => if k = k' then some (a == b) else none
  | 2, .string a, .string b => some (a == b)
  | _, _, _ => none
def eqL : List Nat → List Value → List Value → Option (List Bool)
  | [], [], [] => some []
  | l :: ls, x :: xs, y :: ys =>
    match eqC l x y, eqL ls xs ys with
    | some b, some bs => some (b :: bs)
    | _, _ => none
  | _, _, _ => none
def whole (P : Program) (t : TypeId) (xs : List Value) : Value :=
  match P.underlying t with
  | some (.struct _) | some (.array _ _) => .agg xs.toArray
  | _ => xs.headD undef

theorem eqL_length : ∀ {ls : List Nat} {xs ys : List Value} {bs : List Bool}, eqL ls xs ys = some bs → xs.length = ls.length ∧ ys.length = ls.length
  | [], [], [], _, _ => by simp
  | l :: ls, x :: xs, y :: ys, bs, h => by
    simp only [eqL] at h
    split at h
    · rename_i b bs' h1 h2
      obtain ⟨a, c⟩ := eqL_length h2
      simp [a, c]
    · cases h
  | [], x :: xs, ys, _, h | [], [], y :: ys, _, h | l :: ls, [], ys, _, h | l :: ls, x :: xs, [], _, h => by simp [eqL] at h
theorem eqL_one {l : Nat} {xs ys : List Value} {bs : List Bool} (h : eqL [l] xs ys = some bs) : ∃ x y b, xs = [x] ∧ ys = [y] ∧ eqC l x y = some b ∧ bs = [b] := by
  obtain ⟨h1, h2⟩ := eqL_length h
  obtain ⟨x, rfl⟩ := List.length_eq_one_iff.1 h1
  obtain ⟨y, rfl⟩ := List.length_eq_one_iff.1 h2
  simp only [eqL] at h
  cases e : eqC l x y with
  | none => simp [e] at h
  | some b => simp [e] at h; exact ⟨x, y, b, rfl, rfl, e, h.symm⟩
theorem eqC_bool {x y : Value} {b : Bool} (h : eqC 0 x y = some b) : ∃ p q, x = .bool p ∧ y = .bool q ∧ b = (p == q) := by
  cases x <;> cases y <;> simp [eqC] at h
  exact ⟨_, _, rfl, rfl, h.symm⟩
theorem eqC_int {x y : Value} {b : Bool} (h : eqC 1 x y = some b) : ∃ k p q, x = .int k p ∧ y = .int k q ∧ b = (p == q) := by
  cases x <;> cases y <;> simp [eqC] at h
  obtain ⟨rfl, h⟩ := h
  exact ⟨_, _, _, rfl, rfl, h.symm⟩
theorem eqC_string {x y : Value} {b : Bool} (h : eqC 2 x y = some b) : ∃ p q, x = .string p ∧ y = .string q ∧ b = (p == q) := by
  cases x <;> cases y <;> simp [eqC] at h
  exact ⟨_, _, rfl, rfl, h.symm⟩
theorem eqL_append : ∀ {l1 l2 : List Nat} {xs ys : List Value} {bs : List Bool}, eqL (l1 ++ l2) xs ys = some bs →
    ∃ b1 b2, eqL l1 (xs.take l1.length) (ys.take l1.length) = some b1 ∧ eqL l2 (xs.drop l1.length) (ys.drop l1.length) = some b2 ∧ bs = b1 ++ b2
  | [], l2, xs, ys, bs, h => ⟨[], bs, by simp [eqL], by simpa using h, rfl⟩
  | l :: l1, l2, x :: xs, y :: ys, bs, h => by
    simp only [List.cons_append, eqL] at h
    split at h
    · rename_i b bs' h1 h2
      obtain ⟨b1, b2, e1, e2, rfl⟩ := eqL_append h2
      simp only [Option.some.injEq] at h
      exact ⟨b :: b1, b2, by simp [eqL, h1, e1], by simpa using e2, by simp [← h]⟩
    · cases h
  | l :: l1, l2, [], ys, bs, h | l :: l1, l2, x :: xs, [], bs, h => by simp [eqL] at h

def isAggD : TypeDesc → Bool
  | .struct _ | .array _ _ => true
  | _ => false

section
variable {P : Program} (w : World)

theorem run_isAgg (t : TypeId) {d : TypeDesc} (h : P.underlying t = some d) : (isAgg t).run P w = .ok (isAggD d) w := by
  simp only [isAgg, Sem.run_bind, run_underlying h, Result.andThen_ok]
  cases d <;> rfl

theorem leafs_pos {d : Nat} {t : TypeId} {ls : List Nat} (h : leafs P d t = some ls) : ∃ u, P.underlying t = some u ∧ (∃ d', d = d' + 1) := by
  cases d with
  | zero => simp [leafs] at h
  | succ d =>
    cases hu : P.underlying t with
    | none => simp [leafs, hu] at h
    | some u => exact ⟨u, rfl, d, rfl⟩

theorem info_of_underlying {t : TypeId} {u : TypeDesc} (h : P.underlying t = some u) : ∃ i, P.info? t = some i := by
  unfold Program.underlying at h
  split at h
  · rename_i hi; exact ⟨_, hi⟩
  · rename_i i _ hi; exact ⟨i, hi⟩
  · cases h

theorem run_part_leafs {d : Nat} {t : TypeId} {ls : List Nat} (h : leafs P d t = some ls) (hs : P.cellsOf t = ls.length) (xs : List Value) (off : Nat) (hx : off + ls.length ≤ xs.length) :
    (part t xs.toArray off).run P w = .ok (whole P t ((xs.drop off).take ls.length)) w := by
  obtain ⟨u, hu, d', rfl⟩ := leafs_pos h
  obtain ⟨i, hi⟩ := info_of_underlying hu
  have hone : (∀ n e, u ≠ .array n e) → (∀ fs, u ≠ .struct fs) → ls.length = 1 := by
    intro h1 h2
    simp only [leafs, hu] at h
    cases u <;> simp at h <;> first | (subst h; rfl) | (exact absurd rfl (h1 _ _)) | (exact absurd rfl (h2 _))
  simp only [part, Sem.run_bind, run_isAgg w t hu, Result.andThen_ok]
  cases u
  case array n e => simp [whole, hu, isAggD, run_sizeOf w hi, hs, List.take_drop]
  case struct fs => simp [whole, hu, isAggD, run_sizeOf w hi, hs, List.take_drop]
  all_goals
    have h1 := hone (by intro n e; simp) (by intro fs; simp)
    rw [h1] at hx ⊢
    have hlt : off < xs.length := by omega
    rw [show (xs.drop off).take 1 = [xs[off]] by rw [List.drop_eq_getElem_cons hlt]; rfl]
    simp [whole, hu, isAggD, hlt]

theorem eqItems_leafs {d : Nat} {e : TypeId} {l : List Nat} (hl : leafs P d e = some l) (hs : P.cellsOf e = l.length) (h0 : l.length ≠ 0)
    (ih : ∀ xs ys bs, eqL l xs ys = some bs → (Op.equalIn d e (whole P e xs) (whole P e ys)).run P w = .ok (bs.all id) w) (xs ys : List Value) :
    ∀ (m j : Nat) (bs : List Bool), eqL (rep l m) (xs.drop (j * l.length)) (ys.drop (j * l.length)) = some bs →
      (Op.eqItems d e (P.cellsOf e) xs.toArray ys.toArray (List.range' j m)).run P w = .ok (bs.all id) w
  | 0, j, bs, h => by
    simp only [rep] at h
    cases h1 : List.drop (j * l.length) xs <;> cases h2 : List.drop (j * l.length) ys <;> rw [h1, h2] at h <;> simp [eqL] at h
    subst h
    simp [Op.eqItems]
  | m + 1, j, bs, h => by
    simp only [rep] at h
    obtain ⟨b1, b2, e1, e2, rfl⟩ := eqL_append h
    obtain ⟨k1, k2⟩ := eqL_length e1
    have k1' : j * l.length + l.length ≤ xs.length := by
      rcases Nat.lt_or_ge (j * l.length + l.length) (xs.length + 1) with k | k
      · omega
      · simp at k1; omega
    have k2' : j * l.length + l.length ≤ ys.length := by
      rcases Nat.lt_or_ge (j * l.length + l.length) (ys.length + 1) with k | k
      · omega
      · simp at k2; omega
    simp only [List.range'_succ, Op.eqItems, Sem.run_bind, hs]
    rw [run_part_leafs w hl hs xs _ k1']
    simp only [Result.andThen_ok]
    rw [run_part_leafs w hl hs ys _ k2']
    simp only [Result.andThen_ok]
    rw [ih _ _ _ e1]
    simp only [Result.andThen_ok]
    rw [List.drop_drop, List.drop_drop, show j * l.length + l.length = (j + 1) * l.length by rw [Nat.succ_mul]] at e2
    have := eqItems_leafs hl hs h0 ih xs ys m (j + 1) b2 e2
    rw [hs] at this
    cases hb : b1.all id
    · simp [hb]
    · simp [hb, this]

theorem eqFields_leafs {d : Nat} (ih : ∀ e l, leafs P d e = some l → ∀ xs ys bs, eqL l xs ys = some bs → (Op.equalIn d e (whole P e xs) (whole P e ys)).run P w = .ok (bs.all id) w) (xs ys : List Value) :
    ∀ (fs : List Field) (off : Nat) (ls : List Nat) (bs : List Bool), leafsF (leafs P d) P.cellsOf fs off = some ls → eqL ls (xs.drop off) (ys.drop off) = some bs →
      (Op.eqFields d xs.toArray ys.toArray fs).run P w = .ok (bs.all id) w
  | [], off, ls, bs, hl, h => by
    simp only [leafsF, Option.some.injEq] at hl
    subst hl
    cases h1 : List.drop off xs <;> cases h2 : List.drop off ys <;> rw [h1, h2] at h <;> simp [eqL] at h
    subst h
    simp [Op.eqFields]
  | f :: fs, off, ls, bs, hl, h => by
    simp only [leafsF] at hl
    split at hl
    · cases hl
    rename_i hn
    simp only [Bool.or_eq_true, beq_iff_eq, bne_iff_ne, not_or, ne_eq, Decidable.not_not] at hn
    split at hl
    case h_2 => cases hl
    rename_i l hlf
    split at hl
    case isFalse => cases hl
    rename_i hsz
    simp only [Bool.and_eq_true, beq_iff_eq, bne_iff_ne, ne_eq] at hsz
    obtain ⟨hsz, h0⟩ := hsz
    simp only [Option.map_eq_some_iff] at hl
    obtain ⟨ls', hl', rfl⟩ := hl
    obtain ⟨b1, b2, e1, e2, rfl⟩ := eqL_append h
    obtain ⟨k1, k2⟩ := eqL_length e1
    have k1' : off + l.length ≤ xs.length := by
      rcases Nat.lt_or_ge (off + l.length) (xs.length + 1) with k | k
      · omega
      · simp at k1; omega
    have k2' : off + l.length ≤ ys.length := by
      rcases Nat.lt_or_ge (off + l.length) (ys.length + 1) with k | k
      · omega
      · simp at k2; omega
    simp only [Op.eqFields, ne_eq, hn.1, not_false_eq_true, if_true, Sem.run_bind, hn.2]
    rw [run_part_leafs w hlf hsz xs _ k1']
    simp only [Result.andThen_ok]
    rw [run_part_leafs w hlf hsz ys _ k2']
    simp only [Result.andThen_ok]
    rw [ih _ _ hlf _ _ _ e1]
    simp only [Result.andThen_ok]
    rw [List.drop_drop, List.drop_drop] at e2
    have := eqFields_leafs ih xs ys fs _ ls' b2 hl' e2
    cases hb : b1.all id
    · simp [hb]
    · simp [hb, this]

theorem equalIn_leafs : ∀ (d : Nat) (t : TypeId) (ls : List Nat), leafs P d t = some ls → ∀ (xs ys : List Value) (bs : List Bool), eqL ls xs ys = some bs →
    (Op.equalIn d t (whole P t xs) (whole P t ys)).run P w = .ok (bs.all id) w
  | 0, _, _, h => by simp [leafs] at h
  | d + 1, t, ls, h => by
    intro xs ys bs hb
    have hlf := h
    simp only [leafs] at h
    split at h
    case h_1 hu =>
      simp only [Option.some.injEq] at h; subst h
      obtain ⟨x, y, b, rfl, rfl, h1, rfl⟩ := eqL_one hb
      obtain ⟨p, q, rfl, rfl, rfl⟩ := eqC_bool h1
      simp [whole, hu, run_equalIn_bool' w d t _ _ hu]
    case h_2 k hu =>
      simp only [Option.some.injEq] at h; subst h
      obtain ⟨x, y, b, rfl, rfl, h1, rfl⟩ := eqL_one hb
      obtain ⟨k', p, q, rfl, rfl, rfl⟩ := eqC_int h1
      simp [whole, hu, run_equalIn_int w d t _ k _ _ hu]
    case h_3 hu =>
      simp only [Option.some.injEq] at h; subst h
      obtain ⟨x, y, b, rfl, rfl, h1, rfl⟩ := eqL_one hb
      obtain ⟨p, q, rfl, rfl, rfl⟩ := eqC_string h1
      simp [whole, hu, Op.equalIn, run_underlying hu]
    case h_4 n e hu =>
      split at h
      case h_2 => cases h
      rename_i l hl
      split at h
      case isFalse => cases h
      rename_i hc
      simp only [Bool.and_eq_true, beq_iff_eq, bne_iff_ne, ne_eq, Option.isSome_iff_exists] at hc
      obtain ⟨⟨hs, h0⟩, i, hi⟩ := hc
      simp only [Option.some.injEq] at h
      subst h
      simp only [whole, hu]
      rw [run_equalIn_array w d _ _ hu hi, List.range_eq_range']
      exact eqItems_leafs w hl hs h0 (fun xs ys bs hb => equalIn_leafs d e l hl xs ys bs hb) xs ys n 0 bs (by simpa using hb)
    case h_5 fs hu =>
      split at h
      · cases h
      rename_i hst
      simp only [whole, hu]
      have hf : P.fieldsOf t = fs := by simp [Program.fieldsOf, hu]
      rw [run_equalIn_struct w d t _ _ (by rw [hf]; exact hu) (by simpa using hst), hf]
      exact eqFields_leafs w (fun e l hl xs ys bs hb => equalIn_leafs d e l hl xs ys bs hb) xs ys fs.toList 0 ls bs h (by simpa using hb)
    case h_6 => cases h
end

end Go.Sx
