/-
  Texts: P1, P2, Lift, C1, V161, P261, Tex, TexQ, DgA, V60, P100, P101, V61, P102, DgB, V62, P103, P104, V63, P105, P106, V162, P262, V164, P266.
-/
import Derived.Test.YtnjdoebaneogjaaM1
import Derived.Test.YtnjdoebaneogjaaM2
import Derived.Test.YtnjdoebaneogjaaM3
import Derived.Test.YtnjdoebaneogjaaM4
import Derived.Test.YtnjdoebaneogjaaM5
import Derived.Test.YtnjdoebaneogjaaM6
import Derived.Test.YtnjdoebaneogjaaM7
import Derived.Test.YtnjdoebaneogjaaM8
import Derived.Test.YtnjdoebaneogjaaM9
import Derived.ProofKit
import Derived.OpenShut
import Derived.Test.YtnjdoebaneogjaaProg
import Derived.Test.YtnjdoebaneogjaaChecked
section
namespace Go.Proofs.Ytnjdoebaneogjaa
open Go.Sx
theorem split4 (n : Nat) : ∃ a b c d : Nat, limb n 0 = a ∧ limb n 1 = b ∧ limb n 2 = c ∧ limb n 3 = d ∧ a < 18446744073709551616 ∧ b < 18446744073709551616 ∧ c < 18446744073709551616 ∧ d < 18446744073709551616 ∧
    n % M256 = a + 18446744073709551616 * b + 340282366920938463463374607431768211456 * c + 6277101735386680763835789423207666416102355444464034512896 * d := by
  refine ⟨n / 2 ^ (64 * 0) % 2 ^ 64, n / 2 ^ (64 * 1) % 2 ^ 64, n / 2 ^ (64 * 2) % 2 ^ 64, n / 2 ^ (64 * 3) % 2 ^ 64, rfl, rfl, rfl, rfl, Nat.mod_lt _ (by decide), Nat.mod_lt _ (by decide), Nat.mod_lt _ (by decide), Nat.mod_lt _ (by decide), ?_⟩
  rw [limbs_sum]
  simp only [Nat.mul_zero, Nat.pow_zero, Nat.div_one, Nat.mul_one, Nat.reduceMul, Nat.reducePow]
theorem M256_eq : M256 = 115792089237316195423570985008687907853269984665640564039457584007913129639936 := by decide
theorem carry_step (x y c : Nat) (hx : x < 18446744073709551616) (hy : y < 18446744073709551616) (hc : c ≤ 1) :
    ∃ s d : Nat, ((x : Int) + y + c) % 18446744073709551616 = s ∧ ((x : Int) + y + c) / 18446744073709551616 = d ∧ s < 18446744073709551616 ∧ d ≤ 1 ∧ x + y + c = s + 18446744073709551616 * d :=
  ⟨(x + y + c) % 18446744073709551616, (x + y + c) / 18446744073709551616, by omega, by omega, by omega, by omega, by omega⟩
theorem divmod_of {A S c M : Nat} (h : A = S + M * c) (hS : S < M) : A % M = S ∧ A / M = c := by
  subst h
  rw [Nat.add_mul_mod_self_left, Nat.mod_eq_of_lt hS, Nat.add_mul_div_left _ _ (by omega), Nat.div_eq_of_lt hS]
  exact ⟨rfl, by omega⟩
theorem ok_plus : ∀ a b, Owes Try.prog cxPlus [] 100 Try.f23 [sU a, sU b] (plusG a b) := by
  intro a b
  rw [vc_plus]
  have hab := Nat.add_mod a b M256
  obtain ⟨a0, a1, a2, a3, e0, e1, e2, e3, h0, h1, h2, h3, ha⟩ := split4 a
  obtain ⟨b0, b1, b2, b3, f0, f1, f2, f3, k0, k1, k2, k3, hb⟩ := split4 b
  rw [e0, e1, e2, e3, f0, f1, f2, f3]
  rw [ha, hb] at hab
  rw [ha, hb]
  obtain ⟨s0, c0, p0, q0, r0, t0, w0⟩ := carry_step a0 b0 0 h0 k0 (by omega)
  obtain ⟨s1, c1, p1, q1, r1, t1, w1⟩ := carry_step a1 b1 c0 h1 k1 t0
  obtain ⟨s2, c2, p2, q2, r2, t2, w2⟩ := carry_step a2 b2 c1 h2 k2 t1
  obtain ⟨s3, c3, p3, q3, r3, t3, w3⟩ := carry_step a3 b3 c2 h3 k3 t2
  simp only [Int.natCast_zero] at p0 q0
  obtain ⟨m1, m2⟩ := divmod_of (A := a0 + 18446744073709551616 * a1 + 340282366920938463463374607431768211456 * a2 + 6277101735386680763835789423207666416102355444464034512896 * a3 +
    (b0 + 18446744073709551616 * b1 + 340282366920938463463374607431768211456 * b2 + 6277101735386680763835789423207666416102355444464034512896 * b3))
    (S := s0 + 2 ^ 64 * s1 + 2 ^ 128 * s2 + 2 ^ 192 * s3) (c := c3) (M := M256) (by rw [M256_eq]; omega) (by rw [M256_eq]; omega)
  rw [m1] at hab
  have hS : (s0 + 2 ^ 64 * s1 + 2 ^ 128 * s2 + 2 ^ 192 * s3) % M256 = s0 + 2 ^ 64 * s1 + 2 ^ 128 * s2 + 2 ^ 192 * s3 := Nat.mod_eq_of_lt (by rw [M256_eq]; omega)
  simp only [q0, q1, q2, q3, p0, p1, p2, p3, join, Int.toNat_natCast, and_true, hab, hS, m2]
  clear ha hb hab hS m1 m2 p0 p1 p2 p3 q0 q1 q2 q3 w0 w1 w2 w3 e0 e1 e2 e3 f0 f1 f2 f3
  refine ⟨?_, ?_, ?_, ?_, ?_, ?_, ?_, ?_, ?_, ?_, ?_, ?_, ?_, ?_, ?_, ?_⟩ <;> omega
theorem borrow_step (x y c : Nat) (hx : x < 18446744073709551616) (hy : y < 18446744073709551616) (hc : c ≤ 1) :
    ∃ s d : Nat, ((x : Int) - y - c) % 18446744073709551616 = s ∧ -(((x : Int) - y - c) / 18446744073709551616) = d ∧ s < 18446744073709551616 ∧ d ≤ 1 ∧ x + 18446744073709551616 * d = s + y + c :=
  ⟨(((x : Int) - y - c) % 18446744073709551616).toNat, (-(((x : Int) - y - c) / 18446744073709551616)).toNat, by omega, by omega, by omega, by omega, by omega⟩
theorem ok_less : ∀ a b, Owes Try.prog cxLess [] 100 Try.f22 [sU a, sU b] (lessG a b) := by
  intro a b
  rw [vc_less]
  obtain ⟨a0, a1, a2, a3, e0, e1, e2, e3, h0, h1, h2, h3, ha⟩ := split4 a
  obtain ⟨b0, b1, b2, b3, f0, f1, f2, f3, k0, k1, k2, k3, hb⟩ := split4 b
  rw [e0, e1, e2, e3, f0, f1, f2, f3, ha, hb]
  obtain ⟨s0, c0, p0, q0, r0, t0, w0⟩ := borrow_step a0 b0 0 h0 k0 (by omega)
  obtain ⟨s1, c1, p1, q1, r1, t1, w1⟩ := borrow_step a1 b1 c0 h1 k1 t0
  obtain ⟨s2, c2, p2, q2, r2, t2, w2⟩ := borrow_step a2 b2 c1 h2 k2 t1
  obtain ⟨s3, c3, p3, q3, r3, t3, w3⟩ := borrow_step a3 b3 c2 h3 k3 t2
  simp only [Int.natCast_zero] at p0 q0
  have key : a0 + 18446744073709551616 * a1 + 340282366920938463463374607431768211456 * a2 + 6277101735386680763835789423207666416102355444464034512896 * a3 + M256 * c3 =
    (s0 + 2 ^ 64 * s1 + 2 ^ 128 * s2 + 2 ^ 192 * s3) + (b0 + 18446744073709551616 * b1 + 340282366920938463463374607431768211456 * b2 + 6277101735386680763835789423207666416102355444464034512896 * b3) := by
    rw [M256_eq]; omega
  simp only [q0, q1, q2, q3, p0, p1, p2, p3, join, Int.toNat_natCast, and_true]
  generalize hA : a0 + 18446744073709551616 * a1 + 340282366920938463463374607431768211456 * a2 + 6277101735386680763835789423207666416102355444464034512896 * a3 = A at *
  generalize hB : b0 + 18446744073709551616 * b1 + 340282366920938463463374607431768211456 * b2 + 6277101735386680763835789423207666416102355444464034512896 * b3 = B at *
  have hA' : A < M256 := by rw [M256_eq]; omega
  have hB' : B < M256 := by rw [M256_eq]; omega
  have hS' : s0 + 2 ^ 64 * s1 + 2 ^ 128 * s2 + 2 ^ 192 * s3 < M256 := by rw [M256_eq]; omega
  generalize s0 + 2 ^ 64 * s1 + 2 ^ 128 * s2 + 2 ^ 192 * s3 = S at *
  rw [Nat.mod_eq_of_lt hS']
  have hc3 : c3 = 0 ∨ c3 = 1 := by omega
  have fin : S = (A + M256 - B) % M256 ∧ (c3 : Int) = if A < B then 1 else 0 := by
    rcases hc3 with rfl | rfl
    · have : ¬ A < B := by omega
      rw [if_neg this]
      refine ⟨?_, rfl⟩
      rw [show A + M256 - B = S + M256 by omega, Nat.add_mod_right, Nat.mod_eq_of_lt hS']
    · have : A < B := by omega
      rw [if_pos this]
      refine ⟨?_, rfl⟩
      rw [show A + M256 - B = S by omega, Nat.mod_eq_of_lt hS']
  obtain ⟨g1, g2⟩ := fin
  rw [← g1, ← g2]
  clear ha hb hA hB key hA' hB' hS' g1 g2 p0 p1 p2 p3 q0 q1 q2 q3 w0 w1 w2 w3 e0 e1 e2 e3 f0 f1 f2 f3
  repeat' apply And.intro
  all_goals first | rfl | omega
theorem ok_Add : ∀ a b, Owes Try.prog cxAdd [] 100 Try.f13 [sU a, sU b] (addG a b) := by
  intro a b
  rw [vc_Add]
  refine ⟨⟨rfl, trivial⟩, ?_⟩
  have hM : 0 < M256 := by decide
  have h1 := Nat.mod_lt a hM
  have h2 := Nat.mod_lt b hM
  rw [Bool.eq_iff_iff]
  simp only [bne_iff_ne, ne_eq, decide_eq_true_eq]
  by_cases h : M256 ≤ a % M256 + b % M256
  · have : (a % M256 + b % M256) / M256 ≠ 0 := by
      have := Nat.div_pos h hM
      omega
    simp only [h, iff_true]; omega
  · have : (a % M256 + b % M256) / M256 = 0 := Nat.div_eq_of_lt (by omega)
    simp [h, this]
theorem ok_Sub : ∀ a b, Owes Try.prog cxSub [] 100 Try.f12 [sU a, sU b] (subG a b) := by
  intro a b
  rw [vc_Sub]
  refine ⟨⟨rfl, trivial⟩, ?_⟩
  by_cases h : a % M256 < b % M256 <;> simp [h]
theorem ok_Cmp : ∀ a b, Owes Try.prog Cx.none [] 100 Try.f10 [sU a, sU b] (cmpG a b) := by
  intro a b
  rw [vc_Cmp]
  obtain ⟨a0, a1, a2, a3, e0, e1, e2, e3, h0, h1, h2, h3, ha⟩ := split4 a
  obtain ⟨b0, b1, b2, b3, f0, f1, f2, f3, k0, k1, k2, k3, hb⟩ := split4 b
  rw [e0, e1, e2, e3, f0, f1, f2, f3]
  simp only [cmpN, ha, hb, decide_eq_true_eq, decide_eq_false_iff_not]
  clear e0 e1 e2 e3 f0 f1 f2 f3 ha hb
  refine ⟨fun h => ?_, fun h => ⟨fun h' => ?_, fun h' => ⟨fun g => ?_, fun g => ⟨fun g' => ?_, fun g' => ⟨fun i => ?_, fun i => ⟨fun i' => ?_, fun i' => ⟨fun j => ?_, fun j => ⟨fun j' => ?_, fun j' => ?_⟩⟩⟩⟩⟩⟩⟩⟩
  all_goals
    split
    · omega
    · first
      | omega
      | (split <;> omega)
theorem ok_picked (n m : Int) (hn : i64ok n) (hm : 0 < m ∧ m ≤ 1000000) : Owes Try.prog Cx.none [] 100 Try.f6 [sI .i64 n, sI .i64 m] (pickedG n m) := by
  rw [vc_picked]
  obtain ⟨h1, h2⟩ := hn
  have hd := Int.tmod_add_mul_tdiv n m
  have b1 := Int.emod_nonneg n (show m ≠ 0 by omega)
  have b2 := Int.emod_lt_of_pos n hm.1
  have hlt := Int.tmod_lt_of_pos n hm.1
  refine ⟨by omega, fun h => ?_, fun h => ?_⟩
  · simp only [decide_eq_true_eq] at h
    have hgt : -m < n.tmod m := by
      have := Int.lt_tmod_of_pos n hm.1
      exact this
    have e : n.tmod m + m = n % m := by
      have : (n.tmod m + m) % m = n.tmod m + m := Int.emod_eq_of_lt (by omega) (by omega)
      rw [← this]
      conv => rhs; rw [← hd]
      rw [Int.add_mul_emod_self_left, Int.add_emod_right]
    rw [e]
    exact IntWalk.i64_in _ (by omega)
  · simp only [decide_eq_false_iff_not] at h
    have : n.tmod m % m = n.tmod m := Int.emod_eq_of_lt (by omega) hlt
    rw [← this]
    conv => rhs; rw [← hd]
    rw [Int.add_mul_emod_self_left]
end Go.Proofs.Ytnjdoebaneogjaa
end

section
namespace Go.Proofs.Ytnjdoebaneogjaa
open Go.Sx
end Go.Proofs.Ytnjdoebaneogjaa
end

section
namespace Go.Sx
open Go.RowKit Go.ChangeShapes Go.WideShapes
inductive LK where
  | bool
  | int (k : IntKind)
  | text
def LK.fits : LK → Value → Prop
  | .bool, .bool _ => True
  | .int k, .int k' n => k' = k ∧ (Lit.int k n).wf = true
  | .text, .string s => s.size ≤ maxLen
  | _, _ => False
def fitsL : List LK → List Value → Prop
  | [], [] => True
  | l :: ls, v :: vs => l.fits v ∧ fitsL ls vs
  | _, _ => False
theorem fitsL_append : ∀ {a b : List LK} {u v : List Value}, fitsL a u → fitsL b v → fitsL (a ++ b) (u ++ v)
  | [], _, [], _, _, h => h
  | _ :: _, _, _ :: _, _, h, k => ⟨h.1, fitsL_append h.2 k⟩
  | [], _, _ :: _, _, h, _ => h.elim
  | _ :: _, _, [], _, h, _ => h.elim
def lksF (P : Program) (g : TypeId → Option (List LK)) : List Field → Nat → Option (List LK)
  | [], _ => some []
  | f :: fs, n =>
    match g f.type with
    | none => none
    | some a => if Nat.beq f.offset n && Nat.beq (P.cellsOf f.type) a.length then (lksF P g fs (n + a.length)).map (a ++ ·) else none
def lks (P : Program) : Nat → TypeId → Option (List LK)
  | 0, _ => none
  | d + 1, t =>
    match P.underlying t with
    | some .bool => some [.bool]
    | some (.int k) => some [.int k]
    | some .string => some [.text]
    | some (.struct fs) => match lksF P (lks P d) fs.toList 0 with
      | some a => if Nat.beq (P.cellsOf t) a.length then some a else none
      | none => none
    | some (.array n e) => match lks P d e with
      | some a => if Nat.beq (P.cellsOf e) a.length && Nat.beq (P.cellsOf t) (n * a.length) then some (List.replicate n a).flatten else none
      | none => none
    | _ => none
section
variable {H : Type} {enc : TypeId × Value → H} {P : Program} {w : World} {base : Nat} {sp : Nat → Bool} {held : Bool}
theorem fits_fields {fuel : Nat} {g : TypeId → Option (List LK)} {cs : List Value}
    (hg : ∀ {t a cs' x}, g t = some a → DataW.trod enc P w base sp held fuel t cs' = some x → fitsL a cs') :
    ∀ {fs : List Field} {n : Nat} {a : List LK}, lksF P g fs n = some a →
      (∀ f ∈ fs, ∃ x, DataW.trod enc P w base sp held fuel f.type ((cs.drop f.offset).take (P.cellsOf f.type)) = some x) → fitsL a ((cs.drop n).take a.length)
  | [], n, a, h, _ => by
    simp only [lksF, Option.some.injEq] at h
    subst h
    simp [fitsL]
  | f :: fs, n, a, h, hx => by
    simp only [lksF] at h
    split at h
    · cases h
    · rename_i a0 ha
      split at h
      · rename_i hc
        simp only [Bool.and_eq_true] at hc
        have h1 := Nat.eq_of_beq_eq_true hc.1
        have h2 := Nat.eq_of_beq_eq_true hc.2
        cases hr : lksF P g fs (n + a0.length) with
        | none => rw [hr] at h; simp at h
        | some a1 =>
          rw [hr] at h
          simp only [Option.map_some, Option.some.injEq] at h
          subst h
          obtain ⟨x, hx0⟩ := hx f (by simp)
          have f0 := hg ha hx0
          have f1 := fits_fields hg hr (fun f' hf' => hx f' (by simp [hf']))
          rw [h1, h2] at f0
          have := fitsL_append f0 f1
          rwa [List.length_append, List.take_add, List.drop_drop]
      · cases h
theorem fits_rows {a : List LK} : ∀ {n : Nat} {cs : List Value}, (∀ i, i < n → fitsL a ((cs.drop (i * a.length)).take a.length)) → cs.length = n * a.length → fitsL (List.replicate n a).flatten cs
  | 0, cs, _, hl => by
    have : cs = [] := List.eq_nil_of_length_eq_zero (by omega)
    subst this
    trivial
  | n + 1, cs, h, hl => by
    rw [List.replicate_succ, List.flatten_cons]
    have h0 := h 0 (by omega)
    rw [Nat.zero_mul, List.drop_zero] at h0
    have := fitsL_append h0 (fits_rows (n := n) (cs := cs.drop a.length) (fun i hi => by
      have := h (i + 1) (by omega)
      rw [List.drop_drop]
      rwa [Nat.add_mul, Nat.one_mul, Nat.add_comm] at this) (by rw [List.length_drop, hl, Nat.add_mul]; omega))
    rwa [List.take_append_drop] at this
theorem trod_fits : ∀ {d : Nat} {t : TypeId} {a : List LK} {fuel : Nat} {cs : List Value} {x : DataW H × List MemPlace}, lks P d t = some a → DataW.trod enc P w base sp held fuel t cs = some x → fitsL a cs
  | 0, _, _, _, _, _, h, _ => by cases h
  | d + 1, t, a, fuel, cs, x, h, hx => by
    unfold lks at h
    split at h
    · rename_i hu
      obtain ⟨b, rfl, _⟩ := DataW.trod_bool hu hx
      simp only [Option.some.injEq] at h; subst h
      exact ⟨trivial, trivial⟩
    · rename_i k hu
      obtain ⟨n, rfl, _, hw⟩ := DataW.trod_int hu hx
      simp only [Option.some.injEq] at h; subst h
      exact ⟨⟨rfl, hw⟩, trivial⟩
    · rename_i hu
      obtain ⟨s, rfl, _, hs⟩ := DataW.trod_string hu hx
      simp only [Option.some.injEq] at h; subst h
      exact ⟨hs, trivial⟩
    · rename_i fs hu
      split at h
      · rename_i a' ha
        split at h
        · rename_i hc
          simp only [Option.some.injEq] at h; subst h
          obtain ⟨xs, n, rfl, _, hl, hn, hf⟩ := DataW.trod_struct hu hx
          have := fits_fields (cs := cs) (fun h1 h2 => trod_fits (d := d) h1 h2) ha (fun f hm => by
            obtain ⟨i, hi, e⟩ := List.mem_iff_getElem.1 hm
            have e' : fs[i]? = some f := by rw [← e]; simp at hi ⊢
            have hlt : i < xs.length := by simp at hi; omega
            exact ⟨xs[i], by rw [hf i f e']; simp [hlt]⟩)
          rw [List.drop_zero, List.take_of_length_le (by rw [hl, Nat.eq_of_beq_eq_true hc]; exact Nat.le_refl _)] at this
          exact this
        · cases h
      · cases h
    · rename_i n e hu
      split at h
      · rename_i a' ha
        split at h
        · rename_i hc
          simp only [Bool.and_eq_true] at hc
          simp only [Option.some.injEq] at h; subst h
          obtain ⟨xs, m, rfl, _, hl, hn, hf⟩ := DataW.trod_array hu hx
          have h1 := Nat.eq_of_beq_eq_true hc.1
          have h2 := Nat.eq_of_beq_eq_true hc.2
          refine fits_rows (fun i hi => ?_) (by rw [hl, h2])
          have := hf i hi
          have hlt : i < xs.length := by omega
          rw [h1, List.getElem?_eq_getElem hlt] at this
          exact trod_fits ha this
        · cases h
      · cases h
    · cases h
theorem trodAll_carry (hl : laidOutB P = true) {W W' : World} (hb : Below W.heap.size W W') {sp' : Nat → Bool} :
    ∀ {ts : List TypeId} {vs : List Value} {ds : List (DataW H)} {ps : List MemPlace}, ts.all (fun t => P.readableRec t && Nat.blt t P.types.size) = true →
      DataW.TrodAll enc P W 0 (fun _ => true) true ts vs ds ps → (∀ x ∈ ps, x.block < W.heap.size) → (∀ x ∈ ps, sp' x.block = true) → DataW.TrodAll enc P W' 0 sp' true ts vs ds ps
  | [], _, _, _, _, h, _, _ => by
    obtain ⟨rfl, rfl, rfl⟩ := trodAll_nil h
    exact rfl
  | t :: ts, _, _, _, hr, h, hlt, hsp => by
    obtain ⟨v, vs, d, ds, p, q, rfl, rfl, rfl, h1, h2⟩ := trodAll_cons h
    simp only [List.all_cons, Bool.and_eq_true] at hr
    obtain ⟨⟨hr1, hr2⟩, hr3⟩ := hr
    refine trodAll_cons_mk (Go.WideElems.Trod_stays hl hr1 (by simpa [Nat.blt, Nat.succ_le_iff] using hr2) h1 (fun x hx => hb.same (hlt x (by simp [hx]))) (fun x hx => hsp x (by simp [hx])))
      (trodAll_carry hl hb hr3 h2 (fun x hx => hlt x (by simp [hx])) (fun x hx => hsp x (by simp [hx])))
theorem law_post {f : Func} {s : ChangeSpec} {fresh handsOn again : Bool} {W W' : World} {args : Array Value} {ds gs : List (DataW H)} {before : List MemPlace} {tb : TypeId}
    (hl : laidOutB P = true) (hp : f.params.toList.all (fun t => P.readableRec t && Nat.blt t P.types.size) = true) (hr : f.resultTypes = #[tb]) (hu : P.underlying tb = some .bool) (hv : s.vars = [])
    (hs : s.fn H (ds ++ gs) = { results := [.lit (.bool true)], args := ds, vars := [] })
    (hW : DataW.Whole enc P f.params.toList s.vars false W args.toList ds gs before) (hb : Below W.heap.size W W') :
    s.post enc P f false fresh handsOn again W args (.bool true) W' := by
  have hlt : ∀ p ∈ before, p.block < W.heap.size := fun p hp => hW.lt p hp
  have hW0 := hW
  obtain ⟨p, q, hA, hV, he, hz, hn⟩ := hW
  rw [hv] at hV
  obtain ⟨rfl, rfl⟩ := trodVars_none hV
  rw [List.append_nil] at he
  subst he
  have hres : ∀ (b : Nat) (sp : Nat → Bool) (hd : Bool), DataW.TrodAll enc P W' b sp hd f.resultTypes.toList (Value.resultList f.resultTypes.size (.bool true)) (s.fn H (ds ++ [])).results [] := by
    intro b sp hd
    rw [hs, hr]
    exact trodAll_mk1 (shut_bool hu true)
  have hargs : ∀ sp : Nat → Bool, (∀ x ∈ before, sp x.block = true) → DataW.TrodAll enc P W' 0 sp true f.params.toList args.toList (s.fn H (ds ++ [])).args before := by
    intro sp hsp
    rw [hs]
    exact trodAll_carry hl hb hp hA hlt hsp
  have hvars : ∀ sp : Nat → Bool, DataW.TrodVars enc P W' sp s.vars (s.fn H (ds ++ [])).vars [] := by
    intro sp
    rw [hv, hs]
    exact rfl
  refine ⟨ds, [], before, [], before, [], hW0, hres _ _ _, hargs _ (fun x hx => by simpa using hlt x hx), hvars _, World.keptBut_mono (fun x hx => ⟨hx, .inr (.inl hx)⟩) (hb.frame (· ∈ before)), fun _ => ⟨?_, _, [], before, ⟨before, [], trodAll_append (hargs _ (fun _ _ => rfl)) (hres _ _ _), ?_, (List.append_nil _).symm, ?_, ?_⟩, fun x hx _ => hx⟩⟩
  · refine ok_one hr rfl ?_
    unfold Value.okWide
    rw [hu]
    unfold Cell.okWide
    rw [hu]
    unfold Cell.ok
    rw [hu]
    trivial
  · have := hvars (fun _ => true)
    rw [hs] at this
    exact this
  · intro b off hm
    rw [hb.frozen (hlt _ hm)]
    exact hz b off hm
  · intro h; cases h
end
end Go.Sx
end

section
namespace Go.Proofs.Ytnjdoebaneogjaa
open Go.Sx
theorem CxOK_nil : CxOK Try.prog Cx.none := ⟨fun _ h => (by cases h), fun _ h => (by cases h)⟩
theorem CxOK_cons {f : Nat} {s : FSpec} {l : List (Nat × FSpec)} {gl : Globs} {wf : List (Nat × WSpec)} (h : FnOKg Try.prog gl f s) (hs : CxOK Try.prog ⟨l, gl, 0, wf⟩) : CxOK Try.prog ⟨(f, s) :: l, gl, 0, wf⟩ := by
  refine ⟨fun p hp => ?_, hs.2⟩
  rcases List.mem_cons.1 hp with rfl | hp
  · exact h
  · exact hs.1 p hp
theorem bnd_U (n : Nat) : SA.bnd none0 (sU n) := by
  intro k hk; simp only [List.mem_singleton] at hk; subst hk; trivial
theorem bnd_I (k : IntKind) (n : Int) : SA.bnd none0 (sI k n) := trivial
theorem bnd_B (b : Bool) : SA.bnd none0 (sB b) := trivial
theorem bnd_one {x : SA} (h : x.bnd none0) : SV.bnd none0 (.one x) := h
theorem bnd_two {x y : SA} (h : x.bnd none0) (h' : y.bnd none0) : SV.bnd none0 (.tup [x, y]) := by
  intro z hz
  simp only [List.mem_cons, List.not_mem_nil, or_false] at hz
  rcases hz with rfl | rfl
  · exact h
  · exact h'
theorem card_Add64 : FnOK Try.prog 34 specAdd64 := FnOK_add64 Try.func34 (by kernel_rfl) (by kernel_rfl) (by kernel_rfl) (by kernel_rfl)
theorem card_Sub64 : FnOK Try.prog 33 specSub64 := FnOK_sub64 Try.func33 (by kernel_rfl) (by kernel_rfl) (by kernel_rfl) (by kernel_rfl)
theorem cxok_plus : CxOK Try.prog cxPlus := CxOK_cons card_Add64 CxOK_nil
theorem card_plus : FnOK Try.prog 23 (specUU plusG) :=
  FnOK_UU cxok_plus (iv := []) (N := 100) Try.func23 (by kernel_rfl) (by kernel_rfl) (fun a b => by unfold plusG; exact bnd_two (bnd_U _) (bnd_I _ _)) ok_plus
theorem cxok_less : CxOK Try.prog cxLess := CxOK_cons card_Sub64 CxOK_nil
theorem card_less : FnOK Try.prog 22 (specUU lessG) :=
  FnOK_UU cxok_less (iv := []) (N := 100) Try.func22 (by kernel_rfl) (by kernel_rfl) (fun a b => by unfold lessG; exact bnd_two (bnd_U _) (bnd_I _ _)) ok_less
theorem cxok_Add : CxOK Try.prog cxAdd := CxOK_cons card_plus CxOK_nil
theorem card_Add : FnOK Try.prog 13 (specUU addG) :=
  FnOK_UU cxok_Add (iv := []) (N := 100) Try.func13 (by kernel_rfl) (by kernel_rfl) (fun a b => by unfold addG; exact bnd_two (bnd_U _) (bnd_B _)) ok_Add
theorem cxok_Sub : CxOK Try.prog cxSub := CxOK_cons card_less CxOK_nil
theorem card_Sub : FnOK Try.prog 12 (specUU subG) :=
  FnOK_UU cxok_Sub (iv := []) (N := 100) Try.func12 (by kernel_rfl) (by kernel_rfl) (fun a b => by unfold subG; exact bnd_two (bnd_U _) (bnd_B _)) ok_Sub
theorem card_Cmp : FnOK Try.prog 10 (specUU cmpG) :=
  FnOK_UU CxOK_nil (iv := []) (N := 100) Try.func10 (by kernel_rfl) (by kernel_rfl) (fun a b => by unfold cmpG; exact bnd_one (bnd_I _ _)) ok_Cmp
theorem card_picked : FnOK Try.prog 6 (specII (fun a b => [i64ok a, 0 < b ∧ b ≤ 1000000]) pickedG) :=
  FnOK_II CxOK_nil (iv := []) (N := 100) Try.func6 (by kernel_rfl) (by kernel_rfl) (fun _ _ => bnd_one (bnd_I _ _)) (fun a b h => ok_picked a b h.1 h.2.1)
end Go.Proofs.Ytnjdoebaneogjaa
end

section
namespace Go.Proofs.Ytnjdoebaneogjaa
open Go.Sx
set_option maxRecDepth 100000
def hoF (W : Nat → Nat → Int) (A : Nat → Nat) (i c : Nat) : SC :=
  match Nat.blt c 32 with
  | true => .val (.int .u8 (W i c))
  | false => match Nat.sub c 32 with
    | 0 => .val (.int .u64 (limb (A i) 0))
    | 1 => .val (.int .u64 (limb (A i) 1))
    | 2 => .val (.int .u64 (limb (A i) 2))
    | _ => .val (.int .u64 (limb (A i) 3))
def sHs (a : Option Addr) (n cap : Nat) (W : Nat → Nat → Int) (A : Nat → Nat) : SA := .sc (.xs a n cap 36 (hoF W A))
def sCn (s : Nat) (a : Option Addr) (n cap : Nat) (W : Nat → Nat → Int) (A : Nat → Nat) : SA := .agg [.u s, .c (.xs a n cap 36 (hoF W A))]
def invOr (a : Option Addr) (n cap : Nat) (W : Nat → Nat → Int) (A : Nat → Nat) (P : Nat → Prop) : Inv where
  X := Nat
  tm i := slotsAt 30 [(0, .one (sHs a n cap W A)), (5, .one (sHs a n cap W A)), (6, .one (sI .i64 (n : Int))), (7, .one (sI .i64 (i : Int)))]
  ob _ := []
  holds i := i ≤ n ∧ P i
  less i := n - i
def slOr : List (Nat × SSpec) := [(38, cAg)]
def invTo (a : Option Addr) (n cap : Nat) (W : Nat → Nat → Int) (A : Nat → Nat) (S : Nat → Nat) (P : Nat → Prop) : Inv where
  X := Nat
  tm i := slotsAt 27 [(0, .one (sHs a n cap W A)), (2, .one (.sc (.ptr 0 0))), (4, .one (.sc (.ptr 1 0))), (9, .one (sHs a n cap W A)), (10, .one (sI .i64 (n : Int))), (11, .one (sI .i64 (i : Int)))]
  ob i := [.cells 25 [.u 0] 0, .cells 25 [.u (S i)] 0]
  holds i := i ≤ n ∧ P i
  less i := n - i
def cxTo : Cx := [(13, specUU addG)]
def cx14 : Cx := ⟨[(1000000014, fun _ => none)], [], 0, []⟩
theorem vc_or (a : Option Addr) (n cap : Nat) (W : Nat → Nat → Int) (A : Nat → Nat) (P : Nat → Prop) (r : Bool) :
    OwesR Try.prog cx14 slOr [(2, .inv (invOr a n cap W A P))] 10 Try.f30 [sHs a n cap W A] false [.v (sB r)] =
    ((∀ (y : Nat), closedB (slotsAt 30 [(0, SV.one (sHs a n cap W A)), (5, SV.one (sHs a n cap W A)), (6, SV.one (sI Go.IntKind.i64 (↑n : Int))), (7, SV.one (sI Go.IntKind.i64 (↑y : Int)))]) [] = Bool.true) ∧ ∃ (y : Nat), (y ≤ n ∧ P y) ∧ (a = a ∧ n = n ∧ cap = cap ∧ ∀ (i : Nat), i < n → simC (hoF W A i 0) (hoF W A i 0) ∧ simC (hoF W A i 1) (hoF W A i 1) ∧ simC (hoF W A i 2) (hoF W A i 2) ∧ simC (hoF W A i 3) (hoF W A i 3) ∧ simC (hoF W A i 4) (hoF W A i 4) ∧ simC (hoF W A i 5) (hoF W A i 5) ∧ simC (hoF W A i 6) (hoF W A i 6) ∧ simC (hoF W A i 7) (hoF W A i 7) ∧ simC (hoF W A i 8) (hoF W A i 8) ∧ simC (hoF W A i 9) (hoF W A i 9) ∧ simC (hoF W A i 10) (hoF W A i 10) ∧ simC (hoF W A i 11) (hoF W A i 11) ∧ simC (hoF W A i 12) (hoF W A i 12) ∧ simC (hoF W A i 13) (hoF W A i 13) ∧ simC (hoF W A i 14) (hoF W A i 14) ∧ simC (hoF W A i 15) (hoF W A i 15) ∧ simC (hoF W A i 16) (hoF W A i 16) ∧ simC (hoF W A i 17) (hoF W A i 17) ∧ simC (hoF W A i 18) (hoF W A i 18) ∧ simC (hoF W A i 19) (hoF W A i 19) ∧ simC (hoF W A i 20) (hoF W A i 20) ∧ simC (hoF W A i 21) (hoF W A i 21) ∧ simC (hoF W A i 22) (hoF W A i 22) ∧ simC (hoF W A i 23) (hoF W A i 23) ∧ simC (hoF W A i 24) (hoF W A i 24) ∧ simC (hoF W A i 25) (hoF W A i 25) ∧ simC (hoF W A i 26) (hoF W A i 26) ∧ simC (hoF W A i 27) (hoF W A i 27) ∧ simC (hoF W A i 28) (hoF W A i 28) ∧ simC (hoF W A i 29) (hoF W A i 29) ∧ simC (hoF W A i 30) (hoF W A i 30) ∧ simC (hoF W A i 31) (hoF W A i 31) ∧ simC (hoF W A i 32) (hoF W A i 32) ∧ simC (hoF W A i 33) (hoF W A i 33) ∧ simC (hoF W A i 34) (hoF W A i 34) ∧ limb (A i) 3 = limb (A i) 3) ∧ (a = a ∧ n = n ∧ cap = cap ∧ ∀ (i : Nat), i < n → simC (hoF W A i 0) (hoF W A i 0) ∧ simC (hoF W A i 1) (hoF W A i 1) ∧ simC (hoF W A i 2) (hoF W A i 2) ∧ simC (hoF W A i 3) (hoF W A i 3) ∧ simC (hoF W A i 4) (hoF W A i 4) ∧ simC (hoF W A i 5) (hoF W A i 5) ∧ simC (hoF W A i 6) (hoF W A i 6) ∧ simC (hoF W A i 7) (hoF W A i 7) ∧ simC (hoF W A i 8) (hoF W A i 8) ∧ simC (hoF W A i 9) (hoF W A i 9) ∧ simC (hoF W A i 10) (hoF W A i 10) ∧ simC (hoF W A i 11) (hoF W A i 11) ∧ simC (hoF W A i 12) (hoF W A i 12) ∧ simC (hoF W A i 13) (hoF W A i 13) ∧ simC (hoF W A i 14) (hoF W A i 14) ∧ simC (hoF W A i 15) (hoF W A i 15) ∧ simC (hoF W A i 16) (hoF W A i 16) ∧ simC (hoF W A i 17) (hoF W A i 17) ∧ simC (hoF W A i 18) (hoF W A i 18) ∧ simC (hoF W A i 19) (hoF W A i 19) ∧ simC (hoF W A i 20) (hoF W A i 20) ∧ simC (hoF W A i 21) (hoF W A i 21) ∧ simC (hoF W A i 22) (hoF W A i 22) ∧ simC (hoF W A i 23) (hoF W A i 23) ∧ simC (hoF W A i 24) (hoF W A i 24) ∧ simC (hoF W A i 25) (hoF W A i 25) ∧ simC (hoF W A i 26) (hoF W A i 26) ∧ simC (hoF W A i 27) (hoF W A i 27) ∧ simC (hoF W A i 28) (hoF W A i 28) ∧ simC (hoF W A i 29) (hoF W A i 29) ∧ simC (hoF W A i 30) (hoF W A i 30) ∧ simC (hoF W A i 31) (hoF W A i 31) ∧ simC (hoF W A i 32) (hoF W A i 32) ∧ simC (hoF W A i 33) (hoF W A i 33) ∧ simC (hoF W A i 34) (hoF W A i 34) ∧ limb (A i) 3 = limb (A i) 3) ∧ (↑n : Int) = (↑n : Int) ∧ (0 : Int) = (↑y : Int) ∧ ∀ (y : Nat), y ≤ n ∧ P y → (Decidable.decide ((↑y : Int) < (↑n : Int)) = Bool.true → ((0 : Int) ≤ (↑y : Int) ∧ (↑y : Int) < (↑n : Int)) ∧ (conj [limb (A (↑y : Int).toNat) 0 == (0 : Int), limb (A (↑y : Int).toNat) 1 == (0 : Int), limb (A (↑y : Int).toNat) 2 == (0 : Int), limb (A (↑y : Int).toNat) 3 == (0 : Int)] = Bool.true → Bool.false = r) ∧ (conj [limb (A (↑y : Int).toNat) 0 == (0 : Int), limb (A (↑y : Int).toNat) 1 == (0 : Int), limb (A (↑y : Int).toNat) 2 == (0 : Int), limb (A (↑y : Int).toNat) 3 == (0 : Int)] = Bool.false → (Decidable.decide ((↑y : Int) > (0 : Int)) = Bool.true → Decidable.decide ((↑y : Int) > (0 : Int)) = Bool.true) ∧ (Decidable.decide ((↑y : Int) > (0 : Int)) = Bool.true → Decidable.decide ((↑y : Int) > (0 : Int)) = Bool.true) ∧ (Decidable.decide ((↑y : Int) > (0 : Int)) = Bool.true → Decidable.decide ((↑y : Int) > (0 : Int)) = Bool.true) ∧ (Decidable.decide ((↑y : Int) > (0 : Int)) = Bool.true → (0 : Int) ≤ Go.IntKind.i64.wrap ((↑y : Int) - (1 : Int)) ∧ Go.IntKind.i64.wrap ((↑y : Int) - (1 : Int)) < (↑n : Int)) ∧ (Decidable.decide ((↑y : Int) > (0 : Int)) = Bool.true → Decidable.decide ((↑y : Int) > (0 : Int)) = Bool.true) ∧ (Decidable.decide ((↑y : Int) > (0 : Int)) = Bool.true → Decidable.decide ((↑y : Int) > (0 : Int)) = Bool.true) ∧ (Decidable.decide ((↑y : Int) > (0 : Int)) = Bool.true → Decidable.decide ((↑y : Int) > (0 : Int)) = Bool.true ∧ Decidable.decide ((↑y : Int) > (0 : Int)) = Bool.true ∧ ((0 : Int) ≤ limb (A (Go.IntKind.i64.wrap ((↑y : Int) - (1 : Int))).toNat) 0 ∧ limb (A (Go.IntKind.i64.wrap ((↑y : Int) - (1 : Int))).toNat) 0 < (18446744073709551616 : Int)) ∧ ((0 : Int) ≤ limb (A (Go.IntKind.i64.wrap ((↑y : Int) - (1 : Int))).toNat) 1 ∧ limb (A (Go.IntKind.i64.wrap ((↑y : Int) - (1 : Int))).toNat) 1 < (18446744073709551616 : Int)) ∧ ((0 : Int) ≤ limb (A (Go.IntKind.i64.wrap ((↑y : Int) - (1 : Int))).toNat) 2 ∧ limb (A (Go.IntKind.i64.wrap ((↑y : Int) - (1 : Int))).toNat) 2 < (18446744073709551616 : Int)) ∧ ((0 : Int) ≤ limb (A (Go.IntKind.i64.wrap ((↑y : Int) - (1 : Int))).toNat) 3 ∧ limb (A (Go.IntKind.i64.wrap ((↑y : Int) - (1 : Int))).toNat) 3 < (18446744073709551616 : Int)) ∧ (∀ (j : Nat), j < 32 → intsC (hoF W A (Go.IntKind.i64.wrap ((↑y : Int) - (1 : Int))).toNat (0 + j)) = intsC (hoF W A (Go.IntKind.i64.wrap ((↑y : Int) - (1 : Int))).toNat (0 + j))) ∧ join (limb (A (Go.IntKind.i64.wrap ((↑y : Int) - (1 : Int))).toNat) 0) (limb (A (Go.IntKind.i64.wrap ((↑y : Int) - (1 : Int))).toNat) 1) (limb (A (Go.IntKind.i64.wrap ((↑y : Int) - (1 : Int))).toNat) 2) (limb (A (Go.IntKind.i64.wrap ((↑y : Int) - (1 : Int))).toNat) 3) = join (limb (A (Go.IntKind.i64.wrap ((↑y : Int) - (1 : Int))).toNat) 0) (limb (A (Go.IntKind.i64.wrap ((↑y : Int) - (1 : Int))).toNat) 1) (limb (A (Go.IntKind.i64.wrap ((↑y : Int) - (1 : Int))).toNat) 2) (limb (A (Go.IntKind.i64.wrap ((↑y : Int) - (1 : Int))).toNat) 3) ∧ (∀ (j : Nat), j < 32 → intsC (hoF W A (↑y : Int).toNat (0 + j)) = intsC (hoF W A (↑y : Int).toNat (0 + j))) ∧ (∀ (j : Nat), j < 32 → (0 : Int) ≤ intsC (hoF W A (Go.IntKind.i64.wrap ((↑y : Int) - (1 : Int))).toNat (0 + j)) ∧ intsC (hoF W A (Go.IntKind.i64.wrap ((↑y : Int) - (1 : Int))).toNat (0 + j)) < (256 : Int)) ∧ (∀ (j : Nat), j < 32 → (0 : Int) ≤ intsC (hoF W A (↑y : Int).toNat (0 + j)) ∧ intsC (hoF W A (↑y : Int).toNat (0 + j)) < (256 : Int)) ∧ (Decidable.decide (cmpK (kv fun (j : Nat) => intsC (hoF W A (Go.IntKind.i64.wrap ((↑y : Int) - (1 : Int))).toNat (0 + j))) (kv fun (j : Nat) => intsC (hoF W A (↑y : Int).toNat (0 + j))) ≥ (0 : Int)) = Bool.true → Bool.false = r) ∧ (Decidable.decide (cmpK (kv fun (j : Nat) => intsC (hoF W A (Go.IntKind.i64.wrap ((↑y : Int) - (1 : Int))).toNat (0 + j))) (kv fun (j : Nat) => intsC (hoF W A (↑y : Int).toNat (0 + j))) ≥ (0 : Int)) = Bool.false → ∃ (y' : Nat), (y' ≤ n ∧ P y') ∧ (a = a ∧ n = n ∧ cap = cap ∧ ∀ (i : Nat), i < n → simC (hoF W A i 0) (hoF W A i 0) ∧ simC (hoF W A i 1) (hoF W A i 1) ∧ simC (hoF W A i 2) (hoF W A i 2) ∧ simC (hoF W A i 3) (hoF W A i 3) ∧ simC (hoF W A i 4) (hoF W A i 4) ∧ simC (hoF W A i 5) (hoF W A i 5) ∧ simC (hoF W A i 6) (hoF W A i 6) ∧ simC (hoF W A i 7) (hoF W A i 7) ∧ simC (hoF W A i 8) (hoF W A i 8) ∧ simC (hoF W A i 9) (hoF W A i 9) ∧ simC (hoF W A i 10) (hoF W A i 10) ∧ simC (hoF W A i 11) (hoF W A i 11) ∧ simC (hoF W A i 12) (hoF W A i 12) ∧ simC (hoF W A i 13) (hoF W A i 13) ∧ simC (hoF W A i 14) (hoF W A i 14) ∧ simC (hoF W A i 15) (hoF W A i 15) ∧ simC (hoF W A i 16) (hoF W A i 16) ∧ simC (hoF W A i 17) (hoF W A i 17) ∧ simC (hoF W A i 18) (hoF W A i 18) ∧ simC (hoF W A i 19) (hoF W A i 19) ∧ simC (hoF W A i 20) (hoF W A i 20) ∧ simC (hoF W A i 21) (hoF W A i 21) ∧ simC (hoF W A i 22) (hoF W A i 22) ∧ simC (hoF W A i 23) (hoF W A i 23) ∧ simC (hoF W A i 24) (hoF W A i 24) ∧ simC (hoF W A i 25) (hoF W A i 25) ∧ simC (hoF W A i 26) (hoF W A i 26) ∧ simC (hoF W A i 27) (hoF W A i 27) ∧ simC (hoF W A i 28) (hoF W A i 28) ∧ simC (hoF W A i 29) (hoF W A i 29) ∧ simC (hoF W A i 30) (hoF W A i 30) ∧ simC (hoF W A i 31) (hoF W A i 31) ∧ simC (hoF W A i 32) (hoF W A i 32) ∧ simC (hoF W A i 33) (hoF W A i 33) ∧ simC (hoF W A i 34) (hoF W A i 34) ∧ limb (A i) 3 = limb (A i) 3) ∧ (a = a ∧ n = n ∧ cap = cap ∧ ∀ (i : Nat), i < n → simC (hoF W A i 0) (hoF W A i 0) ∧ simC (hoF W A i 1) (hoF W A i 1) ∧ simC (hoF W A i 2) (hoF W A i 2) ∧ simC (hoF W A i 3) (hoF W A i 3) ∧ simC (hoF W A i 4) (hoF W A i 4) ∧ simC (hoF W A i 5) (hoF W A i 5) ∧ simC (hoF W A i 6) (hoF W A i 6) ∧ simC (hoF W A i 7) (hoF W A i 7) ∧ simC (hoF W A i 8) (hoF W A i 8) ∧ simC (hoF W A i 9) (hoF W A i 9) ∧ simC (hoF W A i 10) (hoF W A i 10) ∧ simC (hoF W A i 11) (hoF W A i 11) ∧ simC (hoF W A i 12) (hoF W A i 12) ∧ simC (hoF W A i 13) (hoF W A i 13) ∧ simC (hoF W A i 14) (hoF W A i 14) ∧ simC (hoF W A i 15) (hoF W A i 15) ∧ simC (hoF W A i 16) (hoF W A i 16) ∧ simC (hoF W A i 17) (hoF W A i 17) ∧ simC (hoF W A i 18) (hoF W A i 18) ∧ simC (hoF W A i 19) (hoF W A i 19) ∧ simC (hoF W A i 20) (hoF W A i 20) ∧ simC (hoF W A i 21) (hoF W A i 21) ∧ simC (hoF W A i 22) (hoF W A i 22) ∧ simC (hoF W A i 23) (hoF W A i 23) ∧ simC (hoF W A i 24) (hoF W A i 24) ∧ simC (hoF W A i 25) (hoF W A i 25) ∧ simC (hoF W A i 26) (hoF W A i 26) ∧ simC (hoF W A i 27) (hoF W A i 27) ∧ simC (hoF W A i 28) (hoF W A i 28) ∧ simC (hoF W A i 29) (hoF W A i 29) ∧ simC (hoF W A i 30) (hoF W A i 30) ∧ simC (hoF W A i 31) (hoF W A i 31) ∧ simC (hoF W A i 32) (hoF W A i 32) ∧ simC (hoF W A i 33) (hoF W A i 33) ∧ simC (hoF W A i 34) (hoF W A i 34) ∧ limb (A i) 3 = limb (A i) 3) ∧ (↑n : Int) = (↑n : Int) ∧ Go.IntKind.i64.wrap ((↑y : Int) + (1 : Int)) = (↑y' : Int) ∧ (n - y').succ.le (n - y))) ∧ (Decidable.decide ((↑y : Int) > (0 : Int)) = Bool.false → ∃ (y' : Nat), (y' ≤ n ∧ P y') ∧ (a = a ∧ n = n ∧ cap = cap ∧ ∀ (i : Nat), i < n → simC (hoF W A i 0) (hoF W A i 0) ∧ simC (hoF W A i 1) (hoF W A i 1) ∧ simC (hoF W A i 2) (hoF W A i 2) ∧ simC (hoF W A i 3) (hoF W A i 3) ∧ simC (hoF W A i 4) (hoF W A i 4) ∧ simC (hoF W A i 5) (hoF W A i 5) ∧ simC (hoF W A i 6) (hoF W A i 6) ∧ simC (hoF W A i 7) (hoF W A i 7) ∧ simC (hoF W A i 8) (hoF W A i 8) ∧ simC (hoF W A i 9) (hoF W A i 9) ∧ simC (hoF W A i 10) (hoF W A i 10) ∧ simC (hoF W A i 11) (hoF W A i 11) ∧ simC (hoF W A i 12) (hoF W A i 12) ∧ simC (hoF W A i 13) (hoF W A i 13) ∧ simC (hoF W A i 14) (hoF W A i 14) ∧ simC (hoF W A i 15) (hoF W A i 15) ∧ simC (hoF W A i 16) (hoF W A i 16) ∧ simC (hoF W A i 17) (hoF W A i 17) ∧ simC (hoF W A i 18) (hoF W A i 18) ∧ simC (hoF W A i 19) (hoF W A i 19) ∧ simC (hoF W A i 20) (hoF W A i 20) ∧ simC (hoF W A i 21) (hoF W A i 21) ∧ simC (hoF W A i 22) (hoF W A i 22) ∧ simC (hoF W A i 23) (hoF W A i 23) ∧ simC (hoF W A i 24) (hoF W A i 24) ∧ simC (hoF W A i 25) (hoF W A i 25) ∧ simC (hoF W A i 26) (hoF W A i 26) ∧ simC (hoF W A i 27) (hoF W A i 27) ∧ simC (hoF W A i 28) (hoF W A i 28) ∧ simC (hoF W A i 29) (hoF W A i 29) ∧ simC (hoF W A i 30) (hoF W A i 30) ∧ simC (hoF W A i 31) (hoF W A i 31) ∧ simC (hoF W A i 32) (hoF W A i 32) ∧ simC (hoF W A i 33) (hoF W A i 33) ∧ simC (hoF W A i 34) (hoF W A i 34) ∧ limb (A i) 3 = limb (A i) 3) ∧ (a = a ∧ n = n ∧ cap = cap ∧ ∀ (i : Nat), i < n → simC (hoF W A i 0) (hoF W A i 0) ∧ simC (hoF W A i 1) (hoF W A i 1) ∧ simC (hoF W A i 2) (hoF W A i 2) ∧ simC (hoF W A i 3) (hoF W A i 3) ∧ simC (hoF W A i 4) (hoF W A i 4) ∧ simC (hoF W A i 5) (hoF W A i 5) ∧ simC (hoF W A i 6) (hoF W A i 6) ∧ simC (hoF W A i 7) (hoF W A i 7) ∧ simC (hoF W A i 8) (hoF W A i 8) ∧ simC (hoF W A i 9) (hoF W A i 9) ∧ simC (hoF W A i 10) (hoF W A i 10) ∧ simC (hoF W A i 11) (hoF W A i 11) ∧ simC (hoF W A i 12) (hoF W A i 12) ∧ simC (hoF W A i 13) (hoF W A i 13) ∧ simC (hoF W A i 14) (hoF W A i 14) ∧ simC (hoF W A i 15) (hoF W A i 15) ∧ simC (hoF W A i 16) (hoF W A i 16) ∧ simC (hoF W A i 17) (hoF W A i 17) ∧ simC (hoF W A i 18) (hoF W A i 18) ∧ simC (hoF W A i 19) (hoF W A i 19) ∧ simC (hoF W A i 20) (hoF W A i 20) ∧ simC (hoF W A i 21) (hoF W A i 21) ∧ simC (hoF W A i 22) (hoF W A i 22) ∧ simC (hoF W A i 23) (hoF W A i 23) ∧ simC (hoF W A i 24) (hoF W A i 24) ∧ simC (hoF W A i 25) (hoF W A i 25) ∧ simC (hoF W A i 26) (hoF W A i 26) ∧ simC (hoF W A i 27) (hoF W A i 27) ∧ simC (hoF W A i 28) (hoF W A i 28) ∧ simC (hoF W A i 29) (hoF W A i 29) ∧ simC (hoF W A i 30) (hoF W A i 30) ∧ simC (hoF W A i 31) (hoF W A i 31) ∧ simC (hoF W A i 32) (hoF W A i 32) ∧ simC (hoF W A i 33) (hoF W A i 33) ∧ simC (hoF W A i 34) (hoF W A i 34) ∧ limb (A i) 3 = limb (A i) 3) ∧ (↑n : Int) = (↑n : Int) ∧ Go.IntKind.i64.wrap ((↑y : Int) + (1 : Int)) = (↑y' : Int) ∧ (n - y').succ.le (n - y)))) ∧ (Decidable.decide ((↑y : Int) < (↑n : Int)) = Bool.false → Bool.true = r)) := by kernel_rfl
theorem vc_to (a : Option Addr) (n cap : Nat) (W : Nat → Nat → Int) (A : Nat → Nat) (S : Nat → Nat) (P : Nat → Prop) (s : Nat) (r : Bool) :
    OwesR Try.prog cxTo [] [(3, .inv (invTo a n cap W A S P))] 10 Try.f31 [sHs a n cap W A] false [.v (sU s), .v (sB r)] =
    (let x1 : Nat := s % M256; (∀ (y : Nat), closedB (slotsAt 27 [(0, SV.one (sHs a n cap W A)), (2, SV.one (SA.sc (SC.ptr 0 0))), (4, SV.one (SA.sc (SC.ptr 1 0))), (9, SV.one (sHs a n cap W A)), (10, SV.one (sI Go.IntKind.i64 (↑n : Int))), (11, SV.one (sI Go.IntKind.i64 (↑y : Int)))]) [SO.cells (25 : Go.TypeId) [SK.u 0] 0, SO.cells (25 : Go.TypeId) [SK.u (S y)] 0] = Bool.true) ∧ ∃ (y : Nat), (y ≤ n ∧ P y) ∧ (a = a ∧ n = n ∧ cap = cap ∧ ∀ (i : Nat), i < n → simC (hoF W A i 0) (hoF W A i 0) ∧ simC (hoF W A i 1) (hoF W A i 1) ∧ simC (hoF W A i 2) (hoF W A i 2) ∧ simC (hoF W A i 3) (hoF W A i 3) ∧ simC (hoF W A i 4) (hoF W A i 4) ∧ simC (hoF W A i 5) (hoF W A i 5) ∧ simC (hoF W A i 6) (hoF W A i 6) ∧ simC (hoF W A i 7) (hoF W A i 7) ∧ simC (hoF W A i 8) (hoF W A i 8) ∧ simC (hoF W A i 9) (hoF W A i 9) ∧ simC (hoF W A i 10) (hoF W A i 10) ∧ simC (hoF W A i 11) (hoF W A i 11) ∧ simC (hoF W A i 12) (hoF W A i 12) ∧ simC (hoF W A i 13) (hoF W A i 13) ∧ simC (hoF W A i 14) (hoF W A i 14) ∧ simC (hoF W A i 15) (hoF W A i 15) ∧ simC (hoF W A i 16) (hoF W A i 16) ∧ simC (hoF W A i 17) (hoF W A i 17) ∧ simC (hoF W A i 18) (hoF W A i 18) ∧ simC (hoF W A i 19) (hoF W A i 19) ∧ simC (hoF W A i 20) (hoF W A i 20) ∧ simC (hoF W A i 21) (hoF W A i 21) ∧ simC (hoF W A i 22) (hoF W A i 22) ∧ simC (hoF W A i 23) (hoF W A i 23) ∧ simC (hoF W A i 24) (hoF W A i 24) ∧ simC (hoF W A i 25) (hoF W A i 25) ∧ simC (hoF W A i 26) (hoF W A i 26) ∧ simC (hoF W A i 27) (hoF W A i 27) ∧ simC (hoF W A i 28) (hoF W A i 28) ∧ simC (hoF W A i 29) (hoF W A i 29) ∧ simC (hoF W A i 30) (hoF W A i 30) ∧ simC (hoF W A i 31) (hoF W A i 31) ∧ simC (hoF W A i 32) (hoF W A i 32) ∧ simC (hoF W A i 33) (hoF W A i 33) ∧ simC (hoF W A i 34) (hoF W A i 34) ∧ limb (A i) 3 = limb (A i) 3) ∧ (a = a ∧ n = n ∧ cap = cap ∧ ∀ (i : Nat), i < n → simC (hoF W A i 0) (hoF W A i 0) ∧ simC (hoF W A i 1) (hoF W A i 1) ∧ simC (hoF W A i 2) (hoF W A i 2) ∧ simC (hoF W A i 3) (hoF W A i 3) ∧ simC (hoF W A i 4) (hoF W A i 4) ∧ simC (hoF W A i 5) (hoF W A i 5) ∧ simC (hoF W A i 6) (hoF W A i 6) ∧ simC (hoF W A i 7) (hoF W A i 7) ∧ simC (hoF W A i 8) (hoF W A i 8) ∧ simC (hoF W A i 9) (hoF W A i 9) ∧ simC (hoF W A i 10) (hoF W A i 10) ∧ simC (hoF W A i 11) (hoF W A i 11) ∧ simC (hoF W A i 12) (hoF W A i 12) ∧ simC (hoF W A i 13) (hoF W A i 13) ∧ simC (hoF W A i 14) (hoF W A i 14) ∧ simC (hoF W A i 15) (hoF W A i 15) ∧ simC (hoF W A i 16) (hoF W A i 16) ∧ simC (hoF W A i 17) (hoF W A i 17) ∧ simC (hoF W A i 18) (hoF W A i 18) ∧ simC (hoF W A i 19) (hoF W A i 19) ∧ simC (hoF W A i 20) (hoF W A i 20) ∧ simC (hoF W A i 21) (hoF W A i 21) ∧ simC (hoF W A i 22) (hoF W A i 22) ∧ simC (hoF W A i 23) (hoF W A i 23) ∧ simC (hoF W A i 24) (hoF W A i 24) ∧ simC (hoF W A i 25) (hoF W A i 25) ∧ simC (hoF W A i 26) (hoF W A i 26) ∧ simC (hoF W A i 27) (hoF W A i 27) ∧ simC (hoF W A i 28) (hoF W A i 28) ∧ simC (hoF W A i 29) (hoF W A i 29) ∧ simC (hoF W A i 30) (hoF W A i 30) ∧ simC (hoF W A i 31) (hoF W A i 31) ∧ simC (hoF W A i 32) (hoF W A i 32) ∧ simC (hoF W A i 33) (hoF W A i 33) ∧ simC (hoF W A i 34) (hoF W A i 34) ∧ limb (A i) 3 = limb (A i) 3) ∧ (↑n : Int) = (↑n : Int) ∧ (0 : Int) = (↑y : Int) ∧ (0 = 0 ∧ True) ∧ 0 = 0 ∧ (0 = S y % M256 ∧ True) ∧ 0 = 0 ∧ ∀ (y : Nat), y ≤ n ∧ P y → (Decidable.decide ((↑y : Int) < (↑n : Int)) = Bool.true → ((0 : Int) ≤ (↑y : Int) ∧ (↑y : Int) < (↑n : Int)) ∧ ((0 : Int) ≤ limb (A (↑y : Int).toNat) 0 ∧ limb (A (↑y : Int).toNat) 0 < (18446744073709551616 : Int)) ∧ ((0 : Int) ≤ limb (A (↑y : Int).toNat) 1 ∧ limb (A (↑y : Int).toNat) 1 < (18446744073709551616 : Int)) ∧ ((0 : Int) ≤ limb (A (↑y : Int).toNat) 2 ∧ limb (A (↑y : Int).toNat) 2 < (18446744073709551616 : Int)) ∧ ((0 : Int) ≤ limb (A (↑y : Int).toNat) 3 ∧ limb (A (↑y : Int).toNat) 3 < (18446744073709551616 : Int)) ∧ (Decidable.decide (M256 ≤ S y % M256 + join (limb (A (↑y : Int).toNat) 0) (limb (A (↑y : Int).toNat) 1) (limb (A (↑y : Int).toNat) 2) (limb (A (↑y : Int).toNat) 3) % M256) = Bool.true → (0 = x1 ∧ True) ∧ Bool.true = r) ∧ (Decidable.decide (M256 ≤ S y % M256 + join (limb (A (↑y : Int).toNat) 0) (limb (A (↑y : Int).toNat) 1) (limb (A (↑y : Int).toNat) 2) (limb (A (↑y : Int).toNat) 3) % M256) = Bool.false → ∃ (y' : Nat), (y' ≤ n ∧ P y') ∧ (a = a ∧ n = n ∧ cap = cap ∧ ∀ (i : Nat), i < n → simC (hoF W A i 0) (hoF W A i 0) ∧ simC (hoF W A i 1) (hoF W A i 1) ∧ simC (hoF W A i 2) (hoF W A i 2) ∧ simC (hoF W A i 3) (hoF W A i 3) ∧ simC (hoF W A i 4) (hoF W A i 4) ∧ simC (hoF W A i 5) (hoF W A i 5) ∧ simC (hoF W A i 6) (hoF W A i 6) ∧ simC (hoF W A i 7) (hoF W A i 7) ∧ simC (hoF W A i 8) (hoF W A i 8) ∧ simC (hoF W A i 9) (hoF W A i 9) ∧ simC (hoF W A i 10) (hoF W A i 10) ∧ simC (hoF W A i 11) (hoF W A i 11) ∧ simC (hoF W A i 12) (hoF W A i 12) ∧ simC (hoF W A i 13) (hoF W A i 13) ∧ simC (hoF W A i 14) (hoF W A i 14) ∧ simC (hoF W A i 15) (hoF W A i 15) ∧ simC (hoF W A i 16) (hoF W A i 16) ∧ simC (hoF W A i 17) (hoF W A i 17) ∧ simC (hoF W A i 18) (hoF W A i 18) ∧ simC (hoF W A i 19) (hoF W A i 19) ∧ simC (hoF W A i 20) (hoF W A i 20) ∧ simC (hoF W A i 21) (hoF W A i 21) ∧ simC (hoF W A i 22) (hoF W A i 22) ∧ simC (hoF W A i 23) (hoF W A i 23) ∧ simC (hoF W A i 24) (hoF W A i 24) ∧ simC (hoF W A i 25) (hoF W A i 25) ∧ simC (hoF W A i 26) (hoF W A i 26) ∧ simC (hoF W A i 27) (hoF W A i 27) ∧ simC (hoF W A i 28) (hoF W A i 28) ∧ simC (hoF W A i 29) (hoF W A i 29) ∧ simC (hoF W A i 30) (hoF W A i 30) ∧ simC (hoF W A i 31) (hoF W A i 31) ∧ simC (hoF W A i 32) (hoF W A i 32) ∧ simC (hoF W A i 33) (hoF W A i 33) ∧ simC (hoF W A i 34) (hoF W A i 34) ∧ limb (A i) 3 = limb (A i) 3) ∧ (a = a ∧ n = n ∧ cap = cap ∧ ∀ (i : Nat), i < n → simC (hoF W A i 0) (hoF W A i 0) ∧ simC (hoF W A i 1) (hoF W A i 1) ∧ simC (hoF W A i 2) (hoF W A i 2) ∧ simC (hoF W A i 3) (hoF W A i 3) ∧ simC (hoF W A i 4) (hoF W A i 4) ∧ simC (hoF W A i 5) (hoF W A i 5) ∧ simC (hoF W A i 6) (hoF W A i 6) ∧ simC (hoF W A i 7) (hoF W A i 7) ∧ simC (hoF W A i 8) (hoF W A i 8) ∧ simC (hoF W A i 9) (hoF W A i 9) ∧ simC (hoF W A i 10) (hoF W A i 10) ∧ simC (hoF W A i 11) (hoF W A i 11) ∧ simC (hoF W A i 12) (hoF W A i 12) ∧ simC (hoF W A i 13) (hoF W A i 13) ∧ simC (hoF W A i 14) (hoF W A i 14) ∧ simC (hoF W A i 15) (hoF W A i 15) ∧ simC (hoF W A i 16) (hoF W A i 16) ∧ simC (hoF W A i 17) (hoF W A i 17) ∧ simC (hoF W A i 18) (hoF W A i 18) ∧ simC (hoF W A i 19) (hoF W A i 19) ∧ simC (hoF W A i 20) (hoF W A i 20) ∧ simC (hoF W A i 21) (hoF W A i 21) ∧ simC (hoF W A i 22) (hoF W A i 22) ∧ simC (hoF W A i 23) (hoF W A i 23) ∧ simC (hoF W A i 24) (hoF W A i 24) ∧ simC (hoF W A i 25) (hoF W A i 25) ∧ simC (hoF W A i 26) (hoF W A i 26) ∧ simC (hoF W A i 27) (hoF W A i 27) ∧ simC (hoF W A i 28) (hoF W A i 28) ∧ simC (hoF W A i 29) (hoF W A i 29) ∧ simC (hoF W A i 30) (hoF W A i 30) ∧ simC (hoF W A i 31) (hoF W A i 31) ∧ simC (hoF W A i 32) (hoF W A i 32) ∧ simC (hoF W A i 33) (hoF W A i 33) ∧ simC (hoF W A i 34) (hoF W A i 34) ∧ limb (A i) 3 = limb (A i) 3) ∧ (↑n : Int) = (↑n : Int) ∧ Go.IntKind.i64.wrap ((↑y : Int) + (1 : Int)) = (↑y' : Int) ∧ 0 = 0 ∧ 0 = 0 ∧ (S y + join (limb (A (↑y : Int).toNat) 0) (limb (A (↑y : Int).toNat) 1) (limb (A (↑y : Int).toNat) 2) (limb (A (↑y : Int).toNat) 3)) % M256 = S y' % M256 ∧ 0 = 0 ∧ (n - y').succ.le (n - y))) ∧ (Decidable.decide ((↑y : Int) < (↑n : Int)) = Bool.false → (S y % M256 = x1 ∧ True) ∧ Bool.false = r)) := by kernel_rfl
end Go.Proofs.Ytnjdoebaneogjaa
end

section
namespace Go.Proofs.Ytnjdoebaneogjaa
open Go.Sx
set_option maxRecDepth 100000
def ordB (n : Nat) (K A : Nat → Nat) : Bool := (List.range n).all fun i => decide (A i ≠ 0) && (decide (i = 0) || decide (K (i - 1) < K i))
def sumN (A : Nat → Nat) : Nat → Nat
  | 0 => 0
  | n + 1 => sumN A n + A n
def cnE (n : Nat) (K A : Nat → Nat) (s : Nat) : Int := if 40 < n then 1 else if ordB n K A = true ∧ sumN A n = s then 0 else 12
structure hoP (a : Option Addr) (n : Nat) (W : Nat → Nat → Int) (A : Nat → Nat) : Prop where
  hn : n ≤ maxLen
  ha : a = none → n = 0
  hw : ∀ i, i < n → by32 (W i)
  hA : ∀ i, i < n → A i < M256
def kH (f : Nat → Nat → SC) (i : Nat) : Nat := kv fun j => kOf f i j
def aH (f : Nat → Nat → SC) (i : Nat) : Nat := natOf (f i) 32
theorem sim_ho (W : Nat → Nat → Int) (A : Nat → Nat) (i c : Nat) : simC (hoF W A i c) (hoF W A i c) := by
  unfold hoF
  split
  · exact rfl
  · split <;> exact rfl
theorem ho_lo {W : Nat → Nat → Int} {A : Nat → Nat} {i c : Nat} (h : c < 32) : hoF W A i c = .val (.int .u8 (W i c)) := by
  unfold hoF
  rw [show Nat.blt c 32 = true from Nat.ble_eq_true_of_le h]
theorem ho_i {W : Nat → Nat → Int} {A : Nat → Nat} {i j : Nat} (h : j < 32) : intsC (hoF W A i (0 + j)) = W i j := by
  rw [Nat.zero_add, ho_lo h]; rfl
theorem kv_ho (W : Nat → Nat → Int) (A : Nat → Nat) (i : Nat) : (kv fun j => intsC (hoF W A i (0 + j))) = kv (W i) := kv_congr fun _ hj => ho_i hj
theorem by_ho {W : Nat → Nat → Int} {A : Nat → Nat} {i : Nat} (h : by32 (W i)) : ∀ j, j < 32 → 0 ≤ intsC (hoF W A i (0 + j)) ∧ intsC (hoF W A i (0 + j)) < 256 := fun j hj => by rw [ho_i hj]; exact h j hj
theorem kH_ho (W : Nat → Nat → Int) (A : Nat → Nat) (i : Nat) : kH (hoF W A) i = kv (W i) := kv_congr fun j hj => by
  unfold kOf; rw [ho_lo hj]; rfl
theorem aH_ho (W : Nat → Nat → Int) (A : Nat → Nat) (i : Nat) : aH (hoF W A) i = A i % M256 := join_limbs (A i)
theorem lb_in (n j : Nat) : (0 ≤ limb n j ∧ limb n j < 18446744073709551616) = True := eq_true ⟨limb_nonneg _ _, limb_lt _ _⟩
theorem cj4 (x : Nat) : conj [limb x 0 == 0, limb x 1 == 0, limb x 2 == 0, limb x 3 == 0] = decide (x % M256 = 0) := by
  have h := limbs_eq (a := x) (b := 0)
  have z : ∀ i, limb 0 i = 0 := fun i => by unfold limb; simp
  rw [z, z, z, z, Nat.zero_mod] at h
  rw [Bool.eq_iff_iff, decide_eq_true_eq, h]
  simp only [conj, Bool.and_eq_true, beq_iff_eq]
theorem ordB_succ (n : Nat) (K A : Nat → Nat) : ordB (n + 1) K A = (ordB n K A && (decide (A n ≠ 0) && (decide (n = 0) || decide (K (n - 1) < K n)))) := by
  unfold ordB
  rw [List.range_succ, List.all_append, List.all_cons, List.all_nil, Bool.and_true]
theorem rng_all {n : Nat} {p : Nat → Bool} : (List.range n).all p = true ↔ ∀ j, j < n → p j = true := by
  rw [List.all_eq_true]
  exact ⟨fun h j hj => h j (List.mem_range.2 hj), fun h j hj => h j (List.mem_range.1 hj)⟩
theorem ordB_iff {n : Nat} {K A : Nat → Nat} : ordB n K A = true ↔ ∀ i, i < n → A i ≠ 0 ∧ (i = 0 ∨ K (i - 1) < K i) := by
  unfold ordB
  rw [rng_all]
  simp only [Bool.and_eq_true, Bool.or_eq_true, decide_eq_true_eq]
theorem ordB_mono {m n : Nat} {K A : Nat → Nat} (h : m ≤ n) (hn : ordB n K A = true) : ordB m K A = true :=
  ordB_iff.2 fun i hi => ordB_iff.1 hn i (by omega)
theorem ordB_no {m n : Nat} {K A : Nat → Nat} (h : m < n) (hm : ¬ (A m ≠ 0 ∧ (m = 0 ∨ K (m - 1) < K m))) : ordB n K A = false := by
  cases q : ordB n K A
  · rfl
  · exact absurd (ordB_iff.1 q m h) hm
theorem cmpK_ge {a b : Nat} : cmpK a b ≥ 0 ↔ ¬ a < b := by
  unfold cmpK
  by_cases h : a < b
  · rw [if_pos h]; omega
  · rw [if_neg h]
    by_cases k : b < a
    · rw [if_pos k]; omega
    · rw [if_neg k]; omega
theorem w_pred {y n : Nat} (h0 : 0 < y) (h : y < n) (hn : n ≤ maxLen) : IntKind.i64.wrap ((y : Int) - 1) = ((y - 1 : Nat) : Int) := by
  have hML : maxLen = 9223372036854775807 := rfl
  rw [IntKind.wrap_i64]; omega
theorem w_succ {y n : Nat} (h : y < n) (hn : n ≤ maxLen) : IntKind.i64.wrap ((y : Int) + 1) = ((y + 1 : Nat) : Int) := by
  have hML : maxLen = 9223372036854775807 := rfl
  rw [IntKind.wrap_i64]; omega
theorem less_step {n y : Nat} (h : y < n) : (n - (y + 1)).succ.le (n - y) := by show n - (y + 1) + 1 ≤ n - y; omega
theorem ok_or (a : Option Addr) (n cap : Nat) (W : Nat → Nat → Int) (A : Nat → Nat) (h : hoP a n W A) :
    OwesR Try.prog cx14 slOr [(2, .inv (invOr a n cap W A fun i => ordB i (fun i => kv (W i)) A = true))] 10 Try.f30 [sHs a n cap W A] false [.v (sB (ordB n (fun i => kv (W i)) A))] := by
  rw [vc_or]
  have z := sim_ho W A
  simp only [eq_self, implies_true, and_self, true_and, and_true, imp_self, z, lb_in, kv_ho, Int.toNat_natCast, cj4]
  refine ⟨fun _ => rfl, 0, ⟨Nat.zero_le _, rfl⟩, rfl, fun y hy => ⟨fun hl => ?_, fun hl => ?_⟩⟩
  · have hl := of_decide_eq_true hl
    have hl : y < n := by omega
    refine ⟨⟨by omega, by omega⟩, fun h0 => ?_, fun h0 => ?_⟩
    · have h0 := of_decide_eq_true h0
      rw [Nat.mod_eq_of_lt (h.hA y hl)] at h0
      exact (ordB_no hl fun q => q.1 h0).symm
    have h0 := of_decide_eq_false h0
    rw [Nat.mod_eq_of_lt (h.hA y hl)] at h0
    refine ⟨fun h1 => ?_, fun h1 => ?_, fun h1 => ?_⟩
    · have h1 : 0 < y := by have := of_decide_eq_true h1; omega
      rw [w_pred h1 hl h.hn]; omega
    · have hd := h1
      have h1 : 0 < y := by have := of_decide_eq_true h1; omega
      rw [w_pred h1 hl h.hn, Int.toNat_natCast]
      refine ⟨hd, hd, by_ho (h.hw _ (by omega)), by_ho (h.hw _ hl), fun h2 => ?_, fun h2 => ⟨y + 1, ⟨by omega, ?_⟩, w_succ hl h.hn, less_step hl⟩⟩
      · have h2 := cmpK_ge.1 (of_decide_eq_true h2)
        exact (ordB_no hl fun q => by rcases q.2 with q | q; omega; exact h2 q).symm
      · have h2 := of_decide_eq_false h2
        rw [cmpK_ge, Decidable.not_not] at h2
        rw [ordB_succ, hy.2, decide_eq_true h0, decide_eq_true h2, Bool.or_true]; rfl
    · have h1 : y = 0 := by have := of_decide_eq_false h1; omega
      refine ⟨y + 1, ⟨by omega, ?_⟩, w_succ hl h.hn, less_step hl⟩
      rw [ordB_succ, hy.2, decide_eq_true h0, decide_eq_true h1]; rfl
  · have hl := of_decide_eq_false hl
    have e1 : y = n := by omega
    rw [← e1, hy.2]
theorem sumN_mono (A : Nat → Nat) {m n : Nat} (h : m ≤ n) : sumN A m ≤ sumN A n := by
  induction n with
  | zero => rw [Nat.le_zero.1 h]; exact Nat.le_refl _
  | succ n ih =>
    rcases Nat.lt_or_ge m (n + 1) with k | k
    · have := ih (by omega)
      rw [sumN]; omega
    · rw [show m = n + 1 by omega]; exact Nat.le_refl _
theorem ok_to (a : Option Addr) (n cap : Nat) (W : Nat → Nat → Int) (A : Nat → Nat) (h : hoP a n W A) :
    OwesR Try.prog cxTo [] [(3, .inv (invTo a n cap W A (sumN A) fun i => sumN A i < M256))] 10 Try.f31 [sHs a n cap W A] false [.v (sU (if sumN A n < M256 then sumN A n else 0)), .v (sB (!decide (sumN A n < M256)))] := by
  rw [vc_to]
  intro x1
  have z := sim_ho W A
  have e1 : x1 = (if sumN A n < M256 then sumN A n else 0) % M256 := rfl
  have hM : 0 < M256 := by decide
  clear_value x1
  simp only [eq_self, implies_true, and_self, true_and, and_true, imp_self, z, lb_in, Int.toNat_natCast, join_limbs]
  refine ⟨fun _ => rfl, 0, ⟨Nat.zero_le _, hM⟩, rfl, rfl, fun y hy => ⟨fun hl => ?_, fun hl => ?_⟩⟩
  · have hl := of_decide_eq_true hl
    have hl : y < n := by omega
    have hs : sumN A (y + 1) = sumN A y + A y := rfl
    have hm := sumN_mono A (show y + 1 ≤ n by omega)
    rw [Nat.mod_mod, Nat.mod_eq_of_lt (h.hA y hl), Nat.mod_eq_of_lt hy.2]
    refine ⟨⟨by omega, by omega⟩, fun h0 => ?_, fun h0 => ⟨y + 1, ⟨by omega, ?_⟩, w_succ hl h.hn, rfl, less_step hl⟩⟩
    · have h0 := of_decide_eq_true h0
      rw [e1, if_neg (by omega), decide_eq_false (by omega)]
      exact ⟨rfl, rfl⟩
    · have h0 := of_decide_eq_false h0
      omega
  · have hl := of_decide_eq_false hl
    have e2 : y = n := by omega
    subst e2
    rw [e1, if_pos hy.2, decide_eq_true hy.2]
    exact ⟨rfl, rfl⟩
end Go.Proofs.Ytnjdoebaneogjaa
end

section
namespace Go.Sx
end Go.Sx
end

section
namespace Go.Sx
def specQ0 (share : Bool) (aq : List AQ) (c : List (List FD) → List Prop) (g : List (List FD) → List RS) : SSpec :=
  ⟨share, fun args => match asQs aq args with
    | some (ps, ls) => some (ps ++ c ls, g ls)
    | none => none⟩
theorem FnOKs_R0 {P : Program} {cx : Cx} (hcx : CxOK P cx) {sl : List (Nat × SSpec)} (hsl : ∀ p ∈ sl, FnOKs P cx.gl p.1 p.2) {f : Nat} {fn : Func} (hf : P.funcs[f]? = some fn) (hb : fn.body.isSome = true) (hn : (fn.name == "runtime.NumGoroutine") = false)
    {share : Bool} {aq : List AQ} {c : List (List FD) → List Prop} {g : List (List FD) → List RS}
    (h : ∀ ls, Ok (c ls) → ∃ iv N args', (∀ ρ, (mkQs aq ls).map (SA.conc ρ) = args'.map (SA.conc ρ)) ∧ (∀ E, (∀ x ∈ mkQs aq ls, x.bnd E) → ∀ x ∈ args', x.bnd E) ∧ (∀ r ∈ g ls, r.closed) ∧ OwesR P cx sl iv N fn args' share (g ls)) : FnOKs P cx.gl f (specQ0 share aq c g) := by
  refine FnOKs_owes hcx hsl hf hb hn fun args ps rs hs hp => ?_
  simp only [specQ0] at hs
  split at hs
  case h_2 => cases hs
  rename_i q ls ha
  simp only [Option.some.injEq, Prod.mk.injEq] at hs
  obtain ⟨rfl, rfl⟩ := hs
  obtain ⟨o1, o3⟩ := Ok.append.1 hp
  obtain ⟨a1, a2⟩ := asQs_sound ha
  obtain ⟨iv, N, args', h1, h2, hc, hw⟩ := h ls o3
  refine ⟨iv, N, args', fun ρ => by rw [a1 o1 ρ, h1], fun fz hx x hxm => ?_, hc, hw⟩
  exact h2 ⟨fun _ => False, fz⟩ (fun y hy => a2 ⟨fun _ => True, fz⟩ hx y hy) x hxm
end Go.Sx
end

section
namespace Go.Sx
open Go.RowKit
theorem dg_range (X i : Nat) : 0 ≤ dg X i ∧ dg X i < 4294967296 := (dgs_dg (i + 1) X).at' i (by omega)
theorem div_succ (X i : Nat) : ((X / 4294967296 ^ i : Nat) : Int) = 4294967296 * ((X / 4294967296 ^ (i + 1) : Nat) : Int) + dg X i := by
  unfold dg
  rw [Nat.pow_succ, ← Nat.div_div_eq_div_mul]
  omega
theorem cmp_eq {X Y k : Nat} (h : X / 4294967296 ^ (k + 1) = Y / 4294967296 ^ (k + 1)) (hd : dg X k = dg Y k) : X / 4294967296 ^ k = Y / 4294967296 ^ k := by
  have h1 := div_succ X k
  have h2 := div_succ Y k
  rw [h, hd] at h1
  omega
def lenDg (X : Nat) : Nat := if X = 0 then 0 else Nat.log2 X / 32 + 1
theorem pw_two (n : Nat) : (4294967296 : Nat) ^ n = 2 ^ (32 * n) := by rw [Nat.pow_mul]
theorem lenDg_lt (X : Nat) : X < 4294967296 ^ lenDg X := by
  unfold lenDg
  split
  · subst_vars; decide
  · rename_i h
    rw [pw_two, ← Nat.log2_lt h]
    omega
end Go.Sx
end

section
namespace Go.Proofs.Ytnjdoebaneogjaa
open Go Go.Sx Go.RowKit
set_option maxRecDepth 100000
end Go.Proofs.Ytnjdoebaneogjaa
end

section
namespace Go.Proofs.Ytnjdoebaneogjaa
open Go Go.Sx Go.RowKit
end Go.Proofs.Ytnjdoebaneogjaa
end

section
namespace Go.Proofs.Ytnjdoebaneogjaa
open Go Go.Sx Go.RowKit
end Go.Proofs.Ytnjdoebaneogjaa
end

section
namespace Go.Proofs.Ytnjdoebaneogjaa
open Go Go.Sx Go.RowKit
set_option maxRecDepth 100000
end Go.Proofs.Ytnjdoebaneogjaa
end

section
namespace Go.Proofs.Ytnjdoebaneogjaa
open Go Go.Sx Go.RowKit
end Go.Proofs.Ytnjdoebaneogjaa
end

section
namespace Go.Sx
open Go.RowKit
structure D2P (X Y n i : Nat) (q : Nat → Int) (rn : Nat) (rf : Nat → Int) : Prop where
  ds : dgs rn rf
  left : vn rn rf = X / 4294967296 ^ i % Y
  len : rn = if i = n then 0 else 1 + lenDg (X / 4294967296 ^ (i + 1) % Y)
  qs : ∀ j, i ≤ j → j < n → q j = dg (X / Y) j
structure DcP (X Y n i : Nat) (q : Nat → Int) (rn : Nat) (rf : Nat → Int) : Prop where
  pos : 0 < i
  ds : dgs rn rf
  left : vn rn rf = X / 4294967296 ^ i % Y * 4294967296 + (dg X (i - 1)).toNat
  len : rn = 1 + lenDg (X / 4294967296 ^ i % Y)
  qs : ∀ j, i ≤ j → j < n → q j = dg (X / Y) j
structure D3P (X Y n i : Nat) (q : Nat → Int) (rn : Nat) (rf : Nat → Int) (lo hi : Nat) : Prop where
  at' : DcP X Y n i q rn rf
  lt : lo < hi
  top : hi ≤ 4294967296
  below : Y * lo ≤ vn rn rf
  above : vn rn rf < Y * hi
theorem vn_cons {v : Int} {g rf : Nat → Int} {l : Nat} (hv : 0 ≤ v ∧ v < 4294967296) (hg : dgs l g) (h : ∀ i, i < 1 + l → rf i = bif decide (i < 1) then v else g (i - 1)) : dgs (1 + l) rf ∧ vn (1 + l) rf = vn l g * 4294967296 + v.toNat := by
  have hd : dgs (1 + l) rf := ⟨fun i hi => by
    rw [h i hi]
    by_cases e : i < 1
    · simp only [e, decide_true, cond_true]; exact hv
    · simp only [e, decide_false, cond_false]; exact hg.at' (i - 1) (by omega)⟩
  refine ⟨hd, ?_⟩
  have key : ∀ k, k ≤ l → vz rf (1 + k) = vz g k * 4294967296 + v := by
    intro k
    induction k with
    | zero =>
      intro _
      simp only [vz, Nat.add_zero]
      rw [h 0 (by omega)]
      simp
    | succ k ih =>
      intro hk
      have e : 1 + (k + 1) = (1 + k) + 1 := by omega
      rw [e]
      simp only [vz]
      rw [ih (by omega), h (1 + k) (by omega)]
      have e1 : ¬ (1 + k < 1) := by omega
      simp only [e1, decide_false, cond_false]
      rw [show 1 + k - 1 = k by omega, Int.pow_add, Int.pow_succ, Int.pow_zero, Int.one_mul]
      generalize (4294967296 : Int) ^ k = w
      grind
  have k1 := key l (Nat.le_refl _)
  have c1 := vn_cast hd
  have c2 := vn_cast hg
  omega
theorem D2P.next {X Y n k rn : Nat} {q rf rf' : Nat → Int} (h : D2P X Y n (k + 1) q rn rf) (hrf : ∀ i, i < 1 + lenDg (vn rn rf) → rf' i = bif decide (i < 1) then dg X k else dg (vn rn rf) (i - 1)) : DcP X Y n (k + 1) q (1 + lenDg (vn rn rf)) rf' := by
  obtain ⟨d1, d2⟩ := vn_cons (dg_range X k) (dgs_dg (lenDg (vn rn rf)) (vn rn rf)) hrf
  refine ⟨by omega, d1, ?_, by rw [h.left], h.qs⟩
  rw [d2, vn_dg' (lenDg_lt _), h.left]
  rfl
theorem DcP.seek {X Y n i rn : Nat} {q rf : Nat → Int} (h : DcP X Y n i q rn rf) (hY : 0 < Y) : D3P X Y n i q rn rf 0 4294967296 := by
  have hr := dg_range X (i - 1)
  have hm := Nat.mod_lt (X / 4294967296 ^ i) hY
  refine ⟨h, by decide, Nat.le_refl _, Nat.zero_le _, ?_⟩
  rw [h.left]
  have : (X / 4294967296 ^ i % Y + 1) * 4294967296 ≤ Y * 4294967296 := Nat.mul_le_mul_right _ hm
  omega
end Go.Sx
end

section
namespace Go.Proofs.Ytnjdoebaneogjaa
open Go Go.Sx Go.RowKit
set_option maxRecDepth 100000
end Go.Proofs.Ytnjdoebaneogjaa
end

section
namespace Go.Proofs.Ytnjdoebaneogjaa
open Go Go.Sx Go.RowKit
end Go.Proofs.Ytnjdoebaneogjaa
end

section
namespace Go.Proofs.Ytnjdoebaneogjaa
open Go Go.Sx Go.RowKit
end Go.Proofs.Ytnjdoebaneogjaa
end

section
namespace Go.Proofs.Ytnjdoebaneogjaa
open Go Go.Sx Go.RowKit
set_option maxRecDepth 100000
end Go.Proofs.Ytnjdoebaneogjaa
end

section
namespace Go.Proofs.Ytnjdoebaneogjaa
open Go Go.Sx Go.RowKit
end Go.Proofs.Ytnjdoebaneogjaa
end

section
namespace Go.Proofs.Ytnjdoebaneogjaa
open Go Go.Sx Go.RowKit
end Go.Proofs.Ytnjdoebaneogjaa
end

section
namespace Go.Proofs.Ytnjdoebaneogjaa
open Go Go.Sx Go.RowKit
set_option maxRecDepth 100000
structure hkP (a : Option Addr) (n : Nat) (f : Nat → Nat → SC) : Prop where
  k1 : n ≤ maxLen
  k2 : a = none → n = 0
  k3 : ∀ i, i < n → ∀ j, j < 32 → (f i j).conc Rho.nil = .int .u8 (kOf f i j)
  k4 : ∀ i, i < n → ∀ j, j < 4 → (f i (32 + j)).conc Rho.nil = .int .u64 (limb (aH f i) j)
  k5 : ∀ i, i < n → by32 (kOf f i)
  k6 : ∀ i, i < n → aH f i < M256
def hlC : List (List FD) → List Prop
  | [[.x a n _ f]] => [hkP a n f]
  | _ => [False]
def orG : List (List FD) → List RS
  | [[.x _ n _ f]] => [.v (sB (ordB n (kH f) (aH f)))]
  | _ => []
def cOr : SSpec := specQ0 false [.one (.x 36)] hlC orG
def togN (n : Nat) (A : Nat → Nat) : Nat := if sumN A n < M256 then sumN A n else 0
def toG : List (List FD) → List RS
  | [[.x _ n _ f]] => [.v (sU (togN n (aH f))), .v (sB (!decide (sumN (aH f) n < M256)))]
  | _ => []
def cTo : SSpec := specQ0 false [.one (.x 36)] hlC toG
def slCk : List (Nat × SSpec) := [(30, cOr), (31, cTo)]
theorem vc_ck (s : Nat) (a : Option Addr) (n cap : Nat) (W : Nat → Nat → Int) (A : Nat → Nat) (r : Int) :
    OwesR Try.prog .none slCk [] 10 Try.f20 [sCn s a n cap W A] false [.v (sI .i64 r)] =
    (let x1 : Bool := !Decidable.decide (sumN (aH (hoF W A)) n < M256); (Decidable.decide ((↑n : Int) > (40 : Int)) = Bool.true → (1 : Int) = r) ∧ (Decidable.decide ((↑n : Int) > (40 : Int)) = Bool.false → hkP a n (hoF W A) ∧ ((!ordB n (kH (hoF W A)) (aH (hoF W A))) = Bool.true → (12 : Int) = r) ∧ ((!ordB n (kH (hoF W A)) (aH (hoF W A))) = Bool.false → hkP a n (hoF W A) ∧ ((!x1) = Bool.true → (!x1) = Bool.true) ∧ ((!x1) = Bool.true → (!x1) = Bool.true) ∧ ((!x1) = Bool.true → (!x1) = Bool.true) ∧ (x1 = Bool.false → (!x1) = Bool.true) ∧ ((x1 || !conj [togN n (aH (hoF W A)) % M256 == s % M256]) = Bool.true → (12 : Int) = r) ∧ ((x1 || !conj [togN n (aH (hoF W A)) % M256 == s % M256]) = Bool.false → (0 : Int) = r)))) := by kernel_rfl
end Go.Proofs.Ytnjdoebaneogjaa
end

section
namespace Go.Proofs.Ytnjdoebaneogjaa
open Go Go.Sx Go.RowKit
set_option maxRecDepth 100000
theorem hk_ho {a : Option Addr} {n : Nat} {W : Nat → Nat → Int} {A : Nat → Nat} (h : hoP a n W A) : hkP a n (hoF W A) where
  k1 := h.hn
  k2 := h.ha
  k3 i _ j hj := by unfold kOf; rw [ho_lo hj]; rfl
  k4 i _ j hj := by
    rw [aH_ho]
    have e : ∀ j, j < 4 → limb (A i % M256) j = limb (A i) j := fun j hj => by
      have := limbs_eq.1 (Nat.mod_mod (A i) M256)
      match j, hj with
      | 0, _ => exact this.1
      | 1, _ => exact this.2.1
      | 2, _ => exact this.2.2.1
      | 3, _ => exact this.2.2.2
    rw [e j hj]
    match j, hj with
    | 0, _ => rfl
    | 1, _ => rfl
    | 2, _ => rfl
    | 3, _ => rfl
  k5 i hi j hj := by unfold kOf; rw [ho_lo hj]; exact h.hw i hi j hj
  k6 i _ := by rw [aH_ho]; exact Nat.mod_lt _ (by decide)
theorem hk_hoP {a : Option Addr} {n : Nat} {f : Nat → Nat → SC} (h : hkP a n f) : hoP a n (kOf f) (aH f) := ⟨h.k1, h.k2, h.k5, h.k6⟩
theorem hk_bnd {E : Env} {a : Option Addr} {n cap : Nat} {f : Nat → Nat → SC} (h : hkP a n f) (hb : (SC.xs a n cap 36 f).bnd E) : (SC.xs a n cap 36 (hoF (kOf f) (aH f))).bnd E := by
  obtain ⟨h1, h2, h3⟩ := hb
  refine ⟨h1, h2, fun b hb => ⟨(h3 b hb).1, fun i hi c hc => ?_⟩⟩
  obtain ⟨_, _, q⟩ := (h3 b hb).2 i hi c hc
  have e : (hoF (kOf f) (aH f) i c).conc Rho.nil = (f i c).conc Rho.nil := by
    rcases Nat.lt_or_ge c 32 with k | k
    · rw [ho_lo k, h.k3 i hi c k]; rfl
    · obtain ⟨d, rfl⟩ := Nat.exists_eq_add_of_le k
      have hd : d < 4 := by omega
      rw [h.k4 i hi d hd]
      match d, hd with
      | 0, _ => rfl
      | 1, _ => rfl
      | 2, _ => rfl
      | 3, _ => rfl
  refine ⟨?_, ?_, by rw [e]; exact q⟩
  · unfold hoF; split
    · trivial
    · split <;> trivial
  · unfold hoF; split
    · rfl
    · split <;> rfl
theorem kH_f (W : Nat → Nat → Int) (A : Nat → Nat) : kH (hoF W A) = fun i => kv (W i) := funext (kH_ho W A)
theorem ordB_congr {n : Nat} {K A K' A' : Nat → Nat} (hk : ∀ i, i < n → K i = K' i) (ha : ∀ i, i < n → A i = A' i) : ordB n K A = ordB n K' A' := by
  rw [Bool.eq_iff_iff, ordB_iff, ordB_iff]
  constructor
  · intro h i hi
    have := h i hi
    rw [← hk i hi, ← ha i hi, ← hk (i - 1) (by omega)]; exact this
  · intro h i hi
    have := h i hi
    rw [hk i hi, ha i hi, hk (i - 1) (by omega)]; exact this
theorem sumN_congr {A A' : Nat → Nat} : ∀ {n : Nat}, (∀ i, i < n → A i = A' i) → sumN A n = sumN A' n
  | 0, _ => rfl
  | n + 1, h => by rw [sumN, sumN, sumN_congr (n := n) fun i hi => h i (by omega), h n (by omega)]
theorem cnE_congr {n s : Nat} {K A K' A' : Nat → Nat} (hk : ∀ i, i < n → K i = K' i) (ha : ∀ i, i < n → A i = A' i) : cnE n K A s = cnE n K' A' s := by
  unfold cnE; rw [ordB_congr hk ha, sumN_congr ha]
theorem aH_lt {a : Option Addr} {n : Nat} {W : Nat → Nat → Int} {A : Nat → Nat} (h : hoP a n W A) : ∀ i, i < n → aH (hoF W A) i = A i := fun i hi => by
  rw [aH_ho, Nat.mod_eq_of_lt (h.hA i hi)]
theorem ordB_ho {a : Option Addr} {n : Nat} {W : Nat → Nat → Int} {A : Nat → Nat} (h : hoP a n W A) : ordB n (kH (hoF W A)) (aH (hoF W A)) = ordB n (fun i => kv (W i)) A :=
  ordB_congr (fun i _ => kH_ho W A i) (aH_lt h)
theorem sumN_ho {a : Option Addr} {n : Nat} {W : Nat → Nat → Int} {A : Nat → Nat} (h : hoP a n W A) : sumN (aH (hoF W A)) n = sumN A n := sumN_congr (aH_lt h)
theorem okx_14 : CxOK Try.prog cx14 := okx_mark okx_nil
theorem oks_Or : ∀ p ∈ slOr, FnOKs Try.prog cx14.gl p.1 p.2 := oks_cons card_ag oks_nil
theorem card_or {gl : Globs} : FnOKs Try.prog gl 30 cOr := by
  refine FnOKs.up0 (FnOKs_R0 (cx := cx14) okx_14 (sl := slOr) oks_Or Try.func30 (by kernel_rfl) (by kernel_rfl) fun ls hc => ?_) gl
  unfold hlC at hc
  split at hc
  · rename_i a n cap f
    obtain ⟨p, _⟩ := hc
    refine ⟨_, _, [sHs a n cap (kOf f) (aH f)], fun _ => rfl, fun E hE => ?_, fun r hr => ?_, ok_or a n cap (kOf f) (aH f) (hk_hoP p)⟩
    · intro z hz
      rw [List.mem_singleton.1 hz]
      exact hk_bnd p (hE _ (List.mem_cons_self ..))
    · rw [List.mem_singleton.1 hr]; exact trivial
  · exact hc.1.elim
theorem cxok_To : CxOK Try.prog cxTo := CxOK_cons card_Add CxOK_nil
theorem card_to {gl : Globs} : FnOKs Try.prog gl 31 cTo := by
  refine FnOKs.up0 (FnOKs_R0 (cx := cxTo) cxok_To (sl := []) oks_nil Try.func31 (by kernel_rfl) (by kernel_rfl) fun ls hc => ?_) gl
  unfold hlC at hc
  split at hc
  · rename_i a n cap f
    obtain ⟨p, _⟩ := hc
    refine ⟨_, _, [sHs a n cap (kOf f) (aH f)], fun _ => rfl, fun E hE => ?_, fun r hr => ?_, ok_to a n cap (kOf f) (aH f) (hk_hoP p)⟩
    · intro z hz
      rw [List.mem_singleton.1 hz]
      exact hk_bnd p (hE _ (List.mem_cons_self ..))
    · unfold toG at hr
      simp only [List.mem_cons, List.not_mem_nil, or_false] at hr
      rcases hr with rfl | rfl
      · exact bnd_Un _
      · exact trivial
  · exact hc.1.elim
theorem ok_ck (s : Nat) (a : Option Addr) (n cap : Nat) (W : Nat → Nat → Int) (A : Nat → Nat) (h : hoP a n W A) :
    OwesR Try.prog .none slCk [] 10 Try.f20 [sCn s a n cap W A] false [.v (sI .i64 (cnE n (fun i => kv (W i)) A (s % M256)))] := by
  rw [vc_ck]
  intro x1
  have hs : s % M256 < M256 := Nat.mod_lt _ (by decide)
  have e1 : x1 = !decide (sumN A n < M256) := by show (!decide (sumN (aH (hoF W A)) n < M256)) = _; rw [sumN_ho h]
  have e2 : togN n (aH (hoF W A)) = togN n A := by unfold togN; rw [sumN_ho h]
  clear_value x1
  rw [ordB_ho h, e2]
  have k := hk_ho h
  unfold cnE
  refine ⟨fun h0 => ?_, fun h0 => ⟨k, fun h1 => ?_, fun h1 => ⟨k, id, id, id, fun h2 => by rw [h2]; rfl, fun h2 => ?_, fun h2 => ?_⟩⟩⟩
  · have h0 := of_decide_eq_true h0
    rw [if_pos (by omega)]
  all_goals
    have h0 := of_decide_eq_false h0
    rw [if_neg (by omega)]
  · rw [Bool.not_eq_true'] at h1
    rw [h1, if_neg (fun q => by cases q.1)]
  · rw [Bool.not_eq_false'] at h1
    rw [h1, if_neg]
    rintro ⟨_, q⟩
    have hl : sumN A n < M256 := by omega
    rw [e1, decide_eq_true hl] at h2
    unfold togN at h2
    rw [if_pos hl, q, Nat.mod_eq_of_lt hs, conj, beq_self_eq_true] at h2
    cases h2
  · rw [Bool.not_eq_false'] at h1
    rw [Bool.or_eq_false_iff, Bool.not_eq_false'] at h2
    obtain ⟨h2, h3⟩ := h2
    rw [e1, Bool.not_eq_false', decide_eq_true_eq] at h2
    unfold togN at h3
    rw [if_pos h2, Nat.mod_eq_of_lt h2] at h3
    have h3 : sumN A n = s % M256 := beq_iff_eq.1 h3
    rw [if_pos ⟨h1, h3⟩]
def cnC : List (List FD) → List Prop
  | [[.u _, .x a n _ f]] => [hkP a n f]
  | _ => [False]
def cnG : List (List FD) → List RS
  | [[.u s, .x _ n _ f]] => [.v (sI .i64 (cnE n (kH f) (aH f) (s % M256)))]
  | _ => []
def cCn : SSpec := specQ0 false [.st [.u, .x 36]] cnC cnG
theorem oks_Ck : ∀ p ∈ slCk, FnOKs Try.prog [] p.1 p.2 := oks_cons card_or (oks_cons card_to oks_nil)
theorem cn_bnd {E : Env} {s : Nat} {a : Option Addr} {n cap : Nat} {f : Nat → Nat → SC} (h : hkP a n f) (hb : (SA.agg [.u s, .c (.xs a n cap 36 f)]).bnd E) : (sCn s a n cap (kOf f) (aH f)).bnd E := by
  intro k hk
  simp only [List.mem_cons, List.not_mem_nil, or_false] at hk
  rcases hk with rfl | rfl
  · trivial
  · exact hk_bnd h (hb (.c (.xs a n cap 36 f)) (by simp))
theorem card_ck {gl : Globs} : FnOKs Try.prog gl 20 cCn := by
  refine FnOKs.up0 (FnOKs_R0 (cx := Cx.none) ⟨fun _ h => (by cases h), fun _ h => (by cases h)⟩ (sl := slCk) oks_Ck Try.func20 (by kernel_rfl) (by kernel_rfl) fun ls hc => ?_) gl
  unfold cnC at hc
  split at hc
  · rename_i s a n cap f
    obtain ⟨p, _⟩ := hc
    refine ⟨_, _, [sCn s a n cap (kOf f) (aH f)], fun _ => rfl, fun E hE => ?_, fun r hr => ?_, ok_ck s a n cap (kOf f) (aH f) (hk_hoP p)⟩
    · intro z hz
      rw [List.mem_singleton.1 hz]
      exact cn_bnd p (hE _ (List.mem_cons_self ..))
    · rw [List.mem_singleton.1 hr]; exact trivial
  · exact hc.1.elim
end Go.Proofs.Ytnjdoebaneogjaa
end

section
namespace Go.Proofs.Ytnjdoebaneogjaa
open Go Go.Sx Go.RowKit
set_option maxRecDepth 100000
def invBs (a : Option Addr) (n cap : Nat) (W : Nat → Nat → Int) (A : Nat → Nat) (v : Nat → Int) (P : Nat → Nat → Prop) : Inv where
  X := Nat × Nat × Addr
  tm y := slotsAt 49 [(0, .one (sHs a n cap W A)), (2, .one (.sc (.fn 38 []))), (4, .one (.sc (.px y.2.2 32 fun c => .val (.int .u8 (v c))))), (8, .one (sI .i64 (n : Int))), (9, .one (sI .i64 (y.1 : Int))), (10, .one (sI .i64 (y.2.1 : Int)))]
  ob _ := []
  holds y := y.1 ≤ y.2.1 ∧ y.2.1 ≤ n ∧ P y.1 y.2.1
  less y := y.2.1 - y.1
def cx17 : Cx := ⟨[(1000000008, fun _ => none), (1000000010, fun _ => none), (1000000012, fun _ => none), (1000000013, fun _ => none), (1000000014, fun _ => none), (1000000017, fun _ => none)], [], 0, []⟩
def slBs : List (Nat × SSpec) := [(38, cAg)]
set_option maxHeartbeats 4000000 in
theorem vc_fi (a : Option Addr) (n cap : Nat) (W : Nat → Nat → Int) (A : Nat → Nat) (v : Nat → Int) (P : Nat → Nat → Prop) (r : Int) (b : Bool) :
    OwesR Try.prog cx17 slBs [((39 + 1) * 100000 + 3, .inv (invBs a n cap W A v P))] 10 Try.f32 [sHs a n cap W A, sWh v] false [.v (sI .i64 r), .v (sB b)] =
    (let x1 : Nat := kv fun (j : Nat) => v (0 + j); ∀ (a_1 a_2 : Go.Addr), (∀ (y : Nat × Nat × Go.Addr), closedB (slotsAt 49 [(0, SV.one (sHs a n cap W A)), (2, SV.one (SA.sc (SC.fn 38 []))), (4, SV.one (SA.sc (SC.px y.snd.snd 32 fun (c : Nat) => SC.val (Go.Value.int Go.IntKind.u8 (v c))))), (8, SV.one (sI Go.IntKind.i64 (↑n : Int))), (9, SV.one (sI Go.IntKind.i64 (↑y.fst : Int))), (10, SV.one (sI Go.IntKind.i64 (↑y.snd.fst : Int)))]) [] = Bool.true) ∧ ∃ (y : Nat × Nat × Go.Addr), (y.fst ≤ y.snd.fst ∧ y.snd.fst ≤ n ∧ P y.fst y.snd.fst) ∧ (a = a ∧ n = n ∧ cap = cap ∧ ∀ (i : Nat), i < n → simC (hoF W A i 0) (hoF W A i 0) ∧ simC (hoF W A i 1) (hoF W A i 1) ∧ simC (hoF W A i 2) (hoF W A i 2) ∧ simC (hoF W A i 3) (hoF W A i 3) ∧ simC (hoF W A i 4) (hoF W A i 4) ∧ simC (hoF W A i 5) (hoF W A i 5) ∧ simC (hoF W A i 6) (hoF W A i 6) ∧ simC (hoF W A i 7) (hoF W A i 7) ∧ simC (hoF W A i 8) (hoF W A i 8) ∧ simC (hoF W A i 9) (hoF W A i 9) ∧ simC (hoF W A i 10) (hoF W A i 10) ∧ simC (hoF W A i 11) (hoF W A i 11) ∧ simC (hoF W A i 12) (hoF W A i 12) ∧ simC (hoF W A i 13) (hoF W A i 13) ∧ simC (hoF W A i 14) (hoF W A i 14) ∧ simC (hoF W A i 15) (hoF W A i 15) ∧ simC (hoF W A i 16) (hoF W A i 16) ∧ simC (hoF W A i 17) (hoF W A i 17) ∧ simC (hoF W A i 18) (hoF W A i 18) ∧ simC (hoF W A i 19) (hoF W A i 19) ∧ simC (hoF W A i 20) (hoF W A i 20) ∧ simC (hoF W A i 21) (hoF W A i 21) ∧ simC (hoF W A i 22) (hoF W A i 22) ∧ simC (hoF W A i 23) (hoF W A i 23) ∧ simC (hoF W A i 24) (hoF W A i 24) ∧ simC (hoF W A i 25) (hoF W A i 25) ∧ simC (hoF W A i 26) (hoF W A i 26) ∧ simC (hoF W A i 27) (hoF W A i 27) ∧ simC (hoF W A i 28) (hoF W A i 28) ∧ simC (hoF W A i 29) (hoF W A i 29) ∧ simC (hoF W A i 30) (hoF W A i 30) ∧ simC (hoF W A i 31) (hoF W A i 31) ∧ simC (hoF W A i 32) (hoF W A i 32) ∧ simC (hoF W A i 33) (hoF W A i 33) ∧ simC (hoF W A i 34) (hoF W A i 34) ∧ limb (A i) 3 = limb (A i) 3) ∧ (38 = 38 ∧ ([] : List PV) = []) ∧ (a_2 = y.snd.snd ∧ simC ((flat (toKs (SA.agg (grpK (fun (c : Nat) => (flat (toKs (sWh v))).getD c (SC.bit Bool.false)) 0 (segT Try.prog 8 35))))).getD 0 (SC.bit Bool.false)) (SC.val (Go.Value.int Go.IntKind.u8 (v 0))) ∧ simC ((flat (toKs (SA.agg (grpK (fun (c : Nat) => (flat (toKs (sWh v))).getD c (SC.bit Bool.false)) 0 (segT Try.prog 8 35))))).getD 1 (SC.bit Bool.false)) (SC.val (Go.Value.int Go.IntKind.u8 (v 1))) ∧ simC ((flat (toKs (SA.agg (grpK (fun (c : Nat) => (flat (toKs (sWh v))).getD c (SC.bit Bool.false)) 0 (segT Try.prog 8 35))))).getD 2 (SC.bit Bool.false)) (SC.val (Go.Value.int Go.IntKind.u8 (v 2))) ∧ simC ((flat (toKs (SA.agg (grpK (fun (c : Nat) => (flat (toKs (sWh v))).getD c (SC.bit Bool.false)) 0 (segT Try.prog 8 35))))).getD 3 (SC.bit Bool.false)) (SC.val (Go.Value.int Go.IntKind.u8 (v 3))) ∧ simC ((flat (toKs (SA.agg (grpK (fun (c : Nat) => (flat (toKs (sWh v))).getD c (SC.bit Bool.false)) 0 (segT Try.prog 8 35))))).getD 4 (SC.bit Bool.false)) (SC.val (Go.Value.int Go.IntKind.u8 (v 4))) ∧ simC ((flat (toKs (SA.agg (grpK (fun (c : Nat) => (flat (toKs (sWh v))).getD c (SC.bit Bool.false)) 0 (segT Try.prog 8 35))))).getD 5 (SC.bit Bool.false)) (SC.val (Go.Value.int Go.IntKind.u8 (v 5))) ∧ simC ((flat (toKs (SA.agg (grpK (fun (c : Nat) => (flat (toKs (sWh v))).getD c (SC.bit Bool.false)) 0 (segT Try.prog 8 35))))).getD 6 (SC.bit Bool.false)) (SC.val (Go.Value.int Go.IntKind.u8 (v 6))) ∧ simC ((flat (toKs (SA.agg (grpK (fun (c : Nat) => (flat (toKs (sWh v))).getD c (SC.bit Bool.false)) 0 (segT Try.prog 8 35))))).getD 7 (SC.bit Bool.false)) (SC.val (Go.Value.int Go.IntKind.u8 (v 7))) ∧ simC ((flat (toKs (SA.agg (grpK (fun (c : Nat) => (flat (toKs (sWh v))).getD c (SC.bit Bool.false)) 0 (segT Try.prog 8 35))))).getD 8 (SC.bit Bool.false)) (SC.val (Go.Value.int Go.IntKind.u8 (v 8))) ∧ simC ((flat (toKs (SA.agg (grpK (fun (c : Nat) => (flat (toKs (sWh v))).getD c (SC.bit Bool.false)) 0 (segT Try.prog 8 35))))).getD 9 (SC.bit Bool.false)) (SC.val (Go.Value.int Go.IntKind.u8 (v 9))) ∧ simC ((flat (toKs (SA.agg (grpK (fun (c : Nat) => (flat (toKs (sWh v))).getD c (SC.bit Bool.false)) 0 (segT Try.prog 8 35))))).getD 10 (SC.bit Bool.false)) (SC.val (Go.Value.int Go.IntKind.u8 (v 10))) ∧ simC ((flat (toKs (SA.agg (grpK (fun (c : Nat) => (flat (toKs (sWh v))).getD c (SC.bit Bool.false)) 0 (segT Try.prog 8 35))))).getD 11 (SC.bit Bool.false)) (SC.val (Go.Value.int Go.IntKind.u8 (v 11))) ∧ simC ((flat (toKs (SA.agg (grpK (fun (c : Nat) => (flat (toKs (sWh v))).getD c (SC.bit Bool.false)) 0 (segT Try.prog 8 35))))).getD 12 (SC.bit Bool.false)) (SC.val (Go.Value.int Go.IntKind.u8 (v 12))) ∧ simC ((flat (toKs (SA.agg (grpK (fun (c : Nat) => (flat (toKs (sWh v))).getD c (SC.bit Bool.false)) 0 (segT Try.prog 8 35))))).getD 13 (SC.bit Bool.false)) (SC.val (Go.Value.int Go.IntKind.u8 (v 13))) ∧ simC ((flat (toKs (SA.agg (grpK (fun (c : Nat) => (flat (toKs (sWh v))).getD c (SC.bit Bool.false)) 0 (segT Try.prog 8 35))))).getD 14 (SC.bit Bool.false)) (SC.val (Go.Value.int Go.IntKind.u8 (v 14))) ∧ simC ((flat (toKs (SA.agg (grpK (fun (c : Nat) => (flat (toKs (sWh v))).getD c (SC.bit Bool.false)) 0 (segT Try.prog 8 35))))).getD 15 (SC.bit Bool.false)) (SC.val (Go.Value.int Go.IntKind.u8 (v 15))) ∧ simC ((flat (toKs (SA.agg (grpK (fun (c : Nat) => (flat (toKs (sWh v))).getD c (SC.bit Bool.false)) 0 (segT Try.prog 8 35))))).getD 16 (SC.bit Bool.false)) (SC.val (Go.Value.int Go.IntKind.u8 (v 16))) ∧ simC ((flat (toKs (SA.agg (grpK (fun (c : Nat) => (flat (toKs (sWh v))).getD c (SC.bit Bool.false)) 0 (segT Try.prog 8 35))))).getD 17 (SC.bit Bool.false)) (SC.val (Go.Value.int Go.IntKind.u8 (v 17))) ∧ simC ((flat (toKs (SA.agg (grpK (fun (c : Nat) => (flat (toKs (sWh v))).getD c (SC.bit Bool.false)) 0 (segT Try.prog 8 35))))).getD 18 (SC.bit Bool.false)) (SC.val (Go.Value.int Go.IntKind.u8 (v 18))) ∧ simC ((flat (toKs (SA.agg (grpK (fun (c : Nat) => (flat (toKs (sWh v))).getD c (SC.bit Bool.false)) 0 (segT Try.prog 8 35))))).getD 19 (SC.bit Bool.false)) (SC.val (Go.Value.int Go.IntKind.u8 (v 19))) ∧ simC ((flat (toKs (SA.agg (grpK (fun (c : Nat) => (flat (toKs (sWh v))).getD c (SC.bit Bool.false)) 0 (segT Try.prog 8 35))))).getD 20 (SC.bit Bool.false)) (SC.val (Go.Value.int Go.IntKind.u8 (v 20))) ∧ simC ((flat (toKs (SA.agg (grpK (fun (c : Nat) => (flat (toKs (sWh v))).getD c (SC.bit Bool.false)) 0 (segT Try.prog 8 35))))).getD 21 (SC.bit Bool.false)) (SC.val (Go.Value.int Go.IntKind.u8 (v 21))) ∧ simC ((flat (toKs (SA.agg (grpK (fun (c : Nat) => (flat (toKs (sWh v))).getD c (SC.bit Bool.false)) 0 (segT Try.prog 8 35))))).getD 22 (SC.bit Bool.false)) (SC.val (Go.Value.int Go.IntKind.u8 (v 22))) ∧ simC ((flat (toKs (SA.agg (grpK (fun (c : Nat) => (flat (toKs (sWh v))).getD c (SC.bit Bool.false)) 0 (segT Try.prog 8 35))))).getD 23 (SC.bit Bool.false)) (SC.val (Go.Value.int Go.IntKind.u8 (v 23))) ∧ simC ((flat (toKs (SA.agg (grpK (fun (c : Nat) => (flat (toKs (sWh v))).getD c (SC.bit Bool.false)) 0 (segT Try.prog 8 35))))).getD 24 (SC.bit Bool.false)) (SC.val (Go.Value.int Go.IntKind.u8 (v 24))) ∧ simC ((flat (toKs (SA.agg (grpK (fun (c : Nat) => (flat (toKs (sWh v))).getD c (SC.bit Bool.false)) 0 (segT Try.prog 8 35))))).getD 25 (SC.bit Bool.false)) (SC.val (Go.Value.int Go.IntKind.u8 (v 25))) ∧ simC ((flat (toKs (SA.agg (grpK (fun (c : Nat) => (flat (toKs (sWh v))).getD c (SC.bit Bool.false)) 0 (segT Try.prog 8 35))))).getD 26 (SC.bit Bool.false)) (SC.val (Go.Value.int Go.IntKind.u8 (v 26))) ∧ simC ((flat (toKs (SA.agg (grpK (fun (c : Nat) => (flat (toKs (sWh v))).getD c (SC.bit Bool.false)) 0 (segT Try.prog 8 35))))).getD 27 (SC.bit Bool.false)) (SC.val (Go.Value.int Go.IntKind.u8 (v 27))) ∧ simC ((flat (toKs (SA.agg (grpK (fun (c : Nat) => (flat (toKs (sWh v))).getD c (SC.bit Bool.false)) 0 (segT Try.prog 8 35))))).getD 28 (SC.bit Bool.false)) (SC.val (Go.Value.int Go.IntKind.u8 (v 28))) ∧ simC ((flat (toKs (SA.agg (grpK (fun (c : Nat) => (flat (toKs (sWh v))).getD c (SC.bit Bool.false)) 0 (segT Try.prog 8 35))))).getD 29 (SC.bit Bool.false)) (SC.val (Go.Value.int Go.IntKind.u8 (v 29))) ∧ simC ((flat (toKs (SA.agg (grpK (fun (c : Nat) => (flat (toKs (sWh v))).getD c (SC.bit Bool.false)) 0 (segT Try.prog 8 35))))).getD 30 (SC.bit Bool.false)) (SC.val (Go.Value.int Go.IntKind.u8 (v 30))) ∧ v 31 = v 31) ∧ (↑n : Int) = (↑n : Int) ∧ (0 : Int) = (↑y.fst : Int) ∧ (↑n : Int) = (↑y.snd.fst : Int) ∧ ∀ (y : Nat × Nat × Go.Addr), y.fst ≤ y.snd.fst ∧ y.snd.fst ≤ n ∧ P y.fst y.snd.fst → (Decidable.decide ((↑y.fst : Int) < (↑y.snd.fst : Int)) = Bool.true → ((0 : Int) ≤ Go.IntKind.i64.wrap ((Go.IntKind.u64.wrap (Go.IntKind.i64.wrap ((↑y.fst : Int) + (↑y.snd.fst : Int)))).fdiv (2 : Int)) ∧ Go.IntKind.i64.wrap ((Go.IntKind.u64.wrap (Go.IntKind.i64.wrap ((↑y.fst : Int) + (↑y.snd.fst : Int)))).fdiv (2 : Int)) < (↑n : Int)) ∧ ((0 : Int) ≤ limb (A (Go.IntKind.i64.wrap ((Go.IntKind.u64.wrap (Go.IntKind.i64.wrap ((↑y.fst : Int) + (↑y.snd.fst : Int)))).fdiv (2 : Int))).toNat) 0 ∧ limb (A (Go.IntKind.i64.wrap ((Go.IntKind.u64.wrap (Go.IntKind.i64.wrap ((↑y.fst : Int) + (↑y.snd.fst : Int)))).fdiv (2 : Int))).toNat) 0 < (18446744073709551616 : Int)) ∧ ((0 : Int) ≤ limb (A (Go.IntKind.i64.wrap ((Go.IntKind.u64.wrap (Go.IntKind.i64.wrap ((↑y.fst : Int) + (↑y.snd.fst : Int)))).fdiv (2 : Int))).toNat) 1 ∧ limb (A (Go.IntKind.i64.wrap ((Go.IntKind.u64.wrap (Go.IntKind.i64.wrap ((↑y.fst : Int) + (↑y.snd.fst : Int)))).fdiv (2 : Int))).toNat) 1 < (18446744073709551616 : Int)) ∧ ((0 : Int) ≤ limb (A (Go.IntKind.i64.wrap ((Go.IntKind.u64.wrap (Go.IntKind.i64.wrap ((↑y.fst : Int) + (↑y.snd.fst : Int)))).fdiv (2 : Int))).toNat) 2 ∧ limb (A (Go.IntKind.i64.wrap ((Go.IntKind.u64.wrap (Go.IntKind.i64.wrap ((↑y.fst : Int) + (↑y.snd.fst : Int)))).fdiv (2 : Int))).toNat) 2 < (18446744073709551616 : Int)) ∧ ((0 : Int) ≤ limb (A (Go.IntKind.i64.wrap ((Go.IntKind.u64.wrap (Go.IntKind.i64.wrap ((↑y.fst : Int) + (↑y.snd.fst : Int)))).fdiv (2 : Int))).toNat) 3 ∧ limb (A (Go.IntKind.i64.wrap ((Go.IntKind.u64.wrap (Go.IntKind.i64.wrap ((↑y.fst : Int) + (↑y.snd.fst : Int)))).fdiv (2 : Int))).toNat) 3 < (18446744073709551616 : Int)) ∧ (∀ (j : Nat), j < 32 → intsC (hoF W A (Go.IntKind.i64.wrap ((Go.IntKind.u64.wrap (Go.IntKind.i64.wrap ((↑y.fst : Int) + (↑y.snd.fst : Int)))).fdiv (2 : Int))).toNat (0 + j)) = intsC (hoF W A (Go.IntKind.i64.wrap ((Go.IntKind.u64.wrap (Go.IntKind.i64.wrap ((↑y.fst : Int) + (↑y.snd.fst : Int)))).fdiv (2 : Int))).toNat (0 + j))) ∧ join (limb (A (Go.IntKind.i64.wrap ((Go.IntKind.u64.wrap (Go.IntKind.i64.wrap ((↑y.fst : Int) + (↑y.snd.fst : Int)))).fdiv (2 : Int))).toNat) 0) (limb (A (Go.IntKind.i64.wrap ((Go.IntKind.u64.wrap (Go.IntKind.i64.wrap ((↑y.fst : Int) + (↑y.snd.fst : Int)))).fdiv (2 : Int))).toNat) 1) (limb (A (Go.IntKind.i64.wrap ((Go.IntKind.u64.wrap (Go.IntKind.i64.wrap ((↑y.fst : Int) + (↑y.snd.fst : Int)))).fdiv (2 : Int))).toNat) 2) (limb (A (Go.IntKind.i64.wrap ((Go.IntKind.u64.wrap (Go.IntKind.i64.wrap ((↑y.fst : Int) + (↑y.snd.fst : Int)))).fdiv (2 : Int))).toNat) 3) = join (limb (A (Go.IntKind.i64.wrap ((Go.IntKind.u64.wrap (Go.IntKind.i64.wrap ((↑y.fst : Int) + (↑y.snd.fst : Int)))).fdiv (2 : Int))).toNat) 0) (limb (A (Go.IntKind.i64.wrap ((Go.IntKind.u64.wrap (Go.IntKind.i64.wrap ((↑y.fst : Int) + (↑y.snd.fst : Int)))).fdiv (2 : Int))).toNat) 1) (limb (A (Go.IntKind.i64.wrap ((Go.IntKind.u64.wrap (Go.IntKind.i64.wrap ((↑y.fst : Int) + (↑y.snd.fst : Int)))).fdiv (2 : Int))).toNat) 2) (limb (A (Go.IntKind.i64.wrap ((Go.IntKind.u64.wrap (Go.IntKind.i64.wrap ((↑y.fst : Int) + (↑y.snd.fst : Int)))).fdiv (2 : Int))).toNat) 3) ∧ (∀ (j : Nat), j < 32 → v (0 + j) = v (0 + j)) ∧ (∀ (j : Nat), j < 32 → (0 : Int) ≤ intsC (hoF W A (Go.IntKind.i64.wrap ((Go.IntKind.u64.wrap (Go.IntKind.i64.wrap ((↑y.fst : Int) + (↑y.snd.fst : Int)))).fdiv (2 : Int))).toNat (0 + j)) ∧ intsC (hoF W A (Go.IntKind.i64.wrap ((Go.IntKind.u64.wrap (Go.IntKind.i64.wrap ((↑y.fst : Int) + (↑y.snd.fst : Int)))).fdiv (2 : Int))).toNat (0 + j)) < (256 : Int)) ∧ (∀ (j : Nat), j < 32 → (0 : Int) ≤ v (0 + j) ∧ v (0 + j) < (256 : Int)) ∧ (Decidable.decide (cmpK (kv fun (j : Nat) => intsC (hoF W A (Go.IntKind.i64.wrap ((Go.IntKind.u64.wrap (Go.IntKind.i64.wrap ((↑y.fst : Int) + (↑y.snd.fst : Int)))).fdiv (2 : Int))).toNat (0 + j))) x1 < (0 : Int)) = Bool.true → ∃ (y' : Nat × Nat × Go.Addr), (y'.fst ≤ y'.snd.fst ∧ y'.snd.fst ≤ n ∧ P y'.fst y'.snd.fst) ∧ (a = a ∧ n = n ∧ cap = cap ∧ ∀ (i : Nat), i < n → simC (hoF W A i 0) (hoF W A i 0) ∧ simC (hoF W A i 1) (hoF W A i 1) ∧ simC (hoF W A i 2) (hoF W A i 2) ∧ simC (hoF W A i 3) (hoF W A i 3) ∧ simC (hoF W A i 4) (hoF W A i 4) ∧ simC (hoF W A i 5) (hoF W A i 5) ∧ simC (hoF W A i 6) (hoF W A i 6) ∧ simC (hoF W A i 7) (hoF W A i 7) ∧ simC (hoF W A i 8) (hoF W A i 8) ∧ simC (hoF W A i 9) (hoF W A i 9) ∧ simC (hoF W A i 10) (hoF W A i 10) ∧ simC (hoF W A i 11) (hoF W A i 11) ∧ simC (hoF W A i 12) (hoF W A i 12) ∧ simC (hoF W A i 13) (hoF W A i 13) ∧ simC (hoF W A i 14) (hoF W A i 14) ∧ simC (hoF W A i 15) (hoF W A i 15) ∧ simC (hoF W A i 16) (hoF W A i 16) ∧ simC (hoF W A i 17) (hoF W A i 17) ∧ simC (hoF W A i 18) (hoF W A i 18) ∧ simC (hoF W A i 19) (hoF W A i 19) ∧ simC (hoF W A i 20) (hoF W A i 20) ∧ simC (hoF W A i 21) (hoF W A i 21) ∧ simC (hoF W A i 22) (hoF W A i 22) ∧ simC (hoF W A i 23) (hoF W A i 23) ∧ simC (hoF W A i 24) (hoF W A i 24) ∧ simC (hoF W A i 25) (hoF W A i 25) ∧ simC (hoF W A i 26) (hoF W A i 26) ∧ simC (hoF W A i 27) (hoF W A i 27) ∧ simC (hoF W A i 28) (hoF W A i 28) ∧ simC (hoF W A i 29) (hoF W A i 29) ∧ simC (hoF W A i 30) (hoF W A i 30) ∧ simC (hoF W A i 31) (hoF W A i 31) ∧ simC (hoF W A i 32) (hoF W A i 32) ∧ simC (hoF W A i 33) (hoF W A i 33) ∧ simC (hoF W A i 34) (hoF W A i 34) ∧ limb (A i) 3 = limb (A i) 3) ∧ (38 = 38 ∧ ([] : List PV) = []) ∧ (y.snd.snd = y'.snd.snd ∧ simC (SC.val (Go.Value.int Go.IntKind.u8 (v 0))) (SC.val (Go.Value.int Go.IntKind.u8 (v 0))) ∧ simC (SC.val (Go.Value.int Go.IntKind.u8 (v 1))) (SC.val (Go.Value.int Go.IntKind.u8 (v 1))) ∧ simC (SC.val (Go.Value.int Go.IntKind.u8 (v 2))) (SC.val (Go.Value.int Go.IntKind.u8 (v 2))) ∧ simC (SC.val (Go.Value.int Go.IntKind.u8 (v 3))) (SC.val (Go.Value.int Go.IntKind.u8 (v 3))) ∧ simC (SC.val (Go.Value.int Go.IntKind.u8 (v 4))) (SC.val (Go.Value.int Go.IntKind.u8 (v 4))) ∧ simC (SC.val (Go.Value.int Go.IntKind.u8 (v 5))) (SC.val (Go.Value.int Go.IntKind.u8 (v 5))) ∧ simC (SC.val (Go.Value.int Go.IntKind.u8 (v 6))) (SC.val (Go.Value.int Go.IntKind.u8 (v 6))) ∧ simC (SC.val (Go.Value.int Go.IntKind.u8 (v 7))) (SC.val (Go.Value.int Go.IntKind.u8 (v 7))) ∧ simC (SC.val (Go.Value.int Go.IntKind.u8 (v 8))) (SC.val (Go.Value.int Go.IntKind.u8 (v 8))) ∧ simC (SC.val (Go.Value.int Go.IntKind.u8 (v 9))) (SC.val (Go.Value.int Go.IntKind.u8 (v 9))) ∧ simC (SC.val (Go.Value.int Go.IntKind.u8 (v 10))) (SC.val (Go.Value.int Go.IntKind.u8 (v 10))) ∧ simC (SC.val (Go.Value.int Go.IntKind.u8 (v 11))) (SC.val (Go.Value.int Go.IntKind.u8 (v 11))) ∧ simC (SC.val (Go.Value.int Go.IntKind.u8 (v 12))) (SC.val (Go.Value.int Go.IntKind.u8 (v 12))) ∧ simC (SC.val (Go.Value.int Go.IntKind.u8 (v 13))) (SC.val (Go.Value.int Go.IntKind.u8 (v 13))) ∧ simC (SC.val (Go.Value.int Go.IntKind.u8 (v 14))) (SC.val (Go.Value.int Go.IntKind.u8 (v 14))) ∧ simC (SC.val (Go.Value.int Go.IntKind.u8 (v 15))) (SC.val (Go.Value.int Go.IntKind.u8 (v 15))) ∧ simC (SC.val (Go.Value.int Go.IntKind.u8 (v 16))) (SC.val (Go.Value.int Go.IntKind.u8 (v 16))) ∧ simC (SC.val (Go.Value.int Go.IntKind.u8 (v 17))) (SC.val (Go.Value.int Go.IntKind.u8 (v 17))) ∧ simC (SC.val (Go.Value.int Go.IntKind.u8 (v 18))) (SC.val (Go.Value.int Go.IntKind.u8 (v 18))) ∧ simC (SC.val (Go.Value.int Go.IntKind.u8 (v 19))) (SC.val (Go.Value.int Go.IntKind.u8 (v 19))) ∧ simC (SC.val (Go.Value.int Go.IntKind.u8 (v 20))) (SC.val (Go.Value.int Go.IntKind.u8 (v 20))) ∧ simC (SC.val (Go.Value.int Go.IntKind.u8 (v 21))) (SC.val (Go.Value.int Go.IntKind.u8 (v 21))) ∧ simC (SC.val (Go.Value.int Go.IntKind.u8 (v 22))) (SC.val (Go.Value.int Go.IntKind.u8 (v 22))) ∧ simC (SC.val (Go.Value.int Go.IntKind.u8 (v 23))) (SC.val (Go.Value.int Go.IntKind.u8 (v 23))) ∧ simC (SC.val (Go.Value.int Go.IntKind.u8 (v 24))) (SC.val (Go.Value.int Go.IntKind.u8 (v 24))) ∧ simC (SC.val (Go.Value.int Go.IntKind.u8 (v 25))) (SC.val (Go.Value.int Go.IntKind.u8 (v 25))) ∧ simC (SC.val (Go.Value.int Go.IntKind.u8 (v 26))) (SC.val (Go.Value.int Go.IntKind.u8 (v 26))) ∧ simC (SC.val (Go.Value.int Go.IntKind.u8 (v 27))) (SC.val (Go.Value.int Go.IntKind.u8 (v 27))) ∧ simC (SC.val (Go.Value.int Go.IntKind.u8 (v 28))) (SC.val (Go.Value.int Go.IntKind.u8 (v 28))) ∧ simC (SC.val (Go.Value.int Go.IntKind.u8 (v 29))) (SC.val (Go.Value.int Go.IntKind.u8 (v 29))) ∧ simC (SC.val (Go.Value.int Go.IntKind.u8 (v 30))) (SC.val (Go.Value.int Go.IntKind.u8 (v 30))) ∧ v 31 = v 31) ∧ (↑n : Int) = (↑n : Int) ∧ Go.IntKind.i64.wrap (Go.IntKind.i64.wrap ((Go.IntKind.u64.wrap (Go.IntKind.i64.wrap ((↑y.fst : Int) + (↑y.snd.fst : Int)))).fdiv (2 : Int)) + (1 : Int)) = (↑y'.fst : Int) ∧ (↑y.snd.fst : Int) = (↑y'.snd.fst : Int) ∧ (y'.snd.fst - y'.fst).succ.le (y.snd.fst - y.fst)) ∧ (Decidable.decide (cmpK (kv fun (j : Nat) => intsC (hoF W A (Go.IntKind.i64.wrap ((Go.IntKind.u64.wrap (Go.IntKind.i64.wrap ((↑y.fst : Int) + (↑y.snd.fst : Int)))).fdiv (2 : Int))).toNat (0 + j))) x1 < (0 : Int)) = Bool.false → ∃ (y' : Nat × Nat × Go.Addr), (y'.fst ≤ y'.snd.fst ∧ y'.snd.fst ≤ n ∧ P y'.fst y'.snd.fst) ∧ (a = a ∧ n = n ∧ cap = cap ∧ ∀ (i : Nat), i < n → simC (hoF W A i 0) (hoF W A i 0) ∧ simC (hoF W A i 1) (hoF W A i 1) ∧ simC (hoF W A i 2) (hoF W A i 2) ∧ simC (hoF W A i 3) (hoF W A i 3) ∧ simC (hoF W A i 4) (hoF W A i 4) ∧ simC (hoF W A i 5) (hoF W A i 5) ∧ simC (hoF W A i 6) (hoF W A i 6) ∧ simC (hoF W A i 7) (hoF W A i 7) ∧ simC (hoF W A i 8) (hoF W A i 8) ∧ simC (hoF W A i 9) (hoF W A i 9) ∧ simC (hoF W A i 10) (hoF W A i 10) ∧ simC (hoF W A i 11) (hoF W A i 11) ∧ simC (hoF W A i 12) (hoF W A i 12) ∧ simC (hoF W A i 13) (hoF W A i 13) ∧ simC (hoF W A i 14) (hoF W A i 14) ∧ simC (hoF W A i 15) (hoF W A i 15) ∧ simC (hoF W A i 16) (hoF W A i 16) ∧ simC (hoF W A i 17) (hoF W A i 17) ∧ simC (hoF W A i 18) (hoF W A i 18) ∧ simC (hoF W A i 19) (hoF W A i 19) ∧ simC (hoF W A i 20) (hoF W A i 20) ∧ simC (hoF W A i 21) (hoF W A i 21) ∧ simC (hoF W A i 22) (hoF W A i 22) ∧ simC (hoF W A i 23) (hoF W A i 23) ∧ simC (hoF W A i 24) (hoF W A i 24) ∧ simC (hoF W A i 25) (hoF W A i 25) ∧ simC (hoF W A i 26) (hoF W A i 26) ∧ simC (hoF W A i 27) (hoF W A i 27) ∧ simC (hoF W A i 28) (hoF W A i 28) ∧ simC (hoF W A i 29) (hoF W A i 29) ∧ simC (hoF W A i 30) (hoF W A i 30) ∧ simC (hoF W A i 31) (hoF W A i 31) ∧ simC (hoF W A i 32) (hoF W A i 32) ∧ simC (hoF W A i 33) (hoF W A i 33) ∧ simC (hoF W A i 34) (hoF W A i 34) ∧ limb (A i) 3 = limb (A i) 3) ∧ (38 = 38 ∧ ([] : List PV) = []) ∧ (y.snd.snd = y'.snd.snd ∧ simC (SC.val (Go.Value.int Go.IntKind.u8 (v 0))) (SC.val (Go.Value.int Go.IntKind.u8 (v 0))) ∧ simC (SC.val (Go.Value.int Go.IntKind.u8 (v 1))) (SC.val (Go.Value.int Go.IntKind.u8 (v 1))) ∧ simC (SC.val (Go.Value.int Go.IntKind.u8 (v 2))) (SC.val (Go.Value.int Go.IntKind.u8 (v 2))) ∧ simC (SC.val (Go.Value.int Go.IntKind.u8 (v 3))) (SC.val (Go.Value.int Go.IntKind.u8 (v 3))) ∧ simC (SC.val (Go.Value.int Go.IntKind.u8 (v 4))) (SC.val (Go.Value.int Go.IntKind.u8 (v 4))) ∧ simC (SC.val (Go.Value.int Go.IntKind.u8 (v 5))) (SC.val (Go.Value.int Go.IntKind.u8 (v 5))) ∧ simC (SC.val (Go.Value.int Go.IntKind.u8 (v 6))) (SC.val (Go.Value.int Go.IntKind.u8 (v 6))) ∧ simC (SC.val (Go.Value.int Go.IntKind.u8 (v 7))) (SC.val (Go.Value.int Go.IntKind.u8 (v 7))) ∧ simC (SC.val (Go.Value.int Go.IntKind.u8 (v 8))) (SC.val (Go.Value.int Go.IntKind.u8 (v 8))) ∧ simC (SC.val (Go.Value.int Go.IntKind.u8 (v 9))) (SC.val (Go.Value.int Go.IntKind.u8 (v 9))) ∧ simC (SC.val (Go.Value.int Go.IntKind.u8 (v 10))) (SC.val (Go.Value.int Go.IntKind.u8 (v 10))) ∧ simC (SC.val (Go.Value.int Go.IntKind.u8 (v 11))) (SC.val (Go.Value.int Go.IntKind.u8 (v 11))) ∧ simC (SC.val (Go.Value.int Go.IntKind.u8 (v 12))) (SC.val (Go.Value.int Go.IntKind.u8 (v 12))) ∧ simC (SC.val (Go.Value.int Go.IntKind.u8 (v 13))) (SC.val (Go.Value.int Go.IntKind.u8 (v 13))) ∧ simC (SC.val (Go.Value.int Go.IntKind.u8 (v 14))) (SC.val (Go.Value.int Go.IntKind.u8 (v 14))) ∧ simC (SC.val (Go.Value.int Go.IntKind.u8 (v 15))) (SC.val (Go.Value.int Go.IntKind.u8 (v 15))) ∧ simC (SC.val (Go.Value.int Go.IntKind.u8 (v 16))) (SC.val (Go.Value.int Go.IntKind.u8 (v 16))) ∧ simC (SC.val (Go.Value.int Go.IntKind.u8 (v 17))) (SC.val (Go.Value.int Go.IntKind.u8 (v 17))) ∧ simC (SC.val (Go.Value.int Go.IntKind.u8 (v 18))) (SC.val (Go.Value.int Go.IntKind.u8 (v 18))) ∧ simC (SC.val (Go.Value.int Go.IntKind.u8 (v 19))) (SC.val (Go.Value.int Go.IntKind.u8 (v 19))) ∧ simC (SC.val (Go.Value.int Go.IntKind.u8 (v 20))) (SC.val (Go.Value.int Go.IntKind.u8 (v 20))) ∧ simC (SC.val (Go.Value.int Go.IntKind.u8 (v 21))) (SC.val (Go.Value.int Go.IntKind.u8 (v 21))) ∧ simC (SC.val (Go.Value.int Go.IntKind.u8 (v 22))) (SC.val (Go.Value.int Go.IntKind.u8 (v 22))) ∧ simC (SC.val (Go.Value.int Go.IntKind.u8 (v 23))) (SC.val (Go.Value.int Go.IntKind.u8 (v 23))) ∧ simC (SC.val (Go.Value.int Go.IntKind.u8 (v 24))) (SC.val (Go.Value.int Go.IntKind.u8 (v 24))) ∧ simC (SC.val (Go.Value.int Go.IntKind.u8 (v 25))) (SC.val (Go.Value.int Go.IntKind.u8 (v 25))) ∧ simC (SC.val (Go.Value.int Go.IntKind.u8 (v 26))) (SC.val (Go.Value.int Go.IntKind.u8 (v 26))) ∧ simC (SC.val (Go.Value.int Go.IntKind.u8 (v 27))) (SC.val (Go.Value.int Go.IntKind.u8 (v 27))) ∧ simC (SC.val (Go.Value.int Go.IntKind.u8 (v 28))) (SC.val (Go.Value.int Go.IntKind.u8 (v 28))) ∧ simC (SC.val (Go.Value.int Go.IntKind.u8 (v 29))) (SC.val (Go.Value.int Go.IntKind.u8 (v 29))) ∧ simC (SC.val (Go.Value.int Go.IntKind.u8 (v 30))) (SC.val (Go.Value.int Go.IntKind.u8 (v 30))) ∧ v 31 = v 31) ∧ (↑n : Int) = (↑n : Int) ∧ (↑y.fst : Int) = (↑y'.fst : Int) ∧ Go.IntKind.i64.wrap ((Go.IntKind.u64.wrap (Go.IntKind.i64.wrap ((↑y.fst : Int) + (↑y.snd.fst : Int)))).fdiv (2 : Int)) = (↑y'.snd.fst : Int) ∧ (y'.snd.fst - y'.fst).succ.le (y.snd.fst - y.fst))) ∧ (Decidable.decide ((↑y.fst : Int) < (↑y.snd.fst : Int)) = Bool.false → (Decidable.decide ((↑y.fst : Int) < (↑n : Int)) = Bool.true → Decidable.decide ((↑y.fst : Int) < (↑n : Int)) = Bool.true) ∧ (Decidable.decide ((↑y.fst : Int) < (↑n : Int)) = Bool.true → Decidable.decide ((↑y.fst : Int) < (↑n : Int)) = Bool.true) ∧ (Decidable.decide ((↑y.fst : Int) < (↑n : Int)) = Bool.true → (0 : Int) ≤ (↑y.fst : Int) ∧ (↑y.fst : Int) < (↑n : Int)) ∧ (Decidable.decide ((↑y.fst : Int) < (↑n : Int)) = Bool.true → Decidable.decide ((↑y.fst : Int) < (↑n : Int)) = Bool.true) ∧ (Decidable.decide ((↑y.fst : Int) < (↑n : Int)) = Bool.true → Decidable.decide ((↑y.fst : Int) < (↑n : Int)) = Bool.true ∧ Decidable.decide ((↑y.fst : Int) < (↑n : Int)) = Bool.true ∧ Decidable.decide ((↑y.fst : Int) < (↑n : Int)) = Bool.true ∧ ((0 : Int) ≤ limb (A (↑y.fst : Int).toNat) 0 ∧ limb (A (↑y.fst : Int).toNat) 0 < (18446744073709551616 : Int)) ∧ ((0 : Int) ≤ limb (A (↑y.fst : Int).toNat) 1 ∧ limb (A (↑y.fst : Int).toNat) 1 < (18446744073709551616 : Int)) ∧ ((0 : Int) ≤ limb (A (↑y.fst : Int).toNat) 2 ∧ limb (A (↑y.fst : Int).toNat) 2 < (18446744073709551616 : Int)) ∧ ((0 : Int) ≤ limb (A (↑y.fst : Int).toNat) 3 ∧ limb (A (↑y.fst : Int).toNat) 3 < (18446744073709551616 : Int)) ∧ (∀ (j : Nat), j < 32 → intsC (hoF W A (↑y.fst : Int).toNat (0 + j)) = intsC (hoF W A (↑y.fst : Int).toNat (0 + j))) ∧ join (limb (A (↑y.fst : Int).toNat) 0) (limb (A (↑y.fst : Int).toNat) 1) (limb (A (↑y.fst : Int).toNat) 2) (limb (A (↑y.fst : Int).toNat) 3) = join (limb (A (↑y.fst : Int).toNat) 0) (limb (A (↑y.fst : Int).toNat) 1) (limb (A (↑y.fst : Int).toNat) 2) (limb (A (↑y.fst : Int).toNat) 3) ∧ (∀ (j : Nat), j < 32 → v (0 + j) = v (0 + j)) ∧ (∀ (j : Nat), j < 32 → (0 : Int) ≤ intsC (hoF W A (↑y.fst : Int).toNat (0 + j)) ∧ intsC (hoF W A (↑y.fst : Int).toNat (0 + j)) < (256 : Int)) ∧ (∀ (j : Nat), j < 32 → (0 : Int) ≤ v (0 + j) ∧ v (0 + j) < (256 : Int)) ∧ (↑y.fst : Int) = r ∧ (cmpK (kv fun (j : Nat) => intsC (hoF W A (↑y.fst : Int).toNat (0 + j))) x1 == (0 : Int)) = b) ∧ (Decidable.decide ((↑y.fst : Int) < (↑n : Int)) = Bool.false → (↑y.fst : Int) = r ∧ Bool.false = b))) := by kernel_rfl
end Go.Proofs.Ytnjdoebaneogjaa
end

section
namespace Go.Proofs.Ytnjdoebaneogjaa
open Go Go.Sx Go.RowKit
set_option maxRecDepth 100000
def posN (K : Nat → Nat) (k : Nat) : Nat → Nat
  | 0 => 0
  | n + 1 => posN K k n + (if K n < k then 1 else 0)
def isN (K : Nat → Nat) (k n : Nat) : Bool := decide (posN K k n < n) && decide (K (posN K k n) = k)
theorem posN_eq {K : Nat → Nat} {k p : Nat} : ∀ {n : Nat}, p ≤ n → (∀ i, i < p → K i < k) → (∀ i, p ≤ i → i < n → ¬ K i < k) → posN K k n = p
  | 0, h, _, _ => by rw [posN]; omega
  | n + 1, h, h1, h2 => by
    rw [posN]
    rcases Nat.lt_or_ge n p with hp | hp
    · have e : p = n + 1 := by omega
      rw [posN_eq (n := n) (p := n) (Nat.le_refl _) (fun i hi => h1 i (by omega)) (fun i hi hj => by omega), if_pos (h1 n hp), e]
    · rw [posN_eq (n := n) (p := p) hp h1 (fun i hi hj => h2 i hi (by omega)), if_neg (h2 n hp (by omega)), Nat.add_zero]
theorem posN_le (K : Nat → Nat) (k : Nat) : ∀ n, posN K k n ≤ n
  | 0 => Nat.le_refl _
  | n + 1 => by
    have := posN_le K k n
    rw [posN]
    split <;> omega
theorem ord_lt {n : Nat} {K A : Nat → Nat} (h : ordB n K A = true) {i : Nat} : ∀ {j : Nat}, i < j → j < n → K i < K j
  | 0, hij, _ => by omega
  | j + 1, hij, hj => by
    have h1 := (ordB_iff.1 h (j + 1) hj).2
    rw [Nat.add_sub_cancel] at h1
    have h1 : K j < K (j + 1) := by
      rcases h1 with h1 | h1
      · omega
      · exact h1
    rcases Nat.lt_or_ge i j with h2 | h2
    · exact Nat.lt_trans (ord_lt h h2 (by omega)) h1
    · rw [show i = j by omega]; exact h1
theorem ord_le {n : Nat} {K A : Nat → Nat} (h : ordB n K A = true) {i j : Nat} (hij : i ≤ j) (hj : j < n) : K i ≤ K j := by
  rcases Nat.lt_or_ge i j with k | k
  · exact Nat.le_of_lt (ord_lt h k hj)
  · rw [show i = j by omega]; exact Nat.le_refl _
theorem pos_lo {n : Nat} {K A : Nat → Nat} (h : ordB n K A = true) (k : Nat) : (∀ i, i < posN K k n → K i < k) ∧ ∀ i, posN K k n ≤ i → i < n → ¬ K i < k := by
  induction n with
  | zero => exact ⟨fun i hi => absurd hi (Nat.not_lt_zero _), fun i _ hi => absurd hi (Nat.not_lt_zero _)⟩
  | succ n ih =>
    obtain ⟨h1, h2⟩ := ih (ordB_mono (Nat.le_succ n) h)
    have hle := posN_le K k n
    rw [posN]
    by_cases hk : K n < k
    · rw [if_pos hk]
      have e : posN K k n = n := by
        rcases Nat.lt_or_ge (posN K k n) n with q | q
        · exact absurd (Nat.lt_of_le_of_lt (ord_le h (Nat.le_of_lt q) (Nat.lt_succ_self n)) hk) (h2 _ (Nat.le_refl _) q)
        · omega
      rw [e]
      exact ⟨fun i hi => by
        rcases Nat.lt_or_ge i n with q | q
        · exact h1 i (by omega)
        · rw [show i = n by omega]; exact hk, fun i hi hj => by omega⟩
    · rw [if_neg hk, Nat.add_zero]
      exact ⟨h1, fun i hi hj => by
        rcases Nat.lt_or_ge i n with q | q
        · exact h2 i hi q
        · rw [show i = n by omega]; exact hk⟩
theorem seg_wh : segT Try.prog (8 : Nat) (35 : Nat) = [(true, 32)] := by kernel_rfl
theorem wh_at (v : Nat → Int) {c : Nat} (h : c < 32) : (flat (toKs (sWh v))).getD c (SC.bit false) = .val (.int .u8 (v c)) := by
  have e : flat (toKs (sWh v)) = (List.range 32).map fun j => .val (.int .u8 (v j)) := by
    show flat [SK.f .u8 32 v] = _
    rw [flat, flat, List.append_nil]; rfl
  rw [e, List.getD_eq_getElem?_getD, List.getElem?_map, List.getElem?_range h]; rfl
theorem px_wh (v : Nat → Int) {k : Nat} (hk : k < 32) : (flat (toKs (SA.agg (grpK (fun c => (flat (toKs (sWh v))).getD c (SC.bit false)) 0 [(true, 32)])))).getD k (SC.bit false) = .val (.int .u8 (v k)) := by
  have e0 : kindC ((flat (toKs (sWh v))).getD 0 (SC.bit false)) = some .u8 := by rw [wh_at v (by decide)]; rfl
  have e1 : grpK (fun c => (flat (toKs (sWh v))).getD c (SC.bit false)) 0 [(true, 32)] = [.f .u8 32 fun j => intsC ((flat (toKs (sWh v))).getD (0 + j) (SC.bit false))] := by
    rw [grpK, grpK, List.append_nil, rowK]
    simp only [e0]
    rw [if_pos]
    rw [List.all_eq_true]
    intro j hj
    rw [Nat.zero_add, wh_at v (List.mem_range.1 hj)]; rfl
  rw [e1]
  have e2 : flat (toKs (SA.agg [.f .u8 32 fun j => intsC ((flat (toKs (sWh v))).getD (0 + j) (SC.bit false))])) = (List.range 32).map fun j => .val (.int .u8 (intsC ((flat (toKs (sWh v))).getD (0 + j) (SC.bit false)))) := by
    show flat [SK.f .u8 32 _] = _
    rw [flat, flat, List.append_nil]; rfl
  rw [e2, List.getD_eq_getElem?_getD, List.getElem?_map, List.getElem?_range hk, Option.map_some, Option.getD_some, Nat.zero_add, wh_at v hk]
  exact rfl
theorem px_wh' (v : Nat → Int) : ∃ L, L = flat (toKs (SA.agg (grpK (fun c => (flat (toKs (sWh v))).getD c (SC.bit false)) 0 [(true, 32)]))) ∧ ∀ k, k < 32 → L.getD k (SC.bit false) = .val (.int .u8 (v k)) := ⟨_, rfl, fun _ hk => px_wh v hk⟩
theorem mid_eq {i j : Nat} (h : i ≤ j) (hj : j ≤ maxLen) : IntKind.i64.wrap ((IntKind.u64.wrap (IntKind.i64.wrap ((i : Int) + (j : Int)))).fdiv 2) = (((i + j) / 2 : Nat) : Int) := by
  have hML : maxLen = 9223372036854775807 := rfl
  have e : IntKind.u64.wrap (IntKind.i64.wrap ((i : Int) + (j : Int))) = ((i + j : Nat) : Int) := by
    rw [IntKind.wrap_i64, IntKind.wrap_u64]; omega
  rw [e, Int.fdiv_eq_ediv_of_nonneg _ (by decide), IntKind.wrap_i64]
  omega
theorem cmpK_lt {a b : Nat} : cmpK a b < 0 ↔ a < b := by
  unfold cmpK
  by_cases h : a < b
  · rw [if_pos h]; omega
  · rw [if_neg h]
    by_cases k : b < a
    · rw [if_pos k]; omega
    · rw [if_neg k]; omega
theorem cmpK_eq (a b : Nat) : (cmpK a b == 0) = decide (a = b) := by
  unfold cmpK
  by_cases h : a < b
  · rw [if_pos h, decide_eq_false (by omega)]; rfl
  · rw [if_neg h]
    by_cases k : b < a
    · rw [if_pos k, decide_eq_false (by omega)]; rfl
    · rw [if_neg k, decide_eq_true (by omega)]; rfl
abbrev pFi (n : Nat) (K : Nat → Nat) (k i j : Nat) : Prop := (∀ x, x < i → K x < k) ∧ ∀ x, j ≤ x → x < n → ¬ K x < k
theorem ok_fi (a : Option Addr) (n cap : Nat) (W : Nat → Nat → Int) (A : Nat → Nat) (v : Nat → Int) (h : hoP a n W A) (ho : ordB n (fun i => kv (W i)) A = true) (hv : by32 v) :
    OwesR Try.prog cx17 slBs [((39 + 1) * 100000 + 3, .inv (invBs a n cap W A v (pFi n (fun i => kv (W i)) (kv v))))] 10 Try.f32 [sHs a n cap W A, sWh v] false
      [.v (sI .i64 (posN (fun i => kv (W i)) (kv v) n : Nat)), .v (sB (isN (fun i => kv (W i)) (kv v) n))] := by
  obtain ⟨r, hr⟩ : ∃ r : Int, r = (posN (fun i => kv (W i)) (kv v) n : Nat) := ⟨_, rfl⟩
  obtain ⟨b, hb⟩ : ∃ b, b = isN (fun i => kv (W i)) (kv v) n := ⟨_, rfl⟩
  obtain ⟨L, hL, hk⟩ := px_wh' v
  rw [← hr, ← hb, vc_fi, seg_wh, ← hL]
  clear hL
  intro x1 a1 a2
  have e1 : x1 = kv v := kv_congr fun j _ => by rw [Nat.zero_add]
  clear_value x1
  rw [e1]
  clear e1 x1
  have z := sim_ho W A
  have zv : ∀ x : Int, simC (.val (.int .u8 x)) (.val (.int .u8 x)) := fun _ => rfl
  have hML : maxLen = 9223372036854775807 := rfl
  have hv2 : ∀ j, j < 32 → 0 ≤ v (0 + j) ∧ v (0 + j) < 256 := fun j hj => by rw [Nat.zero_add]; exact hv j hj
  simp only [eq_self, implies_true, and_self, true_and, and_true, imp_self, z, zv, lb_in, Int.toNat_natCast, kv_ho, cmpK_eq]
  refine ⟨fun _ => rfl, ?_⟩
  refine ⟨⟨0, n, a2⟩, ?_⟩
  refine ⟨?_, ?_⟩
  · refine ⟨?_, ?_⟩
    · exact Nat.zero_le _
    · refine ⟨?_, ?_⟩
      · exact Nat.le_refl _
      · refine ⟨?_, ?_⟩
        · intro x hx
          exact absurd hx (Nat.not_lt_zero _)
        · intro x hx hx'
          have hx : n ≤ x := hx
          omega
  refine ⟨?_, rfl, rfl, fun y hy => ?_⟩
  · simp only [hk 0 (by decide), hk 1 (by decide), hk 2 (by decide), hk 3 (by decide), hk 4 (by decide), hk 5 (by decide), hk 6 (by decide), hk 7 (by decide), hk 8 (by decide), hk 9 (by decide), hk 10 (by decide), hk 11 (by decide), hk 12 (by decide), hk 13 (by decide), hk 14 (by decide), hk 15 (by decide), hk 16 (by decide), hk 17 (by decide), hk 18 (by decide), hk 19 (by decide), hk 20 (by decide), hk 21 (by decide), hk 22 (by decide), hk 23 (by decide), hk 24 (by decide), hk 25 (by decide), hk 26 (by decide), hk 27 (by decide), hk 28 (by decide), hk 29 (by decide), hk 30 (by decide), zv, and_self]
  obtain ⟨i, j, c⟩ := y
  obtain ⟨y1, y2, y3, y4⟩ := hy
  simp only at y1 y2 y3 y4 ⊢
  rw [mid_eq y1 (by have := h.hn; omega), Int.toNat_natCast]
  refine ⟨fun hl => ?_, fun hl => ?_⟩
  · have hl := of_decide_eq_true hl
    have hl : i < j := by omega
    obtain ⟨m, hm⟩ : ∃ m, m = (i + j) / 2 := ⟨_, rfl⟩
    rw [← hm]
    have m1 : i ≤ m := by omega
    have m2 : m < j := by omega
    have m3 : m < n := by omega
    refine ⟨⟨by omega, by omega⟩, by_ho (h.hw m m3), hv2, fun hd => ⟨⟨m + 1, j, c⟩, ?_⟩, fun hd => ⟨⟨i, m, c⟩, ?_⟩⟩
    · have hd := cmpK_lt.1 (of_decide_eq_true hd)
      refine ⟨⟨?_, y2, ?_, y4⟩, rfl, ?_, rfl, ?_⟩
      · show m + 1 ≤ j; omega
      · intro x hx
        have hx : x < m + 1 := hx
        exact Nat.lt_of_le_of_lt (ord_le ho (by omega) m3) hd
      · exact w_succ m3 h.hn
      · show j - (m + 1) + 1 ≤ j - i; omega
    · have hd := of_decide_eq_false hd
      rw [cmpK_lt] at hd
      refine ⟨⟨m1, ?_, y3, ?_⟩, rfl, rfl, rfl, ?_⟩
      · show m ≤ n; omega
      · intro x hx hx'
        have hx : m ≤ x := hx
        exact fun q => hd (Nat.lt_of_le_of_lt (ord_le ho hx hx') q)
      · show m - i + 1 ≤ j - i; omega
  · have hl := of_decide_eq_false hl
    have e : j = i := by omega
    subst e
    have hp : posN (fun i => kv (W i)) (kv v) n = j := posN_eq y2 y3 y4
    refine ⟨fun hd => ?_, fun hd => ⟨hd, hd, hd, ?_, hv2, ?_, ?_⟩, fun hd => ⟨?_, ?_⟩⟩
    · have hd := of_decide_eq_true hd
      exact ⟨by omega, hd⟩
    · have hd := of_decide_eq_true hd
      exact by_ho (h.hw j (by omega))
    · rw [hr, hp]
    · have hd := of_decide_eq_true hd
      rw [hb]; unfold isN; rw [hp, decide_eq_true (by omega : j < n), Bool.true_and]
    · rw [hr, hp]
    · have hd := of_decide_eq_false hd
      rw [hb]; unfold isN; rw [hp, decide_eq_false (by omega : ¬ j < n), Bool.false_and]
structure fiP (a : Option Addr) (n : Nat) (f : Nat → Nat → SC) (v : Nat → Int) : Prop where
  f1 : hkP a n f
  f2 : ordB n (kH f) (aH f) = true
  f3 : by32 v
def fiC : List (List FD) → List Prop
  | [[.x a n _ f], [.y v]] => [fiP a n f v]
  | _ => [False]
def fiG : List (List FD) → List RS
  | [[.x _ n _ f], [.y v]] => [.v (sI .i64 (posN (kH f) (kv v) n : Nat)), .v (sB (isN (kH f) (kv v) n))]
  | _ => []
def cFi : SSpec := specQ0 false [.one (.x 36), .st [.y 32]] fiC fiG
theorem okx_17 : CxOK Try.prog cx17 := okx_mark (okx_mark (okx_mark (okx_mark (okx_mark (okx_mark okx_nil)))))
theorem oks_Bs : ∀ p ∈ slBs, FnOKs Try.prog cx17.gl p.1 p.2 := oks_cons card_ag oks_nil
theorem card_fi {gl : Globs} : FnOKs Try.prog gl 32 cFi := by
  refine FnOKs.up0 (FnOKs_R0 (cx := cx17) okx_17 (sl := slBs) oks_Bs Try.func32 (by kernel_rfl) (by kernel_rfl) fun ls hc => ?_) gl
  unfold fiC at hc
  split at hc
  · rename_i a n cap f v
    obtain ⟨p, _⟩ := hc
    refine ⟨_, _, [sHs a n cap (kOf f) (aH f), sWh v], fun _ => rfl, fun E hE => ?_, fun r hr => ?_, ok_fi a n cap (kOf f) (aH f) v (hk_hoP p.f1) p.f2 p.f3⟩
    · intro z hz
      simp only [List.mem_cons, List.not_mem_nil, or_false] at hz
      rcases hz with rfl | rfl
      · exact hk_bnd p.f1 (hE _ (List.mem_cons_self ..))
      · exact hE _ (List.mem_cons_of_mem _ (List.mem_cons_self ..))
    · unfold fiG at hr
      simp only [List.mem_cons, List.not_mem_nil, or_false] at hr
      rcases hr with rfl | rfl <;> exact trivial
  · exact hc.1.elim
end Go.Proofs.Ytnjdoebaneogjaa
end
