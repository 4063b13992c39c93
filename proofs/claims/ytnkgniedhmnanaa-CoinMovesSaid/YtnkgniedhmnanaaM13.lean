/-
  Texts: P274, V171, P275, P263, V166, P268, V169, P271, P273.
-/
import Derived.Test.YtnkgniedhmnanaaM1
import Derived.Test.YtnkgniedhmnanaaM2
import Derived.Test.YtnkgniedhmnanaaM3
import Derived.Test.YtnkgniedhmnanaaM4
import Derived.Test.YtnkgniedhmnanaaM5
import Derived.Test.YtnkgniedhmnanaaM6
import Derived.Test.YtnkgniedhmnanaaM7
import Derived.Test.YtnkgniedhmnanaaM8
import Derived.Test.YtnkgniedhmnanaaM9
import Derived.Test.YtnkgniedhmnanaaM10
import Derived.Test.YtnkgniedhmnanaaM11
import Derived.Test.YtnkgniedhmnanaaM12
section
namespace Go.Proofs.Ytnkgniedhmnanaa
open Go Go.Sx Go.RowKit
set_option maxRecDepth 100000
def cnF (s n : Nat) (f : Nat → Nat → SC) : Int := cnE n (kH f) (aH f) (s % M256)
def miE (s n : Nat) (f : Nat → Nat → SC) (v : Nat → Int) (x : Nat) : Int :=
  if cnF s n f ≠ 0 then cnF s n f else if M256 ≤ s % M256 + x % M256 then 13 else if 40 < nW n f v (miY s n f v x) then 9 else 0
def miS (s n : Nat) (f : Nat → Nat → SC) (v : Nat → Int) (x : Nat) : Nat := if miE s n f v x = 0 then s + x else 0
def miN (s n : Nat) (f : Nat → Nat → SC) (v : Nat → Int) (x : Nat) : Nat := if miE s n f v x = 0 then nW n f v (miY s n f v x) else 0
def miF (s n : Nat) (f : Nat → Nat → SC) (v : Nat → Int) (x : Nat) : Nat → Nat → SC := hoF (wW n f v (miY s n f v x)) (aW n f v (miY s n f v x))
def buE (s n : Nat) (f : Nat → Nat → SC) (v : Nat → Int) (x : Nat) : Int :=
  if cnF s n f ≠ 0 then cnF s n f else if hvF s n f v % M256 < x % M256 then 13 else 0
def buS (s n : Nat) (f : Nat → Nat → SC) (v : Nat → Int) (x : Nat) : Nat := if buE s n f v x = 0 then s % M256 + M256 - x % M256 else 0
def buN (s n : Nat) (f : Nat → Nat → SC) (v : Nat → Int) (x : Nat) : Nat := if buE s n f v x = 0 then nW n f v (buY s n f v x) else 0
def buF (s n : Nat) (f : Nat → Nat → SC) (v : Nat → Int) (x : Nat) : Nat → Nat → SC := hoF (wW n f v (buY s n f v x)) (aW n f v (buY s n f v x))
theorem all_ho (W : Nat → Nat → Int) (A : Nat → Nat) (i : Nat) : allC 36 fun c => simC (hoF W A i c) (hoF W A i c) := by
  have z := sim_ho W A
  exact ⟨z i 0, z i 1, z i 2, z i 3, z i 4, z i 5, z i 6, z i 7, z i 8, z i 9, z i 10, z i 11, z i 12, z i 13, z i 14, z i 15, z i 16, z i 17, z i 18, z i 19, z i 20, z i 21, z i 22, z i 23, z i 24, z i 25, z i 26, z i 27, z i 28, z i 29, z i 30, z i 31, z i 32, z i 33, z i 34, z i 35⟩
theorem of_wi {a : Option Addr} {n s : Nat} {f : Nat → Nat → SC} {v : Nat → Int} (h : ofP a n f v) (h0 : cnE n (kH f) (aH f) (s % M256) = 0) : wiP a n f v :=
  ⟨⟨h.o1, (cn_0 h0).2.1, h.o2⟩, (cn_0 h0).1⟩
theorem ok_mi (s : Nat) (a : Option Addr) (n cap : Nat) (f : Nat → Nat → SC) (v : Nat → Int) (x : Nat) (h : ofP a n f v) :
    OwesR Try.prog cxMi slMi [] 10 Try.f12 [sCf s a n cap f, sWh v, sU x] true [.st [.k (.u (miS s n f v x)), .s (miN s n f v x) 36 (miF s n f v x)], .v (sI .i64 (miE s n f v x))] := by
  obtain ⟨S, hS⟩ : ∃ S, S = miS s n f v x := ⟨_, rfl⟩
  obtain ⟨N, hN⟩ : ∃ N, N = miN s n f v x := ⟨_, rfl⟩
  obtain ⟨e, he⟩ : ∃ e, e = miE s n f v x := ⟨_, rfl⟩
  unfold miF miY hvF
  rw [← hS, ← hN, ← he, vc_mi]
  intro x1 x2 x3 x4 x5 x6 x7
  have z := all_ho (wW n f v x5) (aW n f v x5)
  have e2 : x2 = cnF s n f := rfl
  have e3 : x3 = S % M256 := rfl
  have e4 : x4 = s % M256 + x % M256 := rfl
  have e6 : x6 = nW n f v (miY s n f v x) := rfl
  have e7 : x7 = (x6 : Int) := rfl
  have hw : x2 = 0 → wiP a n f v := fun h0 => of_wi h h0
  unfold miS at hS
  unfold miN at hN
  rw [← he] at hS hN
  unfold miE at he
  rw [← e2, ← e4, ← e6] at he
  rw [← e6] at hN
  clear_value x2 x3 x4 x6 x7
  rw [e3, e7]
  refine ⟨h, fun h0 => ?_, fun h0 => ⟨fun h1 => ?_, fun h1 => ⟨hw (bne_1 h0), fun _ _ _ _ => ⟨fun h2 => ?_, fun h2 => ?_⟩⟩⟩⟩
  · have h0 := bne_0 h0
    rw [if_pos h0] at he
    rw [if_neg (by rw [he]; exact h0)] at hS hN
    exact ⟨⟨⟨by rw [hS, Nat.zero_mod], trivial⟩, hN, trivial⟩, he.symm⟩
  all_goals
    have h0 := bne_1 h0
    rw [if_neg (by rw [h0]; decide)] at he
  · rw [if_pos (of_decide_eq_true h1)] at he
    rw [if_neg (by rw [he]; decide)] at hS hN
    exact ⟨⟨⟨by rw [hS, Nat.zero_mod], trivial⟩, hN, trivial⟩, he.symm⟩
  all_goals rw [if_neg (of_decide_eq_false h1)] at he
  · rw [if_pos (by have := of_decide_eq_true h2; omega)] at he
    rw [if_neg (by rw [he]; decide)] at hS hN
    exact ⟨⟨⟨by rw [hS, Nat.zero_mod], trivial⟩, hN, trivial⟩, he.symm⟩
  · rw [if_neg (by have := of_decide_eq_false h2; omega)] at he
    rw [if_pos he] at hS hN
    exact ⟨⟨⟨by rw [hS], trivial⟩, ⟨hN.symm, fun i _ => z i⟩, trivial⟩, he.symm⟩
theorem ok_bu (s : Nat) (a : Option Addr) (n cap : Nat) (f : Nat → Nat → SC) (v : Nat → Int) (x : Nat) (h : ofP a n f v) :
    OwesR Try.prog cxBu slMi [] 10 Try.f15 [sCf s a n cap f, sWh v, sU x] true [.st [.k (.u (buS s n f v x)), .s (buN s n f v x) 36 (buF s n f v x)], .v (sI .i64 (buE s n f v x))] := by
  obtain ⟨S, hS⟩ : ∃ S, S = buS s n f v x := ⟨_, rfl⟩
  obtain ⟨N, hN⟩ : ∃ N, N = buN s n f v x := ⟨_, rfl⟩
  obtain ⟨e, he⟩ : ∃ e, e = buE s n f v x := ⟨_, rfl⟩
  unfold buF buY hvF
  rw [← hS, ← hN, ← he, vc_bu]
  intro x1 x2 x3 x4 x5 x6 x7
  have z := all_ho (wW n f v x6) (aW n f v x6)
  have e2 : x2 = cnF s n f := rfl
  have e3 : x3 = S % M256 := rfl
  have e4 : x4 = hvF s n f v % M256 := rfl
  have e5 : x5 = x % M256 := rfl
  have e1 : x1 = s % M256 := rfl
  have e7 : x7 = nW n f v (buY s n f v x) := rfl
  have hw : x2 = 0 → wiP a n f v := fun h0 => of_wi h h0
  unfold buS at hS
  unfold buN at hN
  rw [← he] at hS hN
  unfold buE at he
  rw [← e2, ← e4, ← e5] at he
  rw [← e7] at hN
  rw [← e1, ← e5] at hS
  clear_value x1 x2 x3 x4 x5 x6 x7
  rw [e3]
  refine ⟨h, fun h0 => ?_, fun h0 => ⟨fun h1 => ?_, fun h1 => ?_⟩⟩
  · have h0 := bne_0 h0
    rw [if_pos h0] at he
    rw [if_neg (by rw [he]; exact h0)] at hS hN
    exact ⟨⟨⟨by rw [hS, Nat.zero_mod], trivial⟩, hN, trivial⟩, he.symm⟩
  all_goals
    have h0 := bne_1 h0
    rw [if_neg (by rw [h0]; decide)] at he
  · rw [if_pos (of_decide_eq_true h1)] at he
    rw [if_neg (by rw [he]; decide)] at hS hN
    exact ⟨⟨⟨by rw [hS, Nat.zero_mod], trivial⟩, hN, trivial⟩, he.symm⟩
  · rw [if_neg (of_decide_eq_false h1)] at he
    rw [if_pos he] at hS hN
    have leaf : wiP a n f v ∧ ∀ (a : Option Addr) (cap : Nat), (a = none → x7 = 0 ∧ cap = 0) → x7 ≤ cap → (((x1 + M256 - x5) % M256 = S % M256 ∧ True) ∧ (x7 = N ∧ ∀ (i : Nat), i < N → allC 36 fun (c : Nat) => simC (hoF (wW n f v x6) (aW n f v x6) i c) (hoF (wW n f v x6) (aW n f v x6) i c)) ∧ True) ∧ 0 = e :=
      ⟨hw h0, fun _ _ _ _ => ⟨⟨⟨by rw [hS], trivial⟩, ⟨hN.symm, fun i _ => z i⟩, trivial⟩, he.symm⟩⟩
    clear z hS hN he
    repeat' first | exact leaf | refine And.intro ?_ ?_
def mbC : List (List FD) → List Prop
  | [[.u _, .x a n _ f], [.y v], [.u _]] => [ofP a n f v]
  | _ => [False]
def miG : List (List FD) → List RS
  | [[.u s, .x _ n _ f], [.y v], [.u x]] => [.st [.k (.u (miS s n f v x)), .s (miN s n f v x) 36 (miF s n f v x)], .v (sI .i64 (miE s n f v x))]
  | _ => []
def buG : List (List FD) → List RS
  | [[.u s, .x _ n _ f], [.y v], [.u x]] => [.st [.k (.u (buS s n f v x)), .s (buN s n f v x) 36 (buF s n f v x)], .v (sI .i64 (buE s n f v x))]
  | _ => []
def cMi : SSpec := specQ0 true [.st [.u, .x 36], .st [.y 32], .st [.u]] mbC miG
def cBu : SSpec := specQ0 true [.st [.u, .x 36], .st [.y 32], .st [.u]] mbC buG
theorem st_closed {S N : Nat} {W : Nat → Nat → Int} {A : Nat → Nat} {e : Int} : ∀ r ∈ [RS.st [.k (.u S), .s N 36 (hoF W A)], .v (sI .i64 e)], r.closed := by
  intro r hr
  simp only [List.mem_cons, List.not_mem_nil, or_false] at hr
  rcases hr with rfl | rfl
  · intro k hk
    simp only [List.mem_cons, List.not_mem_nil, or_false] at hk
    rcases hk with rfl | rfl
    · trivial
    · exact ho_closed _ _ _
  · trivial
theorem okx_Mi : CxOK Try.prog cxMi := okx_cons card_Add (okx_mark okx_nil)
theorem okx_Bu : CxOK Try.prog cxBu := okx_cons card_Sub (okx_mark (okx_mark (okx_mark (okx_mark okx_nil))))
theorem oks_Mi : ∀ p ∈ slMi, FnOKs Try.prog [] p.1 p.2 := oks_cons card_of (oks_cons card_wi oks_nil)
theorem card_mi {gl : Globs} : FnOKs Try.prog gl 12 cMi := by
  refine FnOKs.up0 (FnOKs_R0 (cx := cxMi) okx_Mi (sl := slMi) oks_Mi Try.func12 (by kernel_rfl) (by kernel_rfl) fun ls hc => ?_) gl
  unfold mbC at hc
  split at hc
  · rename_i s a n cap f v x
    obtain ⟨p, _⟩ := hc
    exact ⟨_, _, [sCf s a n cap f, sWh v, sU x], fun _ => rfl, fun _ h => h, st_closed, ok_mi s a n cap f v x p⟩
  · exact hc.1.elim
theorem card_bu {gl : Globs} : FnOKs Try.prog gl 15 cBu := by
  refine FnOKs.up0 (FnOKs_R0 (cx := cxBu) okx_Bu (sl := slMi) oks_Mi Try.func15 (by kernel_rfl) (by kernel_rfl) fun ls hc => ?_) gl
  unfold mbC at hc
  split at hc
  · rename_i s a n cap f v x
    obtain ⟨p, _⟩ := hc
    exact ⟨_, _, [sCf s a n cap f, sWh v, sU x], fun _ => rfl, fun _ h => h, st_closed, ok_bu s a n cap f v x p⟩
  · exact hc.1.elim
end Go.Proofs.Ytnkgniedhmnanaa
end

section
namespace Go.Proofs.Ytnkgniedhmnanaa
open Go Go.Sx Go.RowKit
set_option maxRecDepth 100000
def slMo : List (Nat × SSpec) := [(15, cBu), (12, cMi)]
theorem vc_mo (s : Nat) (a : Option Addr) (n cap : Nat) (f : Nat → Nat → SC) (v w : Nat → Int) (x : Nat) (S N : Nat) (e : Int) :
    OwesR Try.prog cx14 slMo [] 10 Try.f17 [sCf s a n cap f, sWh v, sWh w, sU x] true [.st [.k (.u S), .s N 36 (miF (buS s n f v x) (buN s n f v x) (buF s n f v x) w x)], .v (sI .i64 e)] =
    (let x1 : Nat := S % M256; let x2 : Nat := miN (buS s n f v x) (buN s n f v x) (buF s n f v x) w x; ofP a n f v ∧ ∀ (a : Option Go.Addr) (cap : Nat), (a = Option.none → buN s n f v x = 0 ∧ cap = 0) → buN s n f v x ≤ cap → ((buE s n f v x != (0 : Int)) = Bool.true → ((0 = x1 ∧ True) ∧ N = 0 ∧ True) ∧ buE s n f v x = e) ∧ ((buE s n f v x != (0 : Int)) = Bool.false → ofP a (buN s n f v x) (buF s n f v x) w ∧ ∀ (a : Option Go.Addr) (cap : Nat), (a = Option.none → x2 = 0 ∧ cap = 0) → x2 ≤ cap → ((miS (buS s n f v x) (buN s n f v x) (buF s n f v x) w x % M256 = x1 ∧ True) ∧ (x2 = N ∧ ∀ (i : Nat), i < N → allC 36 fun (c : Nat) => simC (miF (buS s n f v x) (buN s n f v x) (buF s n f v x) w x i c) (miF (buS s n f v x) (buN s n f v x) (buF s n f v x) w x i c)) ∧ True) ∧ miE (buS s n f v x) (buN s n f v x) (buF s n f v x) w x = e)) := by kernel_rfl
end Go.Proofs.Ytnkgniedhmnanaa
end

section
namespace Go.Proofs.Ytnkgniedhmnanaa
open Go Go.Sx Go.RowKit
set_option maxRecDepth 100000
theorem hk_ho0 {a : Option Addr} {n : Nat} {W : Nat → Nat → Int} {A : Nat → Nat} (hn : n ≤ maxLen) (ha : a = none → n = 0) (hw : ∀ i, i < n → by32 (W i)) : hkP a n (hoF W A) where
  k1 := hn
  k2 := ha
  k3 i _ j hj := by unfold kOf; rw [ho_lo hj]; rfl
  k4 i _ j hj := by
    rw [aH_ho]
    have := limbs_eq.1 (Nat.mod_mod (A i) M256)
    match j, hj with
    | 0, _ => rw [this.1]; rfl
    | 1, _ => rw [this.2.1]; rfl
    | 2, _ => rw [this.2.2.1]; rfl
    | 3, _ => rw [this.2.2.2]; rfl
  k5 i hi j hj := by unfold kOf; rw [ho_lo hj]; exact hw i hi j hj
  k6 i _ := by rw [aH_ho]; exact Nat.mod_lt _ (by decide)
theorem qW_le (n : Nat) (f : Nat → Nat → SC) (v : Nat → Int) : pW n f v + qW n f v ≤ n := by
  unfold qW qOf pW
  have h := posN_le (kH f) (kv v) n
  cases q : isN (kH f) (kv v) n with
  | false => exact h
  | true => exact (is_lt q).1
theorem eOf_le (x : Nat) : eOf x ≤ 1 := by unfold eOf; cases decide (x % M256 = 0) <;> decide
theorem nW_le (n : Nat) (f : Nat → Nat → SC) (v : Nat → Int) (x : Nat) : nW n f v x ≤ n + 1 := by
  have := qW_le n f v
  have := eOf_le x
  unfold nW putN
  omega
theorem wW_by {a : Option Addr} {n : Nat} {f : Nat → Nat → SC} {v : Nat → Int} (h : hkP a n f) (hv : by32 v) (x : Nat) : ∀ i, i < nW n f v x → by32 (wW n f v x i) := by
  intro i hi
  have hq := qW_le n f v
  unfold nW putN at hi
  unfold wW
  rcases Nat.lt_or_ge i (pW n f v) with k | k
  · rw [put_lo k]; exact h.k5 i (by omega)
  · rcases Nat.lt_or_ge i (pW n f v + eOf x) with m | m
    · rw [put_at k m]; exact hv
    · rw [put_hi m]; exact h.k5 _ (by omega)
theorem of_new {a a' : Option Addr} {n : Nat} {f : Nat → Nat → SC} {v w : Nat → Int} {x : Nat} (h : ofP a n f v) (h40 : n ≤ 40) (hw : by32 w) (ha : a' = none → nW n f v x = 0) : ofP a' (nW n f v x) (hoF (wW n f v x) (aW n f v x)) w :=
  ⟨hk_ho0 (by have := nW_le n f v x; have hML : maxLen = 9223372036854775807 := rfl; omega) ha (wW_by h.o1 h.o2 x), hw⟩
theorem bu_0 {s n : Nat} {f : Nat → Nat → SC} {v : Nat → Int} {x : Nat} (h : buE s n f v x = 0) : cnF s n f = 0 ∧ ¬ hvF s n f v % M256 < x % M256 := by
  unfold buE at h
  by_cases h0 : cnF s n f ≠ 0
  · rw [if_pos h0] at h; exact absurd h h0
  · rw [if_neg h0] at h
    by_cases h1 : hvF s n f v % M256 < x % M256
    · rw [if_pos h1] at h; cases h
    · exact ⟨by simpa using h0, h1⟩
theorem of_bu {a a' : Option Addr} {s n : Nat} {f : Nat → Nat → SC} {v w : Nat → Int} {x : Nat} (h : ofP a n f v) (hw : by32 w) (h0 : buE s n f v x = 0) (ha : a' = none → buN s n f v x = 0) : ofP a' (buN s n f v x) (buF s n f v x) w := by
  have e : buN s n f v x = nW n f v (buY s n f v x) := by unfold buN; rw [if_pos h0]
  rw [e] at ha ⊢
  exact of_new h (cn_0 (bu_0 h0).1).1 hw ha
def moE (s n : Nat) (f : Nat → Nat → SC) (v w : Nat → Int) (x : Nat) : Int := if buE s n f v x ≠ 0 then buE s n f v x else miE (buS s n f v x) (buN s n f v x) (buF s n f v x) w x
def moS (s n : Nat) (f : Nat → Nat → SC) (v w : Nat → Int) (x : Nat) : Nat := if buE s n f v x ≠ 0 then 0 else miS (buS s n f v x) (buN s n f v x) (buF s n f v x) w x
def moN (s n : Nat) (f : Nat → Nat → SC) (v w : Nat → Int) (x : Nat) : Nat := if buE s n f v x ≠ 0 then 0 else miN (buS s n f v x) (buN s n f v x) (buF s n f v x) w x
def moF (s n : Nat) (f : Nat → Nat → SC) (v w : Nat → Int) (x : Nat) : Nat → Nat → SC := miF (buS s n f v x) (buN s n f v x) (buF s n f v x) w x
structure moP (a : Option Addr) (n : Nat) (f : Nat → Nat → SC) (v w : Nat → Int) : Prop where
  m1 : ofP a n f v
  m2 : by32 w
theorem ok_mo (s : Nat) (a : Option Addr) (n cap : Nat) (f : Nat → Nat → SC) (v w : Nat → Int) (x : Nat) (h : moP a n f v w) :
    OwesR Try.prog cx14 slMo [] 10 Try.f17 [sCf s a n cap f, sWh v, sWh w, sU x] true [.st [.k (.u (moS s n f v w x)), .s (moN s n f v w x) 36 (moF s n f v w x)], .v (sI .i64 (moE s n f v w x))] := by
  obtain ⟨S, hS⟩ : ∃ S, S = moS s n f v w x := ⟨_, rfl⟩
  obtain ⟨N, hN⟩ : ∃ N, N = moN s n f v w x := ⟨_, rfl⟩
  obtain ⟨e, he⟩ : ∃ e, e = moE s n f v w x := ⟨_, rfl⟩
  unfold moF
  rw [← hS, ← hN, ← he, vc_mo]
  intro x1 x2
  unfold moS at hS
  unfold moN at hN
  unfold moE at he
  have e1 : x1 = S % M256 := rfl
  have e2 : x2 = miN (buS s n f v x) (buN s n f v x) (buF s n f v x) w x := rfl
  clear_value x1 x2
  rw [e1, e2]
  refine ⟨h.m1, fun a' cap' ha _ => ⟨fun h0 => ?_, fun h0 => ?_⟩⟩
  · have h0 := bne_0 h0
    rw [if_pos h0] at he hS hN
    exact ⟨⟨⟨by rw [hS, Nat.zero_mod], trivial⟩, hN, trivial⟩, he.symm⟩
  · have h0 := bne_1 h0
    rw [if_neg fun q => q h0] at he hS hN
    exact ⟨of_bu h.m1 h.m2 h0 fun q => (ha q).1, fun _ _ _ _ => ⟨⟨⟨by rw [hS], trivial⟩, ⟨hN.symm, fun i _ => all_ho _ _ i⟩, trivial⟩, he.symm⟩⟩
def moC : List (List FD) → List Prop
  | [[.u _, .x a n _ f], [.y v], [.y w], [.u _]] => [moP a n f v w]
  | _ => [False]
def moG : List (List FD) → List RS
  | [[.u s, .x _ n _ f], [.y v], [.y w], [.u x]] => [.st [.k (.u (moS s n f v w x)), .s (moN s n f v w x) 36 (moF s n f v w x)], .v (sI .i64 (moE s n f v w x))]
  | _ => []
def cMo : SSpec := specQ0 true [.st [.u, .x 36], .st [.y 32], .st [.y 32], .st [.u]] moC moG
theorem oks_Mo : ∀ p ∈ slMo, FnOKs Try.prog cx14.gl p.1 p.2 := oks_cons card_bu (oks_cons card_mi oks_nil)
theorem card_mo {gl : Globs} : FnOKs Try.prog gl 17 cMo := by
  refine FnOKs.up0 (FnOKs_R0 (cx := cx14) okx_14 (sl := slMo) oks_Mo Try.func17 (by kernel_rfl) (by kernel_rfl) fun ls hc => ?_) gl
  unfold moC at hc
  split at hc
  · rename_i s a n cap f v w x
    obtain ⟨p, _⟩ := hc
    exact ⟨_, _, [sCf s a n cap f, sWh v, sWh w, sU x], fun _ => rfl, fun _ h => h, st_closed, ok_mo s a n cap f v w x p⟩
  · exact hc.1.elim
end Go.Proofs.Ytnkgniedhmnanaa
end

section
namespace Go.Proofs.Ytnkgniedhmnanaa
open Go Go.Sx Go.RowKit
set_option maxRecDepth 100000
theorem c_M256 : M256 = 4294967296 ^ 8 := rfl
theorem c_vD (D : Nat) : vn (lenDg D) (dg D) = D := vn_dg' (lenDg_lt D)
theorem c_vX (x : Nat) : vn 8 (dg (x % M256)) = x % M256 := vn_dg' (Nat.mod_lt _ (by decide))
theorem c_vS (D x : Nat) : vn (max (lenDg D) 8 + 1) (dg (D + x % M256)) = D + x % M256 := by
  have h1 := lenDg_lt D
  have h2 : x % M256 < 4294967296 ^ 8 := Nat.mod_lt _ (by decide)
  refine vn_dg' ?_
  generalize x % M256 = y at *
  generalize hm : max (lenDg D) 8 = m at *
  have h3 : 4294967296 ^ lenDg D ≤ 4294967296 ^ m := Nat.pow_le_pow_right (by decide) (by omega)
  have h4 : (4294967296 : Nat) ^ 8 ≤ 4294967296 ^ m := Nat.pow_le_pow_right (by decide) (by omega)
  rw [Nat.pow_succ]
  generalize 4294967296 ^ lenDg D = u at *
  generalize (4294967296 : Nat) ^ 8 = v at *
  generalize 4294967296 ^ m = t at *
  omega
theorem c_sum' {A : Nat → Nat} {n : Nat} (h : ∀ i, i < n → A i < M256) (hn : n ≤ 40) : ∀ y, y ≤ n → sumN A y ≤ 40 * M256
  | 0, _ => Nat.zero_le _
  | y + 1, hy => by
    have e : ∀ k, k ≤ n → sumN A k ≤ k * M256 := by
      intro k
      induction k with
      | zero => intro _; rw [Nat.zero_mul]; exact Nat.le_refl _
      | succ k ih =>
        intro hk
        have := ih (by omega)
        have := h k (by omega)
        rw [sumN, Nat.add_mul]
        omega
    exact Nat.le_trans (e _ hy) (Nat.mul_le_mul_right _ (by omega))
theorem c_len {A : Nat → Nat} {n : Nat} (h : ∀ i, i < n → A i < M256) (hn : n ≤ 40) {y : Nat} (hy : y ≤ n) : lenDg (sumN A y) ≤ 9 := by
  refine lenDg_le (Nat.lt_of_le_of_lt (c_sum' h hn y hy) ?_)
  rw [Nat.pow_succ, ← c_M256, Nat.mul_comm]
  have : 0 < M256 := by decide
  exact Nat.mul_lt_mul_of_pos_left (by decide) this
theorem kv_ho2 (W : Nat → Nat → Int) (A : Nat → Nat) (i : Nat) : (kv fun j => intsC (hoF W A i (0 + (0 + j)))) = kv (W i) := kv_congr fun j hj => by rw [Nat.zero_add]; exact ho_i hj
theorem by_ho2 {W : Nat → Nat → Int} {A : Nat → Nat} {i : Nat} (h : by32 (W i)) : ∀ j, j < 32 → 0 ≤ intsC (hoF W A i (0 + (0 + j))) ∧ intsC (hoF W A i (0 + (0 + j))) < 256 := fun j hj => by rw [Nat.zero_add, ho_i hj]; exact h j hj
theorem cmpI_0 (a b : Nat) : (cmpI a b != 0) = !decide (a = b) := by
  unfold cmpI
  by_cases h : a < b
  · rw [if_pos h, decide_eq_false (by omega)]; rfl
  · rw [if_neg h]
    by_cases k : b < a
    · rw [if_pos k, decide_eq_false (by omega)]; rfl
    · rw [if_neg k, decide_eq_true (by omega)]; rfl
theorem int_beq0 (i : Nat) : ((i : Int) == 0) = decide (i = 0) := by
  rw [Bool.eq_iff_iff, beq_iff_eq, decide_eq_true_eq]; omega
theorem b_step {i n : Nat} (hi : i < n) (hn : n ≤ maxLen) (K : Nat → Nat) (x : Nat) (b : Bool) :
    (b && !decide (x = 0) && (decide (i = 0) || decide (K (IntKind.i64.wrap ((i : Int) - 1)).toNat < K i))) = (b && (decide (x ≠ 0) && (decide (i = 0) || decide (K (i - 1) < K i)))) := by
  rw [decide_not, Bool.and_assoc]
  by_cases h : i = 0
  · rw [decide_eq_true h, Bool.true_or, Bool.true_or]
  · rw [w_pred (by omega) hi hn, Int.toNat_natCast]
theorem b_step0 {i : Nat} {x : Nat} {b t : Bool} (h : (b && !decide (x = 0)) = true → decide (i = 0) = true) :
    (b && !decide (x = 0)) = (b && (decide (x ≠ 0) && (decide (i = 0) || t))) := by
  rw [decide_not, ← Bool.and_assoc]
  cases q : (b && !decide (x = 0))
  · rfl
  · rw [h q]; rfl
theorem ok_cf' (s : Nat) (a : Option Addr) (n cap : Nat) (W : Nat → Nat → Int) (A : Nat → Nat) (h : hoP a n W A) (B : Nat → Bool) (hB : ∀ i, B i = ordB i (fun i => kv (W i)) A) (r : Int) (hr : r = cnE n (fun i => kv (W i)) A (s % M256)) :
    OwesR Try.prog cxCf slCf [(6, .inv (invCf a n cap W A s B))] 10 Try.f9 [sCn s a n cap W A] false [.v (sI .i64 r)] := by
  rw [vc_cf]
  intro b
  have z := sim_ho W A
  simp only [eq_self, implies_true, and_self, true_and, and_true, imp_self, z, lb_in, Int.toNat_natCast, join_limbs, Nat.mod_mod, c_vD, c_vX, c_vS, kv_ho2, kv_ho, cmpI_0, Bool.not_not, Bool.and_true]
  refine ⟨fun h0 => ?_, fun h0 => ⟨fun _ => rfl, ⟨0, none, 0, b⟩, Nat.zero_le _, ⟨rfl, rfl, rfl, rfl, rfl⟩, rfl, rfl, rfl, ?_, rfl, fun y hy => ⟨fun hl => ?_, fun hl => ?_⟩⟩⟩
  · have h0 := of_decide_eq_true h0
    rw [hr]; unfold cnE; rw [if_pos (by omega)]
  · show true = B 0
    rw [hB]; rfl
  · obtain ⟨i, p, q, c⟩ := y
    simp only at hy hl ⊢
    have h0 := of_decide_eq_false h0
    have hl := of_decide_eq_true hl
    have hl : i < n := by omega
    have hA := h.hA i hl
    have hm : A i % M256 = A i := Nat.mod_eq_of_lt hA
    have hlen := c_len h.hA (by omega) hy
    have hd8 : dgs 8 fun j => dg (A i) j := dgs_dg _ _
    have hmax : max (lenDg (sumN A i)) 8 + 1 ≤ 1000 := by omega
    simp only [hm, int_beq0]
    refine ⟨⟨by omega, by omega⟩, fun hd => ?_, fun hd => ⟨hd, hd, ?_, by_ho (h.hw i hl), fun _ _ _ _ => ⟨dgs_dg _ _, by omega, hd8, by omega, fun _ _ _ _ => ⟨dgs_dg _ _, hmax, fun a3 c3 _ _ => ⟨(i + 1, a3, c3, c), by show i + 1 ≤ n; omega, ⟨rfl, rfl, rfl, rfl, rfl⟩, ⟨rfl, rfl, rfl, fun _ _ => rfl⟩, ?_, w_succ hl h.hn, less_step hl⟩⟩⟩⟩, fun hd => ⟨fun he => ?_, fun _ _ _ _ => ⟨dgs_dg _ _, by omega, hd8, by omega, fun _ _ _ _ => ⟨dgs_dg _ _, hmax, fun a3 c3 _ _ => ⟨(i + 1, a3, c3, c), by show i + 1 ≤ n; omega, ⟨rfl, rfl, rfl, rfl, rfl⟩, ⟨rfl, rfl, rfl, fun _ _ => rfl⟩, ?_, w_succ hl h.hn, less_step hl⟩⟩⟩⟩⟩
    · simp only [Bool.and_eq_true, Bool.not_eq_true', decide_eq_false_iff_not] at hd
      rw [w_pred (by omega) hl h.hn]; omega
    · simp only [Bool.and_eq_true, Bool.not_eq_true', decide_eq_false_iff_not] at hd
      rw [w_pred (by omega) hl h.hn, Int.toNat_natCast]
      exact by_ho2 (h.hw _ (by omega))
    · show _ = B (i + 1)
      rw [hB (i + 1), ordB_succ, ← hB i]
      exact b_step hl h.hn (fun i => kv (W i)) (A i) (B i)
    · rw [he, Bool.true_and, Bool.not_eq_false'] at hd
      exact hd
    · show _ = B (i + 1)
      rw [hB (i + 1), ordB_succ, ← hB i]
      refine b_step0 fun he => ?_
      rw [he, Bool.true_and, Bool.not_eq_false'] at hd
      exact hd
  · obtain ⟨i, p, q, c⟩ := y
    simp only at hy hl ⊢
    have h0 := of_decide_eq_false h0
    have hl := of_decide_eq_false hl
    have e : i = n := by omega
    subst e
    have hlen := c_len h.hA (by omega) hy
    have hr : r = if ordB i (fun i => kv (W i)) A = true ∧ sumN A i = s % M256 then 0 else 12 := by rw [hr]; unfold cnE; rw [if_neg (by omega)]
    rw [← hB i] at hr
    refine ⟨fun hb => ⟨hb, fun _ _ _ _ => ⟨hb, dgs_dg _ _, by omega, dgs_dg _ _, by omega, fun hd => ?_, fun hd => ?_⟩⟩, fun hb => ?_⟩
    · rw [Bool.not_eq_true', decide_eq_false_iff_not] at hd
      rw [hr, if_neg fun q => hd q.2]
    · rw [Bool.not_eq_false', decide_eq_true_eq] at hd
      rw [hr, if_pos ⟨hb, hd⟩]
    · rw [hr, if_neg fun q => by rw [hb] at q; cases q.1]
theorem oks_Rf : ∀ p ∈ slRf, FnOKs Try.prog [] p.1 p.2 := oks_cons card_dOf (oks_cons card_dPlus (oks_cons card_dCompare (oks_cons card_dLess (oks_cons card_dShorn (oks_cons card_dWide (oks_cons card_dCut oks_nil))))))
theorem oks_Cf : ∀ p ∈ slCf, FnOKs Try.prog [] p.1 p.2 := oks_cons card_bf oks_Rf
theorem okx_Cf : CxOK Try.prog cxCf := by
  refine ⟨fun p hp => ?_, fun p hp => (by cases hp)⟩
  rcases List.mem_cons.1 hp with rfl | hp
  · exact FnOKg.up card_isZ []
  · exact (okx_mark (okx_mark (okx_mark (okx_mark (okx_mark (okx_mark (okx_mark okx_nil))))))).1 p hp
theorem card_cf {gl : Globs} : FnOKs Try.prog gl 9 cCn := by
  refine FnOKs.up0 (FnOKs_R0 (cx := cxCf) okx_Cf (sl := slCf) oks_Cf Try.func9 (by kernel_rfl) (by kernel_rfl) fun ls hc => ?_) gl
  unfold cnC at hc
  split at hc
  · rename_i s a n cap f
    obtain ⟨p, _⟩ := hc
    refine ⟨_, _, [sCn s a n cap (kOf f) (aH f)], fun _ => rfl, fun E hE => ?_, fun r hr => ?_, ok_cf' s a n cap (kOf f) (aH f) (hk_hoP p) _ (fun _ => rfl) _ rfl⟩
    · intro z hz
      rw [List.mem_singleton.1 hz]
      exact cn_bnd p (hE _ (List.mem_cons_self ..))
    · rw [List.mem_singleton.1 hr]; exact trivial
  · exact hc.1.elim
end Go.Proofs.Ytnkgniedhmnanaa
end

section
namespace Go.Proofs.Ytnkgniedhmnanaa
open Go Go.Sx Go.RowKit
set_option maxRecDepth 100000
def invHd (a : Option Addr) (n cap : Nat) (W : Nat → Nat → Int) (A : Nat → Nat) (v : Nat → Int) (P : Nat → Prop) : Inv where
  X := Nat
  tm y := slotsAt 22 [(3, .one (.sc (.ptr 1 0))), (4, .one (.sc (.ptr 2 0))), (8, .one (sHs a n cap W A)), (9, .one (sI .i64 (n : Int))), (10, .one (sI .i64 (y : Int)))]
  ob _ := [.dead, .cells 31 [.f .u8 32 v] 0, .cells 24 (List.replicate 4 (.c (.num .u64 0))) 0]
  holds y := y ≤ n ∧ P y
  less y := n - y
theorem vc_hd (s : Nat) (a : Option Addr) (n cap : Nat) (W : Nat → Nat → Int) (A : Nat → Nat) (v : Nat → Int) (P : Nat → Prop) (r : Nat) :
    OwesR Try.prog cx14 [] [(2, .inv (invHd a n cap W A v P))] 10 Try.f28 [sCn s a n cap W A, sWh v] false [.v (sU r)] =
    (let x1 : Nat := r % M256; (∀ (y : Nat), closedB (slotsAt 22 [(3, SV.one (SA.sc (SC.ptr 1 0))), (4, SV.one (SA.sc (SC.ptr 2 0))), (8, SV.one (sHs a n cap W A)), (9, SV.one (sI Go.IntKind.i64 (↑n : Int))), (10, SV.one (sI Go.IntKind.i64 (↑y : Int)))]) [SO.dead, SO.cells (31 : Go.TypeId) [SK.f Go.IntKind.u8 32 v] 0, SO.cells (24 : Go.TypeId) (List.replicate 4 (SK.c (SC.num Go.IntKind.u64 (0 : Int)))) 0] = Bool.true) ∧ ∃ (y : Nat), (y ≤ n ∧ P y) ∧ (a = a ∧ n = n ∧ cap = cap ∧ ∀ (i : Nat), i < n → simC (hoF W A i 0) (hoF W A i 0) ∧ simC (hoF W A i 1) (hoF W A i 1) ∧ simC (hoF W A i 2) (hoF W A i 2) ∧ simC (hoF W A i 3) (hoF W A i 3) ∧ simC (hoF W A i 4) (hoF W A i 4) ∧ simC (hoF W A i 5) (hoF W A i 5) ∧ simC (hoF W A i 6) (hoF W A i 6) ∧ simC (hoF W A i 7) (hoF W A i 7) ∧ simC (hoF W A i 8) (hoF W A i 8) ∧ simC (hoF W A i 9) (hoF W A i 9) ∧ simC (hoF W A i 10) (hoF W A i 10) ∧ simC (hoF W A i 11) (hoF W A i 11) ∧ simC (hoF W A i 12) (hoF W A i 12) ∧ simC (hoF W A i 13) (hoF W A i 13) ∧ simC (hoF W A i 14) (hoF W A i 14) ∧ simC (hoF W A i 15) (hoF W A i 15) ∧ simC (hoF W A i 16) (hoF W A i 16) ∧ simC (hoF W A i 17) (hoF W A i 17) ∧ simC (hoF W A i 18) (hoF W A i 18) ∧ simC (hoF W A i 19) (hoF W A i 19) ∧ simC (hoF W A i 20) (hoF W A i 20) ∧ simC (hoF W A i 21) (hoF W A i 21) ∧ simC (hoF W A i 22) (hoF W A i 22) ∧ simC (hoF W A i 23) (hoF W A i 23) ∧ simC (hoF W A i 24) (hoF W A i 24) ∧ simC (hoF W A i 25) (hoF W A i 25) ∧ simC (hoF W A i 26) (hoF W A i 26) ∧ simC (hoF W A i 27) (hoF W A i 27) ∧ simC (hoF W A i 28) (hoF W A i 28) ∧ simC (hoF W A i 29) (hoF W A i 29) ∧ simC (hoF W A i 30) (hoF W A i 30) ∧ simC (hoF W A i 31) (hoF W A i 31) ∧ simC (hoF W A i 32) (hoF W A i 32) ∧ simC (hoF W A i 33) (hoF W A i 33) ∧ simC (hoF W A i 34) (hoF W A i 34) ∧ limb (A i) 3 = limb (A i) 3) ∧ (↑n : Int) = (↑n : Int) ∧ (0 : Int) = (↑y : Int) ∧ ((∀ (j : Nat), j < 32 → v j = v j) ∧ True) ∧ 0 = 0 ∧ 0 = 0 ∧ ∀ (y : Nat), y ≤ n ∧ P y → (Decidable.decide ((↑y : Int) < (↑n : Int)) = Bool.true → ((0 : Int) ≤ (↑y : Int) ∧ (↑y : Int) < (↑n : Int)) ∧ (conj [(List.range 32).all fun (j : Nat) => intsC (hoF W A (↑y : Int).toNat (0 + j)) == v j] = Bool.true → ((0 : Int) ≤ limb (A (↑y : Int).toNat) 0 ∧ limb (A (↑y : Int).toNat) 0 < (18446744073709551616 : Int)) ∧ ((0 : Int) ≤ limb (A (↑y : Int).toNat) 1 ∧ limb (A (↑y : Int).toNat) 1 < (18446744073709551616 : Int)) ∧ ((0 : Int) ≤ limb (A (↑y : Int).toNat) 2 ∧ limb (A (↑y : Int).toNat) 2 < (18446744073709551616 : Int)) ∧ ((0 : Int) ≤ limb (A (↑y : Int).toNat) 3 ∧ limb (A (↑y : Int).toNat) 3 < (18446744073709551616 : Int)) ∧ join (limb (A (↑y : Int).toNat) 0) (limb (A (↑y : Int).toNat) 1) (limb (A (↑y : Int).toNat) 2) (limb (A (↑y : Int).toNat) 3) % M256 = x1 ∧ True) ∧ (conj [(List.range 32).all fun (j : Nat) => intsC (hoF W A (↑y : Int).toNat (0 + j)) == v j] = Bool.false → ∃ (y' : Nat), (y' ≤ n ∧ P y') ∧ (a = a ∧ n = n ∧ cap = cap ∧ ∀ (i : Nat), i < n → simC (hoF W A i 0) (hoF W A i 0) ∧ simC (hoF W A i 1) (hoF W A i 1) ∧ simC (hoF W A i 2) (hoF W A i 2) ∧ simC (hoF W A i 3) (hoF W A i 3) ∧ simC (hoF W A i 4) (hoF W A i 4) ∧ simC (hoF W A i 5) (hoF W A i 5) ∧ simC (hoF W A i 6) (hoF W A i 6) ∧ simC (hoF W A i 7) (hoF W A i 7) ∧ simC (hoF W A i 8) (hoF W A i 8) ∧ simC (hoF W A i 9) (hoF W A i 9) ∧ simC (hoF W A i 10) (hoF W A i 10) ∧ simC (hoF W A i 11) (hoF W A i 11) ∧ simC (hoF W A i 12) (hoF W A i 12) ∧ simC (hoF W A i 13) (hoF W A i 13) ∧ simC (hoF W A i 14) (hoF W A i 14) ∧ simC (hoF W A i 15) (hoF W A i 15) ∧ simC (hoF W A i 16) (hoF W A i 16) ∧ simC (hoF W A i 17) (hoF W A i 17) ∧ simC (hoF W A i 18) (hoF W A i 18) ∧ simC (hoF W A i 19) (hoF W A i 19) ∧ simC (hoF W A i 20) (hoF W A i 20) ∧ simC (hoF W A i 21) (hoF W A i 21) ∧ simC (hoF W A i 22) (hoF W A i 22) ∧ simC (hoF W A i 23) (hoF W A i 23) ∧ simC (hoF W A i 24) (hoF W A i 24) ∧ simC (hoF W A i 25) (hoF W A i 25) ∧ simC (hoF W A i 26) (hoF W A i 26) ∧ simC (hoF W A i 27) (hoF W A i 27) ∧ simC (hoF W A i 28) (hoF W A i 28) ∧ simC (hoF W A i 29) (hoF W A i 29) ∧ simC (hoF W A i 30) (hoF W A i 30) ∧ simC (hoF W A i 31) (hoF W A i 31) ∧ simC (hoF W A i 32) (hoF W A i 32) ∧ simC (hoF W A i 33) (hoF W A i 33) ∧ simC (hoF W A i 34) (hoF W A i 34) ∧ limb (A i) 3 = limb (A i) 3) ∧ (↑n : Int) = (↑n : Int) ∧ Go.IntKind.i64.wrap ((↑y : Int) + (1 : Int)) = (↑y' : Int) ∧ ((∀ (j : Nat), j < 32 → v j = v j) ∧ True) ∧ 0 = 0 ∧ 0 = 0 ∧ (n - y').succ.le (n - y))) ∧ (Decidable.decide ((↑y : Int) < (↑n : Int)) = Bool.false → 0 = x1 ∧ True)) := by kernel_rfl
end Go.Proofs.Ytnkgniedhmnanaa
end

section
namespace Go.Proofs.Ytnkgniedhmnanaa
open Go Go.Sx Go.RowKit
set_option maxRecDepth 100000
theorem hld_at {n y k : Nat} {K A : Nat → Nat} (ho : ordB n K A = true) (hy : y < n) (e : K y = k) : hldN n K A k = A y := by
  have hp : posN K k n = y := posN_eq (Nat.le_of_lt hy) (fun i hi => by rw [← e]; exact ord_lt ho hi hy) (fun i hi hj => by
    have := ord_le ho hi hj
    omega)
  unfold hldN isN
  rw [hp, decide_eq_true hy, decide_eq_true e, Bool.true_and, if_pos rfl]
theorem hld_no {n k : Nat} {K A : Nat → Nat} (h : ∀ i, i < n → K i ≠ k) : hldN n K A k = 0 := by
  unfold hldN
  rw [if_neg]
  intro q
  exact h _ (is_lt q).1 (is_lt q).2
theorem by_beq (W : Nat → Nat → Int) (A : Nat → Nat) (i : Nat) (v : Nat → Int) (hw : by32 (W i)) (hv : by32 v) : (conj [(List.range 32).all fun (j : Nat) => intsC (hoF W A i (0 + j)) == v j]) = decide (kv (W i) = kv v) := by
  show ((List.range 32).all fun (j : Nat) => intsC (hoF W A i (0 + j)) == v j) = _
  rw [← kv_beq hw hv, Bool.eq_iff_iff, List.all_eq_true, List.all_eq_true]
  constructor
  · intro h j hj
    have := h j hj
    rwa [ho_i (List.mem_range.1 hj)] at this
  · intro h j hj
    have := h j hj
    rwa [ho_i (List.mem_range.1 hj)]
theorem ok_hd (s : Nat) (a : Option Addr) (n cap : Nat) (W : Nat → Nat → Int) (A : Nat → Nat) (v : Nat → Int) (h : hoP a n W A) (ho : ordB n (fun i => kv (W i)) A = true) (hv : by32 v) :
    OwesR Try.prog cx14 [] [(2, .inv (invHd a n cap W A v fun y => ∀ i, i < y → kv (W i) ≠ kv v))] 10 Try.f28 [sCn s a n cap W A, sWh v] false [.v (sU (hldN n (fun i => kv (W i)) A (kv v)))] := by
  obtain ⟨r, hr⟩ : ∃ r, r = hldN n (fun i => kv (W i)) A (kv v) := ⟨_, rfl⟩
  rw [← hr, vc_hd]
  intro x1
  have e1 : x1 = r % M256 := rfl
  clear_value x1
  have z := sim_ho W A
  simp only [eq_self, implies_true, and_self, true_and, and_true, imp_self, z, lb_in, Int.toNat_natCast, join_limbs, Nat.mod_mod]
  refine ⟨fun _ => rfl, 0, ⟨Nat.zero_le _, fun i hi => absurd hi (Nat.not_lt_zero _)⟩, rfl, fun y hy => ⟨fun hl => ?_, fun hl => ?_⟩⟩
  · have hl := of_decide_eq_true hl
    have hl : y < n := by omega
    rw [by_beq W A y v (h.hw y hl) hv]
    refine ⟨⟨by omega, by omega⟩, fun hd => ?_, fun hd => ⟨y + 1, ⟨by omega, fun i hi => ?_⟩, w_succ hl h.hn, less_step hl⟩⟩
    · rw [e1, hr, hld_at ho hl (of_decide_eq_true hd)]
    · have hd := of_decide_eq_false hd
      rcases Nat.lt_or_ge i y with q | q
      · exact hy.2 i q
      · rw [show i = y by omega]; exact hd
  · have hl := of_decide_eq_false hl
    have e2 : y = n := by omega
    subst e2
    rw [e1, hr, hld_no hy.2, Nat.zero_mod]
def hdC : List (List FD) → List Prop
  | [[.u _, .x a n _ f], [.y v]] => [fiP a n f v]
  | _ => [False]
def hdG : List (List FD) → List RS
  | [[.u _, .x _ n _ f], [.y v]] => [.v (sU (hldN n (kH f) (aH f) (kv v)))]
  | _ => []
def cHd : SSpec := specQ0 false [.st [.u, .x 36], .st [.y 32]] hdC hdG
theorem card_hd {gl : Globs} : FnOKs Try.prog gl 28 cHd := by
  refine FnOKs.up0 (FnOKs_R0 (cx := cx14) okx_14 (sl := []) oks_nil Try.func28 (by kernel_rfl) (by kernel_rfl) fun ls hc => ?_) gl
  unfold hdC at hc
  split at hc
  · rename_i s a n cap f v
    obtain ⟨p, _⟩ := hc
    refine ⟨_, _, [sCn s a n cap (kOf f) (aH f), sWh v], fun _ => rfl, fun E hE => ?_, fun r hr => ?_, ok_hd s a n cap (kOf f) (aH f) v (hk_hoP p.f1) p.f2 p.f3⟩
    · intro z hz
      simp only [List.mem_cons, List.not_mem_nil, or_false] at hz
      rcases hz with rfl | rfl
      · exact cn_bnd p.f1 (hE _ (List.mem_cons_self ..))
      · exact hE _ (List.mem_cons_of_mem _ (List.mem_cons_self ..))
    · rw [List.mem_singleton.1 hr]; exact bnd_Un _
  · exact hc.1.elim
end Go.Proofs.Ytnkgniedhmnanaa
end

section
namespace Go.Proofs.Ytnkgniedhmnanaa
open Go Go.Sx Go.RowKit
set_option maxRecDepth 100000
def seO (s : Nat) (a : Option Addr) (n cap : Nat) (W : Nat → Nat → Int) (A : Nat → Nat) (v : Nat → Int) (x : Nat) : List SO := [.cells 27 [.u s, .c (.xs a n cap 36 (hoF W A))] 0, .cells 31 [.f .u8 32 v] 0, .cells 24 [.u x] 0, .cells 27 [.c (.num .u64 0), .c (.num .u64 0), .c (.num .u64 0), .c (.num .u64 0), .c (.val (.slice none 0 0))] 0]
def seT (a : Option Addr) (n cap : Nat) (W : Nat → Nat → Int) (A : Nat → Nat) (o : SC) (b : Bool) (i : Nat) : List SV := slotsAt 56 [(3, .one (.sc (.ptr 0 0))), (4, .one (.sc (.ptr 1 0))), (5, .one (.sc (.ptr 2 0))), (6, .one (.sc (.ptr 3 0))), (7, .one (.sc o)), (8, .one (sB b)), (14, .one (sHs a n cap W A)), (15, .one (sI .i64 (n : Int))), (16, .one (sI .i64 (i : Int)))]
def invSeL (s : Nat) (a : Option Addr) (n cap : Nat) (W : Nat → Nat → Int) (A : Nat → Nat) (v : Nat → Int) (x : Nat) (N : Nat → Nat) (B : Nat → Bool) : Inv where
  X := Nat
  tm i := seT a n cap W A (.val (.slice none 0 0)) (B i) i
  ob _ := seO s a n cap W A v x
  holds i := i ≤ n ∧ N i = 0
  less i := n - i
def invSeM (s : Nat) (a : Option Addr) (n cap : Nat) (W : Nat → Nat → Int) (A : Nat → Nat) (v : Nat → Int) (x : Nat) (N : Nat → Nat) (B : Nat → Bool) (W' : Nat → Nat → Int) (A' : Nat → Nat) : Inv where
  X := Nat × Nat
  tm y := seT a n cap W A (.slw 4 36 0 (N y.1) (N y.1 + y.2)) (B y.1) y.1
  ob y := seO s a n cap W A v x ++ [.row 47 36 (N y.1) (hoF W' A') (y.2 * 36)]
  holds y := y.1 ≤ n ∧ 0 < N y.1 ∧ N y.1 + y.2 ≤ maxLen
  less y := n - y.1
def pick7 (tm : List SV) (_ : List SO) : Bool := match tm.getD 7 .any with
  | .one (.sc (.val _)) => true
  | _ => false
def cxSe : Cx := ⟨[(21, specU isZH), (1000000007, fun _ => none), (1000000014, fun _ => none)], [], 0, []⟩
def slSe : List (Nat × SSpec) := [(22, cBf)]
set_option maxHeartbeats 4000000 in
theorem vc_se (s : Nat) (a : Option Addr) (n cap : Nat) (W : Nat → Nat → Int) (A : Nat → Nat) (v : Nat → Int) (x : Nat) (N : Nat → Nat) (B : Nat → Bool) (n' : Nat) (W' : Nat → Nat → Int) (A' : Nat → Nat) :
    OwesR Try.prog cxSe slSe [(4, .inv2 (invSeL s a n cap W A v x N B) (invSeM s a n cap W A v x N B W' A') pick7)] 10 Try.f32 [sCn s a n cap W A, sWh v, sU x] false [.st [.k (.u s), .s n' 36 (hoF W' A')]] =
    (let x1 : Nat := s % M256; let x2 : Nat := x % M256; (∀ (y : Nat), closedB (seT a n cap W A (SC.val (Go.Value.slice Option.none 0 0)) (B y) y) (seO s a n cap W A v x) = Bool.true) ∧ (∀ (y : Nat × Nat), closedB (seT a n cap W A (SC.slw 4 36 0 (N y.fst) (N y.fst + y.snd)) (B y.fst) y.fst) (seO s a n cap W A v x ++ [SO.row (47 : Go.TypeId) 36 (N y.fst) (hoF W' A') (y.snd * 36)]) = Bool.true) ∧ (∀ (y : Nat × Nat), y.fst ≤ n ∧ 0 < N y.fst ∧ N y.fst + y.snd ≤ Go.maxLen → (Decidable.decide ((↑y.fst : Int) < (↑n : Int)) = Bool.true → ((0 : Int) ≤ (↑y.fst : Int) ∧ (↑y.fst : Int) < (↑n : Int)) ∧ ((!B y.fst) = Bool.true → (!B y.fst) = Bool.true) ∧ ((!B y.fst) = Bool.true → (!B y.fst) = Bool.true ∧ (!B y.fst) = Bool.true ∧ (∀ (j : Nat), j < 32 → intsC (hoF W A (↑y.fst : Int).toNat (0 + j)) = intsC (hoF W A (↑y.fst : Int).toNat (0 + j))) ∧ (∀ (j : Nat), j < 32 → v j = v j) ∧ (∀ (j : Nat), j < 32 → (0 : Int) ≤ intsC (hoF W A (↑y.fst : Int).toNat (0 + j)) ∧ intsC (hoF W A (↑y.fst : Int).toNat (0 + j)) < (256 : Int)) ∧ (∀ (j : Nat), j < 32 → (0 : Int) ≤ v j ∧ v j < (256 : Int)) ∧ ((!Decidable.decide ((kv fun (j : Nat) => intsC (hoF W A (↑y.fst : Int).toNat (0 + j))) < kv v)) = Bool.true → 0 = 0 ∧ N y.fst = N y.fst ∧ (N y.fst ≤ N y.fst + y.snd ∧ N y.fst + y.snd ≤ Go.maxLen ∧ (N y.fst + y.snd) * 36 = N y.fst * 36 + y.snd * 36) ∧ (N y.fst + 1 ≤ Go.maxLen ∧ (N y.fst + 1) * 64 ≤ 140737488355328) ∧ ∀ (c : Nat), N y.fst + 1 + c ≤ Go.maxLen → ((!conj [(List.range 32).all fun (j : Nat) => intsC (hoF W A (↑y.fst : Int).toNat (0 + j)) == v j]) = Bool.true → 0 = 0 ∧ N y.fst + 1 = N y.fst + 1 ∧ (N y.fst + 1 ≤ N y.fst + 1 + c ∧ N y.fst + 1 + c ≤ Go.maxLen ∧ (N y.fst + 1 + c) * 36 = (N y.fst + 1) * 36 + c * 36) ∧ (N y.fst + 1 + 1 ≤ Go.maxLen ∧ (N y.fst + 1 + 1) * 64 ≤ 140737488355328) ∧ ∀ (c : Nat), N y.fst + 1 + 1 + c ≤ Go.maxLen → ∃ (y' : Nat × Nat), (y'.fst ≤ n ∧ 0 < N y'.fst ∧ N y'.fst + y'.snd ≤ Go.maxLen) ∧ (4 = 4 ∧ 36 = 36 ∧ 0 = 0 ∧ N y.fst + 1 + 1 = N y'.fst ∧ N y.fst + 1 + 1 + c = N y'.fst + y'.snd) ∧ Bool.true = B y'.fst ∧ simC (SC.xs a n cap 36 (hoF W A)) (SC.xs a n cap 36 (hoF W A)) ∧ (↑n : Int) = (↑n : Int) ∧ Go.IntKind.i64.wrap ((↑y.fst : Int) + (1 : Int)) = (↑y'.fst : Int) ∧ x1 = x1 ∧ simC (SC.xs a n cap 36 (hoF W A)) (SC.xs a n cap 36 (hoF W A)) ∧ 0 = 0 ∧ ((∀ (j : Nat), j < 32 → v j = v j) ∧ True) ∧ 0 = 0 ∧ x2 = x2 ∧ 0 = 0 ∧ Go.Value.slice Option.none 0 0 = Go.Value.slice Option.none 0 0 ∧ 0 = 0 ∧ N y.fst + 1 + 1 = N y'.fst ∧ c * 36 = y'.snd * 36 ∧ (∀ (i : Nat), i < N y.fst + 1 + 1 → (bif Decidable.decide (i < N y.fst + 1) then bif Decidable.decide (i < N y.fst) then W' i 0 else v 0 else W (↑y.fst : Int).toNat 0) = W' i 0 ∧ (bif Decidable.decide (i < N y.fst + 1) then bif Decidable.decide (i < N y.fst) then W' i 1 else v 1 else W (↑y.fst : Int).toNat 1) = W' i 1 ∧ (bif Decidable.decide (i < N y.fst + 1) then bif Decidable.decide (i < N y.fst) then W' i 2 else v 2 else W (↑y.fst : Int).toNat 2) = W' i 2 ∧ (bif Decidable.decide (i < N y.fst + 1) then bif Decidable.decide (i < N y.fst) then W' i 3 else v 3 else W (↑y.fst : Int).toNat 3) = W' i 3 ∧ (bif Decidable.decide (i < N y.fst + 1) then bif Decidable.decide (i < N y.fst) then W' i 4 else v 4 else W (↑y.fst : Int).toNat 4) = W' i 4 ∧ (bif Decidable.decide (i < N y.fst + 1) then bif Decidable.decide (i < N y.fst) then W' i 5 else v 5 else W (↑y.fst : Int).toNat 5) = W' i 5 ∧ (bif Decidable.decide (i < N y.fst + 1) then bif Decidable.decide (i < N y.fst) then W' i 6 else v 6 else W (↑y.fst : Int).toNat 6) = W' i 6 ∧ (bif Decidable.decide (i < N y.fst + 1) then bif Decidable.decide (i < N y.fst) then W' i 7 else v 7 else W (↑y.fst : Int).toNat 7) = W' i 7 ∧ (bif Decidable.decide (i < N y.fst + 1) then bif Decidable.decide (i < N y.fst) then W' i 8 else v 8 else W (↑y.fst : Int).toNat 8) = W' i 8 ∧ (bif Decidable.decide (i < N y.fst + 1) then bif Decidable.decide (i < N y.fst) then W' i 9 else v 9 else W (↑y.fst : Int).toNat 9) = W' i 9 ∧ (bif Decidable.decide (i < N y.fst + 1) then bif Decidable.decide (i < N y.fst) then W' i 10 else v 10 else W (↑y.fst : Int).toNat 10) = W' i 10 ∧ (bif Decidable.decide (i < N y.fst + 1) then bif Decidable.decide (i < N y.fst) then W' i 11 else v 11 else W (↑y.fst : Int).toNat 11) = W' i 11 ∧ (bif Decidable.decide (i < N y.fst + 1) then bif Decidable.decide (i < N y.fst) then W' i 12 else v 12 else W (↑y.fst : Int).toNat 12) = W' i 12 ∧ (bif Decidable.decide (i < N y.fst + 1) then bif Decidable.decide (i < N y.fst) then W' i 13 else v 13 else W (↑y.fst : Int).toNat 13) = W' i 13 ∧ (bif Decidable.decide (i < N y.fst + 1) then bif Decidable.decide (i < N y.fst) then W' i 14 else v 14 else W (↑y.fst : Int).toNat 14) = W' i 14 ∧ (bif Decidable.decide (i < N y.fst + 1) then bif Decidable.decide (i < N y.fst) then W' i 15 else v 15 else W (↑y.fst : Int).toNat 15) = W' i 15 ∧ (bif Decidable.decide (i < N y.fst + 1) then bif Decidable.decide (i < N y.fst) then W' i 16 else v 16 else W (↑y.fst : Int).toNat 16) = W' i 16 ∧ (bif Decidable.decide (i < N y.fst + 1) then bif Decidable.decide (i < N y.fst) then W' i 17 else v 17 else W (↑y.fst : Int).toNat 17) = W' i 17 ∧ (bif Decidable.decide (i < N y.fst + 1) then bif Decidable.decide (i < N y.fst) then W' i 18 else v 18 else W (↑y.fst : Int).toNat 18) = W' i 18 ∧ (bif Decidable.decide (i < N y.fst + 1) then bif Decidable.decide (i < N y.fst) then W' i 19 else v 19 else W (↑y.fst : Int).toNat 19) = W' i 19 ∧ (bif Decidable.decide (i < N y.fst + 1) then bif Decidable.decide (i < N y.fst) then W' i 20 else v 20 else W (↑y.fst : Int).toNat 20) = W' i 20 ∧ (bif Decidable.decide (i < N y.fst + 1) then bif Decidable.decide (i < N y.fst) then W' i 21 else v 21 else W (↑y.fst : Int).toNat 21) = W' i 21 ∧ (bif Decidable.decide (i < N y.fst + 1) then bif Decidable.decide (i < N y.fst) then W' i 22 else v 22 else W (↑y.fst : Int).toNat 22) = W' i 22 ∧ (bif Decidable.decide (i < N y.fst + 1) then bif Decidable.decide (i < N y.fst) then W' i 23 else v 23 else W (↑y.fst : Int).toNat 23) = W' i 23 ∧ (bif Decidable.decide (i < N y.fst + 1) then bif Decidable.decide (i < N y.fst) then W' i 24 else v 24 else W (↑y.fst : Int).toNat 24) = W' i 24 ∧ (bif Decidable.decide (i < N y.fst + 1) then bif Decidable.decide (i < N y.fst) then W' i 25 else v 25 else W (↑y.fst : Int).toNat 25) = W' i 25 ∧ (bif Decidable.decide (i < N y.fst + 1) then bif Decidable.decide (i < N y.fst) then W' i 26 else v 26 else W (↑y.fst : Int).toNat 26) = W' i 26 ∧ (bif Decidable.decide (i < N y.fst + 1) then bif Decidable.decide (i < N y.fst) then W' i 27 else v 27 else W (↑y.fst : Int).toNat 27) = W' i 27 ∧ (bif Decidable.decide (i < N y.fst + 1) then bif Decidable.decide (i < N y.fst) then W' i 28 else v 28 else W (↑y.fst : Int).toNat 28) = W' i 28 ∧ (bif Decidable.decide (i < N y.fst + 1) then bif Decidable.decide (i < N y.fst) then W' i 29 else v 29 else W (↑y.fst : Int).toNat 29) = W' i 29 ∧ (bif Decidable.decide (i < N y.fst + 1) then bif Decidable.decide (i < N y.fst) then W' i 30 else v 30 else W (↑y.fst : Int).toNat 30) = W' i 30 ∧ (bif Decidable.decide (i < N y.fst + 1) then bif Decidable.decide (i < N y.fst) then W' i 31 else v 31 else W (↑y.fst : Int).toNat 31) = W' i 31 ∧ (bif Decidable.decide (i < N y.fst + 1) then bif Decidable.decide (i < N y.fst) then limb (A' i) 0 else limb x 0 else limb (A (↑y.fst : Int).toNat) 0) = limb (A' i) 0 ∧ (bif Decidable.decide (i < N y.fst + 1) then bif Decidable.decide (i < N y.fst) then limb (A' i) 1 else limb x 1 else limb (A (↑y.fst : Int).toNat) 1) = limb (A' i) 1 ∧ (bif Decidable.decide (i < N y.fst + 1) then bif Decidable.decide (i < N y.fst) then limb (A' i) 2 else limb x 2 else limb (A (↑y.fst : Int).toNat) 2) = limb (A' i) 2 ∧ (bif Decidable.decide (i < N y.fst + 1) then bif Decidable.decide (i < N y.fst) then limb (A' i) 3 else limb x 3 else limb (A (↑y.fst : Int).toNat) 3) = limb (A' i) 3) ∧ (n - y'.fst).succ.le (n - y.fst)) ∧ ((!conj [(List.range 32).all fun (j : Nat) => intsC (hoF W A (↑y.fst : Int).toNat (0 + j)) == v j]) = Bool.false → ∃ (y' : Nat × Nat), (y'.fst ≤ n ∧ 0 < N y'.fst ∧ N y'.fst + y'.snd ≤ Go.maxLen) ∧ (4 = 4 ∧ 36 = 36 ∧ 0 = 0 ∧ N y.fst + 1 = N y'.fst ∧ N y.fst + 1 + c = N y'.fst + y'.snd) ∧ Bool.true = B y'.fst ∧ simC (SC.xs a n cap 36 (hoF W A)) (SC.xs a n cap 36 (hoF W A)) ∧ (↑n : Int) = (↑n : Int) ∧ Go.IntKind.i64.wrap ((↑y.fst : Int) + (1 : Int)) = (↑y'.fst : Int) ∧ x1 = x1 ∧ simC (SC.xs a n cap 36 (hoF W A)) (SC.xs a n cap 36 (hoF W A)) ∧ 0 = 0 ∧ ((∀ (j : Nat), j < 32 → v j = v j) ∧ True) ∧ 0 = 0 ∧ x2 = x2 ∧ 0 = 0 ∧ Go.Value.slice Option.none 0 0 = Go.Value.slice Option.none 0 0 ∧ 0 = 0 ∧ N y.fst + 1 = N y'.fst ∧ c * 36 = y'.snd * 36 ∧ (∀ (i : Nat), i < N y.fst + 1 → (bif Decidable.decide (i < N y.fst) then W' i 0 else v 0) = W' i 0 ∧ (bif Decidable.decide (i < N y.fst) then W' i 1 else v 1) = W' i 1 ∧ (bif Decidable.decide (i < N y.fst) then W' i 2 else v 2) = W' i 2 ∧ (bif Decidable.decide (i < N y.fst) then W' i 3 else v 3) = W' i 3 ∧ (bif Decidable.decide (i < N y.fst) then W' i 4 else v 4) = W' i 4 ∧ (bif Decidable.decide (i < N y.fst) then W' i 5 else v 5) = W' i 5 ∧ (bif Decidable.decide (i < N y.fst) then W' i 6 else v 6) = W' i 6 ∧ (bif Decidable.decide (i < N y.fst) then W' i 7 else v 7) = W' i 7 ∧ (bif Decidable.decide (i < N y.fst) then W' i 8 else v 8) = W' i 8 ∧ (bif Decidable.decide (i < N y.fst) then W' i 9 else v 9) = W' i 9 ∧ (bif Decidable.decide (i < N y.fst) then W' i 10 else v 10) = W' i 10 ∧ (bif Decidable.decide (i < N y.fst) then W' i 11 else v 11) = W' i 11 ∧ (bif Decidable.decide (i < N y.fst) then W' i 12 else v 12) = W' i 12 ∧ (bif Decidable.decide (i < N y.fst) then W' i 13 else v 13) = W' i 13 ∧ (bif Decidable.decide (i < N y.fst) then W' i 14 else v 14) = W' i 14 ∧ (bif Decidable.decide (i < N y.fst) then W' i 15 else v 15) = W' i 15 ∧ (bif Decidable.decide (i < N y.fst) then W' i 16 else v 16) = W' i 16 ∧ (bif Decidable.decide (i < N y.fst) then W' i 17 else v 17) = W' i 17 ∧ (bif Decidable.decide (i < N y.fst) then W' i 18 else v 18) = W' i 18 ∧ (bif Decidable.decide (i < N y.fst) then W' i 19 else v 19) = W' i 19 ∧ (bif Decidable.decide (i < N y.fst) then W' i 20 else v 20) = W' i 20 ∧ (bif Decidable.decide (i < N y.fst) then W' i 21 else v 21) = W' i 21 ∧ (bif Decidable.decide (i < N y.fst) then W' i 22 else v 22) = W' i 22 ∧ (bif Decidable.decide (i < N y.fst) then W' i 23 else v 23) = W' i 23 ∧ (bif Decidable.decide (i < N y.fst) then W' i 24 else v 24) = W' i 24 ∧ (bif Decidable.decide (i < N y.fst) then W' i 25 else v 25) = W' i 25 ∧ (bif Decidable.decide (i < N y.fst) then W' i 26 else v 26) = W' i 26 ∧ (bif Decidable.decide (i < N y.fst) then W' i 27 else v 27) = W' i 27 ∧ (bif Decidable.decide (i < N y.fst) then W' i 28 else v 28) = W' i 28 ∧ (bif Decidable.decide (i < N y.fst) then W' i 29 else v 29) = W' i 29 ∧ (bif Decidable.decide (i < N y.fst) then W' i 30 else v 30) = W' i 30 ∧ (bif Decidable.decide (i < N y.fst) then W' i 31 else v 31) = W' i 31 ∧ (bif Decidable.decide (i < N y.fst) then limb (A' i) 0 else limb x 0) = limb (A' i) 0 ∧ (bif Decidable.decide (i < N y.fst) then limb (A' i) 1 else limb x 1) = limb (A' i) 1 ∧ (bif Decidable.decide (i < N y.fst) then limb (A' i) 2 else limb x 2) = limb (A' i) 2 ∧ (bif Decidable.decide (i < N y.fst) then limb (A' i) 3 else limb x 3) = limb (A' i) 3) ∧ (n - y'.fst).succ.le (n - y.fst))) ∧ ((!Decidable.decide ((kv fun (j : Nat) => intsC (hoF W A (↑y.fst : Int).toNat (0 + j))) < kv v)) = Bool.false → ((!conj [(List.range 32).all fun (j : Nat) => intsC (hoF W A (↑y.fst : Int).toNat (0 + j)) == v j]) = Bool.true → 0 = 0 ∧ N y.fst = N y.fst ∧ (N y.fst ≤ N y.fst + y.snd ∧ N y.fst + y.snd ≤ Go.maxLen ∧ (N y.fst + y.snd) * 36 = N y.fst * 36 + y.snd * 36) ∧ (N y.fst + 1 ≤ Go.maxLen ∧ (N y.fst + 1) * 64 ≤ 140737488355328) ∧ ∀ (c : Nat), N y.fst + 1 + c ≤ Go.maxLen → ∃ (y' : Nat × Nat), (y'.fst ≤ n ∧ 0 < N y'.fst ∧ N y'.fst + y'.snd ≤ Go.maxLen) ∧ (4 = 4 ∧ 36 = 36 ∧ 0 = 0 ∧ N y.fst + 1 = N y'.fst ∧ N y.fst + 1 + c = N y'.fst + y'.snd) ∧ B y.fst = B y'.fst ∧ simC (SC.xs a n cap 36 (hoF W A)) (SC.xs a n cap 36 (hoF W A)) ∧ (↑n : Int) = (↑n : Int) ∧ Go.IntKind.i64.wrap ((↑y.fst : Int) + (1 : Int)) = (↑y'.fst : Int) ∧ x1 = x1 ∧ simC (SC.xs a n cap 36 (hoF W A)) (SC.xs a n cap 36 (hoF W A)) ∧ 0 = 0 ∧ ((∀ (j : Nat), j < 32 → v j = v j) ∧ True) ∧ 0 = 0 ∧ x2 = x2 ∧ 0 = 0 ∧ Go.Value.slice Option.none 0 0 = Go.Value.slice Option.none 0 0 ∧ 0 = 0 ∧ N y.fst + 1 = N y'.fst ∧ c * 36 = y'.snd * 36 ∧ (∀ (i : Nat), i < N y.fst + 1 → (bif Decidable.decide (i < N y.fst) then W' i 0 else W (↑y.fst : Int).toNat 0) = W' i 0 ∧ (bif Decidable.decide (i < N y.fst) then W' i 1 else W (↑y.fst : Int).toNat 1) = W' i 1 ∧ (bif Decidable.decide (i < N y.fst) then W' i 2 else W (↑y.fst : Int).toNat 2) = W' i 2 ∧ (bif Decidable.decide (i < N y.fst) then W' i 3 else W (↑y.fst : Int).toNat 3) = W' i 3 ∧ (bif Decidable.decide (i < N y.fst) then W' i 4 else W (↑y.fst : Int).toNat 4) = W' i 4 ∧ (bif Decidable.decide (i < N y.fst) then W' i 5 else W (↑y.fst : Int).toNat 5) = W' i 5 ∧ (bif Decidable.decide (i < N y.fst) then W' i 6 else W (↑y.fst : Int).toNat 6) = W' i 6 ∧ (bif Decidable.decide (i < N y.fst) then W' i 7 else W (↑y.fst : Int).toNat 7) = W' i 7 ∧ (bif Decidable.decide (i < N y.fst) then W' i 8 else W (↑y.fst : Int).toNat 8) = W' i 8 ∧ (bif Decidable.decide (i < N y.fst) then W' i 9 else W (↑y.fst : Int).toNat 9) = W' i 9 ∧ (bif Decidable.decide (i < N y.fst) then W' i 10 else W (↑y.fst : Int).toNat 10) = W' i 10 ∧ (bif Decidable.decide (i < N y.fst) then W' i 11 else W (↑y.fst : Int).toNat 11) = W' i 11 ∧ (bif Decidable.decide (i < N y.fst) then W' i 12 else W (↑y.fst : Int).toNat 12) = W' i 12 ∧ (bif Decidable.decide (i < N y.fst) then W' i 13 else W (↑y.fst : Int).toNat 13) = W' i 13 ∧ (bif Decidable.decide (i < N y.fst) then W' i 14 else W (↑y.fst : Int).toNat 14) = W' i 14 ∧ (bif Decidable.decide (i < N y.fst) then W' i 15 else W (↑y.fst : Int).toNat 15) = W' i 15 ∧ (bif Decidable.decide (i < N y.fst) then W' i 16 else W (↑y.fst : Int).toNat 16) = W' i 16 ∧ (bif Decidable.decide (i < N y.fst) then W' i 17 else W (↑y.fst : Int).toNat 17) = W' i 17 ∧ (bif Decidable.decide (i < N y.fst) then W' i 18 else W (↑y.fst : Int).toNat 18) = W' i 18 ∧ (bif Decidable.decide (i < N y.fst) then W' i 19 else W (↑y.fst : Int).toNat 19) = W' i 19 ∧ (bif Decidable.decide (i < N y.fst) then W' i 20 else W (↑y.fst : Int).toNat 20) = W' i 20 ∧ (bif Decidable.decide (i < N y.fst) then W' i 21 else W (↑y.fst : Int).toNat 21) = W' i 21 ∧ (bif Decidable.decide (i < N y.fst) then W' i 22 else W (↑y.fst : Int).toNat 22) = W' i 22 ∧ (bif Decidable.decide (i < N y.fst) then W' i 23 else W (↑y.fst : Int).toNat 23) = W' i 23 ∧ (bif Decidable.decide (i < N y.fst) then W' i 24 else W (↑y.fst : Int).toNat 24) = W' i 24 ∧ (bif Decidable.decide (i < N y.fst) then W' i 25 else W (↑y.fst : Int).toNat 25) = W' i 25 ∧ (bif Decidable.decide (i < N y.fst) then W' i 26 else W (↑y.fst : Int).toNat 26) = W' i 26 ∧ (bif Decidable.decide (i < N y.fst) then W' i 27 else W (↑y.fst : Int).toNat 27) = W' i 27 ∧ (bif Decidable.decide (i < N y.fst) then W' i 28 else W (↑y.fst : Int).toNat 28) = W' i 28 ∧ (bif Decidable.decide (i < N y.fst) then W' i 29 else W (↑y.fst : Int).toNat 29) = W' i 29 ∧ (bif Decidable.decide (i < N y.fst) then W' i 30 else W (↑y.fst : Int).toNat 30) = W' i 30 ∧ (bif Decidable.decide (i < N y.fst) then W' i 31 else W (↑y.fst : Int).toNat 31) = W' i 31 ∧ (bif Decidable.decide (i < N y.fst) then limb (A' i) 0 else limb (A (↑y.fst : Int).toNat) 0) = limb (A' i) 0 ∧ (bif Decidable.decide (i < N y.fst) then limb (A' i) 1 else limb (A (↑y.fst : Int).toNat) 1) = limb (A' i) 1 ∧ (bif Decidable.decide (i < N y.fst) then limb (A' i) 2 else limb (A (↑y.fst : Int).toNat) 2) = limb (A' i) 2 ∧ (bif Decidable.decide (i < N y.fst) then limb (A' i) 3 else limb (A (↑y.fst : Int).toNat) 3) = limb (A' i) 3) ∧ (n - y'.fst).succ.le (n - y.fst)) ∧ ((!conj [(List.range 32).all fun (j : Nat) => intsC (hoF W A (↑y.fst : Int).toNat (0 + j)) == v j]) = Bool.false → ∃ (y' : Nat × Nat), (y'.fst ≤ n ∧ 0 < N y'.fst ∧ N y'.fst + y'.snd ≤ Go.maxLen) ∧ (4 = 4 ∧ 36 = 36 ∧ 0 = 0 ∧ N y.fst = N y'.fst ∧ N y.fst + y.snd = N y'.fst + y'.snd) ∧ B y.fst = B y'.fst ∧ simC (SC.xs a n cap 36 (hoF W A)) (SC.xs a n cap 36 (hoF W A)) ∧ (↑n : Int) = (↑n : Int) ∧ Go.IntKind.i64.wrap ((↑y.fst : Int) + (1 : Int)) = (↑y'.fst : Int) ∧ x1 = x1 ∧ simC (SC.xs a n cap 36 (hoF W A)) (SC.xs a n cap 36 (hoF W A)) ∧ 0 = 0 ∧ ((∀ (j : Nat), j < 32 → v j = v j) ∧ True) ∧ 0 = 0 ∧ x2 = x2 ∧ 0 = 0 ∧ Go.Value.slice Option.none 0 0 = Go.Value.slice Option.none 0 0 ∧ 0 = 0 ∧ N y.fst = N y'.fst ∧ y.snd * 36 = y'.snd * 36 ∧ (∀ (i : Nat), i < N y.fst → W' i 0 = W' i 0 ∧ W' i 1 = W' i 1 ∧ W' i 2 = W' i 2 ∧ W' i 3 = W' i 3 ∧ W' i 4 = W' i 4 ∧ W' i 5 = W' i 5 ∧ W' i 6 = W' i 6 ∧ W' i 7 = W' i 7 ∧ W' i 8 = W' i 8 ∧ W' i 9 = W' i 9 ∧ W' i 10 = W' i 10 ∧ W' i 11 = W' i 11 ∧ W' i 12 = W' i 12 ∧ W' i 13 = W' i 13 ∧ W' i 14 = W' i 14 ∧ W' i 15 = W' i 15 ∧ W' i 16 = W' i 16 ∧ W' i 17 = W' i 17 ∧ W' i 18 = W' i 18 ∧ W' i 19 = W' i 19 ∧ W' i 20 = W' i 20 ∧ W' i 21 = W' i 21 ∧ W' i 22 = W' i 22 ∧ W' i 23 = W' i 23 ∧ W' i 24 = W' i 24 ∧ W' i 25 = W' i 25 ∧ W' i 26 = W' i 26 ∧ W' i 27 = W' i 27 ∧ W' i 28 = W' i 28 ∧ W' i 29 = W' i 29 ∧ W' i 30 = W' i 30 ∧ W' i 31 = W' i 31 ∧ limb (A' i) 0 = limb (A' i) 0 ∧ limb (A' i) 1 = limb (A' i) 1 ∧ limb (A' i) 2 = limb (A' i) 2 ∧ limb (A' i) 3 = limb (A' i) 3) ∧ (n - y'.fst).succ.le (n - y.fst)))) ∧ ((!B y.fst) = Bool.false → ((!conj [(List.range 32).all fun (j : Nat) => intsC (hoF W A (↑y.fst : Int).toNat (0 + j)) == v j]) = Bool.true → 0 = 0 ∧ N y.fst = N y.fst ∧ (N y.fst ≤ N y.fst + y.snd ∧ N y.fst + y.snd ≤ Go.maxLen ∧ (N y.fst + y.snd) * 36 = N y.fst * 36 + y.snd * 36) ∧ (N y.fst + 1 ≤ Go.maxLen ∧ (N y.fst + 1) * 64 ≤ 140737488355328) ∧ ∀ (c : Nat), N y.fst + 1 + c ≤ Go.maxLen → ∃ (y' : Nat × Nat), (y'.fst ≤ n ∧ 0 < N y'.fst ∧ N y'.fst + y'.snd ≤ Go.maxLen) ∧ (4 = 4 ∧ 36 = 36 ∧ 0 = 0 ∧ N y.fst + 1 = N y'.fst ∧ N y.fst + 1 + c = N y'.fst + y'.snd) ∧ B y.fst = B y'.fst ∧ simC (SC.xs a n cap 36 (hoF W A)) (SC.xs a n cap 36 (hoF W A)) ∧ (↑n : Int) = (↑n : Int) ∧ Go.IntKind.i64.wrap ((↑y.fst : Int) + (1 : Int)) = (↑y'.fst : Int) ∧ x1 = x1 ∧ simC (SC.xs a n cap 36 (hoF W A)) (SC.xs a n cap 36 (hoF W A)) ∧ 0 = 0 ∧ ((∀ (j : Nat), j < 32 → v j = v j) ∧ True) ∧ 0 = 0 ∧ x2 = x2 ∧ 0 = 0 ∧ Go.Value.slice Option.none 0 0 = Go.Value.slice Option.none 0 0 ∧ 0 = 0 ∧ N y.fst + 1 = N y'.fst ∧ c * 36 = y'.snd * 36 ∧ (∀ (i : Nat), i < N y.fst + 1 → (bif Decidable.decide (i < N y.fst) then W' i 0 else W (↑y.fst : Int).toNat 0) = W' i 0 ∧ (bif Decidable.decide (i < N y.fst) then W' i 1 else W (↑y.fst : Int).toNat 1) = W' i 1 ∧ (bif Decidable.decide (i < N y.fst) then W' i 2 else W (↑y.fst : Int).toNat 2) = W' i 2 ∧ (bif Decidable.decide (i < N y.fst) then W' i 3 else W (↑y.fst : Int).toNat 3) = W' i 3 ∧ (bif Decidable.decide (i < N y.fst) then W' i 4 else W (↑y.fst : Int).toNat 4) = W' i 4 ∧ (bif Decidable.decide (i < N y.fst) then W' i 5 else W (↑y.fst : Int).toNat 5) = W' i 5 ∧ (bif Decidable.decide (i < N y.fst) then W' i 6 else W (↑y.fst : Int).toNat 6) = W' i 6 ∧ (bif Decidable.decide (i < N y.fst) then W' i 7 else W (↑y.fst : Int).toNat 7) = W' i 7 ∧ (bif Decidable.decide (i < N y.fst) then W' i 8 else W (↑y.fst : Int).toNat 8) = W' i 8 ∧ (bif Decidable.decide (i < N y.fst) then W' i 9 else W (↑y.fst : Int).toNat 9) = W' i 9 ∧ (bif Decidable.decide (i < N y.fst) then W' i 10 else W (↑y.fst : Int).toNat 10) = W' i 10 ∧ (bif Decidable.decide (i < N y.fst) then W' i 11 else W (↑y.fst : Int).toNat 11) = W' i 11 ∧ (bif Decidable.decide (i < N y.fst) then W' i 12 else W (↑y.fst : Int).toNat 12) = W' i 12 ∧ (bif Decidable.decide (i < N y.fst) then W' i 13 else W (↑y.fst : Int).toNat 13) = W' i 13 ∧ (bif Decidable.decide (i < N y.fst) then W' i 14 else W (↑y.fst : Int).toNat 14) = W' i 14 ∧ (bif Decidable.decide (i < N y.fst) then W' i 15 else W (↑y.fst : Int).toNat 15) = W' i 15 ∧ (bif Decidable.decide (i < N y.fst) then W' i 16 else W (↑y.fst : Int).toNat 16) = W' i 16 ∧ (bif Decidable.decide (i < N y.fst) then W' i 17 else W (↑y.fst : Int).toNat 17) = W' i 17 ∧ (bif Decidable.decide (i < N y.fst) then W' i 18 else W (↑y.fst : Int).toNat 18) = W' i 18 ∧ (bif Decidable.decide (i < N y.fst) then W' i 19 else W (↑y.fst : Int).toNat 19) = W' i 19 ∧ (bif Decidable.decide (i < N y.fst) then W' i 20 else W (↑y.fst : Int).toNat 20) = W' i 20 ∧ (bif Decidable.decide (i < N y.fst) then W' i 21 else W (↑y.fst : Int).toNat 21) = W' i 21 ∧ (bif Decidable.decide (i < N y.fst) then W' i 22 else W (↑y.fst : Int).toNat 22) = W' i 22 ∧ (bif Decidable.decide (i < N y.fst) then W' i 23 else W (↑y.fst : Int).toNat 23) = W' i 23 ∧ (bif Decidable.decide (i < N y.fst) then W' i 24 else W (↑y.fst : Int).toNat 24) = W' i 24 ∧ (bif Decidable.decide (i < N y.fst) then W' i 25 else W (↑y.fst : Int).toNat 25) = W' i 25 ∧ (bif Decidable.decide (i < N y.fst) then W' i 26 else W (↑y.fst : Int).toNat 26) = W' i 26 ∧ (bif Decidable.decide (i < N y.fst) then W' i 27 else W (↑y.fst : Int).toNat 27) = W' i 27 ∧ (bif Decidable.decide (i < N y.fst) then W' i 28 else W (↑y.fst : Int).toNat 28) = W' i 28 ∧ (bif Decidable.decide (i < N y.fst) then W' i 29 else W (↑y.fst : Int).toNat 29) = W' i 29 ∧ (bif Decidable.decide (i < N y.fst) then W' i 30 else W (↑y.fst : Int).toNat 30) = W' i 30 ∧ (bif Decidable.decide (i < N y.fst) then W' i 31 else W (↑y.fst : Int).toNat 31) = W' i 31 ∧ (bif Decidable.decide (i < N y.fst) then limb (A' i) 0 else limb (A (↑y.fst : Int).toNat) 0) = limb (A' i) 0 ∧ (bif Decidable.decide (i < N y.fst) then limb (A' i) 1 else limb (A (↑y.fst : Int).toNat) 1) = limb (A' i) 1 ∧ (bif Decidable.decide (i < N y.fst) then limb (A' i) 2 else limb (A (↑y.fst : Int).toNat) 2) = limb (A' i) 2 ∧ (bif Decidable.decide (i < N y.fst) then limb (A' i) 3 else limb (A (↑y.fst : Int).toNat) 3) = limb (A' i) 3) ∧ (n - y'.fst).succ.le (n - y.fst)) ∧ ((!conj [(List.range 32).all fun (j : Nat) => intsC (hoF W A (↑y.fst : Int).toNat (0 + j)) == v j]) = Bool.false → ∃ (y' : Nat × Nat), (y'.fst ≤ n ∧ 0 < N y'.fst ∧ N y'.fst + y'.snd ≤ Go.maxLen) ∧ (4 = 4 ∧ 36 = 36 ∧ 0 = 0 ∧ N y.fst = N y'.fst ∧ N y.fst + y.snd = N y'.fst + y'.snd) ∧ B y.fst = B y'.fst ∧ simC (SC.xs a n cap 36 (hoF W A)) (SC.xs a n cap 36 (hoF W A)) ∧ (↑n : Int) = (↑n : Int) ∧ Go.IntKind.i64.wrap ((↑y.fst : Int) + (1 : Int)) = (↑y'.fst : Int) ∧ x1 = x1 ∧ simC (SC.xs a n cap 36 (hoF W A)) (SC.xs a n cap 36 (hoF W A)) ∧ 0 = 0 ∧ ((∀ (j : Nat), j < 32 → v j = v j) ∧ True) ∧ 0 = 0 ∧ x2 = x2 ∧ 0 = 0 ∧ Go.Value.slice Option.none 0 0 = Go.Value.slice Option.none 0 0 ∧ 0 = 0 ∧ N y.fst = N y'.fst ∧ y.snd * 36 = y'.snd * 36 ∧ (∀ (i : Nat), i < N y.fst → W' i 0 = W' i 0 ∧ W' i 1 = W' i 1 ∧ W' i 2 = W' i 2 ∧ W' i 3 = W' i 3 ∧ W' i 4 = W' i 4 ∧ W' i 5 = W' i 5 ∧ W' i 6 = W' i 6 ∧ W' i 7 = W' i 7 ∧ W' i 8 = W' i 8 ∧ W' i 9 = W' i 9 ∧ W' i 10 = W' i 10 ∧ W' i 11 = W' i 11 ∧ W' i 12 = W' i 12 ∧ W' i 13 = W' i 13 ∧ W' i 14 = W' i 14 ∧ W' i 15 = W' i 15 ∧ W' i 16 = W' i 16 ∧ W' i 17 = W' i 17 ∧ W' i 18 = W' i 18 ∧ W' i 19 = W' i 19 ∧ W' i 20 = W' i 20 ∧ W' i 21 = W' i 21 ∧ W' i 22 = W' i 22 ∧ W' i 23 = W' i 23 ∧ W' i 24 = W' i 24 ∧ W' i 25 = W' i 25 ∧ W' i 26 = W' i 26 ∧ W' i 27 = W' i 27 ∧ W' i 28 = W' i 28 ∧ W' i 29 = W' i 29 ∧ W' i 30 = W' i 30 ∧ W' i 31 = W' i 31 ∧ limb (A' i) 0 = limb (A' i) 0 ∧ limb (A' i) 1 = limb (A' i) 1 ∧ limb (A' i) 2 = limb (A' i) 2 ∧ limb (A' i) 3 = limb (A' i) 3) ∧ (n - y'.fst).succ.le (n - y.fst)))) ∧ (Decidable.decide ((↑y.fst : Int) < (↑n : Int)) = Bool.false → ((!B y.fst) = Bool.true → 0 = 0 ∧ N y.fst = N y.fst ∧ (N y.fst ≤ N y.fst + y.snd ∧ N y.fst + y.snd ≤ Go.maxLen ∧ (N y.fst + y.snd) * 36 = N y.fst * 36 + y.snd * 36) ∧ (N y.fst + 1 ≤ Go.maxLen ∧ (N y.fst + 1) * 64 ≤ 140737488355328) ∧ ∀ (c : Nat), N y.fst + 1 + c ≤ Go.maxLen → (x1 = x1 ∧ True) ∧ (0 + (N y.fst + 1) ≤ N y.fst + 1 ∧ N y.fst + 1 = n' ∧ N y.fst + 1 ≤ N y.fst + 1 + c ∧ ∀ (i : Nat), i < n' → (bif Decidable.decide (0 + i < N y.fst) then W' (0 + i) 0 else v 0) = W' i 0 ∧ (bif Decidable.decide (0 + i < N y.fst) then W' (0 + i) 1 else v 1) = W' i 1 ∧ (bif Decidable.decide (0 + i < N y.fst) then W' (0 + i) 2 else v 2) = W' i 2 ∧ (bif Decidable.decide (0 + i < N y.fst) then W' (0 + i) 3 else v 3) = W' i 3 ∧ (bif Decidable.decide (0 + i < N y.fst) then W' (0 + i) 4 else v 4) = W' i 4 ∧ (bif Decidable.decide (0 + i < N y.fst) then W' (0 + i) 5 else v 5) = W' i 5 ∧ (bif Decidable.decide (0 + i < N y.fst) then W' (0 + i) 6 else v 6) = W' i 6 ∧ (bif Decidable.decide (0 + i < N y.fst) then W' (0 + i) 7 else v 7) = W' i 7 ∧ (bif Decidable.decide (0 + i < N y.fst) then W' (0 + i) 8 else v 8) = W' i 8 ∧ (bif Decidable.decide (0 + i < N y.fst) then W' (0 + i) 9 else v 9) = W' i 9 ∧ (bif Decidable.decide (0 + i < N y.fst) then W' (0 + i) 10 else v 10) = W' i 10 ∧ (bif Decidable.decide (0 + i < N y.fst) then W' (0 + i) 11 else v 11) = W' i 11 ∧ (bif Decidable.decide (0 + i < N y.fst) then W' (0 + i) 12 else v 12) = W' i 12 ∧ (bif Decidable.decide (0 + i < N y.fst) then W' (0 + i) 13 else v 13) = W' i 13 ∧ (bif Decidable.decide (0 + i < N y.fst) then W' (0 + i) 14 else v 14) = W' i 14 ∧ (bif Decidable.decide (0 + i < N y.fst) then W' (0 + i) 15 else v 15) = W' i 15 ∧ (bif Decidable.decide (0 + i < N y.fst) then W' (0 + i) 16 else v 16) = W' i 16 ∧ (bif Decidable.decide (0 + i < N y.fst) then W' (0 + i) 17 else v 17) = W' i 17 ∧ (bif Decidable.decide (0 + i < N y.fst) then W' (0 + i) 18 else v 18) = W' i 18 ∧ (bif Decidable.decide (0 + i < N y.fst) then W' (0 + i) 19 else v 19) = W' i 19 ∧ (bif Decidable.decide (0 + i < N y.fst) then W' (0 + i) 20 else v 20) = W' i 20 ∧ (bif Decidable.decide (0 + i < N y.fst) then W' (0 + i) 21 else v 21) = W' i 21 ∧ (bif Decidable.decide (0 + i < N y.fst) then W' (0 + i) 22 else v 22) = W' i 22 ∧ (bif Decidable.decide (0 + i < N y.fst) then W' (0 + i) 23 else v 23) = W' i 23 ∧ (bif Decidable.decide (0 + i < N y.fst) then W' (0 + i) 24 else v 24) = W' i 24 ∧ (bif Decidable.decide (0 + i < N y.fst) then W' (0 + i) 25 else v 25) = W' i 25 ∧ (bif Decidable.decide (0 + i < N y.fst) then W' (0 + i) 26 else v 26) = W' i 26 ∧ (bif Decidable.decide (0 + i < N y.fst) then W' (0 + i) 27 else v 27) = W' i 27 ∧ (bif Decidable.decide (0 + i < N y.fst) then W' (0 + i) 28 else v 28) = W' i 28 ∧ (bif Decidable.decide (0 + i < N y.fst) then W' (0 + i) 29 else v 29) = W' i 29 ∧ (bif Decidable.decide (0 + i < N y.fst) then W' (0 + i) 30 else v 30) = W' i 30 ∧ (bif Decidable.decide (0 + i < N y.fst) then W' (0 + i) 31 else v 31) = W' i 31 ∧ (bif Decidable.decide (0 + i < N y.fst) then limb (A' (0 + i)) 0 else limb x 0) = limb (A' i) 0 ∧ (bif Decidable.decide (0 + i < N y.fst) then limb (A' (0 + i)) 1 else limb x 1) = limb (A' i) 1 ∧ (bif Decidable.decide (0 + i < N y.fst) then limb (A' (0 + i)) 2 else limb x 2) = limb (A' i) 2 ∧ (bif Decidable.decide (0 + i < N y.fst) then limb (A' (0 + i)) 3 else limb x 3) = limb (A' i) 3) ∧ True) ∧ ((!B y.fst) = Bool.false → (x1 = x1 ∧ True) ∧ (0 + N y.fst ≤ N y.fst ∧ N y.fst = n' ∧ N y.fst ≤ N y.fst + y.snd ∧ ∀ (i : Nat), i < n' → W' (0 + i) 0 = W' i 0 ∧ W' (0 + i) 1 = W' i 1 ∧ W' (0 + i) 2 = W' i 2 ∧ W' (0 + i) 3 = W' i 3 ∧ W' (0 + i) 4 = W' i 4 ∧ W' (0 + i) 5 = W' i 5 ∧ W' (0 + i) 6 = W' i 6 ∧ W' (0 + i) 7 = W' i 7 ∧ W' (0 + i) 8 = W' i 8 ∧ W' (0 + i) 9 = W' i 9 ∧ W' (0 + i) 10 = W' i 10 ∧ W' (0 + i) 11 = W' i 11 ∧ W' (0 + i) 12 = W' i 12 ∧ W' (0 + i) 13 = W' i 13 ∧ W' (0 + i) 14 = W' i 14 ∧ W' (0 + i) 15 = W' i 15 ∧ W' (0 + i) 16 = W' i 16 ∧ W' (0 + i) 17 = W' i 17 ∧ W' (0 + i) 18 = W' i 18 ∧ W' (0 + i) 19 = W' i 19 ∧ W' (0 + i) 20 = W' i 20 ∧ W' (0 + i) 21 = W' i 21 ∧ W' (0 + i) 22 = W' i 22 ∧ W' (0 + i) 23 = W' i 23 ∧ W' (0 + i) 24 = W' i 24 ∧ W' (0 + i) 25 = W' i 25 ∧ W' (0 + i) 26 = W' i 26 ∧ W' (0 + i) 27 = W' i 27 ∧ W' (0 + i) 28 = W' i 28 ∧ W' (0 + i) 29 = W' i 29 ∧ W' (0 + i) 30 = W' i 30 ∧ W' (0 + i) 31 = W' i 31 ∧ limb (A' (0 + i)) 0 = limb (A' i) 0 ∧ limb (A' (0 + i)) 1 = limb (A' i) 1 ∧ limb (A' (0 + i)) 2 = limb (A' i) 2 ∧ limb (A' (0 + i)) 3 = limb (A' i) 3) ∧ True))) ∧ ∃ (y : Nat), (y ≤ n ∧ N y = 0) ∧ Go.Value.slice Option.none 0 0 = Go.Value.slice Option.none 0 0 ∧ Decidable.decide (x2 = 0) = B y ∧ simC (SC.xs a n cap 36 (hoF W A)) (SC.xs a n cap 36 (hoF W A)) ∧ (↑n : Int) = (↑n : Int) ∧ (0 : Int) = (↑y : Int) ∧ x1 = x1 ∧ simC (SC.xs a n cap 36 (hoF W A)) (SC.xs a n cap 36 (hoF W A)) ∧ 0 = 0 ∧ ((∀ (j : Nat), j < 32 → v j = v j) ∧ True) ∧ 0 = 0 ∧ x2 = x2 ∧ 0 = 0 ∧ Go.Value.slice Option.none 0 0 = Go.Value.slice Option.none 0 0 ∧ 0 = 0 ∧ ∀ (y : Nat), y ≤ n ∧ N y = 0 → (Decidable.decide ((↑y : Int) < (↑n : Int)) = Bool.true → ((0 : Int) ≤ (↑y : Int) ∧ (↑y : Int) < (↑n : Int)) ∧ ((!B y) = Bool.true → (!B y) = Bool.true) ∧ ((!B y) = Bool.true → (!B y) = Bool.true ∧ (!B y) = Bool.true ∧ (∀ (j : Nat), j < 32 → intsC (hoF W A (↑y : Int).toNat (0 + j)) = intsC (hoF W A (↑y : Int).toNat (0 + j))) ∧ (∀ (j : Nat), j < 32 → v j = v j) ∧ (∀ (j : Nat), j < 32 → (0 : Int) ≤ intsC (hoF W A (↑y : Int).toNat (0 + j)) ∧ intsC (hoF W A (↑y : Int).toNat (0 + j)) < (256 : Int)) ∧ (∀ (j : Nat), j < 32 → (0 : Int) ≤ v j ∧ v j < (256 : Int)) ∧ ((!Decidable.decide ((kv fun (j : Nat) => intsC (hoF W A (↑y : Int).toNat (0 + j))) < kv v)) = Bool.true → (1 ≤ Go.maxLen ∧ 64 ≤ 140737488355328) ∧ ∀ (c : Nat), 1 + c ≤ Go.maxLen → ((!conj [(List.range 32).all fun (j : Nat) => intsC (hoF W A (↑y : Int).toNat (0 + j)) == v j]) = Bool.true → 0 = 0 ∧ 1 = 1 ∧ (1 ≤ 1 + c ∧ 1 + c ≤ Go.maxLen ∧ (1 + c) * 36 = 36 + c * 36) ∧ (2 ≤ Go.maxLen ∧ 128 ≤ 140737488355328) ∧ ∀ (c : Nat), 2 + c ≤ Go.maxLen → ∃ (y' : Nat × Nat), (y'.fst ≤ n ∧ 0 < N y'.fst ∧ N y'.fst + y'.snd ≤ Go.maxLen) ∧ (4 = 4 ∧ 36 = 36 ∧ 0 = 0 ∧ 2 = N y'.fst ∧ 2 + c = N y'.fst + y'.snd) ∧ Bool.true = B y'.fst ∧ simC (SC.xs a n cap 36 (hoF W A)) (SC.xs a n cap 36 (hoF W A)) ∧ (↑n : Int) = (↑n : Int) ∧ Go.IntKind.i64.wrap ((↑y : Int) + (1 : Int)) = (↑y'.fst : Int) ∧ x1 = x1 ∧ simC (SC.xs a n cap 36 (hoF W A)) (SC.xs a n cap 36 (hoF W A)) ∧ 0 = 0 ∧ ((∀ (j : Nat), j < 32 → v j = v j) ∧ True) ∧ 0 = 0 ∧ x2 = x2 ∧ 0 = 0 ∧ Go.Value.slice Option.none 0 0 = Go.Value.slice Option.none 0 0 ∧ 0 = 0 ∧ 2 = N y'.fst ∧ c * 36 = y'.snd * 36 ∧ (∀ (i : Nat), i < 2 → (bif Decidable.decide (i < 1) then v 0 else W (↑y : Int).toNat 0) = W' i 0 ∧ (bif Decidable.decide (i < 1) then v 1 else W (↑y : Int).toNat 1) = W' i 1 ∧ (bif Decidable.decide (i < 1) then v 2 else W (↑y : Int).toNat 2) = W' i 2 ∧ (bif Decidable.decide (i < 1) then v 3 else W (↑y : Int).toNat 3) = W' i 3 ∧ (bif Decidable.decide (i < 1) then v 4 else W (↑y : Int).toNat 4) = W' i 4 ∧ (bif Decidable.decide (i < 1) then v 5 else W (↑y : Int).toNat 5) = W' i 5 ∧ (bif Decidable.decide (i < 1) then v 6 else W (↑y : Int).toNat 6) = W' i 6 ∧ (bif Decidable.decide (i < 1) then v 7 else W (↑y : Int).toNat 7) = W' i 7 ∧ (bif Decidable.decide (i < 1) then v 8 else W (↑y : Int).toNat 8) = W' i 8 ∧ (bif Decidable.decide (i < 1) then v 9 else W (↑y : Int).toNat 9) = W' i 9 ∧ (bif Decidable.decide (i < 1) then v 10 else W (↑y : Int).toNat 10) = W' i 10 ∧ (bif Decidable.decide (i < 1) then v 11 else W (↑y : Int).toNat 11) = W' i 11 ∧ (bif Decidable.decide (i < 1) then v 12 else W (↑y : Int).toNat 12) = W' i 12 ∧ (bif Decidable.decide (i < 1) then v 13 else W (↑y : Int).toNat 13) = W' i 13 ∧ (bif Decidable.decide (i < 1) then v 14 else W (↑y : Int).toNat 14) = W' i 14 ∧ (bif Decidable.decide (i < 1) then v 15 else W (↑y : Int).toNat 15) = W' i 15 ∧ (bif Decidable.decide (i < 1) then v 16 else W (↑y : Int).toNat 16) = W' i 16 ∧ (bif Decidable.decide (i < 1) then v 17 else W (↑y : Int).toNat 17) = W' i 17 ∧ (bif Decidable.decide (i < 1) then v 18 else W (↑y : Int).toNat 18) = W' i 18 ∧ (bif Decidable.decide (i < 1) then v 19 else W (↑y : Int).toNat 19) = W' i 19 ∧ (bif Decidable.decide (i < 1) then v 20 else W (↑y : Int).toNat 20) = W' i 20 ∧ (bif Decidable.decide (i < 1) then v 21 else W (↑y : Int).toNat 21) = W' i 21 ∧ (bif Decidable.decide (i < 1) then v 22 else W (↑y : Int).toNat 22) = W' i 22 ∧ (bif Decidable.decide (i < 1) then v 23 else W (↑y : Int).toNat 23) = W' i 23 ∧ (bif Decidable.decide (i < 1) then v 24 else W (↑y : Int).toNat 24) = W' i 24 ∧ (bif Decidable.decide (i < 1) then v 25 else W (↑y : Int).toNat 25) = W' i 25 ∧ (bif Decidable.decide (i < 1) then v 26 else W (↑y : Int).toNat 26) = W' i 26 ∧ (bif Decidable.decide (i < 1) then v 27 else W (↑y : Int).toNat 27) = W' i 27 ∧ (bif Decidable.decide (i < 1) then v 28 else W (↑y : Int).toNat 28) = W' i 28 ∧ (bif Decidable.decide (i < 1) then v 29 else W (↑y : Int).toNat 29) = W' i 29 ∧ (bif Decidable.decide (i < 1) then v 30 else W (↑y : Int).toNat 30) = W' i 30 ∧ (bif Decidable.decide (i < 1) then v 31 else W (↑y : Int).toNat 31) = W' i 31 ∧ (bif Decidable.decide (i < 1) then limb x 0 else limb (A (↑y : Int).toNat) 0) = limb (A' i) 0 ∧ (bif Decidable.decide (i < 1) then limb x 1 else limb (A (↑y : Int).toNat) 1) = limb (A' i) 1 ∧ (bif Decidable.decide (i < 1) then limb x 2 else limb (A (↑y : Int).toNat) 2) = limb (A' i) 2 ∧ (bif Decidable.decide (i < 1) then limb x 3 else limb (A (↑y : Int).toNat) 3) = limb (A' i) 3) ∧ (n - y'.fst).succ.le (n - y)) ∧ ((!conj [(List.range 32).all fun (j : Nat) => intsC (hoF W A (↑y : Int).toNat (0 + j)) == v j]) = Bool.false → ∃ (y' : Nat × Nat), (y'.fst ≤ n ∧ 0 < N y'.fst ∧ N y'.fst + y'.snd ≤ Go.maxLen) ∧ (4 = 4 ∧ 36 = 36 ∧ 0 = 0 ∧ 1 = N y'.fst ∧ 1 + c = N y'.fst + y'.snd) ∧ Bool.true = B y'.fst ∧ simC (SC.xs a n cap 36 (hoF W A)) (SC.xs a n cap 36 (hoF W A)) ∧ (↑n : Int) = (↑n : Int) ∧ Go.IntKind.i64.wrap ((↑y : Int) + (1 : Int)) = (↑y'.fst : Int) ∧ x1 = x1 ∧ simC (SC.xs a n cap 36 (hoF W A)) (SC.xs a n cap 36 (hoF W A)) ∧ 0 = 0 ∧ ((∀ (j : Nat), j < 32 → v j = v j) ∧ True) ∧ 0 = 0 ∧ x2 = x2 ∧ 0 = 0 ∧ Go.Value.slice Option.none 0 0 = Go.Value.slice Option.none 0 0 ∧ 0 = 0 ∧ 1 = N y'.fst ∧ c * 36 = y'.snd * 36 ∧ (∀ (i : Nat), i < 1 → v 0 = W' i 0 ∧ v 1 = W' i 1 ∧ v 2 = W' i 2 ∧ v 3 = W' i 3 ∧ v 4 = W' i 4 ∧ v 5 = W' i 5 ∧ v 6 = W' i 6 ∧ v 7 = W' i 7 ∧ v 8 = W' i 8 ∧ v 9 = W' i 9 ∧ v 10 = W' i 10 ∧ v 11 = W' i 11 ∧ v 12 = W' i 12 ∧ v 13 = W' i 13 ∧ v 14 = W' i 14 ∧ v 15 = W' i 15 ∧ v 16 = W' i 16 ∧ v 17 = W' i 17 ∧ v 18 = W' i 18 ∧ v 19 = W' i 19 ∧ v 20 = W' i 20 ∧ v 21 = W' i 21 ∧ v 22 = W' i 22 ∧ v 23 = W' i 23 ∧ v 24 = W' i 24 ∧ v 25 = W' i 25 ∧ v 26 = W' i 26 ∧ v 27 = W' i 27 ∧ v 28 = W' i 28 ∧ v 29 = W' i 29 ∧ v 30 = W' i 30 ∧ v 31 = W' i 31 ∧ limb x 0 = limb (A' i) 0 ∧ limb x 1 = limb (A' i) 1 ∧ limb x 2 = limb (A' i) 2 ∧ limb x 3 = limb (A' i) 3) ∧ (n - y'.fst).succ.le (n - y))) ∧ ((!Decidable.decide ((kv fun (j : Nat) => intsC (hoF W A (↑y : Int).toNat (0 + j))) < kv v)) = Bool.false → ((!conj [(List.range 32).all fun (j : Nat) => intsC (hoF W A (↑y : Int).toNat (0 + j)) == v j]) = Bool.true → (1 ≤ Go.maxLen ∧ 64 ≤ 140737488355328) ∧ ∀ (c : Nat), 1 + c ≤ Go.maxLen → ∃ (y' : Nat × Nat), (y'.fst ≤ n ∧ 0 < N y'.fst ∧ N y'.fst + y'.snd ≤ Go.maxLen) ∧ (4 = 4 ∧ 36 = 36 ∧ 0 = 0 ∧ 1 = N y'.fst ∧ 1 + c = N y'.fst + y'.snd) ∧ B y = B y'.fst ∧ simC (SC.xs a n cap 36 (hoF W A)) (SC.xs a n cap 36 (hoF W A)) ∧ (↑n : Int) = (↑n : Int) ∧ Go.IntKind.i64.wrap ((↑y : Int) + (1 : Int)) = (↑y'.fst : Int) ∧ x1 = x1 ∧ simC (SC.xs a n cap 36 (hoF W A)) (SC.xs a n cap 36 (hoF W A)) ∧ 0 = 0 ∧ ((∀ (j : Nat), j < 32 → v j = v j) ∧ True) ∧ 0 = 0 ∧ x2 = x2 ∧ 0 = 0 ∧ Go.Value.slice Option.none 0 0 = Go.Value.slice Option.none 0 0 ∧ 0 = 0 ∧ 1 = N y'.fst ∧ c * 36 = y'.snd * 36 ∧ (∀ (i : Nat), i < 1 → W (↑y : Int).toNat 0 = W' i 0 ∧ W (↑y : Int).toNat 1 = W' i 1 ∧ W (↑y : Int).toNat 2 = W' i 2 ∧ W (↑y : Int).toNat 3 = W' i 3 ∧ W (↑y : Int).toNat 4 = W' i 4 ∧ W (↑y : Int).toNat 5 = W' i 5 ∧ W (↑y : Int).toNat 6 = W' i 6 ∧ W (↑y : Int).toNat 7 = W' i 7 ∧ W (↑y : Int).toNat 8 = W' i 8 ∧ W (↑y : Int).toNat 9 = W' i 9 ∧ W (↑y : Int).toNat 10 = W' i 10 ∧ W (↑y : Int).toNat 11 = W' i 11 ∧ W (↑y : Int).toNat 12 = W' i 12 ∧ W (↑y : Int).toNat 13 = W' i 13 ∧ W (↑y : Int).toNat 14 = W' i 14 ∧ W (↑y : Int).toNat 15 = W' i 15 ∧ W (↑y : Int).toNat 16 = W' i 16 ∧ W (↑y : Int).toNat 17 = W' i 17 ∧ W (↑y : Int).toNat 18 = W' i 18 ∧ W (↑y : Int).toNat 19 = W' i 19 ∧ W (↑y : Int).toNat 20 = W' i 20 ∧ W (↑y : Int).toNat 21 = W' i 21 ∧ W (↑y : Int).toNat 22 = W' i 22 ∧ W (↑y : Int).toNat 23 = W' i 23 ∧ W (↑y : Int).toNat 24 = W' i 24 ∧ W (↑y : Int).toNat 25 = W' i 25 ∧ W (↑y : Int).toNat 26 = W' i 26 ∧ W (↑y : Int).toNat 27 = W' i 27 ∧ W (↑y : Int).toNat 28 = W' i 28 ∧ W (↑y : Int).toNat 29 = W' i 29 ∧ W (↑y : Int).toNat 30 = W' i 30 ∧ W (↑y : Int).toNat 31 = W' i 31 ∧ limb (A (↑y : Int).toNat) 0 = limb (A' i) 0 ∧ limb (A (↑y : Int).toNat) 1 = limb (A' i) 1 ∧ limb (A (↑y : Int).toNat) 2 = limb (A' i) 2 ∧ limb (A (↑y : Int).toNat) 3 = limb (A' i) 3) ∧ (n - y'.fst).succ.le (n - y)) ∧ ((!conj [(List.range 32).all fun (j : Nat) => intsC (hoF W A (↑y : Int).toNat (0 + j)) == v j]) = Bool.false → ∃ (y' : Nat), (y' ≤ n ∧ N y' = 0) ∧ Go.Value.slice Option.none 0 0 = Go.Value.slice Option.none 0 0 ∧ B y = B y' ∧ simC (SC.xs a n cap 36 (hoF W A)) (SC.xs a n cap 36 (hoF W A)) ∧ (↑n : Int) = (↑n : Int) ∧ Go.IntKind.i64.wrap ((↑y : Int) + (1 : Int)) = (↑y' : Int) ∧ x1 = x1 ∧ simC (SC.xs a n cap 36 (hoF W A)) (SC.xs a n cap 36 (hoF W A)) ∧ 0 = 0 ∧ ((∀ (j : Nat), j < 32 → v j = v j) ∧ True) ∧ 0 = 0 ∧ x2 = x2 ∧ 0 = 0 ∧ Go.Value.slice Option.none 0 0 = Go.Value.slice Option.none 0 0 ∧ 0 = 0 ∧ (n - y').succ.le (n - y)))) ∧ ((!B y) = Bool.false → ((!conj [(List.range 32).all fun (j : Nat) => intsC (hoF W A (↑y : Int).toNat (0 + j)) == v j]) = Bool.true → (1 ≤ Go.maxLen ∧ 64 ≤ 140737488355328) ∧ ∀ (c : Nat), 1 + c ≤ Go.maxLen → ∃ (y' : Nat × Nat), (y'.fst ≤ n ∧ 0 < N y'.fst ∧ N y'.fst + y'.snd ≤ Go.maxLen) ∧ (4 = 4 ∧ 36 = 36 ∧ 0 = 0 ∧ 1 = N y'.fst ∧ 1 + c = N y'.fst + y'.snd) ∧ B y = B y'.fst ∧ simC (SC.xs a n cap 36 (hoF W A)) (SC.xs a n cap 36 (hoF W A)) ∧ (↑n : Int) = (↑n : Int) ∧ Go.IntKind.i64.wrap ((↑y : Int) + (1 : Int)) = (↑y'.fst : Int) ∧ x1 = x1 ∧ simC (SC.xs a n cap 36 (hoF W A)) (SC.xs a n cap 36 (hoF W A)) ∧ 0 = 0 ∧ ((∀ (j : Nat), j < 32 → v j = v j) ∧ True) ∧ 0 = 0 ∧ x2 = x2 ∧ 0 = 0 ∧ Go.Value.slice Option.none 0 0 = Go.Value.slice Option.none 0 0 ∧ 0 = 0 ∧ 1 = N y'.fst ∧ c * 36 = y'.snd * 36 ∧ (∀ (i : Nat), i < 1 → W (↑y : Int).toNat 0 = W' i 0 ∧ W (↑y : Int).toNat 1 = W' i 1 ∧ W (↑y : Int).toNat 2 = W' i 2 ∧ W (↑y : Int).toNat 3 = W' i 3 ∧ W (↑y : Int).toNat 4 = W' i 4 ∧ W (↑y : Int).toNat 5 = W' i 5 ∧ W (↑y : Int).toNat 6 = W' i 6 ∧ W (↑y : Int).toNat 7 = W' i 7 ∧ W (↑y : Int).toNat 8 = W' i 8 ∧ W (↑y : Int).toNat 9 = W' i 9 ∧ W (↑y : Int).toNat 10 = W' i 10 ∧ W (↑y : Int).toNat 11 = W' i 11 ∧ W (↑y : Int).toNat 12 = W' i 12 ∧ W (↑y : Int).toNat 13 = W' i 13 ∧ W (↑y : Int).toNat 14 = W' i 14 ∧ W (↑y : Int).toNat 15 = W' i 15 ∧ W (↑y : Int).toNat 16 = W' i 16 ∧ W (↑y : Int).toNat 17 = W' i 17 ∧ W (↑y : Int).toNat 18 = W' i 18 ∧ W (↑y : Int).toNat 19 = W' i 19 ∧ W (↑y : Int).toNat 20 = W' i 20 ∧ W (↑y : Int).toNat 21 = W' i 21 ∧ W (↑y : Int).toNat 22 = W' i 22 ∧ W (↑y : Int).toNat 23 = W' i 23 ∧ W (↑y : Int).toNat 24 = W' i 24 ∧ W (↑y : Int).toNat 25 = W' i 25 ∧ W (↑y : Int).toNat 26 = W' i 26 ∧ W (↑y : Int).toNat 27 = W' i 27 ∧ W (↑y : Int).toNat 28 = W' i 28 ∧ W (↑y : Int).toNat 29 = W' i 29 ∧ W (↑y : Int).toNat 30 = W' i 30 ∧ W (↑y : Int).toNat 31 = W' i 31 ∧ limb (A (↑y : Int).toNat) 0 = limb (A' i) 0 ∧ limb (A (↑y : Int).toNat) 1 = limb (A' i) 1 ∧ limb (A (↑y : Int).toNat) 2 = limb (A' i) 2 ∧ limb (A (↑y : Int).toNat) 3 = limb (A' i) 3) ∧ (n - y'.fst).succ.le (n - y)) ∧ ((!conj [(List.range 32).all fun (j : Nat) => intsC (hoF W A (↑y : Int).toNat (0 + j)) == v j]) = Bool.false → ∃ (y' : Nat), (y' ≤ n ∧ N y' = 0) ∧ Go.Value.slice Option.none 0 0 = Go.Value.slice Option.none 0 0 ∧ B y = B y' ∧ simC (SC.xs a n cap 36 (hoF W A)) (SC.xs a n cap 36 (hoF W A)) ∧ (↑n : Int) = (↑n : Int) ∧ Go.IntKind.i64.wrap ((↑y : Int) + (1 : Int)) = (↑y' : Int) ∧ x1 = x1 ∧ simC (SC.xs a n cap 36 (hoF W A)) (SC.xs a n cap 36 (hoF W A)) ∧ 0 = 0 ∧ ((∀ (j : Nat), j < 32 → v j = v j) ∧ True) ∧ 0 = 0 ∧ x2 = x2 ∧ 0 = 0 ∧ Go.Value.slice Option.none 0 0 = Go.Value.slice Option.none 0 0 ∧ 0 = 0 ∧ (n - y').succ.le (n - y)))) ∧ (Decidable.decide ((↑y : Int) < (↑n : Int)) = Bool.false → ((!B y) = Bool.true → (1 ≤ Go.maxLen ∧ 64 ≤ 140737488355328) ∧ ∀ (c : Nat), 1 + c ≤ Go.maxLen → (x1 = x1 ∧ True) ∧ (1 ≤ 1 ∧ 1 = n' ∧ 1 ≤ 1 + c ∧ ∀ (i : Nat), i < n' → v 0 = W' i 0 ∧ v 1 = W' i 1 ∧ v 2 = W' i 2 ∧ v 3 = W' i 3 ∧ v 4 = W' i 4 ∧ v 5 = W' i 5 ∧ v 6 = W' i 6 ∧ v 7 = W' i 7 ∧ v 8 = W' i 8 ∧ v 9 = W' i 9 ∧ v 10 = W' i 10 ∧ v 11 = W' i 11 ∧ v 12 = W' i 12 ∧ v 13 = W' i 13 ∧ v 14 = W' i 14 ∧ v 15 = W' i 15 ∧ v 16 = W' i 16 ∧ v 17 = W' i 17 ∧ v 18 = W' i 18 ∧ v 19 = W' i 19 ∧ v 20 = W' i 20 ∧ v 21 = W' i 21 ∧ v 22 = W' i 22 ∧ v 23 = W' i 23 ∧ v 24 = W' i 24 ∧ v 25 = W' i 25 ∧ v 26 = W' i 26 ∧ v 27 = W' i 27 ∧ v 28 = W' i 28 ∧ v 29 = W' i 29 ∧ v 30 = W' i 30 ∧ v 31 = W' i 31 ∧ limb x 0 = limb (A' i) 0 ∧ limb x 1 = limb (A' i) 1 ∧ limb x 2 = limb (A' i) 2 ∧ limb x 3 = limb (A' i) 3) ∧ True) ∧ ((!B y) = Bool.false → (x1 = x1 ∧ True) ∧ n' = 0 ∧ True))) := by kernel_rfl
end Go.Proofs.Ytnkgniedhmnanaa
end

section
namespace Go.Proofs.Ytnkgniedhmnanaa
open Go Go.Sx Go.RowKit
set_option maxRecDepth 100000
theorem sim_xs (a : Option Addr) (n cap : Nat) (W : Nat → Nat → Int) (A : Nat → Nat) : simC (.xs a n cap 36 (hoF W A)) (.xs a n cap 36 (hoF W A)) := by
  have z := sim_ho W A
  refine ⟨rfl, rfl, rfl, fun i _ => ?_⟩
  exact ⟨z i 0, z i 1, z i 2, z i 3, z i 4, z i 5, z i 6, z i 7, z i 8, z i 9, z i 10, z i 11, z i 12, z i 13, z i 14, z i 15, z i 16, z i 17, z i 18, z i 19, z i 20, z i 21, z i 22, z i 23, z i 24, z i 25, z i 26, z i 27, z i 28, z i 29, z i 30, z i 31, z i 32, z i 33, z i 34, z i 35⟩
def oN (p q e i : Nat) : Nat := if i ≤ p then i else p + e + (i - (p + q))
def iB (p e i : Nat) : Bool := decide (e = 0) || decide (p < i)
theorem oN_lo {p q e i : Nat} (h : i ≤ p) : oN p q e i = i := if_pos h
theorem oN_hi {p q e i : Nat} (h : p < i) : oN p q e i = p + e + (i - (p + q)) := if_neg (by omega)
theorem iB_t {p e i : Nat} : iB p e i = true ↔ e = 0 ∨ p < i := by unfold iB; rw [Bool.or_eq_true, decide_eq_true_eq, decide_eq_true_eq]
theorem iB_f {p e i : Nat} : iB p e i = false ↔ e ≠ 0 ∧ i ≤ p := by
  unfold iB; rw [Bool.or_eq_false_iff, decide_eq_false_iff_not, decide_eq_false_iff_not, Nat.not_lt]
theorem row1 {α : Type} {f : Nat → α} {y : α} {m j : Nat} (hy : f m = y) (hj : j < m + 1) : (bif decide (j < m) then f j else y) = f j := by
  rcases Nat.lt_or_ge j m with h | h
  · rw [decide_eq_true h]; rfl
  · rw [decide_eq_false (by omega), show j = m by omega, hy]; rfl
theorem row2 {α : Type} {f : Nat → α} {y z : α} {m j : Nat} (hy : f m = y) (hz : f (m + 1) = z) (hj : j < m + 1 + 1) : (bif decide (j < m + 1) then bif decide (j < m) then f j else y else z) = f j := by
  rcases Nat.lt_or_ge j (m + 1) with h | h
  · rw [decide_eq_true h]; exact row1 hy h
  · rw [decide_eq_false (by omega), show j = m + 1 by omega, hz]; rfl
theorem row3 {α : Type} {f : Nat → α} {y z : α} {j : Nat} (hy : f 0 = y) (hz : f 1 = z) (hj : j < 2) : (bif decide (j < 1) then y else z) = f j := by
  rcases Nat.lt_or_ge j 1 with h | h
  · rw [decide_eq_true h, show j = 0 by omega, hy]; rfl
  · rw [decide_eq_false (by omega), show j = 1 by omega, hz]; rfl
structure seP (n : Nat) (W : Nat → Nat → Int) (A : Nat → Nat) (v : Nat → Int) (x p q e : Nat) (N : Nat → Nat) (B : Nat → Bool) (W' : Nat → Nat → Int) (A' : Nat → Nat) : Prop where
  q1 : q ≤ 1
  e1 : e ≤ 1
  pn : p + q ≤ n
  n40 : n ≤ 40
  lo : ∀ i, i ≤ p → N i = i
  hi : ∀ i, p < i → N i = p + e + (i - (p + q))
  bt : ∀ i, B i = true ↔ e = 0 ∨ p < i
  bf : ∀ i, B i = false ↔ e ≠ 0 ∧ i ≤ p
  lt : ∀ i, i < n → decide (kv (W i) < kv v) = decide (i < p)
  eq : ∀ i, i < n → decide (kv (W i) = kv v) = decide (q = 1 ∧ i = p)
  w1 : ∀ j, j < p → W' j = W j ∧ A' j = A j
  w2 : ∀ j, p ≤ j → j < p + e → W' j = v ∧ A' j = x
  w3 : ∀ j, p + e ≤ j → W' j = W (p + q + (j - (p + e))) ∧ A' j = A (p + q + (j - (p + e)))
section
variable {n : Nat} {W : Nat → Nat → Int} {A : Nat → Nat} {v : Nat → Int} {x p q e : Nat} {N : Nat → Nat} {B : Nat → Bool} {W' : Nat → Nat → Int} {A' : Nat → Nat}
theorem seP.le (h : seP n W A v x p q e N B W' A') {i : Nat} (hi : i ≤ n) : N i ≤ 41 := by
  have := h.q1; have := h.e1; have := h.pn; have := h.n40
  rcases Nat.lt_or_ge p i with k | k
  · rw [h.hi i k]; omega
  · rw [h.lo i k]; omega
theorem seP.s1 (h : seP n W A v x p q e N B W' A') {i : Nat} (hi : i < n) (hb : B i = false) (hl : ¬ i < p) (hq : ¬ (q = 1 ∧ i = p)) : N (i + 1) = N i + 1 + 1 ∧ B (i + 1) = true ∧ (W' (N i) = v ∧ A' (N i) = x) ∧ W' (N i + 1) = W i ∧ A' (N i + 1) = A i := by
  have := h.q1; have := h.e1
  obtain ⟨b1, b2⟩ := (h.bf i).1 hb
  have e0 : N i = p := by rw [h.lo i b2]; omega
  refine ⟨by rw [h.hi (i + 1) (by omega), e0]; omega, (h.bt _).2 (.inr (by omega)), by rw [e0]; exact h.w2 p (Nat.le_refl _) (by omega), ?_⟩
  have := h.w3 (p + 1) (by omega)
  rwa [show p + q + (p + 1 - (p + e)) = i by omega, ← e0] at this
theorem seP.s2 (h : seP n W A v x p q e N B W' A') {i : Nat} (hi : i < n) (hb : B i = false) (hl : ¬ i < p) (hq : q = 1 ∧ i = p) : N (i + 1) = N i + 1 ∧ B (i + 1) = true ∧ W' (N i) = v ∧ A' (N i) = x := by
  have := h.e1
  obtain ⟨b1, b2⟩ := (h.bf i).1 hb
  have e0 : N i = p := by rw [h.lo i b2]; omega
  exact ⟨by rw [h.hi (i + 1) (by omega), e0]; omega, (h.bt _).2 (.inr (by omega)), by rw [e0]; exact h.w2 p (Nat.le_refl _) (by omega)⟩
theorem seP.s3 (h : seP n W A v x p q e N B W' A') {i : Nat} (hi : i < n) (hb : i < p ∨ B i = true) (hq : ¬ (q = 1 ∧ i = p)) : N (i + 1) = N i + 1 ∧ B (i + 1) = B i ∧ W' (N i) = W i ∧ A' (N i) = A i := by
  have := h.q1; have := h.e1
  rcases Nat.lt_or_ge i p with k | k
  · have e0 : N i = i := h.lo i (by omega)
    refine ⟨by rw [h.lo (i + 1) (by omega), e0], ?_, by rw [e0]; exact h.w1 i k⟩
    rw [Bool.eq_iff_iff, h.bt, h.bt]; omega
  · have hb : B i = true := by rcases hb with hb | hb; omega; exact hb
    have hb' := (h.bt i).1 hb
    have e0 : N i = p + e + (i - (p + q)) := by
      rcases Nat.lt_or_ge p i with m | m
      · exact h.hi i m
      · rw [h.lo i m]; omega
    refine ⟨by rw [h.hi (i + 1) (by omega), e0]; omega, by rw [hb, (h.bt _).2 (.inr (by omega))], ?_⟩
    have := h.w3 (N i) (by omega)
    rwa [show p + q + (N i - (p + e)) = i by omega] at this
theorem seP.s4 (h : seP n W A v x p q e N B W' A') {i : Nat} (hi : i < n) (hb : B i = true) (hq : q = 1 ∧ i = p) : N (i + 1) = N i ∧ B (i + 1) = B i := by
  obtain ⟨hq, rfl⟩ := hq
  have hb' := (h.bt i).1 hb
  exact ⟨by rw [h.hi (i + 1) (by omega), h.lo i (Nat.le_refl _)]; omega, by rw [hb, (h.bt _).2 (.inr (by omega))]⟩
theorem seP.s5 (h : seP n W A v x p q e N B W' A') (hb : B n = false) : putN p q e n = N n + 1 ∧ W' (N n) = v ∧ A' (N n) = x := by
  have := h.pn; have := h.e1
  obtain ⟨b1, b2⟩ := (h.bf n).1 hb
  have e0 : N n = p := by rw [h.lo n b2]; omega
  exact ⟨by unfold putN; omega, by rw [e0]; exact h.w2 p (Nat.le_refl _) (by omega)⟩
theorem seP.s6 (h : seP n W A v x p q e N B W' A') (hb : B n = true) : putN p q e n = N n := by
  have := h.pn; have := h.q1
  have hb' := (h.bt n).1 hb
  unfold putN
  rcases Nat.lt_or_ge p n with m | m
  · rw [h.hi n m]
  · rw [h.lo n m]; omega
end
theorem not_lt_dec {i p : Nat} (h : (!decide (i < p)) = true) : ¬ i < p := by rw [Bool.not_eq_true'] at h; exact of_decide_eq_false h
theorem is_lt_dec {i p : Nat} (h : (!decide (i < p)) = false) : i < p := by rw [Bool.not_eq_false'] at h; exact of_decide_eq_true h
theorem cap_ok {m c : Nat} (h : m + c ≤ maxLen) : m ≤ m + c ∧ m + c ≤ maxLen ∧ (m + c) * 36 = m * 36 + c * 36 := ⟨by omega, h, by omega⟩
theorem sz_ok {m : Nat} (h : m ≤ 50) : m ≤ maxLen ∧ m * 64 ≤ 140737488355328 := ⟨by have hML : maxLen = 9223372036854775807 := rfl; omega, by omega⟩
theorem ok_se (s : Nat) (a : Option Addr) (n cap : Nat) (W : Nat → Nat → Int) (A : Nat → Nat) (v : Nat → Int) (x p q e : Nat) (N : Nat → Nat) (B : Nat → Bool) (W' : Nat → Nat → Int) (A' : Nat → Nat) (h : hoP a n W A) (hv : by32 v) (H : seP n W A v x p q e N B W' A') (h0 : N 0 = 0) (he : decide (x % M256 = 0) = B 0) :
    OwesR Try.prog cxSe slSe [(4, .inv2 (invSeL s a n cap W A v x N B) (invSeM s a n cap W A v x N B W' A') pick7)] 10 Try.f32 [sCn s a n cap W A, sWh v, sU x] false [.st [.k (.u s), .s (putN p q e n) 36 (hoF W' A')]] := by
  obtain ⟨n', hn'⟩ : ∃ n', n' = putN p q e n := ⟨_, rfl⟩
  rw [← hn', vc_se]
  intro x1 x2
  have hx2 : decide (x2 = 0) = B 0 := he
  clear_value x1 x2
  have z := sim_xs a n cap W A
  have EQ : ∀ i, i < n → (conj [(List.range 32).all fun (j : Nat) => intsC (hoF W A i (0 + j)) == v j]) = decide (q = 1 ∧ i = p) := fun i hi => by rw [by_beq W A i v (h.hw i hi) hv, H.eq i hi]
  simp only [eq_self, implies_true, and_self, true_and, and_true, imp_self, z, Int.toNat_natCast, kv_ho]
  refine ⟨fun _ => rfl, fun _ => rfl, fun y hy => ⟨fun hl => ?_, fun hl => ?_⟩, 0, ⟨Nat.zero_le _, h0⟩, hx2, rfl, fun i hy => ⟨fun hl => ?_, fun hl => ?_⟩⟩
  · obtain ⟨i, d⟩ := y
    obtain ⟨y1, y2, y3⟩ := hy
    simp only at y1 y2 y3 hl ⊢
    have hl := of_decide_eq_true hl
    have hl : i < n := by omega
    have hle := H.le y1
    have hML : maxLen = 9223372036854775807 := rfl
    rw [EQ i hl, H.lt i hl]
    refine ⟨⟨by omega, by omega⟩, fun hb => ⟨hb, hb, by_ho (h.hw i hl), hv, fun h1 => ⟨cap_ok y3, sz_ok (by omega), fun c hc => ⟨fun h2 => ⟨cap_ok hc, sz_ok (by omega), fun c' hc' => ?_⟩, fun h2 => ?_⟩⟩, fun h1 => ⟨fun h2 => ⟨cap_ok y3, sz_ok (by omega), fun c hc => ?_⟩, fun h2 => ?_⟩⟩, fun hb => ⟨fun h2 => ⟨cap_ok y3, sz_ok (by omega), fun c hc => ?_⟩, fun h2 => ?_⟩⟩
    · have hb : B i = false := by rw [Bool.not_eq_true'] at hb; exact hb
      have h2 : ¬ (q = 1 ∧ i = p) := by rw [Bool.not_eq_true'] at h2; exact of_decide_eq_false h2
      obtain ⟨f1, f2, ⟨f3, f4⟩, f5, f6⟩ := H.s1 hl hb (not_lt_dec h1) h2
      have hW : ∀ k, (∀ j, j < N i + 1 + 1 → (bif decide (j < N i + 1) then bif decide (j < N i) then W' j k else v k else W i k) = W' j k) := fun k j hj => row2 (f := fun j => W' j k) (by show W' (N i) k = v k; rw [f3]) (by show W' (N i + 1) k = W i k; rw [f5]) hj
      have hA : ∀ k, (∀ j, j < N i + 1 + 1 → (bif decide (j < N i + 1) then bif decide (j < N i) then limb (A' j) k else limb x k else limb (A i) k) = limb (A' j) k) := fun k j hj => row2 (f := fun j => limb (A' j) k) (by show limb (A' (N i)) k = _; rw [f4]) (by show limb (A' (N i + 1)) k = _; rw [f6]) hj
      exact ⟨⟨i + 1, c'⟩, ⟨by show i + 1 ≤ n; omega, by show 0 < N (i + 1); omega, by show N (i + 1) + c' ≤ maxLen; omega⟩, ⟨by show N i + 1 + 1 = N (i + 1); omega, by show N i + 1 + 1 + c' = N (i + 1) + c'; omega⟩, f2.symm, w_succ hl h.hn, by show N i + 1 + 1 = N (i + 1); omega, rfl, fun j hj => ⟨hW 0 j hj, hW 1 j hj, hW 2 j hj, hW 3 j hj, hW 4 j hj, hW 5 j hj, hW 6 j hj, hW 7 j hj, hW 8 j hj, hW 9 j hj, hW 10 j hj, hW 11 j hj, hW 12 j hj, hW 13 j hj, hW 14 j hj, hW 15 j hj, hW 16 j hj, hW 17 j hj, hW 18 j hj, hW 19 j hj, hW 20 j hj, hW 21 j hj, hW 22 j hj, hW 23 j hj, hW 24 j hj, hW 25 j hj, hW 26 j hj, hW 27 j hj, hW 28 j hj, hW 29 j hj, hW 30 j hj, hW 31 j hj, hA 0 j hj, hA 1 j hj, hA 2 j hj, hA 3 j hj⟩, less_step hl⟩
    · have hb : B i = false := by rw [Bool.not_eq_true'] at hb; exact hb
      have h2 : q = 1 ∧ i = p := by rw [Bool.not_eq_false'] at h2; exact of_decide_eq_true h2
      obtain ⟨f1, f2, f3, f4⟩ := H.s2 hl hb (not_lt_dec h1) h2
      have hW : ∀ k, (∀ j, j < N i + 1 → (bif decide (j < N i) then W' j k else v k) = W' j k) := fun k j hj => row1 (f := fun j => W' j k) (by show W' (N i) k = v k; rw [f3]) hj
      have hA : ∀ k, (∀ j, j < N i + 1 → (bif decide (j < N i) then limb (A' j) k else limb x k) = limb (A' j) k) := fun k j hj => row1 (f := fun j => limb (A' j) k) (by show limb (A' (N i)) k = _; rw [f4]) hj
      exact ⟨⟨i + 1, c⟩, ⟨by show i + 1 ≤ n; omega, by show 0 < N (i + 1); omega, by show N (i + 1) + c ≤ maxLen; omega⟩, ⟨by show N i + 1 = N (i + 1); omega, by show N i + 1 + c = N (i + 1) + c; omega⟩, f2.symm, w_succ hl h.hn, by show N i + 1 = N (i + 1); omega, rfl, fun j hj => ⟨hW 0 j hj, hW 1 j hj, hW 2 j hj, hW 3 j hj, hW 4 j hj, hW 5 j hj, hW 6 j hj, hW 7 j hj, hW 8 j hj, hW 9 j hj, hW 10 j hj, hW 11 j hj, hW 12 j hj, hW 13 j hj, hW 14 j hj, hW 15 j hj, hW 16 j hj, hW 17 j hj, hW 18 j hj, hW 19 j hj, hW 20 j hj, hW 21 j hj, hW 22 j hj, hW 23 j hj, hW 24 j hj, hW 25 j hj, hW 26 j hj, hW 27 j hj, hW 28 j hj, hW 29 j hj, hW 30 j hj, hW 31 j hj, hA 0 j hj, hA 1 j hj, hA 2 j hj, hA 3 j hj⟩, less_step hl⟩
    · have h2 : ¬ (q = 1 ∧ i = p) := by rw [Bool.not_eq_true'] at h2; exact of_decide_eq_false h2
      obtain ⟨f1, f2, f3, f4⟩ := H.s3 hl (.inl (is_lt_dec h1)) h2
      have hW : ∀ k, (∀ j, j < N i + 1 → (bif decide (j < N i) then W' j k else W i k) = W' j k) := fun k j hj => row1 (f := fun j => W' j k) (by show W' (N i) k = W i k; rw [f3]) hj
      have hA : ∀ k, (∀ j, j < N i + 1 → (bif decide (j < N i) then limb (A' j) k else limb (A i) k) = limb (A' j) k) := fun k j hj => row1 (f := fun j => limb (A' j) k) (by show limb (A' (N i)) k = _; rw [f4]) hj
      exact ⟨⟨i + 1, c⟩, ⟨by show i + 1 ≤ n; omega, by show 0 < N (i + 1); omega, by show N (i + 1) + c ≤ maxLen; omega⟩, ⟨by show N i + 1 = N (i + 1); omega, by show N i + 1 + c = N (i + 1) + c; omega⟩, f2.symm, w_succ hl h.hn, by show N i + 1 = N (i + 1); omega, rfl, fun j hj => ⟨hW 0 j hj, hW 1 j hj, hW 2 j hj, hW 3 j hj, hW 4 j hj, hW 5 j hj, hW 6 j hj, hW 7 j hj, hW 8 j hj, hW 9 j hj, hW 10 j hj, hW 11 j hj, hW 12 j hj, hW 13 j hj, hW 14 j hj, hW 15 j hj, hW 16 j hj, hW 17 j hj, hW 18 j hj, hW 19 j hj, hW 20 j hj, hW 21 j hj, hW 22 j hj, hW 23 j hj, hW 24 j hj, hW 25 j hj, hW 26 j hj, hW 27 j hj, hW 28 j hj, hW 29 j hj, hW 30 j hj, hW 31 j hj, hA 0 j hj, hA 1 j hj, hA 2 j hj, hA 3 j hj⟩, less_step hl⟩
    · have h2 : q = 1 ∧ i = p := by rw [Bool.not_eq_false'] at h2; exact of_decide_eq_true h2
      have := is_lt_dec h1
      omega
    · have hb : B i = true := by rw [Bool.not_eq_false'] at hb; exact hb
      have h2 : ¬ (q = 1 ∧ i = p) := by rw [Bool.not_eq_true'] at h2; exact of_decide_eq_false h2
      obtain ⟨f1, f2, f3, f4⟩ := H.s3 hl (.inr hb) h2
      have hW : ∀ k, (∀ j, j < N i + 1 → (bif decide (j < N i) then W' j k else W i k) = W' j k) := fun k j hj => row1 (f := fun j => W' j k) (by show W' (N i) k = W i k; rw [f3]) hj
      have hA : ∀ k, (∀ j, j < N i + 1 → (bif decide (j < N i) then limb (A' j) k else limb (A i) k) = limb (A' j) k) := fun k j hj => row1 (f := fun j => limb (A' j) k) (by show limb (A' (N i)) k = _; rw [f4]) hj
      exact ⟨⟨i + 1, c⟩, ⟨by show i + 1 ≤ n; omega, by show 0 < N (i + 1); omega, by show N (i + 1) + c ≤ maxLen; omega⟩, ⟨by show N i + 1 = N (i + 1); omega, by show N i + 1 + c = N (i + 1) + c; omega⟩, f2.symm, w_succ hl h.hn, by show N i + 1 = N (i + 1); omega, rfl, fun j hj => ⟨hW 0 j hj, hW 1 j hj, hW 2 j hj, hW 3 j hj, hW 4 j hj, hW 5 j hj, hW 6 j hj, hW 7 j hj, hW 8 j hj, hW 9 j hj, hW 10 j hj, hW 11 j hj, hW 12 j hj, hW 13 j hj, hW 14 j hj, hW 15 j hj, hW 16 j hj, hW 17 j hj, hW 18 j hj, hW 19 j hj, hW 20 j hj, hW 21 j hj, hW 22 j hj, hW 23 j hj, hW 24 j hj, hW 25 j hj, hW 26 j hj, hW 27 j hj, hW 28 j hj, hW 29 j hj, hW 30 j hj, hW 31 j hj, hA 0 j hj, hA 1 j hj, hA 2 j hj, hA 3 j hj⟩, less_step hl⟩
    · have hb : B i = true := by rw [Bool.not_eq_false'] at hb; exact hb
      have h2 : q = 1 ∧ i = p := by rw [Bool.not_eq_false'] at h2; exact of_decide_eq_true h2
      obtain ⟨f1, f2⟩ := H.s4 hl hb h2
      exact ⟨⟨i + 1, d⟩, ⟨by show i + 1 ≤ n; omega, by show 0 < N (i + 1); omega, by show N (i + 1) + d ≤ maxLen; omega⟩, ⟨by show N i = N (i + 1); omega, by show N i + d = N (i + 1) + d; omega⟩, f2.symm, w_succ hl h.hn, by show N i = N (i + 1); omega, rfl, less_step hl⟩
  · obtain ⟨i, d⟩ := y
    obtain ⟨y1, y2, y3⟩ := hy
    simp only at y1 y2 y3 hl ⊢
    have hl := of_decide_eq_false hl
    have e2 : i = n := by omega
    subst e2
    have hle := H.le y1
    refine ⟨fun hb => ⟨cap_ok y3, sz_ok (by omega), fun c hc => ?_⟩, fun hb => ?_⟩
    · have hb : B i = false := by rw [Bool.not_eq_true'] at hb; exact hb
      obtain ⟨f1, f2, f3⟩ := H.s5 hb
      have hW : ∀ k, (∀ j, j < N i + 1 → (bif decide (0 + j < N i) then W' (0 + j) k else v k) = W' j k) := fun k j hj => by rw [Nat.zero_add]; exact row1 (f := fun j => W' j k) (by show W' (N i) k = v k; rw [f2]) hj
      have hA : ∀ k, (∀ j, j < N i + 1 → (bif decide (0 + j < N i) then limb (A' (0 + j)) k else limb x k) = limb (A' j) k) := fun k j hj => by rw [Nat.zero_add]; exact row1 (f := fun j => limb (A' j) k) (by show limb (A' (N i)) k = _; rw [f3]) hj
      exact ⟨by omega, by rw [hn', f1], by omega, fun j hj => by
        have hj : j < N i + 1 := by rw [hn', f1] at hj; exact hj
        exact ⟨hW 0 j hj, hW 1 j hj, hW 2 j hj, hW 3 j hj, hW 4 j hj, hW 5 j hj, hW 6 j hj, hW 7 j hj, hW 8 j hj, hW 9 j hj, hW 10 j hj, hW 11 j hj, hW 12 j hj, hW 13 j hj, hW 14 j hj, hW 15 j hj, hW 16 j hj, hW 17 j hj, hW 18 j hj, hW 19 j hj, hW 20 j hj, hW 21 j hj, hW 22 j hj, hW 23 j hj, hW 24 j hj, hW 25 j hj, hW 26 j hj, hW 27 j hj, hW 28 j hj, hW 29 j hj, hW 30 j hj, hW 31 j hj, hA 0 j hj, hA 1 j hj, hA 2 j hj, hA 3 j hj⟩⟩
    · have hb : B i = true := by rw [Bool.not_eq_false'] at hb; exact hb
      have f1 := H.s6 hb
      have hW : ∀ k, (∀ j, j < n' → W' (0 + j) k = W' j k) := fun k j _ => by rw [Nat.zero_add]
      have hA : ∀ k, (∀ j, j < n' → limb (A' (0 + j)) k = limb (A' j) k) := fun k j _ => by rw [Nat.zero_add]
      exact ⟨by omega, by rw [hn', f1], by omega, fun j hj => ⟨hW 0 j hj, hW 1 j hj, hW 2 j hj, hW 3 j hj, hW 4 j hj, hW 5 j hj, hW 6 j hj, hW 7 j hj, hW 8 j hj, hW 9 j hj, hW 10 j hj, hW 11 j hj, hW 12 j hj, hW 13 j hj, hW 14 j hj, hW 15 j hj, hW 16 j hj, hW 17 j hj, hW 18 j hj, hW 19 j hj, hW 20 j hj, hW 21 j hj, hW 22 j hj, hW 23 j hj, hW 24 j hj, hW 25 j hj, hW 26 j hj, hW 27 j hj, hW 28 j hj, hW 29 j hj, hW 30 j hj, hW 31 j hj, hA 0 j hj, hA 1 j hj, hA 2 j hj, hA 3 j hj⟩⟩
  · obtain ⟨y1, y2⟩ := hy
    have hl := of_decide_eq_true hl
    have hl : i < n := by omega
    have hML : maxLen = 9223372036854775807 := rfl
    rw [EQ i hl, H.lt i hl]
    refine ⟨⟨by omega, by omega⟩, fun hb => ⟨hb, hb, by_ho (h.hw i hl), hv, fun h1 => ⟨⟨by omega, by omega⟩, fun c hc => ⟨fun h2 => ⟨⟨by omega, hc, by omega⟩, ⟨by omega, by omega⟩, fun c' hc' => ?_⟩, fun h2 => ?_⟩⟩, fun h1 => ⟨fun h2 => ⟨⟨by omega, by omega⟩, fun c hc => ?_⟩, fun h2 => ?_⟩⟩, fun hb => ⟨fun h2 => ⟨⟨by omega, by omega⟩, fun c hc => ?_⟩, fun h2 => ?_⟩⟩
    · have hb : B i = false := by rw [Bool.not_eq_true'] at hb; exact hb
      have h2 : ¬ (q = 1 ∧ i = p) := by rw [Bool.not_eq_true'] at h2; exact of_decide_eq_false h2
      obtain ⟨f1, f2, ⟨f3, f4⟩, f5, f6⟩ := H.s1 hl hb (not_lt_dec h1) h2
      rw [y2] at f1 f3 f4 f5 f6
      have hW : ∀ k, (∀ j, j < 2 → (bif decide (j < 1) then v k else W i k) = W' j k) := fun k j hj => row3 (f := fun j => W' j k) (by show W' 0 k = v k; rw [f3]) (by show W' (0 + 1) k = W i k; rw [f5]) hj
      have hA : ∀ k, (∀ j, j < 2 → (bif decide (j < 1) then limb x k else limb (A i) k) = limb (A' j) k) := fun k j hj => row3 (f := fun j => limb (A' j) k) (by show limb (A' 0) k = _; rw [f4]) (by show limb (A' (0 + 1)) k = _; rw [f6]) hj
      exact ⟨⟨i + 1, c'⟩, ⟨by show i + 1 ≤ n; omega, by show 0 < N (i + 1); omega, by show N (i + 1) + c' ≤ maxLen; omega⟩, ⟨by show 2 = N (i + 1); omega, by show 2 + c' = N (i + 1) + c'; omega⟩, f2.symm, w_succ hl h.hn, by show 2 = N (i + 1); omega, rfl, fun j hj => ⟨hW 0 j hj, hW 1 j hj, hW 2 j hj, hW 3 j hj, hW 4 j hj, hW 5 j hj, hW 6 j hj, hW 7 j hj, hW 8 j hj, hW 9 j hj, hW 10 j hj, hW 11 j hj, hW 12 j hj, hW 13 j hj, hW 14 j hj, hW 15 j hj, hW 16 j hj, hW 17 j hj, hW 18 j hj, hW 19 j hj, hW 20 j hj, hW 21 j hj, hW 22 j hj, hW 23 j hj, hW 24 j hj, hW 25 j hj, hW 26 j hj, hW 27 j hj, hW 28 j hj, hW 29 j hj, hW 30 j hj, hW 31 j hj, hA 0 j hj, hA 1 j hj, hA 2 j hj, hA 3 j hj⟩, less_step hl⟩
    · have hb : B i = false := by rw [Bool.not_eq_true'] at hb; exact hb
      have h2 : q = 1 ∧ i = p := by rw [Bool.not_eq_false'] at h2; exact of_decide_eq_true h2
      obtain ⟨f1, f2, f3, f4⟩ := H.s2 hl hb (not_lt_dec h1) h2
      rw [y2] at f1 f3 f4
      have hW : ∀ k, (∀ j, j < 1 → v k = W' j k) := fun k j hj => by rw [show j = 0 by omega, f3]
      have hA : ∀ k, (∀ j, j < 1 → limb x k = limb (A' j) k) := fun k j hj => by rw [show j = 0 by omega, f4]
      exact ⟨⟨i + 1, c⟩, ⟨by show i + 1 ≤ n; omega, by show 0 < N (i + 1); omega, by show N (i + 1) + c ≤ maxLen; omega⟩, ⟨by show 1 = N (i + 1); omega, by show 1 + c = N (i + 1) + c; omega⟩, f2.symm, w_succ hl h.hn, by show 1 = N (i + 1); omega, rfl, fun j hj => ⟨hW 0 j hj, hW 1 j hj, hW 2 j hj, hW 3 j hj, hW 4 j hj, hW 5 j hj, hW 6 j hj, hW 7 j hj, hW 8 j hj, hW 9 j hj, hW 10 j hj, hW 11 j hj, hW 12 j hj, hW 13 j hj, hW 14 j hj, hW 15 j hj, hW 16 j hj, hW 17 j hj, hW 18 j hj, hW 19 j hj, hW 20 j hj, hW 21 j hj, hW 22 j hj, hW 23 j hj, hW 24 j hj, hW 25 j hj, hW 26 j hj, hW 27 j hj, hW 28 j hj, hW 29 j hj, hW 30 j hj, hW 31 j hj, hA 0 j hj, hA 1 j hj, hA 2 j hj, hA 3 j hj⟩, less_step hl⟩
    · have h2 : ¬ (q = 1 ∧ i = p) := by rw [Bool.not_eq_true'] at h2; exact of_decide_eq_false h2
      obtain ⟨f1, f2, f3, f4⟩ := H.s3 hl (.inl (is_lt_dec h1)) h2
      rw [y2] at f1 f3 f4
      have hW : ∀ k, (∀ j, j < 1 → W i k = W' j k) := fun k j hj => by rw [show j = 0 by omega, f3]
      have hA : ∀ k, (∀ j, j < 1 → limb (A i) k = limb (A' j) k) := fun k j hj => by rw [show j = 0 by omega, f4]
      exact ⟨⟨i + 1, c⟩, ⟨by show i + 1 ≤ n; omega, by show 0 < N (i + 1); omega, by show N (i + 1) + c ≤ maxLen; omega⟩, ⟨by show 1 = N (i + 1); omega, by show 1 + c = N (i + 1) + c; omega⟩, f2.symm, w_succ hl h.hn, by show 1 = N (i + 1); omega, rfl, fun j hj => ⟨hW 0 j hj, hW 1 j hj, hW 2 j hj, hW 3 j hj, hW 4 j hj, hW 5 j hj, hW 6 j hj, hW 7 j hj, hW 8 j hj, hW 9 j hj, hW 10 j hj, hW 11 j hj, hW 12 j hj, hW 13 j hj, hW 14 j hj, hW 15 j hj, hW 16 j hj, hW 17 j hj, hW 18 j hj, hW 19 j hj, hW 20 j hj, hW 21 j hj, hW 22 j hj, hW 23 j hj, hW 24 j hj, hW 25 j hj, hW 26 j hj, hW 27 j hj, hW 28 j hj, hW 29 j hj, hW 30 j hj, hW 31 j hj, hA 0 j hj, hA 1 j hj, hA 2 j hj, hA 3 j hj⟩, less_step hl⟩
    · have h2 : q = 1 ∧ i = p := by rw [Bool.not_eq_false'] at h2; exact of_decide_eq_true h2
      have := is_lt_dec h1
      omega
    · have hb : B i = true := by rw [Bool.not_eq_false'] at hb; exact hb
      have h2 : ¬ (q = 1 ∧ i = p) := by rw [Bool.not_eq_true'] at h2; exact of_decide_eq_false h2
      obtain ⟨f1, f2, f3, f4⟩ := H.s3 hl (.inr hb) h2
      rw [y2] at f1 f3 f4
      have hW : ∀ k, (∀ j, j < 1 → W i k = W' j k) := fun k j hj => by rw [show j = 0 by omega, f3]
      have hA : ∀ k, (∀ j, j < 1 → limb (A i) k = limb (A' j) k) := fun k j hj => by rw [show j = 0 by omega, f4]
      exact ⟨⟨i + 1, c⟩, ⟨by show i + 1 ≤ n; omega, by show 0 < N (i + 1); omega, by show N (i + 1) + c ≤ maxLen; omega⟩, ⟨by show 1 = N (i + 1); omega, by show 1 + c = N (i + 1) + c; omega⟩, f2.symm, w_succ hl h.hn, by show 1 = N (i + 1); omega, rfl, fun j hj => ⟨hW 0 j hj, hW 1 j hj, hW 2 j hj, hW 3 j hj, hW 4 j hj, hW 5 j hj, hW 6 j hj, hW 7 j hj, hW 8 j hj, hW 9 j hj, hW 10 j hj, hW 11 j hj, hW 12 j hj, hW 13 j hj, hW 14 j hj, hW 15 j hj, hW 16 j hj, hW 17 j hj, hW 18 j hj, hW 19 j hj, hW 20 j hj, hW 21 j hj, hW 22 j hj, hW 23 j hj, hW 24 j hj, hW 25 j hj, hW 26 j hj, hW 27 j hj, hW 28 j hj, hW 29 j hj, hW 30 j hj, hW 31 j hj, hA 0 j hj, hA 1 j hj, hA 2 j hj, hA 3 j hj⟩, less_step hl⟩
    · have hb : B i = true := by rw [Bool.not_eq_false'] at hb; exact hb
      have h2 : q = 1 ∧ i = p := by rw [Bool.not_eq_false'] at h2; exact of_decide_eq_true h2
      obtain ⟨f1, f2⟩ := H.s4 hl hb h2
      exact ⟨i + 1, ⟨by omega, by omega⟩, f2.symm, w_succ hl h.hn, less_step hl⟩
  · obtain ⟨y1, y2⟩ := hy
    have hl := of_decide_eq_false hl
    have e2 : i = n := by omega
    subst e2
    refine ⟨fun hb => ⟨sz_ok (by omega), fun c hc => ?_⟩, fun hb => ?_⟩
    · have hb : B i = false := by rw [Bool.not_eq_true'] at hb; exact hb
      obtain ⟨f1, f2, f3⟩ := H.s5 hb
      rw [y2] at f1 f2 f3
      have hW : ∀ k, (∀ j, j < 1 → v k = W' j k) := fun k j hj => by rw [show j = 0 by omega, f2]
      have hA : ∀ k, (∀ j, j < 1 → limb x k = limb (A' j) k) := fun k j hj => by rw [show j = 0 by omega, f3]
      exact ⟨by omega, by rw [hn', f1], by omega, fun j hj => by
        have hj : j < 1 := by rw [hn', f1] at hj; exact hj
        exact ⟨hW 0 j hj, hW 1 j hj, hW 2 j hj, hW 3 j hj, hW 4 j hj, hW 5 j hj, hW 6 j hj, hW 7 j hj, hW 8 j hj, hW 9 j hj, hW 10 j hj, hW 11 j hj, hW 12 j hj, hW 13 j hj, hW 14 j hj, hW 15 j hj, hW 16 j hj, hW 17 j hj, hW 18 j hj, hW 19 j hj, hW 20 j hj, hW 21 j hj, hW 22 j hj, hW 23 j hj, hW 24 j hj, hW 25 j hj, hW 26 j hj, hW 27 j hj, hW 28 j hj, hW 29 j hj, hW 30 j hj, hW 31 j hj, hA 0 j hj, hA 1 j hj, hA 2 j hj, hA 3 j hj⟩⟩
    · have hb : B i = true := by rw [Bool.not_eq_false'] at hb; exact hb
      rw [hn', H.s6 hb, y2]
end Go.Proofs.Ytnkgniedhmnanaa
end

section
namespace Go.Proofs.Ytnkgniedhmnanaa
open Go Go.Sx Go.RowKit
set_option maxRecDepth 100000
theorem se_of {n : Nat} {W : Nat → Nat → Int} {A : Nat → Nat} {v : Nat → Int} (x : Nat) (ho : ordB n (fun i => kv (W i)) A = true) (h40 : n ≤ 40) (p q : Nat) (hp : posN (fun i => kv (W i)) (kv v) n = p) (hq : qOf (isN (fun i => kv (W i)) (kv v) n) = q) :
    seP n W A v x p q (eOf x) (oN p q (eOf x)) (iB p (eOf x)) (putF p q (eOf x) W v) (putF p q (eOf x) A x) := by
  obtain ⟨l1, l2⟩ := pos_lo ho (kv v)
  rw [hp] at l1 l2
  have hpn : p ≤ n := by rw [← hp]; exact posN_le _ _ _
  have hq1 : q ≤ 1 := by rw [← hq]; unfold qOf; cases isN (fun i => kv (W i)) (kv v) n <;> decide
  have he1 : eOf x ≤ 1 := by unfold eOf; cases decide (x % M256 = 0) <;> decide
  have hq2 : q = 1 ↔ p < n ∧ kv (W p) = kv v := by
    rw [← hq]
    unfold qOf isN
    rw [hp]
    by_cases h : p < n ∧ kv (W p) = kv v
    · rw [decide_eq_true h.1, decide_eq_true h.2]
      exact ⟨fun _ => h, fun _ => rfl⟩
    · constructor
      · intro hh
        by_cases h1 : p < n
        · rw [decide_eq_true h1, decide_eq_false fun h2 => h ⟨h1, h2⟩] at hh; cases hh
        · rw [decide_eq_false h1] at hh; cases hh
      · intro hh; exact absurd hh h
  refine ⟨hq1, he1, ?_, h40, fun i hi => oN_lo hi, fun i hi => oN_hi hi, fun i => iB_t, fun i => iB_f, fun i hi => ?_, fun i hi => ?_, fun j hj => ⟨put_lo hj, put_lo hj⟩, fun j h1 h2 => ⟨put_at h1 h2, put_at h1 h2⟩, fun j hj => ⟨put_hi hj, put_hi hj⟩⟩
  · rcases Nat.lt_or_ge q 1 with h | h
    · omega
    · have := (hq2.1 (by omega)).1; omega
  · rw [Bool.eq_iff_iff, decide_eq_true_eq, decide_eq_true_eq]
    constructor
    · intro h
      rcases Nat.lt_or_ge i p with k | k
      · exact k
      · exact absurd h (l2 i k hi)
    · exact fun h => l1 i h
  · rw [Bool.eq_iff_iff, decide_eq_true_eq, decide_eq_true_eq]
    constructor
    · intro h
      have hpi : p ≤ i := by
        rcases Nat.lt_or_ge i p with k | k
        · have := l1 i k
          exact absurd h (Nat.ne_of_lt this)
        · exact k
      have hi' : i = p := by
        rcases Nat.lt_or_ge p i with k | k
        · have h1 := l2 p (Nat.le_refl _) (by omega)
          have h2 : kv (W p) < kv (W i) := ord_lt ho k hi
          rw [h] at h2
          exact absurd h2 h1
        · omega
      subst hi'
      exact ⟨hq2.2 ⟨hi, h⟩, rfl⟩
    · rintro ⟨h1, rfl⟩
      exact (hq2.1 h1).2
theorem okx_Se : CxOK Try.prog cxSe := by
  refine ⟨fun p hp => ?_, fun p hp => (by cases hp)⟩
  rcases List.mem_cons.1 hp with rfl | hp
  · exact FnOKg.up card_isZ []
  · exact (okx_mark (okx_mark okx_nil)).1 p hp
theorem oks_Se : ∀ p ∈ slSe, FnOKs Try.prog cxSe.gl p.1 p.2 := oks_cons card_bf oks_nil
def seC : List (List FD) → List Prop
  | [[.u _, .x a n _ f], [.y v], [.u _]] => [wiP a n f v]
  | _ => [False]
def seG : List (List FD) → List RS
  | [[.u s, .x _ n _ f], [.y v], [.u x]] => [.st [.k (.u s), .s (nW n f v x) 36 (hoF (wW n f v x) (aW n f v x))]]
  | _ => []
def cSe : SSpec := specQ0 false [.st [.u, .x 36], .st [.y 32], .st [.u]] seC seG
theorem card_se {gl : Globs} : FnOKs Try.prog gl 32 cSe := by
  refine FnOKs.up0 (FnOKs_R0 (cx := cxSe) okx_Se (sl := slSe) oks_Se Try.func32 (by kernel_rfl) (by kernel_rfl) fun ls hc => ?_) gl
  unfold seC at hc
  split at hc
  · rename_i s a n cap f v x
    obtain ⟨p, _⟩ := hc
    refine ⟨_, _, [sCn s a n cap (kOf f) (aH f), sWh v, sU x], fun _ => rfl, fun E hE => ?_, fun r hr => ?_, ok_se s a n cap (kOf f) (aH f) v x _ _ _ _ _ _ _ (hk_hoP p.g1.f1) p.g1.f3 (se_of x p.g1.f2 p.g2 _ _ rfl rfl) (oN_lo (Nat.zero_le _)) ?_⟩
    · intro z hz
      simp only [List.mem_cons, List.not_mem_nil, or_false] at hz
      rcases hz with rfl | rfl | rfl
      · exact cn_bnd p.g1.f1 (hE _ (List.mem_cons_self ..))
      · exact hE _ (List.mem_cons_of_mem _ (List.mem_cons_self ..))
      · exact hE _ (List.mem_cons_of_mem _ (List.mem_cons_of_mem _ (List.mem_cons_self ..)))
    · rw [List.mem_singleton.1 hr]
      intro k hk
      simp only [List.mem_cons, List.not_mem_nil, or_false] at hk
      rcases hk with rfl | rfl
      · trivial
      · exact ho_closed _ _ _
    · unfold iB eOf
      cases decide (x % M256 = 0) <;> rfl
  · exact hc.1.elim
end Go.Proofs.Ytnkgniedhmnanaa
end
