/-
  Texts: P274, V171, P275, P280, P281, V180, P282, V181, P283, P284, V182, P285, P286, P287, V183, P288, V184.
-/
import Derived.Test.YtnjdoebaneogjaaM1
import Derived.Test.YtnjdoebaneogjaaM2
import Derived.Test.YtnjdoebaneogjaaM3
import Derived.Test.YtnjdoebaneogjaaM4
import Derived.Test.YtnjdoebaneogjaaM5
import Derived.Test.YtnjdoebaneogjaaM6
import Derived.Test.YtnjdoebaneogjaaM7
import Derived.Test.YtnjdoebaneogjaaM8
import Derived.Test.YtnjdoebaneogjaaM9
import Derived.Test.YtnjdoebaneogjaaM10
import Derived.Test.YtnjdoebaneogjaaM11
section
namespace Go.Proofs.Ytnjdoebaneogjaa
open Go Go.Sx Go.RowKit
set_option maxRecDepth 100000
def cnF (s n : Nat) (f : Nat → Nat → SC) : Int := cnE n (kH f) (aH f) (s % M256)
def miE (s n : Nat) (f : Nat → Nat → SC) (v : Nat → Int) (x : Nat) : Int :=
  if cnF s n f ≠ 0 then cnF s n f else if M256 ≤ s % M256 + x % M256 then 13 else if 40 < nW n f v (miY s n f v x) then 9 else 0
def miS (s n : Nat) (f : Nat → Nat → SC) (v : Nat → Int) (x : Nat) : Nat := if miE s n f v x = 0 then s + x else 0
def miN (s n : Nat) (f : Nat → Nat → SC) (v : Nat → Int) (x : Nat) : Nat := if miE s n f v x = 0 then nW n f v (miY s n f v x) else 0
def miF (s n : Nat) (f : Nat → Nat → SC) (v : Nat → Int) (x : Nat) : Nat → Nat → SC := hoF (wW n f v (miY s n f v x)) (aW n f v (miY s n f v x))
def buE (s n : Nat) (f : Nat → Nat → SC) (v : Nat → Int) (x : Nat) : Int :=
  if cnF s n f ≠ 0 then cnF s n f else if hvF s n f v % M256 < x % M256 then 13 else 0
def buS (s n : Nat) (f : Nat → Nat → SC) (v : Nat → Int) (x : Nat) : Nat := if buE s n f v x = 0 then s % M256 + M256 - x % M256 else 0
def buN (s n : Nat) (f : Nat → Nat → SC) (v : Nat → Int) (x : Nat) : Nat := if buE s n f v x = 0 then nW n f v (buY s n f v x) else 0
def buF (s n : Nat) (f : Nat → Nat → SC) (v : Nat → Int) (x : Nat) : Nat → Nat → SC := hoF (wW n f v (buY s n f v x)) (aW n f v (buY s n f v x))
theorem all_ho (W : Nat → Nat → Int) (A : Nat → Nat) (i : Nat) : allC 36 fun c => simC (hoF W A i c) (hoF W A i c) := by
  have z := sim_ho W A
  exact ⟨z i 0, z i 1, z i 2, z i 3, z i 4, z i 5, z i 6, z i 7, z i 8, z i 9, z i 10, z i 11, z i 12, z i 13, z i 14, z i 15, z i 16, z i 17, z i 18, z i 19, z i 20, z i 21, z i 22, z i 23, z i 24, z i 25, z i 26, z i 27, z i 28, z i 29, z i 30, z i 31, z i 32, z i 33, z i 34, z i 35⟩
theorem of_wi {a : Option Addr} {n s : Nat} {f : Nat → Nat → SC} {v : Nat → Int} (h : ofP a n f v) (h0 : cnE n (kH f) (aH f) (s % M256) = 0) : wiP a n f v :=
  ⟨⟨h.o1, (cn_0 h0).2.1, h.o2⟩, (cn_0 h0).1⟩
theorem ok_mi (s : Nat) (a : Option Addr) (n cap : Nat) (f : Nat → Nat → SC) (v : Nat → Int) (x : Nat) (h : ofP a n f v) :
    OwesR Try.prog cxMi slMi [] 10 Try.f18 [sCf s a n cap f, sWh v, sU x] true [.st [.k (.u (miS s n f v x)), .s (miN s n f v x) 36 (miF s n f v x)], .v (sI .i64 (miE s n f v x))] := by
  obtain ⟨S, hS⟩ : ∃ S, S = miS s n f v x := ⟨_, rfl⟩
  obtain ⟨N, hN⟩ : ∃ N, N = miN s n f v x := ⟨_, rfl⟩
  obtain ⟨e, he⟩ : ∃ e, e = miE s n f v x := ⟨_, rfl⟩
  unfold miF miY hvF
  rw [← hS, ← hN, ← he, vc_mi]
  intro x1 x2 x3 x4 x5 x6 x7
  have z := all_ho (wW n f v x5) (aW n f v x5)
  have e2 : x2 = cnF s n f := rfl
  have e3 : x3 = S % M256 := rfl
  have e4 : x4 = s % M256 + x % M256 := rfl
  have e6 : x6 = nW n f v (miY s n f v x) := rfl
  have e7 : x7 = (x6 : Int) := rfl
  have hw : x2 = 0 → wiP a n f v := fun h0 => of_wi h h0
  unfold miS at hS
  unfold miN at hN
  rw [← he] at hS hN
  unfold miE at he
  rw [← e2, ← e4, ← e6] at he
  rw [← e6] at hN
  clear_value x2 x3 x4 x6 x7
  rw [e3, e7]
  refine ⟨h, fun h0 => ?_, fun h0 => ⟨fun h1 => ?_, fun h1 => ⟨hw (bne_1 h0), fun _ _ _ _ => ⟨fun h2 => ?_, fun h2 => ?_⟩⟩⟩⟩
  · have h0 := bne_0 h0
    rw [if_pos h0] at he
    rw [if_neg (by rw [he]; exact h0)] at hS hN
    exact ⟨⟨⟨by rw [hS, Nat.zero_mod], trivial⟩, hN, trivial⟩, he.symm⟩
  all_goals
    have h0 := bne_1 h0
    rw [if_neg (by rw [h0]; decide)] at he
  · rw [if_pos (of_decide_eq_true h1)] at he
    rw [if_neg (by rw [he]; decide)] at hS hN
    exact ⟨⟨⟨by rw [hS, Nat.zero_mod], trivial⟩, hN, trivial⟩, he.symm⟩
  all_goals rw [if_neg (of_decide_eq_false h1)] at he
  · rw [if_pos (by have := of_decide_eq_true h2; omega)] at he
    rw [if_neg (by rw [he]; decide)] at hS hN
    exact ⟨⟨⟨by rw [hS, Nat.zero_mod], trivial⟩, hN, trivial⟩, he.symm⟩
  · rw [if_neg (by have := of_decide_eq_false h2; omega)] at he
    rw [if_pos he] at hS hN
    exact ⟨⟨⟨by rw [hS], trivial⟩, ⟨hN.symm, fun i _ => z i⟩, trivial⟩, he.symm⟩
theorem ok_bu (s : Nat) (a : Option Addr) (n cap : Nat) (f : Nat → Nat → SC) (v : Nat → Int) (x : Nat) (h : ofP a n f v) :
    OwesR Try.prog cxBu slMi [] 10 Try.f19 [sCf s a n cap f, sWh v, sU x] true [.st [.k (.u (buS s n f v x)), .s (buN s n f v x) 36 (buF s n f v x)], .v (sI .i64 (buE s n f v x))] := by
  obtain ⟨S, hS⟩ : ∃ S, S = buS s n f v x := ⟨_, rfl⟩
  obtain ⟨N, hN⟩ : ∃ N, N = buN s n f v x := ⟨_, rfl⟩
  obtain ⟨e, he⟩ : ∃ e, e = buE s n f v x := ⟨_, rfl⟩
  unfold buF buY hvF
  rw [← hS, ← hN, ← he, vc_bu]
  intro x1 x2 x3 x4 x5 x6 x7
  have z := all_ho (wW n f v x6) (aW n f v x6)
  have e2 : x2 = cnF s n f := rfl
  have e3 : x3 = S % M256 := rfl
  have e4 : x4 = hvF s n f v % M256 := rfl
  have e5 : x5 = x % M256 := rfl
  have e1 : x1 = s % M256 := rfl
  have e7 : x7 = nW n f v (buY s n f v x) := rfl
  have hw : x2 = 0 → wiP a n f v := fun h0 => of_wi h h0
  unfold buS at hS
  unfold buN at hN
  rw [← he] at hS hN
  unfold buE at he
  rw [← e2, ← e4, ← e5] at he
  rw [← e7] at hN
  rw [← e1, ← e5] at hS
  clear_value x1 x2 x3 x4 x5 x6 x7
  rw [e3]
  refine ⟨h, fun h0 => ?_, fun h0 => ⟨fun h1 => ?_, fun h1 => ?_⟩⟩
  · have h0 := bne_0 h0
    rw [if_pos h0] at he
    rw [if_neg (by rw [he]; exact h0)] at hS hN
    exact ⟨⟨⟨by rw [hS, Nat.zero_mod], trivial⟩, hN, trivial⟩, he.symm⟩
  all_goals
    have h0 := bne_1 h0
    rw [if_neg (by rw [h0]; decide)] at he
  · rw [if_pos (of_decide_eq_true h1)] at he
    rw [if_neg (by rw [he]; decide)] at hS hN
    exact ⟨⟨⟨by rw [hS, Nat.zero_mod], trivial⟩, hN, trivial⟩, he.symm⟩
  · rw [if_neg (of_decide_eq_false h1)] at he
    rw [if_pos he] at hS hN
    have leaf : wiP a n f v ∧ ∀ (a : Option Addr) (cap : Nat), (a = none → x7 = 0 ∧ cap = 0) → x7 ≤ cap → (((x1 + M256 - x5) % M256 = S % M256 ∧ True) ∧ (x7 = N ∧ ∀ (i : Nat), i < N → allC 36 fun (c : Nat) => simC (hoF (wW n f v x6) (aW n f v x6) i c) (hoF (wW n f v x6) (aW n f v x6) i c)) ∧ True) ∧ 0 = e :=
      ⟨hw h0, fun _ _ _ _ => ⟨⟨⟨by rw [hS], trivial⟩, ⟨hN.symm, fun i _ => z i⟩, trivial⟩, he.symm⟩⟩
    clear z hS hN he
    repeat' first | exact leaf | refine And.intro ?_ ?_
def mbC : List (List FD) → List Prop
  | [[.u _, .x a n _ f], [.y v], [.u _]] => [ofP a n f v]
  | _ => [False]
def miG : List (List FD) → List RS
  | [[.u s, .x _ n _ f], [.y v], [.u x]] => [.st [.k (.u (miS s n f v x)), .s (miN s n f v x) 36 (miF s n f v x)], .v (sI .i64 (miE s n f v x))]
  | _ => []
def buG : List (List FD) → List RS
  | [[.u s, .x _ n _ f], [.y v], [.u x]] => [.st [.k (.u (buS s n f v x)), .s (buN s n f v x) 36 (buF s n f v x)], .v (sI .i64 (buE s n f v x))]
  | _ => []
def cMi : SSpec := specQ0 true [.st [.u, .x 36], .st [.y 32], .st [.u]] mbC miG
def cBu : SSpec := specQ0 true [.st [.u, .x 36], .st [.y 32], .st [.u]] mbC buG
theorem st_closed {S N : Nat} {W : Nat → Nat → Int} {A : Nat → Nat} {e : Int} : ∀ r ∈ [RS.st [.k (.u S), .s N 36 (hoF W A)], .v (sI .i64 e)], r.closed := by
  intro r hr
  simp only [List.mem_cons, List.not_mem_nil, or_false] at hr
  rcases hr with rfl | rfl
  · intro k hk
    simp only [List.mem_cons, List.not_mem_nil, or_false] at hk
    rcases hk with rfl | rfl
    · trivial
    · exact ho_closed _ _ _
  · trivial
theorem okx_Mi : CxOK Try.prog cxMi := okx_cons card_Add (okx_mark okx_nil)
theorem okx_Bu : CxOK Try.prog cxBu := okx_cons card_Sub (okx_mark (okx_mark (okx_mark (okx_mark okx_nil))))
theorem oks_Mi : ∀ p ∈ slMi, FnOKs Try.prog [] p.1 p.2 := oks_cons card_of (oks_cons card_wi oks_nil)
theorem card_mi {gl : Globs} : FnOKs Try.prog gl 18 cMi := by
  refine FnOKs.up0 (FnOKs_R0 (cx := cxMi) okx_Mi (sl := slMi) oks_Mi Try.func18 (by kernel_rfl) (by kernel_rfl) fun ls hc => ?_) gl
  unfold mbC at hc
  split at hc
  · rename_i s a n cap f v x
    obtain ⟨p, _⟩ := hc
    exact ⟨_, _, [sCf s a n cap f, sWh v, sU x], fun _ => rfl, fun _ h => h, st_closed, ok_mi s a n cap f v x p⟩
  · exact hc.1.elim
theorem card_bu {gl : Globs} : FnOKs Try.prog gl 19 cBu := by
  refine FnOKs.up0 (FnOKs_R0 (cx := cxBu) okx_Bu (sl := slMi) oks_Mi Try.func19 (by kernel_rfl) (by kernel_rfl) fun ls hc => ?_) gl
  unfold mbC at hc
  split at hc
  · rename_i s a n cap f v x
    obtain ⟨p, _⟩ := hc
    exact ⟨_, _, [sCf s a n cap f, sWh v, sU x], fun _ => rfl, fun _ h => h, st_closed, ok_bu s a n cap f v x p⟩
  · exact hc.1.elim
end Go.Proofs.Ytnjdoebaneogjaa
end

section
namespace Go.Proofs.Ytnjdoebaneogjaa
open Go Go.Sx Go.RowKit
set_option maxRecDepth 100000
def slMo : List (Nat × SSpec) := [(19, cBu), (18, cMi)]
theorem vc_mo (s : Nat) (a : Option Addr) (n cap : Nat) (f : Nat → Nat → SC) (v w : Nat → Int) (x : Nat) (S N : Nat) (e : Int) :
    OwesR Try.prog cx14 slMo [] 10 Try.f9 [sCf s a n cap f, sWh v, sWh w, sU x] true [.st [.k (.u S), .s N 36 (miF (buS s n f v x) (buN s n f v x) (buF s n f v x) w x)], .v (sI .i64 e)] =
    (let x1 : Nat := S % M256; let x2 : Nat := miN (buS s n f v x) (buN s n f v x) (buF s n f v x) w x; ofP a n f v ∧ ∀ (a : Option Go.Addr) (cap : Nat), (a = Option.none → buN s n f v x = 0 ∧ cap = 0) → buN s n f v x ≤ cap → ((buE s n f v x != (0 : Int)) = Bool.true → ((0 = x1 ∧ True) ∧ N = 0 ∧ True) ∧ buE s n f v x = e) ∧ ((buE s n f v x != (0 : Int)) = Bool.false → ofP a (buN s n f v x) (buF s n f v x) w ∧ ∀ (a : Option Go.Addr) (cap : Nat), (a = Option.none → x2 = 0 ∧ cap = 0) → x2 ≤ cap → ((miS (buS s n f v x) (buN s n f v x) (buF s n f v x) w x % M256 = x1 ∧ True) ∧ (x2 = N ∧ ∀ (i : Nat), i < N → allC 36 fun (c : Nat) => simC (miF (buS s n f v x) (buN s n f v x) (buF s n f v x) w x i c) (miF (buS s n f v x) (buN s n f v x) (buF s n f v x) w x i c)) ∧ True) ∧ miE (buS s n f v x) (buN s n f v x) (buF s n f v x) w x = e)) := by kernel_rfl
end Go.Proofs.Ytnjdoebaneogjaa
end

section
namespace Go.Proofs.Ytnjdoebaneogjaa
open Go Go.Sx Go.RowKit
set_option maxRecDepth 100000
theorem hk_ho0 {a : Option Addr} {n : Nat} {W : Nat → Nat → Int} {A : Nat → Nat} (hn : n ≤ maxLen) (ha : a = none → n = 0) (hw : ∀ i, i < n → by32 (W i)) : hkP a n (hoF W A) where
  k1 := hn
  k2 := ha
  k3 i _ j hj := by unfold kOf; rw [ho_lo hj]; rfl
  k4 i _ j hj := by
    rw [aH_ho]
    have := limbs_eq.1 (Nat.mod_mod (A i) M256)
    match j, hj with
    | 0, _ => rw [this.1]; rfl
    | 1, _ => rw [this.2.1]; rfl
    | 2, _ => rw [this.2.2.1]; rfl
    | 3, _ => rw [this.2.2.2]; rfl
  k5 i hi j hj := by unfold kOf; rw [ho_lo hj]; exact hw i hi j hj
  k6 i _ := by rw [aH_ho]; exact Nat.mod_lt _ (by decide)
theorem qW_le (n : Nat) (f : Nat → Nat → SC) (v : Nat → Int) : pW n f v + qW n f v ≤ n := by
  unfold qW qOf pW
  have h := posN_le (kH f) (kv v) n
  cases q : isN (kH f) (kv v) n with
  | false => exact h
  | true => exact (is_lt q).1
theorem eOf_le (x : Nat) : eOf x ≤ 1 := by unfold eOf; cases decide (x % M256 = 0) <;> decide
theorem nW_le (n : Nat) (f : Nat → Nat → SC) (v : Nat → Int) (x : Nat) : nW n f v x ≤ n + 1 := by
  have := qW_le n f v
  have := eOf_le x
  unfold nW putN
  omega
theorem wW_by {a : Option Addr} {n : Nat} {f : Nat → Nat → SC} {v : Nat → Int} (h : hkP a n f) (hv : by32 v) (x : Nat) : ∀ i, i < nW n f v x → by32 (wW n f v x i) := by
  intro i hi
  have hq := qW_le n f v
  unfold nW putN at hi
  unfold wW
  rcases Nat.lt_or_ge i (pW n f v) with k | k
  · rw [put_lo k]; exact h.k5 i (by omega)
  · rcases Nat.lt_or_ge i (pW n f v + eOf x) with m | m
    · rw [put_at k m]; exact hv
    · rw [put_hi m]; exact h.k5 _ (by omega)
theorem of_new {a a' : Option Addr} {n : Nat} {f : Nat → Nat → SC} {v w : Nat → Int} {x : Nat} (h : ofP a n f v) (h40 : n ≤ 40) (hw : by32 w) (ha : a' = none → nW n f v x = 0) : ofP a' (nW n f v x) (hoF (wW n f v x) (aW n f v x)) w :=
  ⟨hk_ho0 (by have := nW_le n f v x; have hML : maxLen = 9223372036854775807 := rfl; omega) ha (wW_by h.o1 h.o2 x), hw⟩
theorem bu_0 {s n : Nat} {f : Nat → Nat → SC} {v : Nat → Int} {x : Nat} (h : buE s n f v x = 0) : cnF s n f = 0 ∧ ¬ hvF s n f v % M256 < x % M256 := by
  unfold buE at h
  by_cases h0 : cnF s n f ≠ 0
  · rw [if_pos h0] at h; exact absurd h h0
  · rw [if_neg h0] at h
    by_cases h1 : hvF s n f v % M256 < x % M256
    · rw [if_pos h1] at h; cases h
    · exact ⟨by simpa using h0, h1⟩
theorem of_bu {a a' : Option Addr} {s n : Nat} {f : Nat → Nat → SC} {v w : Nat → Int} {x : Nat} (h : ofP a n f v) (hw : by32 w) (h0 : buE s n f v x = 0) (ha : a' = none → buN s n f v x = 0) : ofP a' (buN s n f v x) (buF s n f v x) w := by
  have e : buN s n f v x = nW n f v (buY s n f v x) := by unfold buN; rw [if_pos h0]
  rw [e] at ha ⊢
  exact of_new h (cn_0 (bu_0 h0).1).1 hw ha
def moE (s n : Nat) (f : Nat → Nat → SC) (v w : Nat → Int) (x : Nat) : Int := if buE s n f v x ≠ 0 then buE s n f v x else miE (buS s n f v x) (buN s n f v x) (buF s n f v x) w x
def moS (s n : Nat) (f : Nat → Nat → SC) (v w : Nat → Int) (x : Nat) : Nat := if buE s n f v x ≠ 0 then 0 else miS (buS s n f v x) (buN s n f v x) (buF s n f v x) w x
def moN (s n : Nat) (f : Nat → Nat → SC) (v w : Nat → Int) (x : Nat) : Nat := if buE s n f v x ≠ 0 then 0 else miN (buS s n f v x) (buN s n f v x) (buF s n f v x) w x
def moF (s n : Nat) (f : Nat → Nat → SC) (v w : Nat → Int) (x : Nat) : Nat → Nat → SC := miF (buS s n f v x) (buN s n f v x) (buF s n f v x) w x
structure moP (a : Option Addr) (n : Nat) (f : Nat → Nat → SC) (v w : Nat → Int) : Prop where
  m1 : ofP a n f v
  m2 : by32 w
theorem ok_mo (s : Nat) (a : Option Addr) (n cap : Nat) (f : Nat → Nat → SC) (v w : Nat → Int) (x : Nat) (h : moP a n f v w) :
    OwesR Try.prog cx14 slMo [] 10 Try.f9 [sCf s a n cap f, sWh v, sWh w, sU x] true [.st [.k (.u (moS s n f v w x)), .s (moN s n f v w x) 36 (moF s n f v w x)], .v (sI .i64 (moE s n f v w x))] := by
  obtain ⟨S, hS⟩ : ∃ S, S = moS s n f v w x := ⟨_, rfl⟩
  obtain ⟨N, hN⟩ : ∃ N, N = moN s n f v w x := ⟨_, rfl⟩
  obtain ⟨e, he⟩ : ∃ e, e = moE s n f v w x := ⟨_, rfl⟩
  unfold moF
  rw [← hS, ← hN, ← he, vc_mo]
  intro x1 x2
  unfold moS at hS
  unfold moN at hN
  unfold moE at he
  have e1 : x1 = S % M256 := rfl
  have e2 : x2 = miN (buS s n f v x) (buN s n f v x) (buF s n f v x) w x := rfl
  clear_value x1 x2
  rw [e1, e2]
  refine ⟨h.m1, fun a' cap' ha _ => ⟨fun h0 => ?_, fun h0 => ?_⟩⟩
  · have h0 := bne_0 h0
    rw [if_pos h0] at he hS hN
    exact ⟨⟨⟨by rw [hS, Nat.zero_mod], trivial⟩, hN, trivial⟩, he.symm⟩
  · have h0 := bne_1 h0
    rw [if_neg fun q => q h0] at he hS hN
    exact ⟨of_bu h.m1 h.m2 h0 fun q => (ha q).1, fun _ _ _ _ => ⟨⟨⟨by rw [hS], trivial⟩, ⟨hN.symm, fun i _ => all_ho _ _ i⟩, trivial⟩, he.symm⟩⟩
def moC : List (List FD) → List Prop
  | [[.u _, .x a n _ f], [.y v], [.y w], [.u _]] => [moP a n f v w]
  | _ => [False]
def moG : List (List FD) → List RS
  | [[.u s, .x _ n _ f], [.y v], [.y w], [.u x]] => [.st [.k (.u (moS s n f v w x)), .s (moN s n f v w x) 36 (moF s n f v w x)], .v (sI .i64 (moE s n f v w x))]
  | _ => []
def cMo : SSpec := specQ0 true [.st [.u, .x 36], .st [.y 32], .st [.y 32], .st [.u]] moC moG
theorem oks_Mo : ∀ p ∈ slMo, FnOKs Try.prog cx14.gl p.1 p.2 := oks_cons card_bu (oks_cons card_mi oks_nil)
theorem card_mo {gl : Globs} : FnOKs Try.prog gl 9 cMo := by
  refine FnOKs.up0 (FnOKs_R0 (cx := cx14) okx_14 (sl := slMo) oks_Mo Try.func9 (by kernel_rfl) (by kernel_rfl) fun ls hc => ?_) gl
  unfold moC at hc
  split at hc
  · rename_i s a n cap f v w x
    obtain ⟨p, _⟩ := hc
    exact ⟨_, _, [sCf s a n cap f, sWh v, sWh w, sU x], fun _ => rfl, fun _ h => h, st_closed, ok_mo s a n cap f v w x p⟩
  · exact hc.1.elim
end Go.Proofs.Ytnjdoebaneogjaa
end

section
namespace Go.Proofs.Ytnjdoebaneogjaa
open Go Go.Sx Go.RowKit
set_option maxRecDepth 100000
theorem hld_at {n : Nat} {K A : Nat → Nat} (h : ordB n K A = true) {i : Nat} (hi : i < n) : hldN n K A (K i) = A i := by
  have e : posN K (K i) n = i := posN_eq (by omega) (fun j hj => ord_lt h hj hi) (fun j hj hn => Nat.not_lt.2 (ord_le h hj hn))
  unfold hldN isN
  rw [e, decide_eq_true hi, decide_eq_true rfl]; rfl
theorem hld_no {n : Nat} {K A : Nat → Nat} {k : Nat} (h : ∀ i, i < n → K i ≠ k) : hldN n K A k = 0 := by
  unfold hldN
  by_cases q : isN K k n = true
  · exact absurd (is_lt q).2 (h _ (is_lt q).1)
  · rw [if_neg q]
structure spP (n : Nat) (K A : Nat → Nat) (k p q : Nat) : Prop where
  o : ordB n K A = true
  le : p + q ≤ n
  q1 : q ≤ 1
  lo : ∀ i, i < p → K i < k
  eq : q = 1 → K p = k
  hi : ∀ i, p + q ≤ i → i < n → k < K i
theorem sp_of {n : Nat} {K A : Nat → Nat} {k : Nat} (h : ordB n K A = true) : spP n K A k (posN K k n) (qOf (isN K k n)) := by
  obtain ⟨h1, h2⟩ := pos_lo h k
  have hle := posN_le K k n
  cases hq : isN K k n with
  | true =>
    obtain ⟨a, b⟩ := is_lt hq
    refine ⟨h, a, Nat.le_refl 1, h1, fun _ => b, fun i hi hn => ?_⟩
    have hi : posN K k n + 1 ≤ i := hi
    have := ord_lt h (show posN K k n < i by omega) hn
    omega
  | false =>
    refine ⟨h, hle, Nat.zero_le 1, h1, fun e => absurd e (by decide), fun i hi hn => ?_⟩
    have hi : posN K k n ≤ i := hi
    have h3 := h2 i hi hn
    have h4 : K i ≠ k := fun e => by
      rcases Nat.lt_or_ge (posN K k n) i with w | w
      · have := ord_lt h w hn
        exact h2 _ (Nat.le_refl _) (by omega) (by omega)
      · have e1 : posN K k n = i := by omega
        have : isN K k n = true := by
          unfold isN; rw [e1, decide_eq_true hn, decide_eq_true e]; rfl
        rw [this] at hq; cases hq
    omega
section
variable {n : Nat} {K A : Nat → Nat} {k p q e x : Nat}
theorem put_keys (h : spP n K A k p q) (he : e ≤ 1) {i j : Nat} (hij : i < j) (hj : j < putN p q e n) : putF p q e K k i < putF p q e K k j := by
  have hle := h.le
  unfold putN at hj
  rcases Nat.lt_or_ge i p with a | a
  · rw [put_lo a]
    rcases Nat.lt_or_ge j p with b | b
    · rw [put_lo b]; exact ord_lt h.o hij (by omega)
    · rcases Nat.lt_or_ge j (p + e) with c | c
      · rw [put_at b c]; exact h.lo i a
      · rw [put_hi c]; exact Nat.lt_trans (h.lo i a) (h.hi _ (by omega) (by omega))
  · rcases Nat.lt_or_ge i (p + e) with b | b
    · rw [put_at a b, put_hi (by omega)]; exact h.hi _ (by omega) (by omega)
    · rw [put_hi b, put_hi (by omega)]; exact ord_lt h.o (by omega) (by omega)
theorem put_ord (h : spP n K A k p q) (he : e ≤ 1) (hx : e = 1 → x ≠ 0) : ordB (putN p q e n) (putF p q e K k) (putF p q e A x) = true := by
  have hle := h.le
  refine ordB_iff.2 fun i hi => ⟨?_, ?_⟩
  · unfold putN at hi
    rcases Nat.lt_or_ge i p with a | a
    · rw [put_lo a]; exact (ordB_iff.1 h.o i (by omega)).1
    · rcases Nat.lt_or_ge i (p + e) with b | b
      · rw [put_at a b]; exact hx (by omega)
      · rw [put_hi b]; exact (ordB_iff.1 h.o _ (by omega)).1
  · rcases Nat.eq_zero_or_pos i with a | a
    · exact .inl a
    · exact .inr (put_keys h he (by omega) hi)
theorem sum_put (he : e ≤ 1) (m : Nat) : sumN (putF p q e A x) (p + e + m) + sumN A (p + q) = sumN A p + e * x + sumN A (p + q + m) := by
  induction m with
  | zero =>
    have h0 : sumN (putF p q e A x) p = sumN A p := sumN_congr fun i hi => put_lo hi
    rcases Nat.lt_or_ge 0 e with w | w
    · have e1 : e = 1 := by omega
      subst e1
      show sumN (putF p q 1 A x) (p + 1) + sumN A (p + q) = sumN A p + 1 * x + sumN A (p + q)
      rw [sumN, h0, put_at (Nat.le_refl p) (Nat.lt_succ_self p), Nat.one_mul]
    · have e1 : e = 0 := by omega
      subst e1
      show sumN (putF p q 0 A x) p + sumN A (p + q) = sumN A p + 0 * x + sumN A (p + q)
      rw [h0, Nat.zero_mul, Nat.add_zero]
  | succ m ih =>
    rw [← Nat.add_assoc, ← Nat.add_assoc, sumN, sumN, put_hi (by omega), show p + q + (p + e + m - (p + e)) = p + q + m by omega]
    omega
theorem hld_q (h : spP n K A k p q) : hldN n K A k = q * A p := by
  rcases Nat.lt_or_ge 0 q with w | w
  · have e1 : q = 1 := by have := h.q1; omega
    subst e1
    have := hld_at h.o (i := p) (by have := h.le; omega)
    rw [h.eq rfl] at this
    rw [this, Nat.one_mul]
  · have e1 : q = 0 := by omega
    subst e1
    rw [Nat.zero_mul]
    refine hld_no fun i hi hk => ?_
    rcases Nat.lt_or_ge i p with a | a
    · have := h.lo i a; omega
    · have := h.hi i a hi; omega
theorem put_sum (h : spP n K A k p q) (he : e ≤ 1) : sumN (putF p q e A x) (putN p q e n) + hldN n K A k = sumN A n + e * x := by
  have hs := sum_put (A := A) (p := p) (q := q) (x := x) he (n - (p + q))
  have hle := h.le
  have hn : p + q + (n - (p + q)) = n := by omega
  rw [hn] at hs
  have hq : sumN A (p + q) = sumN A p + q * A p := by
    rcases Nat.lt_or_ge 0 q with w | w
    · have e1 : q = 1 := by have := h.q1; omega
      subst e1
      rw [sumN, Nat.one_mul]
    · have e1 : q = 0 := by omega
      subst e1
      rw [Nat.zero_mul]; rfl
  rw [hld_q h]
  unfold putN
  omega
theorem put_hld (h : spP n K A k p q) (he : e ≤ 1) (hx : e = 1 → x ≠ 0) (j : Nat) : hldN (putN p q e n) (putF p q e K k) (putF p q e A x) j = if j = k then e * x else hldN n K A j := by
  have ho := put_ord h he hx
  have hle := h.le
  by_cases hj : j = k
  · rw [if_pos hj, hj]
    rcases Nat.lt_or_ge 0 e with w | w
    · have e1 : e = 1 := by omega
      subst e1
      have := hld_at ho (i := p) (by unfold putN; omega)
      rw [put_at (Nat.le_refl p) (Nat.lt_succ_self p), put_at (Nat.le_refl p) (Nat.lt_succ_self p)] at this
      rw [this, Nat.one_mul]
    · have e1 : e = 0 := by omega
      subst e1
      rw [Nat.zero_mul]
      refine hld_no fun i hi hk => ?_
      unfold putN at hi
      rcases Nat.lt_or_ge i p with a | a
      · rw [put_lo a] at hk; have := h.lo i a; omega
      · rw [put_hi (by omega)] at hk; have := h.hi (p + q + (i - (p + 0))) (by omega) (by omega); omega
  · rw [if_neg hj]
    by_cases hm : ∃ i, i < n ∧ K i = j
    · obtain ⟨i, hi, rfl⟩ := hm
      rw [hld_at h.o hi]
      rcases Nat.lt_or_ge i p with a | a
      · have := hld_at ho (i := i) (by unfold putN; omega)
        rwa [put_lo a, put_lo a] at this
      · have b : p + q ≤ i := by
          rcases Nat.lt_or_ge i (p + q) with b | b
          · have q1 := h.q1
            have e1 : q = 1 := by omega
            have e2 : i = p := by omega
            exact absurd (by rw [e2]; exact h.eq e1) hj
          · exact b
        have := hld_at ho (i := p + e + (i - (p + q))) (by unfold putN; omega)
        have z : p + q + (p + e + (i - (p + q)) - (p + e)) = i := by omega
        rwa [put_hi (by omega), put_hi (by omega), z] at this
    · have hm : ∀ i, i < n → K i ≠ j := fun i hi hk => hm ⟨i, hi, hk⟩
      rw [hld_no hm]
      refine hld_no fun i hi hk => ?_
      unfold putN at hi
      rcases Nat.lt_or_ge i p with a | a
      · rw [put_lo a] at hk; exact hm i (by omega) hk
      · rcases Nat.lt_or_ge i (p + e) with b | b
        · rw [put_at a b] at hk; exact hj hk.symm
        · rw [put_hi b] at hk; exact hm _ (by omega) hk
end
end Go.Proofs.Ytnjdoebaneogjaa
end

section
namespace Go.Proofs.Ytnjdoebaneogjaa
open Go Go.Sx Go.RowKit
set_option maxRecDepth 100000
structure gdP (s n : Nat) (f : Nat → Nat → SC) : Prop where
  g1 : ∀ a, (a = none → n = 0) → hkP a n f
  g2 : n ≤ 40
  g3 : ordB n (kH f) (aH f) = true
  g4 : sumN (aH f) n = s % M256
def hl (n : Nat) (f : Nat → Nat → SC) (k : Nat) : Nat := hldN n (kH f) (aH f) k
theorem gd_cn {s n : Nat} {f : Nat → Nat → SC} (h : gdP s n f) : cnF s n f = 0 := by
  unfold cnF cnE
  rw [if_neg (by have := h.g2; omega), if_pos ⟨h.g3, h.g4⟩]
theorem hv_hl {s n : Nat} {f : Nat → Nat → SC} (h : gdP s n f) (v : Nat → Int) : hvF s n f v = hl n f (kv v) := by
  unfold hvF ofN
  have := gd_cn h
  unfold cnF at this
  rw [if_pos this]; rfl
theorem sum_ge {n i : Nat} {A : Nat → Nat} (hi : i < n) : A i ≤ sumN A n := by
  have := sumN_mono A (show i + 1 ≤ n by omega)
  rw [sumN] at this
  omega
theorem hl_le {s n : Nat} {f : Nat → Nat → SC} (h : gdP s n f) (k : Nat) : hl n f k ≤ s % M256 := by
  rw [← h.g4]
  unfold hl hldN
  by_cases q : isN (kH f) k n = true
  · rw [if_pos q]; exact sum_ge (is_lt q).1
  · rw [if_neg q]; exact Nat.zero_le _
theorem e_x (x : Nat) : eOf x * (x % M256) = x % M256 ∧ (eOf x = 1 → x % M256 ≠ 0) := by
  unfold eOf
  by_cases h : x % M256 = 0
  · rw [decide_eq_true h, h]; exact ⟨rfl, fun q => by cases q⟩
  · rw [decide_eq_false h]; exact ⟨Nat.one_mul _, fun _ => h⟩
theorem put_good {s n : Nat} {f : Nat → Nat → SC} {v : Nat → Int} (h : gdP s n f) (hv : by32 v) (x : Nat) (h40 : nW n f v x ≤ 40) {s' : Nat} (hs : s' % M256 + hl n f (kv v) = s % M256 + x % M256) :
    gdP s' (nW n f v x) (hoF (wW n f v x) (aW n f v x)) ∧ ∀ j, hl (nW n f v x) (hoF (wW n f v x) (aW n f v x)) j = if j = kv v then x % M256 else hl n f j := by
  have sp := sp_of (k := kv v) h.g3
  have hk := h.g1 (some default) (fun q => by cases q)
  obtain ⟨x1, x2⟩ := e_x x
  have eK : ∀ i, kH (hoF (wW n f v x) (aW n f v x)) i = putF (pW n f v) (qW n f v) (eOf x) (kH f) (kv v) i := fun i => by
    rw [kH_ho]; exact putF_map _ _ _ kv _ _ _
  have eA : ∀ i, i < nW n f v x → aH (hoF (wW n f v x) (aW n f v x)) i = putF (pW n f v) (qW n f v) (eOf x) (aH f) (x % M256) i := fun i hi => by
    rw [aH_ho]
    show putF (pW n f v) (qW n f v) (eOf x) (aH f) x i % M256 = _
    rw [putF_map (g := fun y => y % M256)]
    have hle : pW n f v + qW n f v ≤ n := sp.le
    unfold nW putN at hi
    rcases Nat.lt_or_ge i (pW n f v) with a | a
    · rw [put_lo a, put_lo a]; exact Nat.mod_eq_of_lt (hk.k6 i (by omega))
    · rcases Nat.lt_or_ge i (pW n f v + eOf x) with b | b
      · rw [put_at a b, put_at a b]
      · rw [put_hi b, put_hi b]; exact Nat.mod_eq_of_lt (hk.k6 _ (by omega))
  have eH : ∀ j, hl (nW n f v x) (hoF (wW n f v x) (aW n f v x)) j = hldN (nW n f v x) (putF (pW n f v) (qW n f v) (eOf x) (kH f) (kv v)) (putF (pW n f v) (qW n f v) (eOf x) (aH f) (x % M256)) j := fun j => by
    unfold hl
    rw [show kH (hoF (wW n f v x) (aW n f v x)) = putF (pW n f v) (qW n f v) (eOf x) (kH f) (kv v) from funext eK]
    exact hld_congr eA
  have hsum := put_sum sp (eOf_le x) (x := x % M256)
  have hhld := put_hld sp (eOf_le x) x2
  rw [x1] at hsum
  refine ⟨⟨fun a ha => hk_ho0 (by have hML : maxLen = 9223372036854775807 := rfl; omega) ha (wW_by hk hv x), h40, ?_, ?_⟩, fun j => ?_⟩
  · rw [ordB_congr (fun i _ => eK i) eA]; exact put_ord sp (eOf_le x) x2
  · rw [sumN_congr eA]
    have h4 := h.g4
    unfold hl at hs
    have : sumN (putF (pW n f v) (qW n f v) (eOf x) (aH f) (x % M256)) (nW n f v x) + hldN n (kH f) (aH f) (kv v) = sumN (aH f) n + x % M256 := hsum
    omega
  · rw [eH]
    show hldN (putN (pW n f v) (qW n f v) (eOf x) n) _ _ j = _
    exact (hhld j).trans (by rw [x1]; rfl)
theorem md1 {a x : Nat} (h : a + x % M256 < M256) : (a + x) % M256 = a + x % M256 := by rw [← Nat.add_mod_mod, Nat.mod_eq_of_lt h]
theorem md2 {a x : Nat} (h : a % M256 + x % M256 < M256) : (a + x) % M256 = a % M256 + x % M256 := by rw [Nat.add_mod, Nat.mod_eq_of_lt h]
theorem md3 {a x : Nat} (ha : a < M256) (h : x % M256 ≤ a) : (a + M256 - x % M256) % M256 = a - x % M256 := by
  rw [show a + M256 - x % M256 = a - x % M256 + M256 by omega, Nat.add_mod_right, Nat.mod_eq_of_lt (by omega)]
structure miD (s n : Nat) (f : Nat → Nat → SC) (v : Nat → Int) (x : Nat) : Prop where
  e : miE s n f v x = 0
  g : gdP (miS s n f v x) (miN s n f v x) (miF s n f v x)
  t : miS s n f v x % M256 = s % M256 + x % M256
  h : ∀ j, hl (miN s n f v x) (miF s n f v x) j = hl n f j + if j = kv v then x % M256 else 0
  n : miN s n f v x ≤ n + 1
theorem mi_over {s n : Nat} {f : Nat → Nat → SC} {v : Nat → Int} {x : Nat} (h : gdP s n f) (hx : M256 ≤ s % M256 + x % M256) : miE s n f v x = 13 := by
  unfold miE
  rw [if_neg (fun q => q (gd_cn h)), if_pos hx]
theorem mi_done {s n : Nat} {f : Nat → Nat → SC} {v : Nat → Int} {x : Nat} (h : gdP s n f) (hv : by32 v) (hn : n ≤ 39) (hx : s % M256 + x % M256 < M256) : miD s n f v x := by
  have hw := nW_le n f v (miY s n f v x)
  have e0 : miE s n f v x = 0 := by
    unfold miE
    rw [if_neg (fun q => q (gd_cn h)), if_neg (by omega), if_neg (by omega)]
  have hle := hl_le h (kv v)
  have ey : miY s n f v x % M256 = hl n f (kv v) + x % M256 := by
    unfold miY
    rw [hv_hl h]
    exact md1 (by omega)
  have es : miS s n f v x % M256 = s % M256 + x % M256 := by unfold miS; rw [if_pos e0]; exact md2 hx
  have en : miN s n f v x = nW n f v (miY s n f v x) := by unfold miN; rw [if_pos e0]
  obtain ⟨g, hh⟩ := put_good h hv (miY s n f v x) (by omega) (s' := miS s n f v x) (by omega)
  refine ⟨e0, by rw [en]; exact g, es, fun j => ?_, by omega⟩
  rw [en]
  refine (hh j).trans ?_
  rw [ey]
  by_cases q : j = kv v
  · rw [if_pos q, if_pos q, q]
  · rw [if_neg q, if_neg q, Nat.add_zero]
structure buD (s n : Nat) (f : Nat → Nat → SC) (v : Nat → Int) (x : Nat) : Prop where
  e : buE s n f v x = 0
  g : gdP (buS s n f v x) (buN s n f v x) (buF s n f v x)
  t : buS s n f v x % M256 + x % M256 = s % M256
  h : ∀ j, hl (buN s n f v x) (buF s n f v x) j + (if j = kv v then x % M256 else 0) = hl n f j
  n : buN s n f v x ≤ n
theorem bu_few {s n : Nat} {f : Nat → Nat → SC} {v : Nat → Int} {x : Nat} (h : gdP s n f) (hx : hl n f (kv v) < x % M256) : buE s n f v x = 13 := by
  unfold buE
  have := hl_le h (kv v)
  have hM : 0 < M256 := by decide
  have := Nat.mod_lt s hM
  rw [if_neg (fun q => q (gd_cn h)), hv_hl h, if_pos (by rw [Nat.mod_eq_of_lt (by omega)]; exact hx)]
theorem bu_done {s n : Nat} {f : Nat → Nat → SC} {v : Nat → Int} {x : Nat} (h : gdP s n f) (hv : by32 v) (hx : x % M256 ≤ hl n f (kv v)) : buD s n f v x := by
  have hle := hl_le h (kv v)
  have hM : 0 < M256 := by decide
  have hs := Nat.mod_lt s hM
  have h40 := h.g2
  have e0 : buE s n f v x = 0 := by
    unfold buE
    rw [if_neg (fun q => q (gd_cn h)), hv_hl h, if_neg (by rw [Nat.mod_eq_of_lt (by omega)]; omega)]
  have ey : buY s n f v x % M256 = hl n f (kv v) - x % M256 := by
    unfold buY
    rw [hv_hl h, Nat.mod_eq_of_lt (show hl n f (kv v) < M256 by omega)]
    exact md3 (by omega) hx
  have hw : nW n f v (buY s n f v x) ≤ n := by
    have hq : pW n f v + qW n f v ≤ n := (sp_of (k := kv v) h.g3).le
    have hz : eOf (buY s n f v x) ≤ qW n f v := by
      rcases Nat.lt_or_ge 0 (qW n f v) with w | w
      · have := eOf_le (buY s n f v x); omega
      · have e1 : qW n f v = 0 := by omega
        have : hl n f (kv v) = qW n f v * aH f (pW n f v) := hld_q (sp_of (k := kv v) h.g3)
        rw [e1, Nat.zero_mul] at this
        unfold eOf
        rw [decide_eq_true (by omega : buY s n f v x % M256 = 0)]
        exact Nat.zero_le _
    unfold nW putN
    omega
  have es : buS s n f v x % M256 + x % M256 = s % M256 := by unfold buS; rw [if_pos e0, md3 hs (by omega)]; omega
  have en : buN s n f v x = nW n f v (buY s n f v x) := by unfold buN; rw [if_pos e0]
  obtain ⟨g, hh⟩ := put_good h hv (buY s n f v x) (by omega) (s' := buS s n f v x) (by omega)
  refine ⟨e0, by rw [en]; exact g, es, fun j => ?_, by omega⟩
  rw [en]
  have := hh j
  unfold buF
  rw [this, ey]
  by_cases q : j = kv v
  · rw [if_pos q, if_pos q, q]; omega
  · rw [if_neg q, if_neg q, Nat.add_zero]
structure moD (s n : Nat) (f : Nat → Nat → SC) (v w : Nat → Int) (x : Nat) : Prop where
  e : moE s n f v w x = 0
  g : gdP (moS s n f v w x) (moN s n f v w x) (moF s n f v w x)
  t : moS s n f v w x % M256 = s % M256
  h : ∀ j, hl (moN s n f v w x) (moF s n f v w x) j + (if j = kv v then x % M256 else 0) = hl n f j + if j = kv w then x % M256 else 0
  n : moN s n f v w x ≤ n + 1
theorem mo_few {s n : Nat} {f : Nat → Nat → SC} {v w : Nat → Int} {x : Nat} (h : gdP s n f) (hx : hl n f (kv v) < x % M256) : moE s n f v w x = 13 := by
  have := bu_few h hx
  unfold moE
  rw [this]; rfl
theorem mo_done {s n : Nat} {f : Nat → Nat → SC} {v w : Nat → Int} {x : Nat} (h : gdP s n f) (hv : by32 v) (hw : by32 w) (hn : n ≤ 39) (hx : x % M256 ≤ hl n f (kv v)) : moD s n f v w x := by
  have b := bu_done h hv hx
  have hM : 0 < M256 := by decide
  have hs := Nat.mod_lt s hM
  have b1 := b.t
  have m := mi_done b.g hw (x := x) (by have := b.n; omega) (by omega)
  have ne : ¬ buE s n f v x ≠ 0 := fun q => q b.e
  have eN : moN s n f v w x = miN (buS s n f v x) (buN s n f v x) (buF s n f v x) w x := by unfold moN; rw [if_neg ne]
  have eS : moS s n f v w x = miS (buS s n f v x) (buN s n f v x) (buF s n f v x) w x := by unfold moS; rw [if_neg ne]
  refine ⟨by unfold moE; rw [if_neg ne]; exact m.e, ?_, ?_, fun j => ?_, ?_⟩
  · rw [eN, eS]; exact m.g
  · rw [eS, m.t]; omega
  · rw [eN]
    have h1 := m.h j
    have h2 := b.h j
    unfold moF
    rw [h1]
    omega
  · rw [eN]
    have := m.n
    have := b.n
    omega
end Go.Proofs.Ytnjdoebaneogjaa
end

section
namespace Go.Proofs.Ytnjdoebaneogjaa
open Go Go.Sx Go.RowKit
set_option maxRecDepth 100000
def whoF (n : Int) (j : Nat) : Int := if j = 0 then 1 else if j = 31 then n % 6 else 0
def whoG (n : Int) : SV := .one (sBy 32 (whoF n))
def cWho : FSpec := specI (fun n => [i64ok n]) whoG
def cPck : FSpec := specII (fun a b => [i64ok a, 0 < b ∧ b ≤ 1000000]) pickedG
def cxWho : Cx := [(6, cPck)]
def cxMt : Cx := ⟨[(8, cWho), (6, cPck), (1000000010, fun _ => none), (1000000012, fun _ => none), (1000000013, fun _ => none), (1000000014, fun _ => none)], [], 0, []⟩
def slMt : List (Nat × SSpec) := [(18, cMi), (7, cOf), (19, cBu), (9, cMo)]
def rwF (K A B : Nat → Int) (s : Nat → ByteArray) (i c : Nat) : SC :=
  match c with
  | 0 => .val (.int .i64 (K i))
  | 1 => .val (.int .i64 (A i))
  | 2 => .val (.int .i64 (B i))
  | _ => .val (.string (s i))
structure Cn where
  s : Nat
  n : Nat
  f : Nat → Nat → SC
theorem vc_who (n : Int) :
    Owes Try.prog cxWho [] 10 Try.f8 [sI .i64 n] (whoG n) =
    (((-9223372036854775808 : Int) ≤ n ∧ n ≤ (9223372036854775807 : Int)) ∧ ((0 : Int) < (6 : Int) ∧ (6 : Int) ≤ (1000000 : Int)) ∧ (1 : Int) = whoF n 0 ∧ (0 : Int) = whoF n 1 ∧ (0 : Int) = whoF n 2 ∧ (0 : Int) = whoF n 3 ∧ (0 : Int) = whoF n 4 ∧ (0 : Int) = whoF n 5 ∧ (0 : Int) = whoF n 6 ∧ (0 : Int) = whoF n 7 ∧ (0 : Int) = whoF n 8 ∧ (0 : Int) = whoF n 9 ∧ (0 : Int) = whoF n 10 ∧ (0 : Int) = whoF n 11 ∧ (0 : Int) = whoF n 12 ∧ (0 : Int) = whoF n 13 ∧ (0 : Int) = whoF n 14 ∧ (0 : Int) = whoF n 15 ∧ (0 : Int) = whoF n 16 ∧ (0 : Int) = whoF n 17 ∧ (0 : Int) = whoF n 18 ∧ (0 : Int) = whoF n 19 ∧ (0 : Int) = whoF n 20 ∧ (0 : Int) = whoF n 21 ∧ (0 : Int) = whoF n 22 ∧ (0 : Int) = whoF n 23 ∧ (0 : Int) = whoF n 24 ∧ (0 : Int) = whoF n 25 ∧ (0 : Int) = whoF n 26 ∧ (0 : Int) = whoF n 27 ∧ (0 : Int) = whoF n 28 ∧ (0 : Int) = whoF n 29 ∧ (0 : Int) = whoF n 30 ∧ Go.IntKind.u8.wrap (n % (6 : Int)) = whoF n 31 ∧ True) := by kernel_rfl
theorem vc_ctells (b : Bool) :
    OwesR Try.prog cxMt slMt [] 10 Try.f11 [] false [.v (sB b)] =
    (let x1 : Bool := (0 : Int) == (0 : Int); let x2 : Prop := x1 = Bool.true; let x3 : Bool := x1 && x1; let x4 : Prop := x3 = Bool.true; let x5 : Bool := conj [5 == 5]; let x6 : Bool := x3 && x5; let x7 : Prop := x6 = Bool.true; ((-9223372036854775808 : Int) ≤ (1 : Int) ∧ (1 : Int) ≤ (9223372036854775807 : Int)) ∧ ofP Option.none 0 (fun (_ _ : Nat) => SC.bit Bool.false) (whoF (1 : Int)) ∧ ∀ (a : Option Go.Addr) (cap : Nat), (a = Option.none → 1 = 0 ∧ cap = 0) → 1 ≤ cap → ((((-9223372036854775808 : Int) ≤ (1 : Int) ∧ (1 : Int) ≤ (9223372036854775807 : Int)) ∧ (ofP a 1 (miF 0 0 (fun (_ _ : Nat) => SC.bit Bool.false) (whoF (1 : Int)) 5) (whoF (1 : Int)) ∧ (x2 → x2) ∧ (x2 → x2) ∧ (x4 → x4) ∧ (x4 → x4) ∧ (x4 → x4) ∧ (x7 → x7) ∧ (x7 → x7) ∧ (x7 → x7) ∧ (x7 → x7) ∧ (x6 && x5) = b) ∧ ofP a 1 (miF 0 0 (fun (_ _ : Nat) => SC.bit Bool.false) (whoF (1 : Int)) 5) (whoF (1 : Int)) ∧ (x2 → x2) ∧ (x2 → x2) ∧ (x4 → x4) ∧ (x4 → x4) ∧ (x4 → x4) ∧ (x7 → x7) ∧ (x7 → x7) ∧ (x7 → x7) ∧ (x7 → x7) ∧ (x6 && x5) = b) ∧ ((-9223372036854775808 : Int) ≤ (1 : Int) ∧ (1 : Int) ≤ (9223372036854775807 : Int)) ∧ ofP a 1 (miF 0 0 (fun (_ _ : Nat) => SC.bit Bool.false) (whoF (1 : Int)) 5) (whoF (1 : Int)) ∧ (x2 → x2) ∧ (x2 → x2) ∧ (x4 → x4) ∧ (x4 → x4) ∧ (x4 → x4) ∧ (x7 → x7) ∧ (x7 → x7) ∧ (x7 → x7) ∧ (x7 → x7) ∧ (x6 && x5) = b) ∧ (((-9223372036854775808 : Int) ≤ (1 : Int) ∧ (1 : Int) ≤ (9223372036854775807 : Int)) ∧ ((ofP a 1 (miF 0 0 (fun (_ _ : Nat) => SC.bit Bool.false) (whoF (1 : Int)) 5) (whoF (1 : Int)) ∧ (x2 → x2) ∧ (x2 → x2) ∧ (x4 → x4) ∧ (x4 → x4) ∧ (x4 → x4) ∧ (x7 → x7) ∧ (x7 → x7) ∧ (x7 → x7) ∧ (x7 → x7) ∧ (x6 && x5) = b) ∧ ofP a 1 (miF 0 0 (fun (_ _ : Nat) => SC.bit Bool.false) (whoF (1 : Int)) 5) (whoF (1 : Int)) ∧ (x2 → x2) ∧ (x2 → x2) ∧ (x4 → x4) ∧ (x4 → x4) ∧ (x4 → x4) ∧ (x7 → x7) ∧ (x7 → x7) ∧ (x7 → x7) ∧ (x7 → x7) ∧ (x6 && x5) = b) ∧ ofP a 1 (miF 0 0 (fun (_ _ : Nat) => SC.bit Bool.false) (whoF (1 : Int)) 5) (whoF (1 : Int)) ∧ (x2 → x2) ∧ (x2 → x2) ∧ (x4 → x4) ∧ (x4 → x4) ∧ (x4 → x4) ∧ (x7 → x7) ∧ (x7 → x7) ∧ (x7 → x7) ∧ (x7 → x7) ∧ (x6 && x5) = b) ∧ (((-9223372036854775808 : Int) ≤ (1 : Int) ∧ (1 : Int) ≤ (9223372036854775807 : Int)) ∧ ofP a 1 (miF 0 0 (fun (_ _ : Nat) => SC.bit Bool.false) (whoF (1 : Int)) 5) (whoF (1 : Int)) ∧ (x2 → x2) ∧ (x2 → x2) ∧ (x4 → x4) ∧ (x4 → x4) ∧ (x4 → x4) ∧ (x7 → x7) ∧ (x7 → x7) ∧ (x7 → x7) ∧ (x7 → x7) ∧ (x6 && x5) = b) ∧ ((-9223372036854775808 : Int) ≤ (1 : Int) ∧ (1 : Int) ≤ (9223372036854775807 : Int)) ∧ ofP a 1 (miF 0 0 (fun (_ _ : Nat) => SC.bit Bool.false) (whoF (1 : Int)) 5) (whoF (1 : Int)) ∧ (x2 → x2) ∧ (x2 → x2) ∧ (x4 → x4) ∧ (x4 → x4) ∧ (x4 → x4) ∧ (x7 → x7) ∧ (x7 → x7) ∧ (x7 → x7) ∧ (x7 → x7) ∧ (x6 && x5) = b) := by kernel_rfl
end Go.Proofs.Ytnjdoebaneogjaa
end

section
namespace Go.Proofs.Ytnjdoebaneogjaa
open Go Go.Sx Go.RowKit
set_option maxRecDepth 100000
theorem who_by (n : Int) : by32 (whoF n) := fun j _ => by
  unfold whoF
  have h0 := Int.emod_nonneg n (show (6 : Int) ≠ 0 by decide)
  have h1 := Int.emod_lt_of_pos n (show (0 : Int) < 6 by decide)
  split
  · decide
  · split
    · omega
    · decide
theorem who_iff (a b : Int) : kv (whoF a) = kv (whoF b) ↔ a % 6 = b % 6 := by
  rw [kv_iff (who_by a) (who_by b)]
  constructor
  · intro h
    have := h 31 (by decide)
    exact this
  · intro h j _
    unfold whoF
    rw [h]
def six (n : Nat) (f : Nat → Nat → SC) (m : Nat) : Nat := sumN (fun i => hl n f (kv (whoF (i : Int)))) m
theorem sumN_one {g h : Nat → Nat} {a x : Nat} : ∀ {n : Nat}, (∀ i, i < n → g i = h i + if i = a then x else 0) → sumN g n = sumN h n + if a < n then x else 0
  | 0, _ => by rw [if_neg (by omega)]; rfl
  | n + 1, H => by
    rw [sumN, sumN, sumN_one (n := n) fun i hi => H i (by omega), H n (by omega)]
    by_cases c : a < n
    · rw [if_pos c, if_pos (by omega : a < n + 1), if_neg (by omega : ¬ n = a)]; omega
    · by_cases d : n = a
      · rw [if_neg c, if_pos d, if_pos (by omega : a < n + 1)]; omega
      · rw [if_neg c, if_neg d, if_neg (by omega : ¬ a < n + 1)]; omega
theorem ite_who {i : Nat} (hi : i < 6) (a : Int) (x : Nat) : (if kv (whoF (i : Int)) = kv (whoF a) then x else 0) = if i = (a % 6).toNat then x else 0 := by
  have h0 := Int.emod_nonneg a (show (6 : Int) ≠ 0 by decide)
  by_cases c : i = (a % 6).toNat
  · rw [if_pos c, if_pos ((who_iff _ _).2 (by omega))]
  · rw [if_neg c, if_neg (fun q => c (by have := (who_iff _ _).1 q; omega))]
theorem six_who {n n' : Nat} {f f' : Nat → Nat → SC} {a : Int} {x : Nat} (h : ∀ j, hl n' f' j = hl n f j + if j = kv (whoF a) then x else 0) : six n' f' 6 = six n f 6 + x := by
  have h0 := Int.emod_nonneg a (show (6 : Int) ≠ 0 by decide)
  have h1 := Int.emod_lt_of_pos a (show (0 : Int) < 6 by decide)
  have := sumN_one (g := fun i => hl n' f' (kv (whoF (i : Int)))) (h := fun i => hl n f (kv (whoF (i : Int)))) (a := (a % 6).toNat) (x := x) (n := 6) fun i hi => by
    show hl n' f' (kv (whoF (i : Int))) = hl n f (kv (whoF (i : Int))) + _
    rw [h]
    rw [ite_who hi]
  unfold six
  rw [this, if_pos (by omega)]
structure goP (y : Nat) (c : Cn) : Prop where
  g : gdP c.s c.n c.f
  n : c.n ≤ y
  s6 : six c.n c.f 6 = c.s % M256
def cn0 : Cn := ⟨0, 0, fun _ _ => .bit false⟩
theorem go_0 : goP 0 cn0 where
  g := ⟨fun _ _ => ⟨by decide, fun _ => rfl, fun i hi => absurd hi (Nat.not_lt_zero i), fun i hi => absurd hi (Nat.not_lt_zero i), fun i hi => absurd hi (Nat.not_lt_zero i), fun i hi => absurd hi (Nat.not_lt_zero i)⟩, by decide, rfl, rfl⟩
  n := Nat.le_refl 0
  s6 := rfl
def mtX (B : Nat → Int) (y : Nat) : Nat := join (IntKind.u64.wrap (B y % 100)) 0 0 0
def mtV (A : Nat → Int) (y : Nat) : Nat → Int := whoF (A y)
def mtW (A : Nat → Int) (y : Nat) : Nat → Int := whoF (IntKind.i64.wrap ((A y).tdiv 7))
def cMiC (c : Cn) (v : Nat → Int) (x : Nat) : Cn := ⟨miS c.s c.n c.f v x, miN c.s c.n c.f v x, miF c.s c.n c.f v x⟩
def cBuC (c : Cn) (v : Nat → Int) (x : Nat) : Cn := ⟨buS c.s c.n c.f v x, buN c.s c.n c.f v x, buF c.s c.n c.f v x⟩
def cMoC (c : Cn) (v w : Nat → Int) (x : Nat) : Cn := ⟨moS c.s c.n c.f v w x, moN c.s c.n c.f v w x, moF c.s c.n c.f v w x⟩
def mtD (K A B : Nat → Int) (y : Nat) (c : Cn) : Cn × Int :=
  if K y % 4 = 0 then (cBuC c (mtV A y) (mtX B y), buE c.s c.n c.f (mtV A y) (mtX B y))
  else if K y % 4 = 1 then (cMoC c (mtV A y) (mtW A y) (mtX B y), moE c.s c.n c.f (mtV A y) (mtW A y) (mtX B y))
  else (cMiC c (mtV A y) (mtX B y), miE c.s c.n c.f (mtV A y) (mtX B y))
def mtC (K A B : Nat → Int) : Nat → Cn
  | 0 => cn0
  | y + 1 => if (mtD K A B y (mtC K A B y)).2 = 0 then (mtD K A B y (mtC K A B y)).1 else mtC K A B y
theorem x_lt (x : Nat) : x % M256 < M256 := Nat.mod_lt _ (by decide)
theorem mi_step {y : Nat} {c : Cn} (h : goP y c) (hy : y < 20) (a : Int) (x : Nat) : (miE c.s c.n c.f (whoF a) x = 0 ∧ goP (y + 1) (cMiC c (whoF a) x)) ∨ miE c.s c.n c.f (whoF a) x = 13 := by
  have hn := h.n
  rcases Nat.lt_or_ge (c.s % M256 + x % M256) M256 with q | q
  · have d := mi_done h.g (who_by a) (by omega) q
    have := d.n
    refine .inl ⟨d.e, d.g, by show miN _ _ _ _ _ ≤ _; omega, ?_⟩
    show six (miN _ _ _ _ _) (miF _ _ _ _ _) 6 = miS _ _ _ _ _ % M256
    rw [six_who d.h, h.s6, d.t]
  · exact .inr (mi_over h.g q)
theorem bu_step {y : Nat} {c : Cn} (h : goP y c) (a : Int) (x : Nat) : (buE c.s c.n c.f (whoF a) x = 0 ∧ goP (y + 1) (cBuC c (whoF a) x)) ∨ buE c.s c.n c.f (whoF a) x = 13 := by
  have hn := h.n
  rcases Nat.lt_or_ge (hl c.n c.f (kv (whoF a))) (x % M256) with q | q
  · exact .inr (bu_few h.g q)
  · have d := bu_done h.g (who_by a) q
    have := d.n
    refine .inl ⟨d.e, d.g, by show buN _ _ _ _ _ ≤ _; omega, ?_⟩
    show six (buN _ _ _ _ _) (buF _ _ _ _ _) 6 = buS _ _ _ _ _ % M256
    have h6 := six_who fun j => (d.h j).symm
    have := h.s6
    have := d.t
    omega
theorem mo_step {y : Nat} {c : Cn} (h : goP y c) (hy : y < 20) (a b : Int) (x : Nat) : (moE c.s c.n c.f (whoF a) (whoF b) x = 0 ∧ goP (y + 1) (cMoC c (whoF a) (whoF b) x)) ∨ moE c.s c.n c.f (whoF a) (whoF b) x = 13 := by
  have hn := h.n
  rcases Nat.lt_or_ge (hl c.n c.f (kv (whoF a))) (x % M256) with q | q
  · exact .inr (mo_few h.g q)
  · have d := mo_done h.g (who_by a) (who_by b) (by omega) q
    have := d.n
    refine .inl ⟨d.e, d.g, by show moN _ _ _ _ _ _ ≤ _; omega, ?_⟩
    show six (moN _ _ _ _ _ _) (moF _ _ _ _ _ _) 6 = moS _ _ _ _ _ _ % M256
    have h1 : sumN (fun i => hl (moN c.s c.n c.f (whoF a) (whoF b) x) (moF c.s c.n c.f (whoF a) (whoF b) x) (kv (whoF (i : Int))) + if kv (whoF (i : Int)) = kv (whoF a) then x % M256 else 0) 6 = six c.n c.f 6 + x % M256 := by
      have h0 := Int.emod_nonneg b (show (6 : Int) ≠ 0 by decide)
      have h1 := Int.emod_lt_of_pos b (show (0 : Int) < 6 by decide)
      have := sumN_one (g := fun i => hl (moN c.s c.n c.f (whoF a) (whoF b) x) (moF c.s c.n c.f (whoF a) (whoF b) x) (kv (whoF (i : Int))) + if kv (whoF (i : Int)) = kv (whoF a) then x % M256 else 0) (h := fun i => hl c.n c.f (kv (whoF (i : Int)))) (a := (b % 6).toNat) (x := x % M256) (n := 6) fun i hi => by
        show hl (moN _ _ _ _ _ _) (moF _ _ _ _ _ _) (kv (whoF (i : Int))) + _ = hl c.n c.f (kv (whoF (i : Int))) + _
        rw [d.h]
        rw [ite_who hi]
      rw [this, if_pos (by omega)]; rfl
    have h2 : sumN (fun i => hl (moN c.s c.n c.f (whoF a) (whoF b) x) (moF c.s c.n c.f (whoF a) (whoF b) x) (kv (whoF (i : Int))) + if kv (whoF (i : Int)) = kv (whoF a) then x % M256 else 0) 6 = six (moN c.s c.n c.f (whoF a) (whoF b) x) (moF c.s c.n c.f (whoF a) (whoF b) x) 6 + x % M256 := by
      have h0 := Int.emod_nonneg a (show (6 : Int) ≠ 0 by decide)
      have h1 := Int.emod_lt_of_pos a (show (0 : Int) < 6 by decide)
      have := sumN_one (g := fun i => hl (moN c.s c.n c.f (whoF a) (whoF b) x) (moF c.s c.n c.f (whoF a) (whoF b) x) (kv (whoF (i : Int))) + if kv (whoF (i : Int)) = kv (whoF a) then x % M256 else 0) (h := fun i => hl (moN c.s c.n c.f (whoF a) (whoF b) x) (moF c.s c.n c.f (whoF a) (whoF b) x) (kv (whoF (i : Int)))) (a := (a % 6).toNat) (x := x % M256) (n := 6) fun i hi => by
        show _ + _ = _ + _
        rw [ite_who hi]
      rw [this, if_pos (by omega)]; rfl
    have := h.s6
    have := d.t
    omega
theorem mt_step {K A B : Nat → Int} {y : Nat} {c : Cn} (h : goP y c) (hy : y < 20) : ((mtD K A B y c).2 = 0 ∧ goP (y + 1) (mtD K A B y c).1) ∨ (mtD K A B y c).2 = 13 := by
  unfold mtD
  split
  · exact bu_step h (A y) (mtX B y)
  · split
    · exact mo_step h hy (A y) _ (mtX B y)
    · exact mi_step h hy (A y) (mtX B y)
theorem go_up {y : Nat} {c : Cn} (h : goP y c) : goP (y + 1) c := ⟨h.g, Nat.le_succ_of_le h.n, h.s6⟩
theorem mt_go (K A B : Nat → Int) : ∀ y, y ≤ 20 → goP y (mtC K A B y)
  | 0, _ => go_0
  | y + 1, hy => by
    have ih := mt_go K A B y (by omega)
    unfold mtC
    rcases mt_step (K := K) (A := A) (B := B) ih (by omega) with ⟨e, g⟩ | e
    · rw [if_pos e]; exact g
    · rw [if_neg (by rw [e]; decide)]; exact go_up ih
end Go.Proofs.Ytnjdoebaneogjaa
end

section
namespace Go.Proofs.Ytnjdoebaneogjaa
open Go Go.Sx Go.RowKit
set_option maxRecDepth 100000
def mtL (n : Nat) : Nat := min n 20
def nO (f : Nat → Nat → SC) (c i : Nat) : Int := match f i c with | .val (.int _ v) => v | _ => 0
def tO (f : Nat → Nat → SC) (i : Nat) : ByteArray := match f i 3 with | .val (.string s) => s | _ => ⟨#[]⟩
structure Pl where
  a : Option Addr
  c : Nat
structure plP (p : Pl) (n : Nat) : Prop where
  nil : p.a = none → n = 0 ∧ p.c = 0
  le : n ≤ p.c
def cnK (x : Cn) (p : Pl) : List SK := [.u x.s, .c (.xs p.a x.n p.c 36 x.f)]
structure rwP (n : Nat) (f : Nat → Nat → SC) : Prop where
  hs : ∀ i, i < n → f i 0 = .val (.int .i64 (nO f 0 i)) ∧ f i 1 = .val (.int .i64 (nO f 1 i)) ∧ f i 2 = .val (.int .i64 (nO f 2 i)) ∧ f i 3 = .val (.string (tO f i))
  hi : ∀ i, i < n → i64ok (nO f 0 i) ∧ i64ok (nO f 1 i) ∧ i64ok (nO f 2 i)
  hn : n ≤ maxLen
def mtQ : List (List FD) → List Prop
  | [[.x _ n _ f]] => [rwP n f]
  | _ => [False]
def mtS (n : Nat) (f : Nat → Nat → SC) : Nat := (mtC (nO f 0) (nO f 1) (nO f 2) (mtL n)).s
def mtN (n : Nat) (f : Nat → Nat → SC) : Nat := (mtC (nO f 0) (nO f 1) (nO f 2) (mtL n)).n
def mtF (n : Nat) (f : Nat → Nat → SC) : Nat → Nat → SC := (mtC (nO f 0) (nO f 1) (nO f 2) (mtL n)).f
def mtG : List (List FD) → List RS
  | [[.x _ n _ f]] => [.st [.k (.u (mtS n f)), .s (mtN n f) 36 (mtF n f)], .v (sB true)]
  | _ => []
def cMt : SSpec := specQ0 true [.one (.x 4)] mtQ mtG
def cTe : SSpec := specQ0 false [] (fun _ => []) fun _ => [.v (sB true)]
end Go.Proofs.Ytnjdoebaneogjaa
end

section
namespace Go.Proofs.Ytnjdoebaneogjaa
open Go Go.Sx Go.RowKit
set_option maxRecDepth 100000
theorem card_pck : FnOK Try.prog 6 cPck := card_picked
theorem ok_who (n : Int) (h : i64ok n) : Owes Try.prog cxWho [] 10 Try.f8 [sI .i64 n] (whoG n) := by
  rw [vc_who]
  have h0 := Int.emod_nonneg n (show (6 : Int) ≠ 0 by decide)
  have h1 := Int.emod_lt_of_pos n (show (0 : Int) < 6 by decide)
  refine ⟨h, ⟨by decide, by decide⟩, rfl, rfl, rfl, rfl, rfl, rfl, rfl, rfl, rfl, rfl, rfl, rfl, rfl, rfl, rfl, rfl, rfl, rfl, rfl, rfl, rfl, rfl, rfl, rfl, rfl, rfl, rfl, rfl, rfl, rfl, rfl, ?_, trivial⟩
  show IntKind.u8.wrap (n % 6) = n % 6
  rw [IntKind.wrap_u8]; omega
theorem card_who : FnOK Try.prog 8 cWho :=
  FnOK_I (CxOK_cons card_pck CxOK_nil) (iv := fun _ => []) (N := 10) Try.func8 (by kernel_rfl) (by kernel_rfl) (fun a => by unfold whoG; intro k hk; simp only [List.mem_singleton] at hk; subst hk; trivial) fun a h => ok_who a h.1
theorem okx_Mt : CxOK Try.prog cxMt := okx_cons card_who (okx_cons card_pck (okx_mark (okx_mark (okx_mark (okx_mark okx_nil)))))
theorem oks_Mt : ∀ p ∈ slMt, FnOKs Try.prog cxMt.gl p.1 p.2 := oks_cons card_mi (oks_cons card_of (oks_cons card_bu (oks_cons card_mo oks_nil)))
theorem ok_ctells : OwesR Try.prog cxMt slMt [] 10 Try.f11 [] false [.v (sB true)] := by
  rw [vc_ctells]
  intro x1 x2 x3 x4 x5 x6 x7
  have h0 := go_0.g
  have d := mi_done h0 (who_by 1) (x := 5) (by decide) (by decide)
  have en : miN 0 0 (fun _ _ => SC.bit false) (whoF 1) 5 = 1 := rfl
  have g := d.g
  have i1 : (-9223372036854775808 : Int) ≤ 1 ∧ (1 : Int) ≤ 9223372036854775807 := by decide
  refine ⟨i1, ⟨h0.g1 none fun _ => rfl, who_by 1⟩, fun a cap ha _ => ?_⟩
  have o : ofP a 1 (miF 0 0 (fun _ _ => SC.bit false) (whoF 1) 5) (whoF 1) := ⟨by
    have := g.g1 a fun q => by rw [show miN cn0.s cn0.n cn0.f (whoF 1) 5 = 1 from en]; exact (ha q).1
    rwa [show miN cn0.s cn0.n cn0.f (whoF 1) 5 = 1 from en] at this, who_by 1⟩
  have e : (x6 && x5) = true := rfl
  clear_value x6 x5 x3 x1
  repeat' first | exact o | exact i1 | exact id | exact e | refine And.intro ?_ ?_
theorem card_te {gl : Globs} : FnOKs Try.prog gl 11 cTe := by
  refine FnOKs.up0 (FnOKs_R0 (cx := cxMt) okx_Mt (sl := slMt) oks_Mt Try.func11 (by kernel_rfl) (by kernel_rfl) fun ls hc => ?_) gl
  exact ⟨_, _, [], fun _ => rfl, fun _ h => h, fun r hr => by rw [List.mem_singleton.1 hr]; trivial, ok_ctells⟩
end Go.Proofs.Ytnjdoebaneogjaa
end

section
namespace Go.Proofs.Ytnjdoebaneogjaa
open Go Go.Sx Go.RowKit
set_option maxRecDepth 100000
theorem allC_of : ∀ {n : Nat} {f : Nat → Prop}, (∀ c, c < n → f c) → allC n f
  | 0, _, _ => trivial
  | 1, _, h => h 0 (by decide)
  | n + 2, _, h => ⟨h 0 (by omega), allC_of fun c hc => h (c + 1) (by omega)⟩
theorem sim_int {x : SC} {k : IntKind} {n : Int} (h : x.conc Rho.nil = .int k n) : simC x x := by
  cases x with
  | val v =>
    have h : v = .int k n := h
    subst h
    cases k <;> exact rfl
  | num k a => cases k <;> exact rfl
  | _ => cases h
theorem gd_sim {s n : Nat} {f : Nat → Nat → SC} (h : gdP s n f) : ∀ i, i < n → allC 36 fun c => simC (f i c) (f i c) := fun i hi => allC_of fun c hc => by
  have k := h.g1 (some default) fun q => by cases q
  rcases Nat.lt_or_ge c 32 with a | a
  · exact sim_int (k.k3 i hi c a)
  · obtain ⟨d, rfl⟩ := Nat.exists_eq_add_of_le a
    exact sim_int (k.k4 i hi d (by omega))
theorem gd_of {s n : Nat} {f : Nat → Nat → SC} (h : gdP s n f) (k : Nat) : ofN n (kH f) (aH f) (s % M256) k = hl n f k := by
  have e : cnE n (kH f) (aH f) (s % M256) = 0 := gd_cn h
  unfold ofN
  rw [if_pos e]; rfl
end Go.Proofs.Ytnjdoebaneogjaa
end

section
namespace Go.Proofs.Ytnjdoebaneogjaa
open Go Go.Sx Go.RowKit
set_option maxRecDepth 100000
def mtT (a : Option Addr) (n cap : Nat) (K A B : Nat → Int) (s : Nat → ByteArray) (y : Nat) : List (Nat × SV) := [(2, .one (.sc (.ptr 0 0))), (3, .one (.sc (.bit false))), (4, .one (.sc (.ptr 1 0))), (5, .one (.sc (.bit true))), (12, .one (.sc (.xs a (mtL n) cap 4 (rwF K A B s)))), (13, .one (sI .i64 (mtL n : Int))), (14, .one (sI .i64 (y : Int)))]
def nilC : SO := .cells 28 [.u 0, .c (.val (.slice none 0 0))] 0
def invMt (K A B : Nat → Int) (s : Nat → ByteArray) (a : Option Addr) (n cap : Nat) (H : Nat → Cn → Prop) : Inv where
  X := Nat × Cn × Pl
  tm y := slotsAt 76 (mtT a n cap K A B s y.1)
  ob y := [nilC, .cells 28 (cnK y.2.1 y.2.2) 0]
  holds y := y.1 ≤ mtL n ∧ H y.1 y.2.1 ∧ plP y.2.2 y.2.1.n
  less y := mtL n - y.1
def cutMt (K A B : Nat → Int) (s : Nat → ByteArray) (a : Option Addr) (n cap : Nat) (H : Nat → Cn → Prop) (G : Nat → Cn → Cn → Int → Prop) : Inv where
  X := (Nat × Cn × Pl) × (Cn × Pl × Int)
  tm y := slotsAt 76 (mtT a n cap K A B s y.1.1 ++ [(7, .one (.sc (.ptr 2 0))), (8, .one (.sc (.ptr 3 0))), (9, .one (.sc (.ptr 13 0))), (10, .one (sI .i64 y.2.2.2))])
  ob y := [nilC, .cells 28 (cnK y.1.2.1 y.1.2.2) 0, .cells 59 [.c (.val (.int .i64 (K y.1.1))), .c (.val (.int .i64 (A y.1.1))), .c (.val (.int .i64 (B y.1.1))), .c (.val (.string (s y.1.1)))] 0, .cells 25 [.u (mtX B y.1.1)] 0] ++ List.replicate 9 .dead ++ [.cells 28 (cnK y.2.1 y.2.2.1) 0, .dead]
  holds y := (y.1.1 < mtL n ∧ H y.1.1 y.1.2.1 ∧ plP y.1.2.2 y.1.2.1.n) ∧ G y.1.1 y.1.2.1 y.2.1 y.2.2.2 ∧ plP y.2.2.1 y.2.1.n
  less _ := 0
def cxMu : Cx := ⟨[(8, cWho), (6, cPck), (1000000010, fun _ => none), (1000000012, fun _ => none), (1000000013, fun _ => none), (1000000014, fun _ => none), (1000000018, fun _ => none)], [], 0, []⟩
theorem vc_mt (K A B : Nat → Int) (s : Nat → ByteArray) (a : Option Addr) (n cap : Nat) (H : Nat → Cn → Prop) (G : Nat → Cn → Cn → Int → Prop) (S N : Nat) (F : Nat → Nat → SC) :
    OwesR Try.prog cxMu slMt [(4, .inv (invMt K A B s a n cap H)), (7, .cut (cutMt K A B s a n cap H G) (fun x y => y.1 = x.1))] 10 Try.f5 [.sc (.xs a n cap 4 (rwF K A B s))] true [.st [.k (.u S), .s N 36 F], .v (sB true)] =
    (let x1 : Int := if (20 : Int) < (↑n : Int) then (20 : Int) else (↑n : Int); let x2 : Nat := x1.toNat; ((0 : Int) ≤ x1 ∧ x1 ≤ (↑n : Int)) ∧ (∀ (y : Nat × Cn × Pl), closedB (slotsAt 76 (mtT a n cap K A B s y.fst)) [nilC, SO.cells (28 : Go.TypeId) (cnK y.snd.fst y.snd.snd) 0] = Bool.true) ∧ ∃ (y : Nat × Cn × Pl), (y.fst ≤ mtL n ∧ H y.fst y.snd.fst ∧ plP y.snd.snd y.snd.fst.n) ∧ (a = a ∧ x2 = mtL n ∧ cap = cap ∧ ∀ (i : Nat), i < x2 → allC 4 fun (c : Nat) => simC (rwF K A B s i c) (rwF K A B s i c)) ∧ (↑x2 : Int) = (↑(mtL n) : Int) ∧ (0 : Int) = (↑y.fst : Int) ∧ (0 = 0 ∧ Go.Value.slice Option.none 0 0 = Go.Value.slice Option.none 0 0 ∧ True) ∧ 0 = 0 ∧ 0 = y.snd.fst.s % M256 ∧ y.snd.snd.a = Option.none ∧ y.snd.fst.n = 0 ∧ y.snd.snd.c = 0 ∧ 0 = 0 ∧ ∀ (y : Nat × Cn × Pl), y.fst ≤ mtL n ∧ H y.fst y.snd.fst ∧ plP y.snd.snd y.snd.fst.n → (Decidable.decide ((↑y.fst : Int) < (↑(mtL n) : Int)) = Bool.true → ((0 : Int) ≤ (↑y.fst : Int) ∧ (↑y.fst : Int) < (↑(mtL n) : Int)) ∧ ((-9223372036854775808 : Int) ≤ B (↑y.fst : Int).toNat ∧ B (↑y.fst : Int).toNat ≤ (9223372036854775807 : Int)) ∧ ((0 : Int) < (100 : Int) ∧ (100 : Int) ≤ (1000000 : Int)) ∧ (∀ (y : (Nat × Cn × Pl) × Cn × Pl × Int), closedB (slotsAt 76 (mtT a n cap K A B s y.fst.fst ++ [(7, SV.one (SA.sc (SC.ptr 2 0))), (8, SV.one (SA.sc (SC.ptr 3 0))), (9, SV.one (SA.sc (SC.ptr 13 0))), (10, SV.one (sI Go.IntKind.i64 y.snd.snd.snd))])) ([nilC, SO.cells (28 : Go.TypeId) (cnK y.fst.snd.fst y.fst.snd.snd) 0, SO.cells (59 : Go.TypeId) [SK.c (SC.val (Go.Value.int Go.IntKind.i64 (K y.fst.fst))), SK.c (SC.val (Go.Value.int Go.IntKind.i64 (A y.fst.fst))), SK.c (SC.val (Go.Value.int Go.IntKind.i64 (B y.fst.fst))), SK.c (SC.val (Go.Value.string (s y.fst.fst)))] 0, SO.cells (25 : Go.TypeId) [SK.u (mtX B y.fst.fst)] 0] ++ List.replicate 9 SO.dead ++ [SO.cells (28 : Go.TypeId) (cnK y.snd.fst y.snd.snd.fst) 0, SO.dead]) = Bool.true) ∧ ∃ (y0 : (Nat × Cn × Pl) × Cn × Pl × Int), let x101 : Prop := ((0 : Int) ≤ Go.IntKind.u64.wrap (B (↑y.fst : Int).toNat % (100 : Int)) ∧ Go.IntKind.u64.wrap (B (↑y.fst : Int).toNat % (100 : Int)) < (18446744073709551616 : Int)) ∧ ((0 : Int) ≤ (0 : Int) ∧ (0 : Int) < (18446744073709551616 : Int)) ∧ ((0 : Int) ≤ (0 : Int) ∧ (0 : Int) < (18446744073709551616 : Int)) ∧ ((0 : Int) ≤ (0 : Int) ∧ (0 : Int) < (18446744073709551616 : Int)) ∧ ofP y.snd.snd.a y.snd.fst.n y.snd.fst.f (whoF (A (↑y.fst : Int).toNat)) ∧ ∀ (a_3 : Option Go.Addr) (cap_1 : Nat), (a_3 = Option.none → miN y.snd.fst.s y.snd.fst.n y.snd.fst.f (whoF (A (↑y.fst : Int).toNat)) (join (Go.IntKind.u64.wrap (B (↑y.fst : Int).toNat % (100 : Int))) (0 : Int) (0 : Int) (0 : Int)) = 0 ∧ cap_1 = 0) → miN y.snd.fst.s y.snd.fst.n y.snd.fst.f (whoF (A (↑y.fst : Int).toNat)) (join (Go.IntKind.u64.wrap (B (↑y.fst : Int).toNat % (100 : Int))) (0 : Int) (0 : Int) (0 : Int)) ≤ cap_1 → ∃ (y_1 : (Nat × Cn × Pl) × Cn × Pl × Int), (((y_1.fst.fst < mtL n ∧ H y_1.fst.fst y_1.fst.snd.fst ∧ plP y_1.fst.snd.snd y_1.fst.snd.fst.n) ∧ G y_1.fst.fst y_1.fst.snd.fst y_1.snd.fst y_1.snd.snd.snd ∧ plP y_1.snd.snd.fst y_1.snd.fst.n) ∧ y_1.fst = y0.fst) ∧ miE y.snd.fst.s y.snd.fst.n y.snd.fst.f (whoF (A (↑y.fst : Int).toNat)) (join (Go.IntKind.u64.wrap (B (↑y.fst : Int).toNat % (100 : Int))) (0 : Int) (0 : Int) (0 : Int)) = y_1.snd.snd.snd ∧ simC (SC.xs a (mtL n) cap 4 (rwF K A B s)) (SC.xs a (mtL n) cap 4 (rwF K A B s)) ∧ (↑(mtL n) : Int) = (↑(mtL n) : Int) ∧ (↑y.fst : Int) = (↑y_1.fst.fst : Int) ∧ 0 = 0 ∧ Go.Value.slice Option.none 0 0 = Go.Value.slice Option.none 0 0 ∧ 0 = 0 ∧ y.snd.fst.s % M256 = y_1.fst.snd.fst.s % M256 ∧ (y.snd.snd.a = y_1.fst.snd.snd.a ∧ y.snd.fst.n = y_1.fst.snd.fst.n ∧ y.snd.snd.c = y_1.fst.snd.snd.c ∧ ∀ (i : Nat), i < y.snd.fst.n → allC 36 fun (c : Nat) => simC (y.snd.fst.f i c) (y_1.fst.snd.fst.f i c)) ∧ 0 = 0 ∧ K (↑y.fst : Int).toNat = K y_1.fst.fst ∧ A (↑y.fst : Int).toNat = A y_1.fst.fst ∧ B (↑y.fst : Int).toNat = B y_1.fst.fst ∧ s (↑y.fst : Int).toNat = s y_1.fst.fst ∧ 0 = 0 ∧ (((0 : Int) ≤ Go.IntKind.u64.wrap (B (↑y.fst : Int).toNat % (100 : Int)) ∧ Go.IntKind.u64.wrap (B (↑y.fst : Int).toNat % (100 : Int)) < (18446744073709551616 : Int)) ∧ ((0 : Int) ≤ (0 : Int) ∧ (0 : Int) < (18446744073709551616 : Int)) ∧ ((0 : Int) ≤ (0 : Int) ∧ (0 : Int) < (18446744073709551616 : Int)) ∧ ((0 : Int) ≤ (0 : Int) ∧ (0 : Int) < (18446744073709551616 : Int)) ∧ join (Go.IntKind.u64.wrap (B (↑y.fst : Int).toNat % (100 : Int))) (0 : Int) (0 : Int) (0 : Int) % M256 = mtX B y_1.fst.fst % M256 ∧ True) ∧ 0 = 0 ∧ miS y.snd.fst.s y.snd.fst.n y.snd.fst.f (whoF (A (↑y.fst : Int).toNat)) (join (Go.IntKind.u64.wrap (B (↑y.fst : Int).toNat % (100 : Int))) (0 : Int) (0 : Int) (0 : Int)) % M256 = y_1.snd.fst.s % M256 ∧ (a_3 = y_1.snd.snd.fst.a ∧ miN y.snd.fst.s y.snd.fst.n y.snd.fst.f (whoF (A (↑y.fst : Int).toNat)) (join (Go.IntKind.u64.wrap (B (↑y.fst : Int).toNat % (100 : Int))) (0 : Int) (0 : Int) (0 : Int)) = y_1.snd.fst.n ∧ cap_1 = y_1.snd.snd.fst.c ∧ ∀ (i : Nat), i < miN y.snd.fst.s y.snd.fst.n y.snd.fst.f (whoF (A (↑y.fst : Int).toNat)) (join (Go.IntKind.u64.wrap (B (↑y.fst : Int).toNat % (100 : Int))) (0 : Int) (0 : Int) (0 : Int)) → allC 36 fun (c : Nat) => simC (miF y.snd.fst.s y.snd.fst.n y.snd.fst.f (whoF (A (↑y.fst : Int).toNat)) (join (Go.IntKind.u64.wrap (B (↑y.fst : Int).toNat % (100 : Int))) (0 : Int) (0 : Int) (0 : Int)) i c) (y_1.snd.fst.f i c)) ∧ 0 = 0 ∧ True; let x102 : Prop := x101 ∧ x101; let x103 : Prop := x102 ∧ x101; let x104 : Prop := ((-9223372036854775808 : Int) ≤ A (↑y.fst : Int).toNat ∧ A (↑y.fst : Int).toNat ≤ (9223372036854775807 : Int)) ∧ x101; let x105 : Prop := x104 ∧ x104; let x106 : Prop := x105 ∧ x104; let x107 : Prop := x105 ∧ (((-9223372036854775808 : Int) ≤ A (↑y.fst : Int).toNat ∧ A (↑y.fst : Int).toNat ≤ (9223372036854775807 : Int)) ∧ x102) ∧ x105; let x108 : Prop := x104 ∧ x105; (∀ (y_1 : (Nat × Cn × Pl) × Cn × Pl × Int), let x109 : Prop := (!buE y_1.fst.snd.fst.s y_1.fst.snd.fst.n y_1.fst.snd.fst.f (whoF (A y_1.fst.fst)) (mtX B y_1.fst.fst) == (0 : Int)) = Bool.true; let x110 : Prop := (buE y_1.fst.snd.fst.s y_1.fst.snd.fst.n y_1.fst.snd.fst.f (whoF (A y_1.fst.fst)) (mtX B y_1.fst.fst) == (0 : Int)) = Bool.false; let x111 : Prop := (!moE y_1.fst.snd.fst.s y_1.fst.snd.fst.n y_1.fst.snd.fst.f (whoF (A y_1.fst.fst)) (whoF (Go.IntKind.i64.wrap ((A y_1.fst.fst).tdiv (7 : Int)))) (mtX B y_1.fst.fst) == (0 : Int)) = Bool.true; let x112 : Prop := (moE y_1.fst.snd.fst.s y_1.fst.snd.fst.n y_1.fst.snd.fst.f (whoF (A y_1.fst.fst)) (whoF (Go.IntKind.i64.wrap ((A y_1.fst.fst).tdiv (7 : Int)))) (mtX B y_1.fst.fst) == (0 : Int)) = Bool.false; let x113 : Prop := (!y_1.snd.snd.snd == (0 : Int)) = Bool.true; let x114 : Prop := (y_1.snd.snd.snd == (0 : Int)) = Bool.false; (y_1.fst.fst < mtL n ∧ H y_1.fst.fst y_1.fst.snd.fst ∧ plP y_1.fst.snd.snd y_1.fst.snd.fst.n) ∧ G y_1.fst.fst y_1.fst.snd.fst y_1.snd.fst y_1.snd.snd.snd ∧ plP y_1.snd.snd.fst y_1.snd.fst.n → y_1.fst = y0.fst → ((-9223372036854775808 : Int) ≤ K y_1.fst.fst ∧ K y_1.fst.fst ≤ (9223372036854775807 : Int)) ∧ ((0 : Int) < (4 : Int) ∧ (4 : Int) ≤ (1000000 : Int)) ∧ ((K y_1.fst.fst % (4 : Int) == (0 : Int)) = Bool.true → ((-9223372036854775808 : Int) ≤ A y_1.fst.fst ∧ A y_1.fst.fst ≤ (9223372036854775807 : Int)) ∧ ofP y_1.fst.snd.snd.a y_1.fst.snd.fst.n y_1.fst.snd.fst.f (whoF (A y_1.fst.fst)) ∧ ∀ (a_6 : Option Go.Addr) (cap_1 : Nat), (a_6 = Option.none → buN y_1.fst.snd.fst.s y_1.fst.snd.fst.n y_1.fst.snd.fst.f (whoF (A y_1.fst.fst)) (mtX B y_1.fst.fst) = 0 ∧ cap_1 = 0) → buN y_1.fst.snd.fst.s y_1.fst.snd.fst.n y_1.fst.snd.fst.f (whoF (A y_1.fst.fst)) (mtX B y_1.fst.fst) ≤ cap_1 → ((buE y_1.fst.snd.fst.s y_1.fst.snd.fst.n y_1.fst.snd.fst.f (whoF (A y_1.fst.fst)) (mtX B y_1.fst.fst) == (0 : Int)) = Bool.true → (x109 → x109) ∧ (x110 → x109) ∧ ∃ (y' : Nat × Cn × Pl), (y'.fst ≤ mtL n ∧ H y'.fst y'.snd.fst ∧ plP y'.snd.snd y'.snd.fst.n) ∧ (buE y_1.fst.snd.fst.s y_1.fst.snd.fst.n y_1.fst.snd.fst.f (whoF (A y_1.fst.fst)) (mtX B y_1.fst.fst) == (0 : Int) || buE y_1.fst.snd.fst.s y_1.fst.snd.fst.n y_1.fst.snd.fst.f (whoF (A y_1.fst.fst)) (mtX B y_1.fst.fst) == (13 : Int)) = Bool.true ∧ simC (SC.xs a (mtL n) cap 4 (rwF K A B s)) (SC.xs a (mtL n) cap 4 (rwF K A B s)) ∧ (↑(mtL n) : Int) = (↑(mtL n) : Int) ∧ Go.IntKind.i64.wrap ((↑y_1.fst.fst : Int) + (1 : Int)) = (↑y'.fst : Int) ∧ 0 = 0 ∧ Go.Value.slice Option.none 0 0 = Go.Value.slice Option.none 0 0 ∧ 0 = 0 ∧ buS y_1.fst.snd.fst.s y_1.fst.snd.fst.n y_1.fst.snd.fst.f (whoF (A y_1.fst.fst)) (mtX B y_1.fst.fst) % M256 = y'.snd.fst.s % M256 ∧ (a_6 = y'.snd.snd.a ∧ buN y_1.fst.snd.fst.s y_1.fst.snd.fst.n y_1.fst.snd.fst.f (whoF (A y_1.fst.fst)) (mtX B y_1.fst.fst) = y'.snd.fst.n ∧ cap_1 = y'.snd.snd.c ∧ ∀ (i : Nat), i < buN y_1.fst.snd.fst.s y_1.fst.snd.fst.n y_1.fst.snd.fst.f (whoF (A y_1.fst.fst)) (mtX B y_1.fst.fst) → allC 36 fun (c : Nat) => simC (buF y_1.fst.snd.fst.s y_1.fst.snd.fst.n y_1.fst.snd.fst.f (whoF (A y_1.fst.fst)) (mtX B y_1.fst.fst) i c) (y'.snd.fst.f i c)) ∧ 0 = 0 ∧ (mtL n - y'.fst).succ.le (mtL n - y.fst)) ∧ (x110 → (x109 → x109) ∧ (x110 → x109) ∧ ∃ (y' : Nat × Cn × Pl), (y'.fst ≤ mtL n ∧ H y'.fst y'.snd.fst ∧ plP y'.snd.snd y'.snd.fst.n) ∧ (buE y_1.fst.snd.fst.s y_1.fst.snd.fst.n y_1.fst.snd.fst.f (whoF (A y_1.fst.fst)) (mtX B y_1.fst.fst) == (0 : Int) || buE y_1.fst.snd.fst.s y_1.fst.snd.fst.n y_1.fst.snd.fst.f (whoF (A y_1.fst.fst)) (mtX B y_1.fst.fst) == (13 : Int)) = Bool.true ∧ simC (SC.xs a (mtL n) cap 4 (rwF K A B s)) (SC.xs a (mtL n) cap 4 (rwF K A B s)) ∧ (↑(mtL n) : Int) = (↑(mtL n) : Int) ∧ Go.IntKind.i64.wrap ((↑y_1.fst.fst : Int) + (1 : Int)) = (↑y'.fst : Int) ∧ 0 = 0 ∧ Go.Value.slice Option.none 0 0 = Go.Value.slice Option.none 0 0 ∧ 0 = 0 ∧ y_1.fst.snd.fst.s % M256 = y'.snd.fst.s % M256 ∧ (y_1.fst.snd.snd.a = y'.snd.snd.a ∧ y_1.fst.snd.fst.n = y'.snd.fst.n ∧ y_1.fst.snd.snd.c = y'.snd.snd.c ∧ ∀ (i : Nat), i < y_1.fst.snd.fst.n → allC 36 fun (c : Nat) => simC (y_1.fst.snd.fst.f i c) (y'.snd.fst.f i c)) ∧ 0 = 0 ∧ (mtL n - y'.fst).succ.le (mtL n - y.fst))) ∧ ((K y_1.fst.fst % (4 : Int) == (0 : Int)) = Bool.false → ((K y_1.fst.fst % (4 : Int) == (1 : Int)) = Bool.true → ((-9223372036854775808 : Int) ≤ A y_1.fst.fst ∧ A y_1.fst.fst ≤ (9223372036854775807 : Int)) ∧ ((-9223372036854775808 : Int) ≤ Go.IntKind.i64.wrap ((A y_1.fst.fst).tdiv (7 : Int)) ∧ Go.IntKind.i64.wrap ((A y_1.fst.fst).tdiv (7 : Int)) ≤ (9223372036854775807 : Int)) ∧ moP y_1.fst.snd.snd.a y_1.fst.snd.fst.n y_1.fst.snd.fst.f (whoF (A y_1.fst.fst)) (whoF (Go.IntKind.i64.wrap ((A y_1.fst.fst).tdiv (7 : Int)))) ∧ ∀ (a_7 : Option Go.Addr) (cap_1 : Nat), (a_7 = Option.none → moN y_1.fst.snd.fst.s y_1.fst.snd.fst.n y_1.fst.snd.fst.f (whoF (A y_1.fst.fst)) (whoF (Go.IntKind.i64.wrap ((A y_1.fst.fst).tdiv (7 : Int)))) (mtX B y_1.fst.fst) = 0 ∧ cap_1 = 0) → moN y_1.fst.snd.fst.s y_1.fst.snd.fst.n y_1.fst.snd.fst.f (whoF (A y_1.fst.fst)) (whoF (Go.IntKind.i64.wrap ((A y_1.fst.fst).tdiv (7 : Int)))) (mtX B y_1.fst.fst) ≤ cap_1 → ((moE y_1.fst.snd.fst.s y_1.fst.snd.fst.n y_1.fst.snd.fst.f (whoF (A y_1.fst.fst)) (whoF (Go.IntKind.i64.wrap ((A y_1.fst.fst).tdiv (7 : Int)))) (mtX B y_1.fst.fst) == (0 : Int)) = Bool.true → (x111 → x111) ∧ (x112 → x111) ∧ ∃ (y' : Nat × Cn × Pl), (y'.fst ≤ mtL n ∧ H y'.fst y'.snd.fst ∧ plP y'.snd.snd y'.snd.fst.n) ∧ (moE y_1.fst.snd.fst.s y_1.fst.snd.fst.n y_1.fst.snd.fst.f (whoF (A y_1.fst.fst)) (whoF (Go.IntKind.i64.wrap ((A y_1.fst.fst).tdiv (7 : Int)))) (mtX B y_1.fst.fst) == (0 : Int) || moE y_1.fst.snd.fst.s y_1.fst.snd.fst.n y_1.fst.snd.fst.f (whoF (A y_1.fst.fst)) (whoF (Go.IntKind.i64.wrap ((A y_1.fst.fst).tdiv (7 : Int)))) (mtX B y_1.fst.fst) == (13 : Int)) = Bool.true ∧ simC (SC.xs a (mtL n) cap 4 (rwF K A B s)) (SC.xs a (mtL n) cap 4 (rwF K A B s)) ∧ (↑(mtL n) : Int) = (↑(mtL n) : Int) ∧ Go.IntKind.i64.wrap ((↑y_1.fst.fst : Int) + (1 : Int)) = (↑y'.fst : Int) ∧ 0 = 0 ∧ Go.Value.slice Option.none 0 0 = Go.Value.slice Option.none 0 0 ∧ 0 = 0 ∧ moS y_1.fst.snd.fst.s y_1.fst.snd.fst.n y_1.fst.snd.fst.f (whoF (A y_1.fst.fst)) (whoF (Go.IntKind.i64.wrap ((A y_1.fst.fst).tdiv (7 : Int)))) (mtX B y_1.fst.fst) % M256 = y'.snd.fst.s % M256 ∧ (a_7 = y'.snd.snd.a ∧ moN y_1.fst.snd.fst.s y_1.fst.snd.fst.n y_1.fst.snd.fst.f (whoF (A y_1.fst.fst)) (whoF (Go.IntKind.i64.wrap ((A y_1.fst.fst).tdiv (7 : Int)))) (mtX B y_1.fst.fst) = y'.snd.fst.n ∧ cap_1 = y'.snd.snd.c ∧ ∀ (i : Nat), i < moN y_1.fst.snd.fst.s y_1.fst.snd.fst.n y_1.fst.snd.fst.f (whoF (A y_1.fst.fst)) (whoF (Go.IntKind.i64.wrap ((A y_1.fst.fst).tdiv (7 : Int)))) (mtX B y_1.fst.fst) → allC 36 fun (c : Nat) => simC (moF y_1.fst.snd.fst.s y_1.fst.snd.fst.n y_1.fst.snd.fst.f (whoF (A y_1.fst.fst)) (whoF (Go.IntKind.i64.wrap ((A y_1.fst.fst).tdiv (7 : Int)))) (mtX B y_1.fst.fst) i c) (y'.snd.fst.f i c)) ∧ 0 = 0 ∧ (mtL n - y'.fst).succ.le (mtL n - y.fst)) ∧ (x112 → (x111 → x111) ∧ (x112 → x111) ∧ ∃ (y' : Nat × Cn × Pl), (y'.fst ≤ mtL n ∧ H y'.fst y'.snd.fst ∧ plP y'.snd.snd y'.snd.fst.n) ∧ (moE y_1.fst.snd.fst.s y_1.fst.snd.fst.n y_1.fst.snd.fst.f (whoF (A y_1.fst.fst)) (whoF (Go.IntKind.i64.wrap ((A y_1.fst.fst).tdiv (7 : Int)))) (mtX B y_1.fst.fst) == (0 : Int) || moE y_1.fst.snd.fst.s y_1.fst.snd.fst.n y_1.fst.snd.fst.f (whoF (A y_1.fst.fst)) (whoF (Go.IntKind.i64.wrap ((A y_1.fst.fst).tdiv (7 : Int)))) (mtX B y_1.fst.fst) == (13 : Int)) = Bool.true ∧ simC (SC.xs a (mtL n) cap 4 (rwF K A B s)) (SC.xs a (mtL n) cap 4 (rwF K A B s)) ∧ (↑(mtL n) : Int) = (↑(mtL n) : Int) ∧ Go.IntKind.i64.wrap ((↑y_1.fst.fst : Int) + (1 : Int)) = (↑y'.fst : Int) ∧ 0 = 0 ∧ Go.Value.slice Option.none 0 0 = Go.Value.slice Option.none 0 0 ∧ 0 = 0 ∧ y_1.fst.snd.fst.s % M256 = y'.snd.fst.s % M256 ∧ (y_1.fst.snd.snd.a = y'.snd.snd.a ∧ y_1.fst.snd.fst.n = y'.snd.fst.n ∧ y_1.fst.snd.snd.c = y'.snd.snd.c ∧ ∀ (i : Nat), i < y_1.fst.snd.fst.n → allC 36 fun (c : Nat) => simC (y_1.fst.snd.fst.f i c) (y'.snd.fst.f i c)) ∧ 0 = 0 ∧ (mtL n - y'.fst).succ.le (mtL n - y.fst))) ∧ ((K y_1.fst.fst % (4 : Int) == (1 : Int)) = Bool.false → ((y_1.snd.snd.snd == (0 : Int)) = Bool.true → (x113 → x113) ∧ (x114 → x113) ∧ ∃ (y' : Nat × Cn × Pl), (y'.fst ≤ mtL n ∧ H y'.fst y'.snd.fst ∧ plP y'.snd.snd y'.snd.fst.n) ∧ (y_1.snd.snd.snd == (0 : Int) || y_1.snd.snd.snd == (13 : Int)) = Bool.true ∧ simC (SC.xs a (mtL n) cap 4 (rwF K A B s)) (SC.xs a (mtL n) cap 4 (rwF K A B s)) ∧ (↑(mtL n) : Int) = (↑(mtL n) : Int) ∧ Go.IntKind.i64.wrap ((↑y_1.fst.fst : Int) + (1 : Int)) = (↑y'.fst : Int) ∧ 0 = 0 ∧ Go.Value.slice Option.none 0 0 = Go.Value.slice Option.none 0 0 ∧ 0 = 0 ∧ y_1.snd.fst.s % M256 = y'.snd.fst.s % M256 ∧ (y_1.snd.snd.fst.a = y'.snd.snd.a ∧ y_1.snd.fst.n = y'.snd.fst.n ∧ y_1.snd.snd.fst.c = y'.snd.snd.c ∧ ∀ (i : Nat), i < y_1.snd.fst.n → allC 36 fun (c : Nat) => simC (y_1.snd.fst.f i c) (y'.snd.fst.f i c)) ∧ 0 = 0 ∧ (mtL n - y'.fst).succ.le (mtL n - y.fst)) ∧ (x114 → (x113 → x113) ∧ (x114 → x113) ∧ ∃ (y' : Nat × Cn × Pl), (y'.fst ≤ mtL n ∧ H y'.fst y'.snd.fst ∧ plP y'.snd.snd y'.snd.fst.n) ∧ (y_1.snd.snd.snd == (0 : Int) || y_1.snd.snd.snd == (13 : Int)) = Bool.true ∧ simC (SC.xs a (mtL n) cap 4 (rwF K A B s)) (SC.xs a (mtL n) cap 4 (rwF K A B s)) ∧ (↑(mtL n) : Int) = (↑(mtL n) : Int) ∧ Go.IntKind.i64.wrap ((↑y_1.fst.fst : Int) + (1 : Int)) = (↑y'.fst : Int) ∧ 0 = 0 ∧ Go.Value.slice Option.none 0 0 = Go.Value.slice Option.none 0 0 ∧ 0 = 0 ∧ y_1.fst.snd.fst.s % M256 = y'.snd.fst.s % M256 ∧ (y_1.fst.snd.snd.a = y'.snd.snd.a ∧ y_1.fst.snd.fst.n = y'.snd.fst.n ∧ y_1.fst.snd.snd.c = y'.snd.snd.c ∧ ∀ (i : Nat), i < y_1.fst.snd.fst.n → allC 36 fun (c : Nat) => simC (y_1.fst.snd.fst.f i c) (y'.snd.fst.f i c)) ∧ 0 = 0 ∧ (mtL n - y'.fst).succ.le (mtL n - y.fst))))) ∧ (((((-9223372036854775808 : Int) ≤ A (↑y.fst : Int).toNat ∧ A (↑y.fst : Int).toNat ≤ (9223372036854775807 : Int)) ∧ x103) ∧ ((((-9223372036854775808 : Int) ≤ A (↑y.fst : Int).toNat ∧ A (↑y.fst : Int).toNat ≤ (9223372036854775807 : Int)) ∧ x102) ∧ x104) ∧ x105) ∧ (((((-9223372036854775808 : Int) ≤ A (↑y.fst : Int).toNat ∧ A (↑y.fst : Int).toNat ≤ (9223372036854775807 : Int)) ∧ x102) ∧ x104) ∧ x104) ∧ x106) ∧ (((((-9223372036854775808 : Int) ≤ A (↑y.fst : Int).toNat ∧ A (↑y.fst : Int).toNat ≤ (9223372036854775807 : Int)) ∧ x103) ∧ ((((-9223372036854775808 : Int) ≤ A (↑y.fst : Int).toNat ∧ A (↑y.fst : Int).toNat ≤ (9223372036854775807 : Int)) ∧ x102) ∧ x104) ∧ x105) ∧ (((-9223372036854775808 : Int) ≤ A (↑y.fst : Int).toNat ∧ A (↑y.fst : Int).toNat ≤ (9223372036854775807 : Int)) ∧ x103 ∧ x103 ∧ x102) ∧ (((((-9223372036854775808 : Int) ≤ A (↑y.fst : Int).toNat ∧ A (↑y.fst : Int).toNat ≤ (9223372036854775807 : Int)) ∧ x102) ∧ x104) ∧ (((-9223372036854775808 : Int) ≤ A (↑y.fst : Int).toNat ∧ A (↑y.fst : Int).toNat ≤ (9223372036854775807 : Int)) ∧ x103) ∧ x105) ∧ x107) ∧ ((((((-9223372036854775808 : Int) ≤ A (↑y.fst : Int).toNat ∧ A (↑y.fst : Int).toNat ≤ (9223372036854775807 : Int)) ∧ x102) ∧ x104) ∧ x104) ∧ (((((-9223372036854775808 : Int) ≤ A (↑y.fst : Int).toNat ∧ A (↑y.fst : Int).toNat ≤ (9223372036854775807 : Int)) ∧ x102) ∧ x104) ∧ (((-9223372036854775808 : Int) ≤ A (↑y.fst : Int).toNat ∧ A (↑y.fst : Int).toNat ≤ (9223372036854775807 : Int)) ∧ x103) ∧ x105) ∧ x108) ∧ x106 ∧ x107 ∧ x108) ∧ (Decidable.decide ((↑y.fst : Int) < (↑(mtL n) : Int)) = Bool.false → ((y.snd.fst.s % M256 = S % M256 ∧ True) ∧ (y.snd.fst.n = N ∧ ∀ (i : Nat), i < N → allC 36 fun (c : Nat) => simC (y.snd.fst.f i c) (F i c)) ∧ True) ∧ Bool.true = Bool.true)) := by kernel_rfl
end Go.Proofs.Ytnjdoebaneogjaa
end

section
namespace Go.Proofs.Ytnjdoebaneogjaa
open Go Go.Sx Go.RowKit
set_option maxRecDepth 100000
def mtH (K A B : Nat → Int) (y : Nat) (c : Cn) : Prop := c = mtC K A B y
def mtG0 (A B : Nat → Int) (y : Nat) (c d : Cn) (e : Int) : Prop := d = cMiC c (mtV A y) (mtX B y) ∧ e = miE c.s c.n c.f (mtV A y) (mtX B y)
theorem mt_next {K A B : Nat → Int} {y : Nat} {c d : Cn} {e : Int} (hy : y < 20) (hc : c = mtC K A B y) (hd : mtD K A B y c = (d, e)) : (e = 0 ∧ d = mtC K A B (y + 1) ∧ gdP d.s d.n d.f) ∨ (e = 13 ∧ c = mtC K A B (y + 1)) := by
  have g := mt_go K A B y (by omega)
  rw [← hc] at g
  have e1 : (mtD K A B y (mtC K A B y)).2 = e := by rw [← hc, hd]
  have e2 : (mtD K A B y (mtC K A B y)).1 = d := by rw [← hc, hd]
  have en : mtC K A B (y + 1) = if (mtD K A B y (mtC K A B y)).2 = 0 then (mtD K A B y (mtC K A B y)).1 else mtC K A B y := rfl
  rw [e1, e2, ← hc] at en
  rcases mt_step (K := K) (A := A) (B := B) g hy with ⟨q, r⟩ | q
  · rw [hd] at q r
    have q : e = 0 := q
    rw [if_pos q] at en
    exact .inl ⟨q, en.symm, r.g⟩
  · rw [hd] at q
    have q : e = 13 := q
    rw [if_neg (by rw [q]; decide)] at en
    exact .inr ⟨q, en.symm⟩
theorem nb {b : Bool} (h : b = false) : (!b) = true := by rw [h]; rfl
theorem or_l {x : Int} (h : (x == 0) = true) : (x == 0 || x == 13) = true := by rw [h]; rfl
theorem rw_sim (K A B : Nat → Int) (s : Nat → ByteArray) (a : Option Addr) (n cap : Nat) : simC (SC.xs a n cap 4 (rwF K A B s)) (SC.xs a n cap 4 (rwF K A B s)) := ⟨rfl, rfl, rfl, fun _ _ => ⟨rfl, rfl, rfl, rfl⟩⟩
theorem mt_cont {n y Y : Nat} {a : Option Addr} {cap : Nat} {K A B : Nat → Int} {s : Nat → ByteArray} {c d : Cn} {p q : Pl} {e : Int} (hL : mtL n ≤ 20) (_ : mtL n ≤ maxLen) (hy : y < mtL n) (hY : y = Y) (hc : c = mtC K A B y) (hp : plP p c.n) (hq : plP q d.n) (hd : mtD K A B y c = (d, e)) :
    ((e == 0) = true → ((!(e == 0)) = true → (!(e == 0)) = true) ∧ ((e == 0) = false → (!(e == 0)) = true) ∧ ∃ y' : Nat × Cn × Pl, (y'.fst ≤ mtL n ∧ mtH K A B y'.fst y'.snd.fst ∧ plP y'.snd.snd y'.snd.fst.n) ∧ (e == 0 || e == 13) = true ∧ simC (SC.xs a (mtL n) cap 4 (rwF K A B s)) (SC.xs a (mtL n) cap 4 (rwF K A B s)) ∧ ((mtL n : Nat) : Int) = ((mtL n : Nat) : Int) ∧ IntKind.i64.wrap ((y : Int) + 1) = (y'.fst : Int) ∧ (0 : Nat) = 0 ∧ Go.Value.slice none 0 0 = Go.Value.slice none 0 0 ∧ (0 : Nat) = 0 ∧ d.s % M256 = y'.snd.fst.s % M256 ∧ (q.a = y'.snd.snd.a ∧ d.n = y'.snd.fst.n ∧ q.c = y'.snd.snd.c ∧ ∀ i, i < d.n → allC 36 fun c => simC (d.f i c) (y'.snd.fst.f i c)) ∧ (0 : Nat) = 0 ∧ (mtL n - y'.fst).succ.le (mtL n - Y)) ∧
    ((e == 0) = false → ((!(e == 0)) = true → (!(e == 0)) = true) ∧ ((e == 0) = false → (!(e == 0)) = true) ∧ ∃ y' : Nat × Cn × Pl, (y'.fst ≤ mtL n ∧ mtH K A B y'.fst y'.snd.fst ∧ plP y'.snd.snd y'.snd.fst.n) ∧ (e == 0 || e == 13) = true ∧ simC (SC.xs a (mtL n) cap 4 (rwF K A B s)) (SC.xs a (mtL n) cap 4 (rwF K A B s)) ∧ ((mtL n : Nat) : Int) = ((mtL n : Nat) : Int) ∧ IntKind.i64.wrap ((y : Int) + 1) = (y'.fst : Int) ∧ (0 : Nat) = 0 ∧ Go.Value.slice none 0 0 = Go.Value.slice none 0 0 ∧ (0 : Nat) = 0 ∧ c.s % M256 = y'.snd.fst.s % M256 ∧ (p.a = y'.snd.snd.a ∧ c.n = y'.snd.fst.n ∧ p.c = y'.snd.snd.c ∧ ∀ i, i < c.n → allC 36 fun j => simC (c.f i j) (y'.snd.fst.f i j)) ∧ (0 : Nat) = 0 ∧ (mtL n - y'.fst).succ.le (mtL n - Y)) := by
  have hw : IntKind.i64.wrap ((y : Int) + 1) = ((y + 1 : Nat) : Int) := by rw [IntKind.wrap_i64]; omega
  have hl : (mtL n - (y + 1)).succ.le (mtL n - Y) := by show mtL n - (y + 1) + 1 ≤ mtL n - Y; omega
  have g : gdP c.s c.n c.f := by rw [hc]; exact (mt_go K A B y (by omega)).g
  have nx := mt_next (by omega) hc hd
  refine ⟨fun h => ⟨id, fun z => nb z, (y + 1, d, q), ?_⟩, fun h => ⟨id, fun z => nb z, (y + 1, c, p), ?_⟩⟩
  · rcases nx with ⟨_, e2, e3⟩ | ⟨e1, _⟩
    · exact ⟨⟨hy, e2, hq⟩, or_l h, rw_sim K A B s a _ cap, rfl, hw, rfl, rfl, rfl, rfl, ⟨rfl, rfl, rfl, gd_sim e3⟩, rfl, hl⟩
    · rw [e1] at h; exact absurd h (by decide)
  · rcases nx with ⟨e1, _⟩ | ⟨e1, e2⟩
    · rw [e1] at h; exact absurd h (by decide)
    · exact ⟨⟨hy, e2, hp⟩, by rw [e1]; rfl, rw_sim K A B s a _ cap, rfl, hw, rfl, rfl, rfl, rfl, ⟨rfl, rfl, rfl, gd_sim g⟩, rfl, hl⟩
def ivMt (K A B : Nat → Int) (s : Nat → ByteArray) (a : Option Addr) (n cap : Nat) : List (Nat × Hint) :=
  [(4, .inv (invMt K A B s a n cap (mtH K A B))), (7, .cut (cutMt K A B s a n cap (mtH K A B) (mtG0 A B)) (fun x y => y.1 = x.1))]
theorem ok_mt (K A B : Nat → Int) (s : Nat → ByteArray) (a : Option Addr) (n cap : Nat) (hr : rwP n (rwF K A B s)) (c : Cn) (hc : c = mtC K A B (mtL n)) :
    OwesR Try.prog cxMu slMt (ivMt K A B s a n cap) 10 Try.f5 [.sc (.xs a n cap 4 (rwF K A B s))] true [.st [.k (.u c.s), .s c.n 36 c.f], .v (sB true)] := by
  have hL : mtL n ≤ 20 := Nat.min_le_right _ _
  have hLn : mtL n ≤ n := Nat.min_le_left _ _
  have hn : n ≤ maxLen := hr.hn
  have hML : maxLen = 9223372036854775807 := rfl
  have hI : ∀ y, y < mtL n → i64ok (K y) ∧ i64ok (A y) ∧ i64ok (B y) := fun y hy => hr.hi y (by omega)
  unfold ivMt
  rw [vc_mt]
  intro x1 x2
  have e1 : x1 = (mtL n : Int) := by
    show (if (20 : Int) < (n : Int) then (20 : Int) else (n : Int)) = ((min n 20 : Nat) : Int)
    split <;> omega
  have e2 : x2 = mtL n := by show x1.toNat = _; rw [e1]; exact Int.toNat_natCast _
  clear_value x1 x2
  subst e1 e2
  have zr := rw_sim K A B s a (mtL n) cap
  have z0 : (0 : Int) ≤ 0 ∧ (0 : Int) < 18446744073709551616 := by decide
  have zX : ∀ y, 0 ≤ IntKind.u64.wrap (B y % 100) ∧ IntKind.u64.wrap (B y % 100) < 18446744073709551616 := fun y => by rw [IntKind.wrap_u64]; omega
  refine ⟨⟨by omega, by omega⟩, fun _ => rfl, (0, cn0, ⟨none, 0⟩), ⟨Nat.zero_le _, rfl, ⟨fun _ => ⟨rfl, rfl⟩, Nat.le_refl 0⟩⟩, ⟨rfl, rfl, rfl, fun _ _ => ⟨rfl, rfl, rfl, rfl⟩⟩, rfl, rfl, ⟨rfl, rfl, trivial⟩, rfl, rfl, rfl, rfl, rfl, rfl, fun y hy => ⟨fun hl => ?_, fun hl => ?_⟩⟩
  · have hl : y.1 < mtL n := by have := of_decide_eq_true hl; omega
    obtain ⟨iK, iA, iB⟩ := hI y.1 hl
    have g := mt_go K A B y.1 (by omega)
    rw [show mtC K A B y.1 = y.2.1 from hy.2.1.symm] at g
    have zc := gd_sim g.g
    have ofp : ∀ v, by32 v → ofP y.2.2.a y.2.1.n y.2.1.f v := fun v hv => ⟨g.g.g1 _ fun q => (hy.2.2.nil q).1, hv⟩
    refine ⟨⟨by omega, by omega⟩, iB, ⟨by decide, by decide⟩, fun _ => rfl, (y, (cn0, ⟨none, 0⟩, 0)), ?_⟩
    intro x101 x102 x103 x104 x105 x106 x107 x108
    have l1 : x101 := ⟨zX y.1, z0, z0, z0, ofp _ (who_by _), fun a' cap' ha' hle' => ⟨(y, (cMiC y.2.1 (mtV A y.1) (mtX B y.1), ⟨a', cap'⟩, miE y.2.1.s y.2.1.n y.2.1.f (mtV A y.1) (mtX B y.1))), ⟨⟨⟨hl, hy.2.1, hy.2.2⟩, ⟨rfl, rfl⟩, ⟨ha', hle'⟩⟩, rfl⟩, rfl, zr, rfl, rfl, rfl, rfl, rfl, rfl, ⟨rfl, rfl, rfl, zc⟩, rfl, rfl, rfl, rfl, rfl, rfl, ⟨zX y.1, z0, z0, z0, rfl, trivial⟩, rfl, rfl, ⟨rfl, rfl, rfl, fun i _ => all_ho _ _ i⟩, rfl, trivial⟩⟩
    clear_value x101
    refine ⟨fun y1 => ?_, ?_⟩
    · intro x109 x110 x111 x112 x113 x114 h1 hR
      have hR : y1.1 = y := hR
      obtain ⟨⟨h11, h12, h13⟩, hG, hq⟩ := h1
      have hY : y1.1.1 = y.1 := by rw [hR]
      obtain ⟨jK, jA, jB⟩ := hI y1.1.1 h11
      have g1 := mt_go K A B y1.1.1 (by omega)
      rw [show mtC K A B y1.1.1 = y1.1.2.1 from h12.symm] at g1
      have ofq : ∀ v, by32 v → ofP y1.1.2.2.a y1.1.2.1.n y1.1.2.1.f v := fun v hv => ⟨g1.g.g1 _ fun q => (h13.nil q).1, hv⟩
      have jW : -9223372036854775808 ≤ IntKind.i64.wrap ((A y1.1.1).tdiv 7) ∧ IntKind.i64.wrap ((A y1.1.1).tdiv 7) ≤ 9223372036854775807 := by rw [IntKind.wrap_i64]; omega
      refine ⟨jK, ⟨by decide, by decide⟩, fun k0 => ⟨jA, ofq _ (who_by _), fun a' cap' ha' hle' => ?_⟩, fun k0 => ⟨fun k1 => ⟨jA, jW, ⟨ofq _ (who_by _), who_by _⟩, fun a' cap' ha' hle' => ?_⟩, fun k1 => ?_⟩⟩
      · have k0 : K y1.1.1 % 4 = 0 := of_decide_eq_true k0
        exact mt_cont (d := cBuC y1.1.2.1 (mtV A y1.1.1) (mtX B y1.1.1)) (q := ⟨a', cap'⟩) (e := buE y1.1.2.1.s y1.1.2.1.n y1.1.2.1.f (mtV A y1.1.1) (mtX B y1.1.1)) hL (by omega) h11 hY h12 h13 ⟨ha', hle'⟩ (by unfold mtD; rw [if_pos k0])
      · have k0 : ¬ K y1.1.1 % 4 = 0 := of_decide_eq_false k0
        have k1 : K y1.1.1 % 4 = 1 := of_decide_eq_true k1
        exact mt_cont (d := cMoC y1.1.2.1 (mtV A y1.1.1) (mtW A y1.1.1) (mtX B y1.1.1)) (q := ⟨a', cap'⟩) (e := moE y1.1.2.1.s y1.1.2.1.n y1.1.2.1.f (mtV A y1.1.1) (mtW A y1.1.1) (mtX B y1.1.1)) hL (by omega) h11 hY h12 h13 ⟨ha', hle'⟩ (by unfold mtD; rw [if_neg k0, if_pos k1])
      · have k0 : ¬ K y1.1.1 % 4 = 0 := of_decide_eq_false k0
        have k1 : ¬ K y1.1.1 % 4 = 1 := of_decide_eq_false k1
        exact mt_cont hL (by omega) h11 hY h12 h13 hq (by
          unfold mtD; rw [if_neg k0, if_neg k1, ← hG.1, ← hG.2])
    · repeat' first | exact iA | exact l1 | refine And.intro ?_ ?_
  · have hl := of_decide_eq_false hl
    have e : y.1 = mtL n := by have := hy.1; omega
    have hc' : y.2.1 = c := by rw [hc, ← e]; exact hy.2.1
    have g := mt_go K A B (mtL n) hL
    rw [← hc] at g
    rw [hc']
    exact ⟨⟨⟨rfl, trivial⟩, ⟨rfl, gd_sim g.g⟩, trivial⟩, rfl⟩
theorem mtD_closed (K A B : Nat → Int) (y : Nat) (c : Cn) : closedG (mtD K A B y c).1.n 36 (mtD K A B y c).1.f := by
  unfold mtD
  split
  · exact ho_closed _ _ _
  · split <;> exact ho_closed _ _ _
theorem mt_closed (K A B : Nat → Int) : ∀ y, closedG (mtC K A B y).n 36 (mtC K A B y).f
  | 0 => fun i hi => absurd hi (Nat.not_lt_zero i)
  | y + 1 => by
    unfold mtC
    by_cases h : (mtD K A B y (mtC K A B y)).2 = 0
    · rw [if_pos h]; exact mtD_closed _ _ _ _ _
    · rw [if_neg h]; exact mt_closed K A B y
end Go.Proofs.Ytnjdoebaneogjaa
end

section
namespace Go.Proofs.Ytnjdoebaneogjaa
open Go Go.Sx Go.RowKit
set_option maxRecDepth 100000
theorem okx_Mu : CxOK Try.prog cxMu := okx_cons card_who (okx_cons card_pck (okx_mark (okx_mark (okx_mark (okx_mark (okx_mark okx_nil))))))
theorem card_mt {gl : Globs} : FnOKs Try.prog gl 5 cMt := by
  refine FnOKs.up0 (FnOKs_R0 (cx := cxMu) okx_Mu (sl := slMt) oks_Mt Try.func5 (by kernel_rfl) (by kernel_rfl) fun ls hc => ?_) gl
  unfold mtQ at hc
  split at hc
  · rename_i a n cap f
    obtain ⟨p, _⟩ := hc
    refine ⟨_, _, [.sc (.xs a n cap 4 (rwF (nO f 0) (nO f 1) (nO f 2) (tO f)))], fun _ => rfl, fun E hE => ?_, fun r hr => ?_, ok_mt (nO f 0) (nO f 1) (nO f 2) (tO f) a n cap ⟨fun i _ => ⟨rfl, rfl, rfl, rfl⟩, p.hi, p.hn⟩ _ rfl⟩
    · intro z hz
      rw [List.mem_singleton.1 hz]
      have hb : (SC.xs a n cap 4 f).bnd E := hE (.sc (.xs a n cap 4 f)) (List.mem_cons_self ..)
      refine simC_bnd (SC.xs a n cap 4 f) (y := .xs a n cap 4 (rwF (nO f 0) (nO f 1) (nO f 2) (tO f))) ?_ hb
      refine ⟨rfl, rfl, rfl, fun i hi => ?_⟩
      obtain ⟨h0, h1, h2, h3⟩ := p.hs i hi
      show simC (f i 0) _ ∧ simC (f i 1) _ ∧ simC (f i 2) _ ∧ simC (f i 3) _
      rw [h0, h1, h2, h3]
      exact ⟨rfl, rfl, rfl, rfl⟩
    · unfold mtG at hr
      simp only [List.mem_cons, List.not_mem_nil, or_false] at hr
      rcases hr with rfl | rfl
      · intro k hk
        simp only [List.mem_cons, List.not_mem_nil, or_false] at hk
        rcases hk with rfl | rfl
        · trivial
        · exact mt_closed _ _ _ _
      · trivial
  · exact hc.1.elim
end Go.Proofs.Ytnjdoebaneogjaa
end

section
namespace Go.Proofs.Ytnjdoebaneogjaa
open Go Go.Sx Go.RowKit
set_option maxRecDepth 100000
end Go.Proofs.Ytnjdoebaneogjaa
end

section
namespace Go.Proofs.Ytnjdoebaneogjaa
open Go Go.Sx Go.RowKit
set_option maxRecDepth 100000
def coO (c : Cn) (p : Pl) : SO := .cells 28 (cnK c p) 0
def obB (c b : Cn) (y : Pl × Pl) : List SO := [.dead, coO c y.1] ++ List.replicate 21 .dead ++ [coO b y.2, .dead, .dead]
end Go.Proofs.Ytnjdoebaneogjaa
end

section
namespace Go.Proofs.Ytnjdoebaneogjaa
open Go Go.Sx Go.RowKit
set_option maxRecDepth 100000
end Go.Proofs.Ytnjdoebaneogjaa
end

section
namespace Go.Proofs.Ytnjdoebaneogjaa
open Go Go.Sx Go.RowKit
set_option maxRecDepth 100000
def lookO : List (Nat × SO) → Nat → SO
  | [], _ => .dead
  | (k, v) :: r, t => match Nat.beq k t with
    | true => v
    | false => lookO r t
def obsAt (n : Nat) (l : List (Nat × SO)) : List SO := (List.range n).map (lookO l)
def cxGv : Cx := ⟨[(8, cWho), (6, cPck), (13, specUU addG), (12, specUU subG), (10, specUU cmpG), (1000000010, fun _ => none), (1000000012, fun _ => none), (1000000013, fun _ => none), (1000000014, fun _ => none), (1000000018, fun _ => none)], [], 0, []⟩
def slGv : List (Nat × SSpec) := [(5, cMt), (7, cOf), (9, cMo), (11, cTe)]
def nuO (x : Nat) : SO := .cells 25 [.u x] 0
def gvT (fr to ot : Int) : List (Nat × SV) := [(1, .one (sI .i64 fr)), (2, .one (sI .i64 to)), (4, .one (sI .i64 ot)), (10, .one (.sc (.bit false))), (11, .one (.sc (.ptr 0 0))), (12, .one (.sc (.bit true))), (13, .one (.sc (.ptr 1 0)))]
def gvN (t o : Nat) : List (Nat × SV) := [(t, .one (.sc (.ptr o 0))), (t + 1, .one (.sc (.num .i64 0)))]
def cutG (T : List (Nat × SV)) (n : Nat) (c : Cn) (O : List (Nat × SO)) : Inv where
  X := Pl
  tm _ := slotsAt 208 T
  ob y := obsAt n ((0, coO c y) :: O)
  holds y := plP y c.n
  less _ := 0
def cutH (T : List (Nat × SV)) (n : Nat) (c D : Cn) (O : List (Nat × SO)) : Inv where
  X := Pl × Pl
  tm _ := slotsAt 208 T
  ob y := obsAt n ((0, coO c y.1) :: (42, coO D y.2) :: O)
  holds y := plP y.1 c.n ∧ plP y.2 D.n
  less _ := 0
def T3 (fr to ot : Int) : List (Nat × SV) := gvT fr to ot ++ gvN 14 9
def T4 (fr to ot : Int) : List (Nat × SV) := T3 fr to ot ++ gvN 16 19
def T5 (fr to ot : Int) : List (Nat × SV) := T4 fr to ot ++ gvN 18 29
def T6 (fr to ot E : Int) : List (Nat × SV) := T5 fr to ot ++ [(20, .one (.sc (.ptr 42 0))), (21, .one (sI .i64 E))]
def T9 (fr to ot E : Int) : List (Nat × SV) := T6 fr to ot E ++ gvN 22 52
def T10 (fr to ot E : Int) : List (Nat × SV) := T9 fr to ot E ++ gvN 24 62
def T11 (fr to ot E : Int) : List (Nat × SV) := T10 fr to ot E ++ gvN 26 72
def ivGv (fr to ot E : Int) (X : Nat) (c D : Cn) (qa qb qo ra rb ro : Nat) : List (Nat × Hint) :=
  [(3, .cut (cutG (T3 fr to ot) 12 c [(1, nuO X), (9, nuO qa)]) (fun _ _ => True)),
   (4, .cut (cutG (T4 fr to ot) 22 c [(1, nuO X), (9, nuO qa), (19, nuO qb)]) (fun _ _ => True)),
   (5, .cut (cutG (T5 fr to ot) 32 c [(1, nuO X), (9, nuO qa), (19, nuO qb), (29, nuO qo)]) (fun _ _ => True)),
   (6, .cut (cutH (T6 fr to ot E) 45 c D [(1, nuO X), (9, nuO qa), (19, nuO qb), (29, nuO qo)]) (fun _ _ => True)),
   (9, .cut (cutH (T9 fr to ot E) 55 c D [(1, nuO X), (9, nuO qa), (19, nuO qb), (29, nuO qo), (52, nuO ra)]) (fun _ _ => True)),
   (10, .cut (cutH (T10 fr to ot E) 65 c D [(1, nuO X), (9, nuO qa), (19, nuO qb), (29, nuO qo), (52, nuO ra), (62, nuO rb)]) (fun _ _ => True)),
   (11, .cut (cutH (T11 fr to ot E) 75 c D [(1, nuO X), (9, nuO qa), (19, nuO qb), (29, nuO qo), (52, nuO ra), (62, nuO rb), (72, nuO ro)]) (fun _ _ => True))]
theorem vc_CoinGives (K A B : Nat → Int) (s : Nat → ByteArray) (a : Option Addr) (n cap : Nat) (fr to m ot : Int) (E : Int) (X : Nat) (c D : Cn) (qa qb qo ra rb ro : Nat) :
    OwesV Try.prog cxGv slGv (ivGv fr to ot E X c D qa qb qo ra rb ro) 10 Try.f3 [.sc (.xs a n cap 4 (rwF K A B s)), sI .i64 fr, sI .i64 to, sI .i64 m, sI .i64 ot] yes =
    (let x1 : Prop := (-9223372036854775808 : Int) ≤ to ∧ to ≤ (9223372036854775807 : Int); let x2 : Bool := E == (0 : Int); let x3 : Bool := Bool.true && Bool.true && x2; let x4 : Prop := x3 = Bool.true; let x5 : Nat := ra % M256; let x6 : Nat := qa % M256; let x7 : Bool := x3 && conj [x5 == x6]; let x8 : Prop := x7 = Bool.true; let x9 : Nat := D.s % M256; let x10 : Nat := c.s % M256; let x11 : Bool := conj [x9 == x10]; let x12 : Prop := (-9223372036854775808 : Int) ≤ ot ∧ ot ≤ (9223372036854775807 : Int); let x13 : Bool := !conj [(List.range 32).all fun (j : Nat) => whoF ot j == whoF fr j]; let x14 : Prop := x13 = Bool.true; let x15 : Bool := x13 && !conj [(List.range 32).all fun (j : Nat) => whoF ot j == whoF to j]; let x16 : Prop := x15 = Bool.true; let x17 : Nat := ro % M256; let x18 : Nat := qo % M256; let x19 : Bool := (0 : Int) == (0 : Int); let x20 : Bool := Bool.true && Bool.true && x19; let x21 : Prop := x20 = Bool.true; let x22 : Bool := x20 && x19; let x23 : Prop := x22 = Bool.true; let x24 : Bool := x22 && x19; let x25 : Prop := x24 = Bool.true; let x26 : Bool := x24 && x2; let x27 : Prop := x26 = Bool.true; let x28 : Bool := x26 && x19; let x29 : Prop := x28 = Bool.true; let x30 : Bool := x28 && x19; let x31 : Prop := x30 = Bool.true; let x32 : Bool := x30 && x19; let x33 : Prop := x32 = Bool.true; let x34 : Nat := X % M256; let x35 : Bool := x32 && conj [x5 == (x6 + M256 - x34) % M256]; let x36 : Prop := x35 = Bool.true; let x37 : Nat := rb % M256; let x38 : Bool := x35 && conj [x37 == (qb + X) % M256]; let x39 : Prop := x38 = Bool.true; let x40 : Prop := ∀ (i : Nat), i < c.n → allC 36 fun (c_1 : Nat) => simC (c.f i c_1) (c.f i c_1); let x41 : Nat := qb % M256; let x42 : Prop := ∀ (i : Nat), i < D.n → allC 36 fun (c : Nat) => simC (D.f i c) (D.f i c); let x43 : Prop := 0 = 0 ∧ True; let x44 : Nat := moN c.s c.n c.f (whoF fr) (whoF to) X; let x45 : Nat := mtS n (rwF K A B s) % M256; let x46 : Int := Go.IntKind.u64.wrap (m % (100 : Int)); rwP n (rwF K A B s) ∧ ∀ (a : Option Go.Addr) (cap : Nat), let x101 : Prop := ofP a (mtN n (rwF K A B s)) (mtF n (rwF K A B s)) (whoF fr) ∧ ∃ (y : Pl), (plP y c.n ∧ True) ∧ fr = fr ∧ to = to ∧ ot = ot ∧ Bool.true = Bool.true ∧ cnE (mtN n (rwF K A B s)) (kH (mtF n (rwF K A B s))) (aH (mtF n (rwF K A B s))) x45 = (0 : Int) ∧ x45 = x10 ∧ (a = y.a ∧ mtN n (rwF K A B s) = c.n ∧ cap = y.c ∧ ∀ (i : Nat), i < mtN n (rwF K A B s) → allC 36 fun (c_1 : Nat) => simC (mtF n (rwF K A B s) i c_1) (c.f i c_1)) ∧ 0 = 0 ∧ (((0 : Int) ≤ x46 ∧ x46 < (18446744073709551616 : Int)) ∧ ((0 : Int) ≤ (0 : Int) ∧ (0 : Int) < (18446744073709551616 : Int)) ∧ ((0 : Int) ≤ (0 : Int) ∧ (0 : Int) < (18446744073709551616 : Int)) ∧ ((0 : Int) ≤ (0 : Int) ∧ (0 : Int) < (18446744073709551616 : Int)) ∧ join x46 (0 : Int) (0 : Int) (0 : Int) % M256 = x34 ∧ True) ∧ 0 = 0 ∧ ofN (mtN n (rwF K A B s)) (kH (mtF n (rwF K A B s))) (aH (mtF n (rwF K A B s))) x45 (kv (whoF fr)) % M256 = x6 ∧ x43; let x102 : Prop := x101 ∧ x101; let x103 : Prop := ((-9223372036854775808 : Int) ≤ fr ∧ fr ≤ (9223372036854775807 : Int)) ∧ x101; (a = Option.none → mtN n (rwF K A B s) = 0 ∧ cap = 0) → mtN n (rwF K A B s) ≤ cap → ((-9223372036854775808 : Int) ≤ m ∧ m ≤ (9223372036854775807 : Int)) ∧ ((0 : Int) < (100 : Int) ∧ (100 : Int) ≤ (1000000 : Int)) ∧ (∀ (y : Pl), closedB (slotsAt 208 (T3 fr to ot)) (obsAt 12 [(0, coO c y), (1, nuO X), (9, nuO qa)]) = Bool.true) ∧ ∃ (_ : Pl), (∀ (y : Pl), let x104 : Prop := ofP y.a c.n c.f (whoF to) ∧ ∃ (y_1 : Pl), (plP y_1 c.n ∧ True) ∧ fr = fr ∧ to = to ∧ ot = ot ∧ cnE c.n (kH c.f) (aH c.f) x10 = (0 : Int) ∧ x10 = x10 ∧ (y.a = y_1.a ∧ c.n = c.n ∧ y.c = y_1.c ∧ x40) ∧ 0 = 0 ∧ x34 = x34 ∧ 0 = 0 ∧ x6 = x6 ∧ 0 = 0 ∧ ofN c.n (kH c.f) (aH c.f) x10 (kv (whoF to)) % M256 = x41 ∧ x43; let x105 : Prop := x104 ∧ x104; let x106 : Prop := x1 ∧ x104; plP y c.n → True → (∀ (y : Pl), closedB (slotsAt 208 (T4 fr to ot)) (obsAt 22 [(0, coO c y), (1, nuO X), (9, nuO qa), (19, nuO qb)]) = Bool.true) ∧ ∃ (_ : Pl), (∀ (y : Pl), let x107 : Prop := ofP y.a c.n c.f (whoF ot) ∧ ∃ (y_1 : Pl), (plP y_1 c.n ∧ True) ∧ fr = fr ∧ to = to ∧ ot = ot ∧ cnE c.n (kH c.f) (aH c.f) x10 = (0 : Int) ∧ x10 = x10 ∧ (y.a = y_1.a ∧ c.n = c.n ∧ y.c = y_1.c ∧ x40) ∧ 0 = 0 ∧ x34 = x34 ∧ 0 = 0 ∧ x6 = x6 ∧ 0 = 0 ∧ x41 = x41 ∧ 0 = 0 ∧ ofN c.n (kH c.f) (aH c.f) x10 (kv (whoF ot)) % M256 = x18 ∧ x43; let x108 : Prop := x107 ∧ x107; let x109 : Prop := x12 ∧ x107; plP y c.n → True → (∀ (y : Pl), closedB (slotsAt 208 (T5 fr to ot)) (obsAt 32 [(0, coO c y), (1, nuO X), (9, nuO qa), (19, nuO qb), (29, nuO qo)]) = Bool.true) ∧ ∃ (_ : Pl), (∀ (y : Pl), let x110 : Prop := moP y.a c.n c.f (whoF fr) (whoF to) ∧ ∀ (a : Option Go.Addr) (cap : Nat), (a = Option.none → x44 = 0 ∧ cap = 0) → x44 ≤ cap → ∃ (y_1 : Pl × Pl), ((plP y_1.fst c.n ∧ plP y_1.snd D.n) ∧ True) ∧ fr = fr ∧ to = to ∧ ot = ot ∧ moE c.s c.n c.f (whoF fr) (whoF to) X = E ∧ x10 = x10 ∧ (y.a = y_1.fst.a ∧ c.n = c.n ∧ y.c = y_1.fst.c ∧ x40) ∧ 0 = 0 ∧ x34 = x34 ∧ 0 = 0 ∧ x6 = x6 ∧ 0 = 0 ∧ x41 = x41 ∧ 0 = 0 ∧ x18 = x18 ∧ 0 = 0 ∧ moS c.s c.n c.f (whoF fr) (whoF to) X % M256 = x9 ∧ (a = y_1.snd.a ∧ x44 = D.n ∧ cap = y_1.snd.c ∧ ∀ (i : Nat), i < x44 → allC 36 fun (c_1 : Nat) => simC (moF c.s c.n c.f (whoF fr) (whoF to) X i c_1) (D.f i c_1)) ∧ x43; let x111 : Prop := x110 ∧ x110; let x112 : Prop := x111 ∧ x110; let x113 : Prop := x1 ∧ x110; let x114 : Prop := (x1 ∧ x111) ∧ x113; let x115 : Prop := x113 ∧ x113; let x116 : Prop := (x1 ∧ x112) ∧ x114 ∧ x115; let x117 : Prop := ((-9223372036854775808 : Int) ≤ fr ∧ fr ≤ (9223372036854775807 : Int)) ∧ x113; let x118 : Prop := ((-9223372036854775808 : Int) ≤ fr ∧ fr ≤ (9223372036854775807 : Int)) ∧ x115; let x119 : Prop := x118 ∧ x117; let x120 : Prop := x114 ∧ (x1 ∧ x112) ∧ x115; let x121 : Prop := x115 ∧ (x1 ∧ x111) ∧ x115; let x122 : Prop := x117 ∧ x118; plP y c.n → True → (∀ (y : Pl × Pl), closedB (slotsAt 208 (T6 fr to ot E)) (obsAt 45 [(0, coO c y.fst), (42, coO D y.snd), (1, nuO X), (9, nuO qa), (19, nuO qb), (29, nuO qo)]) = Bool.true) ∧ ∃ (_ : Pl × Pl), (∀ (y : Pl × Pl), let x123 : Prop := ofP y.snd.a D.n D.f (whoF fr) ∧ ∃ (y_1 : Pl × Pl), ((plP y_1.fst c.n ∧ plP y_1.snd D.n) ∧ True) ∧ fr = fr ∧ to = to ∧ ot = ot ∧ E = E ∧ cnE D.n (kH D.f) (aH D.f) x9 = (0 : Int) ∧ x10 = x10 ∧ (y.fst.a = y_1.fst.a ∧ c.n = c.n ∧ y.fst.c = y_1.fst.c ∧ x40) ∧ 0 = 0 ∧ x34 = x34 ∧ 0 = 0 ∧ x6 = x6 ∧ 0 = 0 ∧ x41 = x41 ∧ 0 = 0 ∧ x18 = x18 ∧ 0 = 0 ∧ x9 = x9 ∧ (y.snd.a = y_1.snd.a ∧ D.n = D.n ∧ y.snd.c = y_1.snd.c ∧ x42) ∧ 0 = 0 ∧ ofN D.n (kH D.f) (aH D.f) x9 (kv (whoF fr)) % M256 = x5 ∧ x43; let x124 : Prop := x123 ∧ x123; let x125 : Prop := ((-9223372036854775808 : Int) ≤ fr ∧ fr ≤ (9223372036854775807 : Int)) ∧ x123; plP y.fst c.n ∧ plP y.snd D.n → True → (Decidable.decide (cmpN qa X < (0 : Int)) = Bool.true → (Bool.true = Bool.true → Bool.true = Bool.true) ∧ ((Bool.true && Bool.true) = Bool.true → (Bool.true && Bool.true) = Bool.true) ∧ ((Bool.true && Bool.true) = Bool.true → (Bool.true && Bool.true) = Bool.true) ∧ (Bool.true && Bool.true && E == (13 : Int)) = Bool.true) ∧ (Decidable.decide (cmpN qa X < (0 : Int)) = Bool.false → (∀ (y : Pl × Pl), closedB (slotsAt 208 (T9 fr to ot E)) (obsAt 55 [(0, coO c y.fst), (42, coO D y.snd), (1, nuO X), (9, nuO qa), (19, nuO qb), (29, nuO qo), (52, nuO ra)]) = Bool.true) ∧ ∃ (_ : Pl × Pl), (∀ (y : Pl × Pl), let x126 : Prop := ofP y.snd.a D.n D.f (whoF to) ∧ ∃ (y_1 : Pl × Pl), ((plP y_1.fst c.n ∧ plP y_1.snd D.n) ∧ True) ∧ fr = fr ∧ to = to ∧ ot = ot ∧ E = E ∧ cnE D.n (kH D.f) (aH D.f) x9 = (0 : Int) ∧ x10 = x10 ∧ (y.fst.a = y_1.fst.a ∧ c.n = c.n ∧ y.fst.c = y_1.fst.c ∧ x40) ∧ 0 = 0 ∧ x34 = x34 ∧ 0 = 0 ∧ x6 = x6 ∧ 0 = 0 ∧ x41 = x41 ∧ 0 = 0 ∧ x18 = x18 ∧ 0 = 0 ∧ x9 = x9 ∧ (y.snd.a = y_1.snd.a ∧ D.n = D.n ∧ y.snd.c = y_1.snd.c ∧ x42) ∧ 0 = 0 ∧ x5 = x5 ∧ 0 = 0 ∧ ofN D.n (kH D.f) (aH D.f) x9 (kv (whoF to)) % M256 = x37 ∧ x43; let x127 : Prop := x126 ∧ x126; let x128 : Prop := x1 ∧ x126; plP y.fst c.n ∧ plP y.snd D.n → True → (∀ (y : Pl × Pl), closedB (slotsAt 208 (T10 fr to ot E)) (obsAt 65 [(0, coO c y.fst), (42, coO D y.snd), (1, nuO X), (9, nuO qa), (19, nuO qb), (29, nuO qo), (52, nuO ra), (62, nuO rb)]) = Bool.true) ∧ ∃ (_ : Pl × Pl), (∀ (y : Pl × Pl), let x129 : Prop := ofP y.snd.a D.n D.f (whoF ot) ∧ ∃ (y_1 : Pl × Pl), ((plP y_1.fst c.n ∧ plP y_1.snd D.n) ∧ True) ∧ fr = fr ∧ to = to ∧ ot = ot ∧ E = E ∧ cnE D.n (kH D.f) (aH D.f) x9 = (0 : Int) ∧ x10 = x10 ∧ (y.fst.a = y_1.fst.a ∧ c.n = c.n ∧ y.fst.c = y_1.fst.c ∧ x40) ∧ 0 = 0 ∧ x34 = x34 ∧ 0 = 0 ∧ x6 = x6 ∧ 0 = 0 ∧ x41 = x41 ∧ 0 = 0 ∧ x18 = x18 ∧ 0 = 0 ∧ x9 = x9 ∧ (y.snd.a = y_1.snd.a ∧ D.n = D.n ∧ y.snd.c = y_1.snd.c ∧ x42) ∧ 0 = 0 ∧ x5 = x5 ∧ 0 = 0 ∧ x37 = x37 ∧ 0 = 0 ∧ ofN D.n (kH D.f) (aH D.f) x9 (kv (whoF ot)) % M256 = x17 ∧ x43; let x130 : Prop := x129 ∧ x129; let x131 : Prop := x12 ∧ x129; plP y.fst c.n ∧ plP y.snd D.n → True → (∀ (y : Pl × Pl), closedB (slotsAt 208 (T11 fr to ot E)) (obsAt 75 [(0, coO c y.fst), (42, coO D y.snd), (1, nuO X), (9, nuO qa), (19, nuO qb), (29, nuO qo), (52, nuO ra), (62, nuO rb), (72, nuO ro)]) = Bool.true) ∧ ∃ (_ : Pl × Pl), (∀ (y : Pl × Pl), plP y.fst c.n ∧ plP y.snd D.n → True → ((-9223372036854775808 : Int) ≤ fr ∧ fr ≤ (9223372036854775807 : Int)) ∧ x1 ∧ (conj [(List.range 32).all fun (j : Nat) => whoF fr j == whoF to j] = Bool.true → (Bool.true = Bool.true → Bool.true = Bool.true) ∧ ((Bool.true && Bool.true) = Bool.true → (Bool.true && Bool.true) = Bool.true) ∧ ((Bool.true && Bool.true) = Bool.true → (Bool.true && Bool.true) = Bool.true) ∧ (x4 → x4) ∧ (x4 → x4) ∧ (x4 → x4) ∧ (x8 → x8) ∧ (x8 → x8) ∧ (x8 → x8) ∧ (x8 → x8) ∧ (x8 → x8) ∧ (x7 && x11) = Bool.true) ∧ (conj [(List.range 32).all fun (j : Nat) => whoF fr j == whoF to j] = Bool.false → x12 ∧ ((-9223372036854775808 : Int) ≤ fr ∧ fr ≤ (9223372036854775807 : Int)) ∧ (x14 → x14) ∧ (x14 → x12) ∧ (x14 → x14) ∧ (x14 → x1) ∧ (x14 → x14) ∧ (x14 → x14) ∧ (x14 → x14) ∧ (x16 → x16) ∧ (x16 → x16) ∧ (x16 → x16) ∧ ((x15 && !conj [x17 == x18]) = Bool.true → Bool.false = Bool.true) ∧ ((x15 && !conj [x17 == x18]) = Bool.false → (Bool.true = Bool.true → Bool.true = Bool.true) ∧ ((Bool.true && Bool.true) = Bool.true → (Bool.true && Bool.true) = Bool.true) ∧ ((Bool.true && Bool.true) = Bool.true → (Bool.true && Bool.true) = Bool.true) ∧ (x21 → x21) ∧ (x21 → x21) ∧ (x23 → x23) ∧ (x23 → x23) ∧ (x25 → x25) ∧ (x25 → x25) ∧ (x27 → x27) ∧ (x27 → x27) ∧ (x29 → x29) ∧ (x29 → x29) ∧ (x31 → x31) ∧ (x31 → x31) ∧ (x33 → x33) ∧ (x33 → x33) ∧ (x33 → x33) ∧ (x36 → x36) ∧ (x36 → x36) ∧ (x36 → x36) ∧ (x39 → x39) ∧ (x39 → x39) ∧ (x39 → x39) ∧ (x39 → x39) ∧ (x39 → x39) ∧ (x38 && x11) = Bool.true))) ∧ ((x12 ∧ x130) ∧ x131) ∧ (x12 ∧ x130 ∧ x129) ∧ x131 ∧ x131) ∧ ((x1 ∧ x127) ∧ x128) ∧ (x1 ∧ x127 ∧ x126) ∧ x128 ∧ x128) ∧ ((((-9223372036854775808 : Int) ≤ fr ∧ fr ≤ (9223372036854775807 : Int)) ∧ x124) ∧ x125) ∧ (((-9223372036854775808 : Int) ≤ fr ∧ fr ≤ (9223372036854775807 : Int)) ∧ x124 ∧ x123) ∧ x125 ∧ x125)) ∧ ((((-9223372036854775808 : Int) ≤ fr ∧ fr ≤ (9223372036854775807 : Int)) ∧ x116) ∧ ((((-9223372036854775808 : Int) ≤ fr ∧ fr ≤ (9223372036854775807 : Int)) ∧ x114) ∧ x117) ∧ x119) ∧ (((-9223372036854775808 : Int) ≤ fr ∧ fr ≤ (9223372036854775807 : Int)) ∧ x116 ∧ (x1 ∧ x112 ∧ x112 ∧ x111) ∧ x120 ∧ x121) ∧ (((((-9223372036854775808 : Int) ≤ fr ∧ fr ≤ (9223372036854775807 : Int)) ∧ x114) ∧ x117) ∧ (((-9223372036854775808 : Int) ≤ fr ∧ fr ≤ (9223372036854775807 : Int)) ∧ x120) ∧ x122) ∧ x119 ∧ (((-9223372036854775808 : Int) ≤ fr ∧ fr ≤ (9223372036854775807 : Int)) ∧ x121) ∧ x122) ∧ ((x12 ∧ x108) ∧ x109) ∧ (x12 ∧ x108 ∧ x107) ∧ x109 ∧ x109) ∧ ((x1 ∧ x105) ∧ x106) ∧ (x1 ∧ x105 ∧ x104) ∧ x106 ∧ x106) ∧ ((((-9223372036854775808 : Int) ≤ fr ∧ fr ≤ (9223372036854775807 : Int)) ∧ x102) ∧ x103) ∧ (((-9223372036854775808 : Int) ≤ fr ∧ fr ≤ (9223372036854775807 : Int)) ∧ x102 ∧ x101) ∧ x103 ∧ x103) := by kernel_rfl
end Go.Proofs.Ytnjdoebaneogjaa
end
