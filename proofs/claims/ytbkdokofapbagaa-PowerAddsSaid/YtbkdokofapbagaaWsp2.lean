/-
  More shapes of cards: a number and a word under a condition; a text.
-/
import Derived.Test.YtbkdokofapbagaaWsp
namespace Go.Sx
open Go.RowKit

/-- A number of 256 bits, and a word, under a condition. -/
def specUIC (c : Nat → Int → List Prop) (g : Nat → Int → SV) : FSpec := fun args =>
  match args with
  | [x, y] => match asU x, asI y with
    | some (p, a), some (.u64, n) => some (p ++ c a n, g a n)
    | _, _ => none
  | _ => none
theorem FnOK_UIC {P : Program} {cx : Cx} (hcx : CxOK P cx) {iv : Nat → Int → List (Nat × Hint)} {N : Nat} {f : Nat} {fn : Func} (hf : P.funcs[f]? = some fn) (hb : fn.body.isSome = true) (hn : (fn.name == "runtime.NumGoroutine") = false) {c : Nat → Int → List Prop} {g : Nat → Int → SV} (hg : ∀ a n, (g a n).bnd none0)
    (h : ∀ a n, Ok (c a n) → Owes P cx (iv a n) N fn [sU a, sI .u64 n] (g a n)) : FnOK P f (specUIC c g) := by
  refine FnOK_of hf hb hn fun args ps sv hs hp => ?_
  unfold specUIC at hs
  split at hs
  · rename_i x y
    split at hs
    · rename_i p a n ha hn'
      simp only [Option.some.injEq, Prod.mk.injEq] at hs
      obtain ⟨rfl, rfl⟩ := hs
      obtain ⟨o1, o2⟩ := Ok.append.1 hp
      refine ⟨hg a n, fun ρ w => ?_⟩
      rw [show [x, y].map (SA.conc ρ) = [sU a, sI .u64 n].map (SA.conc ρ) by simp only [List.map_cons, List.map_nil, asU_canon ha o1 ρ, asI_canon hn' ρ]]
      refine (calls_of_owes hcx hf hb (args := [sU a, sI .u64 n]) (by
        intro z hz
        simp only [List.mem_cons, List.not_mem_nil, or_false] at hz
        rcases hz with rfl | rfl
        · intro k hk; simp only [List.mem_singleton] at hk; subst hk; trivial
        · trivial) (h a n o2) ρ w).mono ?_
      rintro e w' ⟨v, rfl, ⟨ρ', hr⟩, hbl⟩
      exact ⟨v, rfl, rep_none0 (hg a n) hr, hbl⟩
    · cases hs
  · cases hs
/-- One number of 256 bits, hints that speak of it. -/
theorem FnOK_U' {P : Program} {cx : Cx} (hcx : CxOK P cx) {iv : Nat → List (Nat × Hint)} {N : Nat} {f : Nat} {fn : Func} (hf : P.funcs[f]? = some fn) (hb : fn.body.isSome = true) (hn : (fn.name == "runtime.NumGoroutine") = false) {g : Nat → SV} (hg : ∀ a, (g a).bnd none0)
    (h : ∀ a, Owes P cx (iv a) N fn [sU a] (g a)) : FnOK P f (specU g) := by
  refine FnOK_of hf hb hn fun args ps sv hs hp => ?_
  unfold specU at hs
  split at hs
  · rename_i x
    split at hs
    · rename_i p a ha
      simp only [Option.some.injEq, Prod.mk.injEq] at hs
      obtain ⟨rfl, rfl⟩ := hs
      refine ⟨hg a, fun ρ w => ?_⟩
      rw [show [x].map (SA.conc ρ) = [sU a].map (SA.conc ρ) by simp only [List.map_cons, List.map_nil, asU_canon ha hp ρ]]
      refine (calls_of_owes hcx hf hb (args := [sU a]) (by
        intro z hz
        simp only [List.mem_singleton] at hz
        subst hz
        intro k hk; simp only [List.mem_singleton] at hk; subst hk; trivial) (h a) ρ w).mono ?_
      rintro e w' ⟨v, rfl, ⟨ρ', hr⟩, hbl⟩
      exact ⟨v, rfl, rep_none0 (hg a) hr, hbl⟩
    · cases hs
  · cases hs
/-- A text. -/
def sStr (s : ByteArray) : SA := .sc (.val (.string s))
def specS (g : ByteArray → SV) : FSpec := fun args =>
  match args with
  | [.sc (.val (.string s))] => some ([s.size < 9223372036854775808], g s)
  | _ => none
theorem FnOK_S {P : Program} {cx : Cx} (hcx : CxOK P cx) {iv : ByteArray → List (Nat × Hint)} {N : Nat} {f : Nat} {fn : Func} (hf : P.funcs[f]? = some fn) (hb : fn.body.isSome = true) (hn : (fn.name == "runtime.NumGoroutine") = false) {g : ByteArray → SV} (hg : ∀ s, (g s).bnd none0)
    (h : ∀ s, s.size < 9223372036854775808 → Owes P cx (iv s) N fn [sStr s] (g s)) : FnOK P f (specS g) := by
  refine FnOK_of hf hb hn fun args ps sv hs hp => ?_
  unfold specS at hs
  split at hs
  · rename_i s
    simp only [Option.some.injEq, Prod.mk.injEq] at hs
    obtain ⟨rfl, rfl⟩ := hs
    refine ⟨hg s, fun ρ w => ?_⟩
    refine (calls_of_owes hcx hf hb (args := [sStr s]) (by
        intro z hz
        simp only [List.mem_singleton] at hz
        subst hz
        trivial) (h s hp.1) ρ w).mono ?_
    rintro e w' ⟨v, rfl, ⟨ρ', hr⟩, hbl⟩
    exact ⟨v, rfl, rep_none0 (hg s) hr, hbl⟩
  · cases hs
end Go.Sx
