/-
  More shapes of cards: two numbers under a condition; a number and an int; a number, a word and a number.
-/
import Derived.Test.YtbkdokofapbagaaWsp2
namespace Go.Sx
open Go.RowKit

theorem bnd_sU (a : Nat) : SA.bnd none0 (sU a) := by
  intro k hk; simp only [List.mem_singleton] at hk; subst hk; trivial
/-- A number of 256 bits, and an int, under a condition. -/
def specUJ (c : Nat → Int → List Prop) (g : Nat → Int → SV) : FSpec := fun args =>
  match args with
  | [x, y] => match asU x, asI y with
    | some (p, a), some (.i64, n) => some (p ++ c a n, g a n)
    | _, _ => none
  | _ => none
theorem FnOK_UJ {P : Program} {cx : Cx} (hcx : CxOK P cx) {iv : Nat → Int → List (Nat × Hint)} {N : Nat} {f : Nat} {fn : Func} (hf : P.funcs[f]? = some fn) (hb : fn.body.isSome = true) (hn : (fn.name == "runtime.NumGoroutine") = false) {c : Nat → Int → List Prop} {g : Nat → Int → SV} (hg : ∀ a n, (g a n).bnd none0)
    (h : ∀ a n, Ok (c a n) → Owes P cx (iv a n) N fn [sU a, sI .i64 n] (g a n)) : FnOK P f (specUJ c g) := by
  refine FnOK_of hf hb hn fun args ps sv hs hp => ?_
  unfold specUJ at hs
  split at hs
  · rename_i x y
    split at hs
    · rename_i p a n ha hn'
      simp only [Option.some.injEq, Prod.mk.injEq] at hs
      obtain ⟨rfl, rfl⟩ := hs
      obtain ⟨o1, o2⟩ := Ok.append.1 hp
      refine ⟨hg a n, fun ρ w => ?_⟩
      rw [show [x, y].map (SA.conc ρ) = [sU a, sI .i64 n].map (SA.conc ρ) by simp only [List.map_cons, List.map_nil, asU_canon ha o1 ρ, asI_canon hn' ρ]]
      refine (calls_of_owes hcx hf hb (args := [sU a, sI .i64 n]) (by
        intro z hz
        simp only [List.mem_cons, List.not_mem_nil, or_false] at hz
        rcases hz with rfl | rfl
        · exact bnd_sU _
        · trivial) (h a n o2) ρ w).mono ?_
      rintro e w' ⟨v, rfl, ⟨ρ', hr⟩, hbl⟩
      exact ⟨v, rfl, rep_none0 (hg a n) hr, hbl⟩
    · cases hs
  · cases hs
/-- Two numbers of 256 bits, under a condition. -/
def specUUC (c : Nat → Nat → List Prop) (g : Nat → Nat → SV) : FSpec := fun args =>
  match args with
  | [x, y] => match asU x, asU y with
    | some (p, a), some (q, b) => some ((p ++ q) ++ c a b, g a b)
    | _, _ => none
  | _ => none
theorem FnOK_UUC {P : Program} {cx : Cx} (hcx : CxOK P cx) {iv : Nat → Nat → List (Nat × Hint)} {N : Nat} {f : Nat} {fn : Func} (hf : P.funcs[f]? = some fn) (hb : fn.body.isSome = true) (hn : (fn.name == "runtime.NumGoroutine") = false) {c : Nat → Nat → List Prop} {g : Nat → Nat → SV} (hg : ∀ a b, (g a b).bnd none0)
    (h : ∀ a b, Ok (c a b) → Owes P cx (iv a b) N fn [sU a, sU b] (g a b)) : FnOK P f (specUUC c g) := by
  refine FnOK_of hf hb hn fun args ps sv hs hp => ?_
  unfold specUUC at hs
  split at hs
  · rename_i x y
    split at hs
    · rename_i p a q b ha hb'
      simp only [Option.some.injEq, Prod.mk.injEq] at hs
      obtain ⟨rfl, rfl⟩ := hs
      obtain ⟨o12, o3⟩ := Ok.append.1 hp
      obtain ⟨o1, o2⟩ := Ok.append.1 o12
      refine ⟨hg a b, fun ρ w => ?_⟩
      rw [show [x, y].map (SA.conc ρ) = [sU a, sU b].map (SA.conc ρ) by simp only [List.map_cons, List.map_nil, asU_canon ha o1 ρ, asU_canon hb' o2 ρ]]
      refine (calls_of_owes hcx hf hb (args := [sU a, sU b]) (by
        intro z hz
        simp only [List.mem_cons, List.not_mem_nil, or_false] at hz
        rcases hz with rfl | rfl <;> exact bnd_sU _) (h a b o3) ρ w).mono ?_
      rintro e w' ⟨v, rfl, ⟨ρ', hr⟩, hbl⟩
      exact ⟨v, rfl, rep_none0 (hg a b) hr, hbl⟩
    · cases hs
  · cases hs
/-- A number, a word, a number, under a condition. -/
def specUWU (c : Nat → Int → Nat → List Prop) (g : Nat → Int → Nat → SV) : FSpec := fun args =>
  match args with
  | [x, y, z] => match asU x, asI y, asU z with
    | some (p, a), some (.u64, n), some (q, b) => some ((p ++ q) ++ c a n b, g a n b)
    | _, _, _ => none
  | _ => none
theorem FnOK_UWU {P : Program} {cx : Cx} (hcx : CxOK P cx) {iv : Nat → Int → Nat → List (Nat × Hint)} {N : Nat} {f : Nat} {fn : Func} (hf : P.funcs[f]? = some fn) (hb : fn.body.isSome = true) (hn : (fn.name == "runtime.NumGoroutine") = false) {c : Nat → Int → Nat → List Prop} {g : Nat → Int → Nat → SV} (hg : ∀ a n b, (g a n b).bnd none0)
    (h : ∀ a n b, Ok (c a n b) → Owes P cx (iv a n b) N fn [sU a, sI .u64 n, sU b] (g a n b)) : FnOK P f (specUWU c g) := by
  refine FnOK_of hf hb hn fun args ps sv hs hp => ?_
  unfold specUWU at hs
  split at hs
  · rename_i x y z
    split at hs
    · rename_i p a n q b ha hn' hb'
      simp only [Option.some.injEq, Prod.mk.injEq] at hs
      obtain ⟨rfl, rfl⟩ := hs
      obtain ⟨o12, o3⟩ := Ok.append.1 hp
      obtain ⟨o1, o2⟩ := Ok.append.1 o12
      refine ⟨hg a n b, fun ρ w => ?_⟩
      rw [show [x, y, z].map (SA.conc ρ) = [sU a, sI .u64 n, sU b].map (SA.conc ρ) by simp only [List.map_cons, List.map_nil, asU_canon ha o1 ρ, asI_canon hn' ρ, asU_canon hb' o2 ρ]]
      refine (calls_of_owes hcx hf hb (args := [sU a, sI .u64 n, sU b]) (by
        intro z hz
        simp only [List.mem_cons, List.not_mem_nil, or_false] at hz
        rcases hz with rfl | rfl | rfl
        · exact bnd_sU _
        · trivial
        · exact bnd_sU _) (h a n b o3) ρ w).mono ?_
      rintro e w' ⟨v, rfl, ⟨ρ', hr⟩, hbl⟩
      exact ⟨v, rfl, rep_none0 (hg a n b) hr, hbl⟩
    · cases hs
  · cases hs
end Go.Sx
