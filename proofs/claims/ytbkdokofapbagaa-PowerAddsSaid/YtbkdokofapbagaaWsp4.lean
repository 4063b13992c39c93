/-
  More shapes of cards: three numbers.
-/
import Derived.Test.YtbkdokofapbagaaWsp3
namespace Go.Sx
open Go.RowKit

/-- Three numbers of 256 bits, under a condition. -/
def specUUU (c : Nat → Nat → Nat → List Prop) (g : Nat → Nat → Nat → SV) : FSpec := fun args =>
  match args with
  | [x, y, z] => match asU x, asU y, asU z with
    | some (p, a), some (o, n), some (q, b) => some (((p ++ o) ++ q) ++ c a n b, g a n b)
    | _, _, _ => none
  | _ => none
theorem FnOK_UUU {P : Program} {cx : Cx} (hcx : CxOK P cx) {iv : Nat → Nat → Nat → List (Nat × Hint)} {N : Nat} {f : Nat} {fn : Func} (hf : P.funcs[f]? = some fn) (hb : fn.body.isSome = true) (hn : (fn.name == "runtime.NumGoroutine") = false) {c : Nat → Nat → Nat → List Prop} {g : Nat → Nat → Nat → SV} (hg : ∀ a n b, (g a n b).bnd none0)
    (h : ∀ a n b, Ok (c a n b) → Owes P cx (iv a n b) N fn [sU a, sU n, sU b] (g a n b)) : FnOK P f (specUUU c g) := by
  refine FnOK_of hf hb hn fun args ps sv hs hp => ?_
  unfold specUUU at hs
  split at hs
  · rename_i x y z
    split at hs
    · rename_i p a o n q b ha hn' hb'
      simp only [Option.some.injEq, Prod.mk.injEq] at hs
      obtain ⟨rfl, rfl⟩ := hs
      obtain ⟨o12, o3⟩ := Ok.append.1 hp
      obtain ⟨o1', o2⟩ := Ok.append.1 o12
      obtain ⟨o1, o4⟩ := Ok.append.1 o1'
      refine ⟨hg a n b, fun ρ w => ?_⟩
      rw [show [x, y, z].map (SA.conc ρ) = [sU a, sU n, sU b].map (SA.conc ρ) by simp only [List.map_cons, List.map_nil, asU_canon ha o1 ρ, asU_canon hn' o4 ρ, asU_canon hb' o2 ρ]]
      refine (calls_of_owes hcx hf hb (args := [sU a, sU n, sU b]) (by
        intro z hz
        simp only [List.mem_cons, List.not_mem_nil, or_false] at hz
        rcases hz with rfl | rfl | rfl <;> exact bnd_sU _) (h a n b o3) ρ w).mono ?_
      rintro e w' ⟨v, rfl, ⟨ρ', hr⟩, hbl⟩
      exact ⟨v, rfl, rep_none0 (hg a n b) hr, hbl⟩
    · cases hs
  · cases hs
end Go.Sx
