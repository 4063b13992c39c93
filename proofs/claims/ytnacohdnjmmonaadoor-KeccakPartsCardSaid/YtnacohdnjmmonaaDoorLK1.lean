/-
  KeccakParts and KeccakKnown: for every input, true, and the input reads as it did; the tables hold what the text of the program lays.
-/
import Derived.Test.YtnacohdnjmmonaaDoorM1
import Derived.Test.YtnacohdnjmmonaaDoorM2
import Derived.Test.YtnacohdnjmmonaaDoorM3
import Derived.Test.YtnacohdnjmmonaaDoorM4
import Derived.Test.YtnacohdnjmmonaaDoorM5
import Derived.Test.YtnacohdnjmmonaaDoorM6
import Derived.Test.YtnacohdnjmmonaaDoorM7
import Derived.Test.YtnacohdnjmmonaaDoorM8
import Derived.Test.YtnacohdnjmmonaaDoorTie
import Derived.Test.YtnacohdnjmmonaaDoorCards
namespace Go.Proofs.YtnacohdnjmmonaaDoor
open Go.ChangeShapes Go.WideShapes Go.ChangeAt Go.RowKit Go.Sx

theorem prog_three : Tryd.prog.mayEnter = true ∧ Tryd.prog.liftsFinal = Rows.keccakPartsRow.lifted ∧ Tryd.prog.make = some Rows.keccakPartsRow.make := ⟨by kernel_rfl, by kernel_rfl, by kernel_rfl⟩
theorem own_none : ownKnob Tryd.prog.godebug = none := by kernel_rfl
theorem laid_out : laidOutB Tryd.prog = true := by kernel_rfl
theorem tabs_ok : tabsB Tryd.prog tabsK = true := by kernel_rfl
/-- A world whose variables hold the tables. -/
def setRow (h : Array Obj) (T : Tab) : Array Obj :=
  h.modify T.g fun o => match o with
    | .cells _ t frozen => .cells T.vals.toArray t frozen
    | o => o
noncomputable def laidWorld (os : Os) : World :=
  { World.holding Tryd.prog os ⟨#[], #[], []⟩ with heap := tabsK.foldl setRow (World.holding Tryd.prog os ⟨#[], #[], []⟩).heap }
theorem open_i64 {H : Type} {enc : TypeId × Value → H} {W : World} {base b0 : Nat} {sp : Nat → Bool} {held : Bool} {v : Value} {d : DataW H} {ps : List MemPlace}
    (hval : Unit → Value.okWide Tryd.prog W .any b0 3 v) (h : Unit → DataW.Trod enc Tryd.prog W base sp held 3 v d ps) : ∃ a, v = (sI .i64 a).conc (Rho.whole W) ∧ i64ok a := by
  have hu : Tryd.prog.underlying 3 = some (.int .i64) := by kernel_rfl
  obtain ⟨n, e, _, _, w⟩ := open_int hu (by with_reducible exact hval ()) (by with_reducible exact h ())
  exact ⟨n, e, bounds_i64 w⟩
theorem open_bs {H : Type} {enc : TypeId × Value → H} {W : World} {base b0 : Nat} {sp : Nat → Bool} {held : Bool} {v : Value} {d : DataW H} {ps : List MemPlace}
    (hval : Unit → Value.okWide Tryd.prog W .any b0 22 v) (h : Unit → DataW.Trod enc Tryd.prog W base sp held 22 v d ps) :
    ∃ (a : Option Addr) (n cap : Nat) (f : Nat → Int), v = (sXs a n cap f).conc (Rho.whole W) ∧ n ≤ maxLen ∧ (∀ i, 0 ≤ f i ∧ f i < 256) ∧ SA.bnd ⟨fun _ => False, (Rho.whole W).fz⟩ (sXs a n cap f) := by
  have hu : Tryd.prog.underlying 22 = some (.slice 5) := by kernel_rfl
  have hu2 : Tryd.prog.underlying 5 = some (.int .u8) := by kernel_rfl
  exact open_bytes hu hu2 (by kernel_rfl) (by with_reducible exact hval ()) (by with_reducible exact h ())

theorem keccakParts_facts : joinedFacts Tryd.prog 3 Tryd.f3 Rows.keccakPartsSpec Rows.keccakPartsRow = true := by
  unfold joinedFacts
  rw [prog_three.1, prog_three.2.1, prog_three.2.2]
  kernel_rfl
theorem keccakKnown_facts : joinedFacts Tryd.prog 4 Tryd.f4 Rows.keccakKnownSpec Rows.keccakKnownRow = true := by
  unfold joinedFacts
  rw [prog_three.1, prog_three.2.1, prog_three.2.2]
  kernel_rfl
end Go.Proofs.YtnacohdnjmmonaaDoor
