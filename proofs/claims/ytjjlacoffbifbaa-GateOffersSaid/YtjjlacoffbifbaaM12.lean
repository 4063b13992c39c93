/-
  Texts: Lo.
-/
import Derived.Test.YtjjlacoffbifbaaM1
import Derived.Test.YtjjlacoffbifbaaM2
import Derived.Test.YtjjlacoffbifbaaM3
import Derived.Test.YtjjlacoffbifbaaM4
import Derived.Test.YtjjlacoffbifbaaM5
import Derived.Test.YtjjlacoffbifbaaM6
import Derived.Test.YtjjlacoffbifbaaM7
import Derived.Test.YtjjlacoffbifbaaM8
import Derived.Test.YtjjlacoffbifbaaM9
import Derived.Test.YtjjlacoffbifbaaM10
import Derived.Test.YtjjlacoffbifbaaM11
import Derived.Test.YtjjlacoffbifbaaRows
section
namespace Go.Proofs.Ytjjlacoffbifbaa
open Go.ChangeShapes Go.WideShapes Go.ChangeAt Go.RowKit Go.Sx
theorem prog_three : Try.prog.mayEnter = true ∧ Try.prog.liftsFinal = Rows.gateChecksRow.lifted ∧ Try.prog.make = some Rows.gateChecksRow.make := ⟨by kernel_rfl, by kernel_rfl, by kernel_rfl⟩
theorem own_none : ownKnob Try.prog.godebug = none := by kernel_rfl
theorem laid_out : laidOutB Try.prog = true := by kernel_rfl
theorem open_in {H : Type} {enc : TypeId × Value → H} {W : World} {base b0 : Nat} {sp : Nat → Bool} {held : Bool} {v : Value} {d : DataW H} {ps : List MemPlace} (ρ : Rho)
    (hval : Unit → Value.okWide Try.prog W .any b0 3 v) (h : Unit → DataW.Trod enc Try.prog W base sp held 3 v d ps) : ∃ a, v = (sI .i64 a).conc ρ ∧ i64ok a := by
  have hu : Try.prog.underlying 3 = some (.int .i64) := by kernel_rfl
  obtain ⟨n, e, _, _, w⟩ := open_int hu (by with_reducible exact hval ()) (by with_reducible exact h ())
  exact ⟨n, e, bounds_i64 w⟩
end Go.Proofs.Ytjjlacoffbifbaa
end
