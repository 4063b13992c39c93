/-
  Laws, for every input: true, and the input reads as it did.
-/
import Derived.Test.YtbkdokofapbagaaLift
import Derived.Test.YtbkdokofapbagaaWsp
import Derived.Test.YtbkdokofapbagaaRows
namespace Go.Proofs.Ytbkdokofapbagaa
open Go.ChangeShapes Go.WideShapes Go.ChangeAt Go.RowKit Go.Sx

theorem prog_three : Try.prog.mayEnter = true ∧ Try.prog.liftsFinal = Rows.addBackRow.lifted ∧ Try.prog.make = some Rows.addBackRow.make := ⟨by kernel_rfl, by kernel_rfl, by kernel_rfl⟩
theorem own_none : ownKnob Try.prog.godebug = none := by kernel_rfl
theorem laid_out : laidOutB Try.prog = true := by kernel_rfl

theorem lks_raw : lks Try.prog 3 23 = some [.int .i64, .int .i64, .int .i64, .text] := by kernel_rfl
theorem raw_of {v : Value} (hx : ∃ cs : List Value, v = .agg cs.toArray ∧ fitsL [.int .i64, .int .i64, .int .i64, .text] cs) : ∃ k a b s, v = (sRaw k a b s).conc (fun _ => 0) ∧ i64ok k ∧ i64ok a ∧ i64ok b := by
  obtain ⟨cs, rfl, hf⟩ := hx
  match cs, hf with
  | [.int k1 a1, .int k2 a2, .int k3 a3, .string s], hf =>
    obtain ⟨⟨rfl, w1⟩, ⟨rfl, w2⟩, ⟨rfl, w3⟩, _, _⟩ := hf
    exact ⟨a1, a2, a3, s, rfl, bounds_i64 w1, bounds_i64 w2, bounds_i64 w3⟩
/-- A raw thing, opened. -/
theorem open_raw {H : Type} {enc : TypeId × Value → H} {W : World} {base b0 : Nat} {sp : Nat → Bool} {held : Bool} {v : Value} {d : DataW H} {ps : List MemPlace}
    (hval : Unit → Value.okWide Try.prog W .any b0 23 v) (h : Unit → DataW.Trod enc Try.prog W base sp held 23 v d ps) :
    ∃ k a b s, v = (sRaw k a b s).conc (fun _ => 0) ∧ i64ok k ∧ i64ok a ∧ i64ok b := by
  have hx : ∃ cs : List Value, v = .agg cs.toArray ∧ fitsL [.int .i64, .int .i64, .int .i64, .text] cs := by
    refine open_flat (H := H) (enc := enc) (P := Try.prog) (w := W) (base := base) (sp := sp) (held := held) (d := 3) (t := 23) (r := .any) (b0 := b0) (v := v) (x := d) (ps := ps) lks_raw ?_ ?_ ?_
    · kernel_rfl
    · with_reducible exact hval ()
    · with_reducible exact h ()
  exact raw_of hx
theorem open_i64 {H : Type} {enc : TypeId × Value → H} {W : World} {base b0 : Nat} {sp : Nat → Bool} {held : Bool} {v : Value} {d : DataW H} {ps : List MemPlace}
    (hval : Unit → Value.okWide Try.prog W .any b0 3 v) (h : Unit → DataW.Trod enc Try.prog W base sp held 3 v d ps) : ∃ a, v = (sI .i64 a).conc (fun _ => 0) ∧ i64ok a := by
  have hu : Try.prog.underlying 3 = some (.int .i64) := by kernel_rfl
  obtain ⟨n, e, _, _, w⟩ := open_int hu (by with_reducible exact hval ()) (by with_reducible exact h ())
  exact ⟨n, e, bounds_i64 w⟩
theorem open_str {H : Type} {enc : TypeId × Value → H} {W : World} {base b0 : Nat} {sp : Nat → Bool} {held : Bool} {v : Value} {d : DataW H} {ps : List MemPlace}
    (hval : Unit → Value.okWide Try.prog W .any b0 9 v) (h : Unit → DataW.Trod enc Try.prog W base sp held 9 v d ps) : ∃ s, v = SA.conc (fun _ => 0) (.sc (.val (.string s))) ∧ s.size ≤ maxLen := by
  have hu : Try.prog.underlying 9 = some .string := by kernel_rfl
  obtain ⟨s, e, _, _, w⟩ := Go.ChangeMaps.open_string hu (by with_reducible exact hval ()) (by with_reducible exact h ())
  exact ⟨s, e, w⟩
theorem bnd_raw (k a b : Int) (s : ByteArray) : SA.bnd none0 (sRaw k a b s) := by
  intro y hy
  simp only [List.mem_cons, List.not_mem_nil, or_false] at hy
  rcases hy with rfl | rfl | rfl | rfl <;> trivial
end Go.Proofs.Ytbkdokofapbagaa
