/-
  Laws, for every input: true, and the input reads as it did.
-/
import Derived.Test.YtdcnlghfgkkcoabC1
namespace Go.Proofs.Ytdcnlghfgkkcoab
open Go.ChangeShapes Go.WideShapes Go.ChangeAt Go.RowKit Go.Sx

theorem own_none : ownKnob Try.prog.godebug = none := by kernel_rfl
theorem laid_out : laidOutB Try.prog = true := by kernel_rfl

/-- A raw thing, opened. -/
theorem open_raw {H : Type} {enc : TypeId × Value → H} {W : World} {base b0 : Nat} {sp : Nat → Bool} {held : Bool} {v : Value} {d : DataW H} {ps : List MemPlace}
    (hval : Value.okWide Try.prog W .any b0 23 v) (h : DataW.Trod enc Try.prog W base sp held 23 v d ps) :
    ∃ k a b s, v = (sRaw k a b s).conc (fun _ => 0) ∧ i64ok k ∧ i64ok a ∧ i64ok b := by
  have hl : lks Try.prog 3 23 = some [.int .i64, .int .i64, .int .i64, .text] := by kernel_rfl
  obtain ⟨cs, rfl, hf⟩ := open_flat hl (by kernel_rfl) hval h
  match cs, hf with
  | [.int k1 a1, .int k2 a2, .int k3 a3, .string s], hf =>
    obtain ⟨⟨rfl, w1⟩, ⟨rfl, w2⟩, ⟨rfl, w3⟩, _, _⟩ := hf
    exact ⟨a1, a2, a3, s, rfl, bounds_i64 w1, bounds_i64 w2, bounds_i64 w3⟩
theorem bnd_raw (k a b : Int) (s : ByteArray) : SA.bnd none0 (sRaw k a b s) := by
  intro y hy
  simp only [List.mem_cons, List.not_mem_nil, or_false] at hy
  rcases hy with rfl | rfl | rfl | rfl <;> trivial

end Go.Proofs.Ytdcnlghfgkkcoab
