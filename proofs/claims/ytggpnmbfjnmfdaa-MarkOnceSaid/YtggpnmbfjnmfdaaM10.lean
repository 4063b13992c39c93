/-
  Texts: Lo.
-/
import Derived.Test.YtggpnmbfjnmfdaaM1
import Derived.Test.YtggpnmbfjnmfdaaM2
import Derived.Test.YtggpnmbfjnmfdaaM3
import Derived.Test.YtggpnmbfjnmfdaaM4
import Derived.Test.YtggpnmbfjnmfdaaM5
import Derived.Test.YtggpnmbfjnmfdaaM6
import Derived.Test.YtggpnmbfjnmfdaaM7
import Derived.Test.YtggpnmbfjnmfdaaM8
import Derived.Test.YtggpnmbfjnmfdaaM9
import Derived.Test.YtggpnmbfjnmfdaaRows
section
namespace Go.Proofs.Ytggpnmbfjnmfdaa
open Go.ChangeShapes Go.WideShapes Go.ChangeAt Go.RowKit Go.Sx
theorem prog_three : Try.prog.mayEnter = true ∧ Try.prog.liftsFinal = Rows.markOnceRow.lifted ∧ Try.prog.make = some Rows.markOnceRow.make := ⟨by kernel_rfl, by kernel_rfl, by kernel_rfl⟩
theorem own_none : ownKnob Try.prog.godebug = none := by kernel_rfl
theorem laid_out : laidOutB Try.prog = true := by kernel_rfl
theorem pgu_of {v : Value} (ρ : Rho) (hx : ∃ cs : List Value, v = .agg cs.toArray ∧ fitsL [.int .u64, .int .u64, .int .u64, .int .u64] cs) : ∃ n, v = (sU n).conc ρ := by
  obtain ⟨cs, rfl, hf⟩ := hx
  match cs, hf with
  | [.int k1 a1, .int k2 a2, .int k3 a3, .int k4 a4], hf =>
    obtain ⟨⟨rfl, w1⟩, ⟨rfl, w2⟩, ⟨rfl, w3⟩, ⟨rfl, w4⟩, _⟩ := hf
    have b : ∀ {n : Int}, (Lit.int .u64 n).wf = true → 0 ≤ n ∧ n < 2 ^ 64 := by
      intro n h
      simp [Lit.wf, IntKind.min, IntKind.max, IntKind.signed, IntKind.bits] at h
      omega
    refine ⟨join a1 a2 a3 a4, ?_⟩
    have := U_join (b w1) (b w2) (b w3) (b w4)
    exact this.symm
theorem open_p4 {H : Type} {enc : TypeId × Value → H} {W : World} {base b0 : Nat} {sp : Nat → Bool} {held : Bool} {v : Value} {d : DataW H} {ps : List MemPlace} (ρ : Rho)
    (hval : Unit → Value.okWide Try.prog W .any b0 23 v) (h : Unit → DataW.Trod enc Try.prog W base sp held 23 v d ps) : ∃ n, v = (sU n).conc ρ := by
  have hl : lks Try.prog 3 23 = some [.int .u64, .int .u64, .int .u64, .int .u64] := by kernel_rfl
  have hx : ∃ cs : List Value, v = .agg cs.toArray ∧ fitsL [.int .u64, .int .u64, .int .u64, .int .u64] cs := by
    refine open_flat (H := H) (enc := enc) (P := Try.prog) (w := W) (base := base) (sp := sp) (held := held) (d := 3) (t := 23) (r := .any) (b0 := b0) (v := v) (x := d) (ps := ps) hl ?_ ?_ ?_
    · kernel_rfl
    · with_reducible exact hval ()
    · with_reducible exact h ()
  exact pgu_of ρ hx
theorem open_in {H : Type} {enc : TypeId × Value → H} {W : World} {base b0 : Nat} {sp : Nat → Bool} {held : Bool} {v : Value} {d : DataW H} {ps : List MemPlace} (ρ : Rho)
    (hval : Unit → Value.okWide Try.prog W .any b0 3 v) (h : Unit → DataW.Trod enc Try.prog W base sp held 3 v d ps) : ∃ a, v = (sI .i64 a).conc ρ ∧ i64ok a := by
  have hu : Try.prog.underlying 3 = some (.int .i64) := by kernel_rfl
  obtain ⟨n, e, _, _, w⟩ := open_int hu (by with_reducible exact hval ()) (by with_reducible exact h ())
  exact ⟨n, e, bounds_i64 w⟩
theorem bnd_pgu {n : Env} (a : Nat) : (SA.agg [SK.u a]).bnd n := by
  intro k hk
  simp only [List.mem_singleton] at hk
  subst hk
  trivial
end Go.Proofs.Ytggpnmbfjnmfdaa
end
