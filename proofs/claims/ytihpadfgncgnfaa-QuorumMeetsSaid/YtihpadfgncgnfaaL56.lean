/-
  Laws, for every input: true, and the input reads as it did.
-/
import Derived.Test.YtihpadfgncgnfaaM1
import Derived.Test.YtihpadfgncgnfaaM2
import Derived.Test.YtihpadfgncgnfaaM3
import Derived.Test.YtihpadfgncgnfaaM4
import Derived.Test.YtihpadfgncgnfaaM5
import Derived.Test.YtihpadfgncgnfaaM6
import Derived.Test.YtihpadfgncgnfaaM7

namespace Go.Proofs.Ytihpadfgncgnfaa
open Go.ChangeShapes Go.WideShapes Go.ChangeAt Go.RowKit Go.Sx

theorem prog_three : Try.prog.mayEnter = true ∧ Try.prog.liftsFinal = Rows.quorumMeetsRow.lifted ∧ Try.prog.make = some Rows.quorumMeetsRow.make := ⟨by kernel_rfl, by kernel_rfl, by kernel_rfl⟩
theorem own_none : ownKnob Try.prog.godebug = none := by kernel_rfl
theorem laid_out : laidOutB Try.prog = true := by kernel_rfl

theorem open_i64 {H : Type} {enc : TypeId × Value → H} {W : World} {base b0 : Nat} {sp : Nat → Bool} {held : Bool} {v : Value} {d : DataW H} {ps : List MemPlace}
    (hval : Unit → Value.okWide Try.prog W .any b0 3 v) (h : Unit → DataW.Trod enc Try.prog W base sp held 3 v d ps) : ∃ a, v = (sI .i64 a).conc Rho.nil ∧ i64ok a := by
  have hu : Try.prog.underlying 3 = some (.int .i64) := by kernel_rfl
  obtain ⟨n, e, _, _, w⟩ := open_int hu (by with_reducible exact hval ()) (by with_reducible exact h ())
  exact ⟨n, e, bounds_i64 w⟩
set_option maxRecDepth 100000 in
theorem quorumMeets_lifted (os : Os) (started : os.Started) (H : Type) (enc : TypeId × Value → H) :
    ReturnsInHanded {} Try.checked os 3 .any (Rows.quorumMeetsSpec.pre6 enc Try.prog Try.f3 Rows.quorumMeetsRow.domain false) (Rows.quorumMeetsSpec.post enc Try.prog Try.f3 false Rows.quorumMeetsRow.fresh Rows.quorumMeetsRow.handsOn Rows.quorumMeetsRow.again) := by
  refine returnsInHanded_of_change (C := Try.checked) own_none started (by kernel_rfl) Try.func3
    (ChangeSpec.witness6 (enc := enc) (C := Try.checked) false ⟨#[], #[.int .i64 0, .int .i64 0, .int .i64 0], []⟩ 8 (by kernel_rfl) (by kernel_rfl) (by kernel_rfl) (by kernel_rfl)) ?_
  intro W base args ds gs before hval0 hW _ _
  have hval : ∀ (j : Nat) t v, Try.f3.params[j]? = some t → args[j]? = some v → Value.okWide Try.prog W .any base t v := hval0
  have hW' := hW
  obtain ⟨p, q, hA0, hV, rfl, _, _⟩ := hW
  have hA : DataW.TrodAll enc Try.prog W 0 (fun _ => true) true [3, 3, 3] args.toList ds p := hA0
  obtain ⟨v0, v1, v2, d0, d1, d2, p0, p1, p2, rfl, rfl, rfl, h0, h1, h2⟩ := trodAll_three hA
  obtain ⟨rfl, rfl⟩ := trodVars_none hV
  obtain ⟨a0, rfl, g1⟩ := open_i64 (fun _ => hval 0 _ _ rfl rfl) (fun _ => h0)
  obtain ⟨a1, rfl, g2⟩ := open_i64 (fun _ => hval 1 _ _ rfl rfl) (fun _ => h1)
  obtain ⟨a2, rfl, g3⟩ := open_i64 (fun _ => hval 2 _ _ rfl rfl) (fun _ => h2)
  refine (calls_of_owes cxok_QM Try.func3 (by kernel_rfl) (by
    intro z hz
    simp only [List.mem_cons, List.not_mem_nil, or_false] at hz
    rcases hz with rfl | rfl | rfl
    · trivial
    · trivial
    · trivial) (ok_QuorumMeets a0 a1 a2 g1 g2 g3) Rho.nil W).mono fun e W' he => ?_
  obtain ⟨v, rfl, ⟨ρ', hv⟩, hb⟩ := he
  have hv' : v = .bool true := hv
  subst hv'
  exact ⟨_, rfl, law_post (tb := 4) laid_out (by kernel_rfl) (by kernel_rfl) (by kernel_rfl) rfl rfl hW' hb⟩

theorem quorumMeets_facts : joinedFacts Try.prog 3 Try.f3 Rows.quorumMeetsSpec Rows.quorumMeetsRow = true := by
  unfold joinedFacts
  rw [prog_three.1, prog_three.2.1, prog_three.2.2]
  kernel_rfl
theorem quorumMeets_holds : Rows.QuorumMeetsSaid :=
  OpenClaim.holds_of_wide 3 Try.f3 rfl rfl rfl rfl rfl rfl rfl ⟨rfl, rfl, rfl, rfl, rfl⟩ rfl rfl rfl rfl rfl (by kernel_rfl) Try.func3 quorumMeets_facts
    (of_decide_eq_true (by kernel_rfl)) (by unfold Func.isWrapper; first | (rw [if_pos (by decide +kernel)]; kernel_rfl) | (rw [if_neg (by decide +kernel)]; exact ⟨rfl, rfl⟩))
    (fun os started H enc _ => quorumMeets_lifted os started H enc)
end Go.Proofs.Ytihpadfgncgnfaa
