/-
  Laws, for every input: true, and the input reads as it did.
-/
import Derived.Test.YtohnkglcabfpjaaM1
import Derived.Test.YtohnkglcabfpjaaM2
import Derived.Test.YtohnkglcabfpjaaM3
import Derived.Test.YtohnkglcabfpjaaM4
import Derived.Test.YtohnkglcabfpjaaM5
import Derived.Test.YtohnkglcabfpjaaM6
import Derived.Test.YtohnkglcabfpjaaM7
import Derived.Test.YtohnkglcabfpjaaM8
import Derived.Test.YtohnkglcabfpjaaM9
import Derived.Test.YtohnkglcabfpjaaM10
import Derived.Test.YtohnkglcabfpjaaM11
import Derived.Test.YtohnkglcabfpjaaM12
import Derived.Test.YtohnkglcabfpjaaM13

namespace Go.Proofs.Ytohnkglcabfpjaa
open Go.ChangeShapes Go.WideShapes Go.ChangeAt Go.RowKit Go.Sx

set_option maxRecDepth 100000 in
theorem curveKnown_lifted (os : Os) (started : os.Started) (H : Type) (enc : TypeId × Value → H) :
    ReturnsInHanded {} Try.checked os 8 .any (Rows.curveKnownSpec.pre6 enc Try.prog Try.f8 Rows.curveKnownRow.domain false) (Rows.curveKnownSpec.post enc Try.prog Try.f8 false Rows.curveKnownRow.fresh Rows.curveKnownRow.handsOn Rows.curveKnownRow.again) := by
  refine returnsInHanded_of_change (C := Try.checked) own_none started (by kernel_rfl) Try.func8
    (ChangeSpec.witness6 (enc := enc) (C := Try.checked) false ⟨#[], #[.int .i64 0], []⟩ 8 (by kernel_rfl) (by kernel_rfl) (by kernel_rfl) (by kernel_rfl)) ?_
  intro W base args ds gs before hval0 hW _ _
  have hval : ∀ (j : Nat) t v, Try.f8.params[j]? = some t → args[j]? = some v → Value.okWide Try.prog W .any base t v := hval0
  have hW' := hW
  obtain ⟨p, q, hA0, hV, rfl, _, _⟩ := hW
  have hA : DataW.TrodAll enc Try.prog W 0 (fun _ => true) true [3] args.toList ds p := hA0
  obtain ⟨v0, d0, rfl, rfl, h0⟩ := trodAll_one hA
  obtain ⟨rfl, rfl⟩ := trodVars_none hV
  obtain ⟨a0, rfl, g1⟩ := open_i64 (fun _ => hval 0 _ _ rfl rfl) (fun _ => h0)
  refine (calls_of_owes cxok_CK Try.func8 (by kernel_rfl) (by
    intro z hz
    simp only [List.mem_cons, List.not_mem_nil, or_false] at hz
    rcases hz with rfl
    · trivial) (ok_CurveKnown a0 g1) Rho.nil W).mono fun e W' he => ?_
  obtain ⟨v, rfl, ⟨ρ', hv⟩, hb⟩ := he
  have hv' : v = .bool true := hv
  subst hv'
  exact ⟨_, rfl, law_post (tb := 4) laid_out (by kernel_rfl) (by kernel_rfl) (by kernel_rfl) rfl rfl hW' hb⟩

theorem curveKnown_facts : joinedFacts Try.prog 8 Try.f8 Rows.curveKnownSpec Rows.curveKnownRow = true := by
  unfold joinedFacts
  rw [prog_three.1, prog_three.2.1, prog_three.2.2]
  kernel_rfl
theorem curveKnown_holds : Rows.CurveKnownSaid :=
  OpenClaim.holds_of_wide 8 Try.f8 rfl rfl rfl rfl rfl rfl rfl ⟨rfl, rfl, rfl, rfl, rfl⟩ rfl rfl rfl rfl rfl (by kernel_rfl) Try.func8 curveKnown_facts
    (of_decide_eq_true (by kernel_rfl)) (by unfold Func.isWrapper; first | (rw [if_pos (by decide +kernel)]; kernel_rfl) | (rw [if_neg (by decide +kernel)]; exact ⟨rfl, rfl⟩))
    (fun os started H enc _ => curveKnown_lifted os started H enc)
end Go.Proofs.Ytohnkglcabfpjaa
