/-
  Laws, for every input: true, and the input reads as it did.
-/
import Derived.Test.YteimeidpcgebkaaM1
import Derived.Test.YteimeidpcgebkaaM2
import Derived.Test.YteimeidpcgebkaaM3
import Derived.Test.YteimeidpcgebkaaM4
import Derived.Test.YteimeidpcgebkaaM5
import Derived.Test.YteimeidpcgebkaaM6
import Derived.Test.YteimeidpcgebkaaM7
import Derived.Test.YteimeidpcgebkaaM8
import Derived.Test.YteimeidpcgebkaaM9
import Derived.Test.YteimeidpcgebkaaM10
import Derived.Test.YteimeidpcgebkaaM11
import Derived.Test.YteimeidpcgebkaaM12
import Derived.Test.YteimeidpcgebkaaM13
import Derived.Test.YteimeidpcgebkaaM14

namespace Go.Proofs.Yteimeidpcgebkaa
open Go.ChangeShapes Go.WideShapes Go.ChangeAt Go.RowKit Go.Sx

set_option maxRecDepth 100000 in
theorem curveLifts_lifted (os : Os) (started : os.Started) (H : Type) (enc : TypeId × Value → H) :
    ReturnsInHanded {} Try.checked os 5 .any (Rows.curveLiftsSpec.pre6 enc Try.prog Try.f5 Rows.curveLiftsRow.domain false) (Rows.curveLiftsSpec.post enc Try.prog Try.f5 false Rows.curveLiftsRow.fresh Rows.curveLiftsRow.handsOn Rows.curveLiftsRow.again) := by
  refine returnsInHanded_of_change (C := Try.checked) own_none started (by kernel_rfl) Try.func5
    (ChangeSpec.witness6 (enc := enc) (C := Try.checked) false ⟨#[], #[.agg #[.int .u64 0, .int .u64 0, .int .u64 0, .int .u64 0, .int .u64 0, .int .u64 0, .int .u64 0, .int .u64 0, .int .u64 0, .int .u64 0, .int .u64 0, .int .u64 0, .int .u64 0, .int .u64 0, .int .u64 0, .int .u64 0, .int .u64 0, .int .u64 0, .int .u64 0, .int .u64 0, .int .u64 0, .int .u64 0, .int .u64 0, .int .u64 0, .bool false], .agg #[.int .u64 0, .int .u64 0, .int .u64 0, .int .u64 0], .bool false], []⟩ 8 (by kernel_rfl) (by kernel_rfl) (by kernel_rfl) (by kernel_rfl)) ?_
  intro W base args ds gs before hval0 hW _ _
  have hval : ∀ (j : Nat) t v, Try.f5.params[j]? = some t → args[j]? = some v → Value.okWide Try.prog W .any base t v := hval0
  have hW' := hW
  obtain ⟨p, q, hA0, hV, rfl, _, _⟩ := hW
  have hA : DataW.TrodAll enc Try.prog W 0 (fun _ => true) true [28, 24, 4] args.toList ds p := hA0
  obtain ⟨v0, v1, v2, d0, d1, d2, p0, p1, p2, rfl, rfl, rfl, h0, h1, h2⟩ := trodAll_three hA
  obtain ⟨rfl, rfl⟩ := trodVars_none hV
  obtain ⟨n1, rfl⟩ := open_u (fun _ => hval 1 _ _ rfl rfl) (fun _ => h1)
  obtain ⟨P0, A0, B0, N0, X0, Y0, F0, rfl⟩ := open_cv (fun _ => hval 0 _ _ rfl rfl) (fun _ => h0)
  obtain ⟨o2, rfl⟩ := open_bt (fun _ => hval 2 _ _ rfl rfl) (fun _ => h2)
  refine (calls_of_owes cxok_CL Try.func5 (by kernel_rfl) (by
    intro z hz
    simp only [List.mem_cons, List.not_mem_nil, or_false] at hz
    rcases hz with rfl | rfl | rfl
    · exact bnd_cv _ _ _ _ _ _ _
    · exact bnd_U _
    · exact bnd_B _) (ok_CurveLifts P0 A0 B0 N0 X0 Y0 F0 n1 o2 ) Rho.nil W).mono fun e W' he => ?_
  obtain ⟨v, rfl, ⟨ρ', hv⟩, hb⟩ := he
  have hv' : v = .bool true := hv
  subst hv'
  exact ⟨_, rfl, law_post (tb := 4) laid_out (by kernel_rfl) (by kernel_rfl) (by kernel_rfl) rfl rfl hW' hb⟩

theorem curveLifts_facts : joinedFacts Try.prog 5 Try.f5 Rows.curveLiftsSpec Rows.curveLiftsRow = true := by
  unfold joinedFacts
  rw [prog_three.1, prog_three.2.1, prog_three.2.2]
  kernel_rfl
theorem curveLifts_holds : Rows.CurveLiftsSaid :=
  OpenClaim.holds_of_wide 5 Try.f5 rfl rfl rfl rfl rfl rfl rfl ⟨rfl, rfl, rfl, rfl, rfl⟩ rfl rfl rfl rfl rfl (by kernel_rfl) Try.func5 curveLifts_facts
    (of_decide_eq_true (by kernel_rfl)) (by unfold Func.isWrapper; first | (rw [if_pos (by decide +kernel)]; kernel_rfl) | (rw [if_neg (by decide +kernel)]; exact ⟨rfl, rfl⟩))
    (fun os started H enc _ => curveLifts_lifted os started H enc)
end Go.Proofs.Yteimeidpcgebkaa
