/-
  SeenMarks: seen.Mark answers what the reference answers, for every page and number; the input reads as it did.
-/
import Derived.Test.YtbedejilhhedlaaM1
import Derived.Test.YtbedejilhhedlaaM2
import Derived.Test.YtbedejilhhedlaaM3
import Derived.Test.YtbedejilhhedlaaM4
import Derived.Test.YtbedejilhhedlaaM5
import Derived.Test.YtbedejilhhedlaaM6
import Derived.Test.YtbedejilhhedlaaM7
import Derived.Test.YtbedejilhhedlaaM8
import Derived.Test.YtbedejilhhedlaaM9
import Derived.Test.YtbedejilhhedlaaM10

namespace Go.Proofs.Ytbedejilhhedlaa
open Go.ChangeShapes Go.WideShapes Go.ChangeAt Go.RowKit Go.Sx

set_option maxRecDepth 100000 in
theorem seenMarks_lifted (os : Os) (started : os.Started) (H : Type) (enc : TypeId × Value → H) :
    ReturnsInHanded {} Try.checked os 4 .any (Rows.seenMarksSpec.pre6 enc Try.prog Try.f4 Rows.seenMarksRow.domain false) (Rows.seenMarksSpec.post enc Try.prog Try.f4 false Rows.seenMarksRow.fresh Rows.seenMarksRow.handsOn Rows.seenMarksRow.again) := by
  refine returnsInHanded_of_change (C := Try.checked) own_none started (by kernel_rfl) Try.func4
    (ChangeSpec.witness6 (enc := enc) (C := Try.checked) false ⟨#[], #[.agg #[.int .u64 0, .int .u64 0, .int .u64 0, .int .u64 0], .int .i64 0], []⟩ 8 (by kernel_rfl) (by kernel_rfl) (by kernel_rfl) (by kernel_rfl)) ?_
  intro W base args ds gs before hval0 hW _ _
  have hval : ∀ (j : Nat) t v, Try.f4.params[j]? = some t → args[j]? = some v → Value.okWide Try.prog W .any base t v := hval0
  have hW' := hW
  obtain ⟨p, q, hA0, hV, rfl, _, _⟩ := hW
  have hA : DataW.TrodAll enc Try.prog W 0 (fun _ => true) true [24, 3] args.toList ds p := hA0
  obtain ⟨v0, v1, d0, d1, p0, p1, rfl, rfl, rfl, h0, h1⟩ := trodAll_two hA
  obtain ⟨rfl, rfl⟩ := trodVars_none hV
  obtain ⟨n0, rfl⟩ := open_pg (Rho.whole W) (fun _ => hval 0 _ _ rfl rfl) (fun _ => h0)
  obtain ⟨a1, rfl, g1⟩ := open_in (Rho.whole W) (fun _ => hval 1 _ _ rfl rfl) (fun _ => h1)
  refine (calls_of_owesV okx_none oks_Sm Try.func4 (by kernel_rfl) (okl_SeenMarks n0 a1 g1) (Rho.whole W) W (whole_ok W) (fun p h => (by cases h)) (by
    intro z hz
    simp only [List.mem_cons, List.not_mem_nil, or_false] at hz
    rcases hz with rfl | rfl
    · exact bnd_pgu _
    · trivial)).mono fun e W' he => ?_
  obtain ⟨v, rfl, ⟨ρ', hv⟩, hb⟩ := he
  have hv' : v = .bool true := hv
  subst hv'
  exact ⟨_, rfl, law_post (tb := 4) laid_out (by kernel_rfl) (by kernel_rfl) (by kernel_rfl) rfl rfl hW' hb⟩

theorem seenMarks_facts : joinedFacts Try.prog 4 Try.f4 Rows.seenMarksSpec Rows.seenMarksRow = true := by
  unfold joinedFacts
  rw [prog_three.1, prog_three.2.1, prog_three.2.2]
  kernel_rfl
theorem seenMarks_holds : Rows.SeenMarksSaid :=
  OpenClaim.holds_of_wide 4 Try.f4 rfl rfl rfl rfl rfl rfl rfl ⟨rfl, rfl, rfl, rfl, rfl⟩ rfl rfl rfl rfl rfl (by kernel_rfl) Try.func4 seenMarks_facts
    (of_decide_eq_true (by kernel_rfl)) (by unfold Func.isWrapper; first | (rw [if_pos (by decide +kernel)]; kernel_rfl) | (rw [if_neg (by decide +kernel)]; exact ⟨rfl, rfl⟩))
    (fun os started H enc _ => seenMarks_lifted os started H enc)
end Go.Proofs.Ytbedejilhhedlaa
