/-
  Laws, for every input: true, and the input reads as it did.
-/
import Derived.Test.YtamhchemnalfbaaM1
import Derived.Test.YtamhchemnalfbaaM2
import Derived.Test.YtamhchemnalfbaaM3
import Derived.Test.YtamhchemnalfbaaM4
import Derived.Test.YtamhchemnalfbaaM5
import Derived.Test.YtamhchemnalfbaaM6
import Derived.Test.YtamhchemnalfbaaM7
import Derived.Test.YtamhchemnalfbaaM8
import Derived.Test.YtamhchemnalfbaaM9
import Derived.Test.YtamhchemnalfbaaM10

namespace Go.Proofs.Ytamhchemnalfbaa
open Go.ChangeShapes Go.WideShapes Go.ChangeAt Go.RowKit Go.Sx

set_option maxRecDepth 100000 in
theorem scaleAdds_lifted (os : Os) (started : os.Started) (H : Type) (enc : TypeId × Value → H) :
    ReturnsInHanded {} Try.checked os 4 .any (Rows.scaleAddsSpec.pre6 enc Try.prog Try.f4 Rows.scaleAddsRow.domain false) (Rows.scaleAddsSpec.post enc Try.prog Try.f4 false Rows.scaleAddsRow.fresh Rows.scaleAddsRow.handsOn Rows.scaleAddsRow.again) := by
  refine returnsInHanded_of_change (C := Try.checked) own_none started (by kernel_rfl) Try.func4
    (ChangeSpec.witness6 (enc := enc) (C := Try.checked) false ⟨#[], #[.int .i64 0, .int .i64 0, .int .i64 0], []⟩ 8 (by kernel_rfl) (by kernel_rfl) (by kernel_rfl) (by kernel_rfl)) ?_
  intro W base args ds gs before hval0 hW _ _
  have hval : ∀ (j : Nat) t v, Try.f4.params[j]? = some t → args[j]? = some v → Value.okWide Try.prog W .any base t v := hval0
  have hW' := hW
  obtain ⟨p, q, hA0, hV, rfl, _, _⟩ := hW
  have hA : DataW.TrodAll enc Try.prog W 0 (fun _ => true) true [3, 3, 3] args.toList ds p := hA0
  obtain ⟨v0, v1, v2, d0, d1, d2, p0, p1, p2, rfl, rfl, rfl, h0, h1, h2⟩ := trodAll_three hA
  obtain ⟨rfl, rfl⟩ := trodVars_none hV
  obtain ⟨a0, rfl, g1⟩ := open_i64 (fun _ => hval 0 _ _ rfl rfl) (fun _ => h0)
  obtain ⟨a1, rfl, g2⟩ := open_i64 (fun _ => hval 1 _ _ rfl rfl) (fun _ => h1)
  obtain ⟨a2, rfl, g3⟩ := open_i64 (fun _ => hval 2 _ _ rfl rfl) (fun _ => h2)
  refine (calls_of_owes cxok_SB Try.func4 (by kernel_rfl) (by
    intro z hz
    simp only [List.mem_cons, List.not_mem_nil, or_false] at hz
    rcases hz with rfl | rfl | rfl
    · trivial
    · trivial
    · trivial) (ok_ScaleAdds a0 a1 a2 g1 g2 g3) Rho.nil W).mono fun e W' he => ?_
  obtain ⟨v, rfl, ⟨ρ', hv⟩, hb⟩ := he
  have hv' : v = .bool true := hv
  subst hv'
  exact ⟨_, rfl, law_post (tb := 4) laid_out (by kernel_rfl) (by kernel_rfl) (by kernel_rfl) rfl rfl hW' hb⟩

theorem scaleAdds_facts : joinedFacts Try.prog 4 Try.f4 Rows.scaleAddsSpec Rows.scaleAddsRow = true := by
  unfold joinedFacts
  rw [prog_three.1, prog_three.2.1, prog_three.2.2]
  kernel_rfl
theorem scaleAdds_holds : Rows.ScaleAddsSaid :=
  OpenClaim.holds_of_wide 4 Try.f4 rfl rfl rfl rfl rfl rfl rfl ⟨rfl, rfl, rfl, rfl, rfl⟩ rfl rfl rfl rfl rfl (by kernel_rfl) Try.func4 scaleAdds_facts
    (of_decide_eq_true (by kernel_rfl)) (by unfold Func.isWrapper; first | (rw [if_pos (by decide +kernel)]; kernel_rfl) | (rw [if_neg (by decide +kernel)]; exact ⟨rfl, rfl⟩))
    (fun os started H enc _ => scaleAdds_lifted os started H enc)
end Go.Proofs.Ytamhchemnalfbaa
