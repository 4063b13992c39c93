/-
  SetsCount: a set counts till a day after the next one came, and the last one always; its keys stay, whatever raw things come; the input reads as it did.
-/
import Derived.Test.YtdlmlejejodbgaaM1
import Derived.Test.YtdlmlejejodbgaaM2
import Derived.Test.YtdlmlejejodbgaaM3
import Derived.Test.YtdlmlejejodbgaaM4
import Derived.Test.YtdlmlejejodbgaaM5
import Derived.Test.YtdlmlejejodbgaaM6
import Derived.Test.YtdlmlejejodbgaaM7
import Derived.Test.YtdlmlejejodbgaaM8
import Derived.Test.YtdlmlejejodbgaaM9
import Derived.Test.YtdlmlejejodbgaaM10
import Derived.Test.YtdlmlejejodbgaaM11

namespace Go.Proofs.Ytdlmlejejodbgaa
open Go.ChangeShapes Go.WideShapes Go.ChangeAt Go.RowKit Go.Sx

set_option maxRecDepth 100000 in
theorem setsCount_lifted (os : Os) (started : os.Started) (H : Type) (enc : TypeId × Value → H) :
    ReturnsInHanded {} Try.checked os 3 .any (Rows.setsCountSpec.pre6 enc Try.prog Try.f3 Rows.setsCountRow.domain false) (Rows.setsCountSpec.post enc Try.prog Try.f3 false Rows.setsCountRow.fresh Rows.setsCountRow.handsOn Rows.setsCountRow.again) := by
  refine returnsInHanded_of_change (C := Try.checked) own_none started (by kernel_rfl) Try.func3
    (ChangeSpec.witness6 (enc := enc) (C := Try.checked) false ⟨#[], #[.slice none 0 0, .int .i64 0, .int .i64 0], []⟩ 8 (by kernel_rfl) (by kernel_rfl) (by kernel_rfl) (by kernel_rfl)) ?_
  intro W base args ds gs before hval0 hW _ _
  have hval : ∀ (j : Nat) t v, Try.f3.params[j]? = some t → args[j]? = some v → Value.okWide Try.prog W .any base t v := hval0
  have hW' := hW
  obtain ⟨p, q, hA0, hV, rfl, _, _⟩ := hW
  have hA : DataW.TrodAll enc Try.prog W 0 (fun _ => true) true [22, 3, 3] args.toList ds p := hA0
  obtain ⟨v0, v1, v2, d0, d1, d2, p0, p1, p2, rfl, rfl, rfl, h0, h1, h2⟩ := trodAll_three hA
  obtain ⟨rfl, rfl⟩ := trodVars_none hV
  obtain ⟨a0, n0, cap0, K0, A0, B0, s0, rfl, m0, g0, z0⟩ := open_rs (fun _ => hval 0 _ _ rfl rfl) (fun _ => h0)
  obtain ⟨a1, rfl, g1⟩ := open_in (Rho.whole W) (fun _ => hval 1 _ _ rfl rfl) (fun _ => h1)
  obtain ⟨a2, rfl, g2⟩ := open_in (Rho.whole W) (fun _ => hval 2 _ _ rfl rfl) (fun _ => h2)
  refine (calls_of_owesV okx_Sq oks_Sq Try.func3 (by kernel_rfl) (ok_sq a0 n0 cap0 K0 A0 B0 s0 a1 a2 (fun i hi => (g0 i hi).2.1) g1 g2) (Rho.whole W) W (whole_ok W) (fun p h => (by cases h)) (by
    intro z hz
    simp only [List.mem_cons, List.not_mem_nil, or_false] at hz
    rcases hz with rfl | rfl | rfl
    · exact z0
    · trivial
    · trivial)).mono fun e W' he => ?_
  obtain ⟨v, rfl, ⟨ρ', hv⟩, hb⟩ := he
  have hv' : v = .bool true := hv
  subst hv'
  exact ⟨_, rfl, law_post (tb := 4) laid_out (by kernel_rfl) (by kernel_rfl) (by kernel_rfl) rfl rfl hW' hb⟩

theorem setsCount_facts : joinedFacts Try.prog 3 Try.f3 Rows.setsCountSpec Rows.setsCountRow = true := by
  unfold joinedFacts
  rw [prog_three.1, prog_three.2.1, prog_three.2.2]
  kernel_rfl
theorem setsCount_holds : Rows.SetsCountSaid :=
  OpenClaim.holds_of_wide 3 Try.f3 rfl rfl rfl rfl rfl rfl rfl ⟨rfl, rfl, rfl, rfl, rfl⟩ rfl rfl rfl rfl rfl (by kernel_rfl) Try.func3 setsCount_facts
    (of_decide_eq_true (by kernel_rfl)) (by unfold Func.isWrapper; first | (rw [if_pos (by decide +kernel)]; kernel_rfl) | (rw [if_neg (by decide +kernel)]; exact ⟨rfl, rfl⟩))
    (fun os started H enc _ => setsCount_lifted os started H enc)
end Go.Proofs.Ytdlmlejejodbgaa
