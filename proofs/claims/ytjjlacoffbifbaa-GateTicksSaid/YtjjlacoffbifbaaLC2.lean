/-
  GateTicks: gate.Tick answers what the reference answers, for every gate and number of hours; the inputs read as they did.
-/
import Derived.Test.YtjjlacoffbifbaaM1
import Derived.Test.YtjjlacoffbifbaaM2
import Derived.Test.YtjjlacoffbifbaaM3
import Derived.Test.YtjjlacoffbifbaaM4
import Derived.Test.YtjjlacoffbifbaaM5
import Derived.Test.YtjjlacoffbifbaaM6
import Derived.Test.YtjjlacoffbifbaaM7
import Derived.Test.YtjjlacoffbifbaaM8
import Derived.Test.YtjjlacoffbifbaaM9
import Derived.Test.YtjjlacoffbifbaaM10
import Derived.Test.YtjjlacoffbifbaaM11
import Derived.Test.YtjjlacoffbifbaaM12
import Derived.Test.YtjjlacoffbifbaaM13
import Derived.Test.YtjjlacoffbifbaaM14
import Derived.Test.YtjjlacoffbifbaaM15

namespace Go.Proofs.Ytjjlacoffbifbaa
open Go.ChangeShapes Go.WideShapes Go.ChangeAt Go.RowKit Go.Sx

set_option maxRecDepth 100000 in
theorem gateTicks_lifted (os : Os) (started : os.Started) (H : Type) (enc : TypeId × Value → H) :
    ReturnsInHanded {} Try.checked os 5 .any (Rows.gateTicksSpec.pre6 enc Try.prog Try.f5 Rows.gateTicksRow.domain false) (Rows.gateTicksSpec.post enc Try.prog Try.f5 false Rows.gateTicksRow.fresh Rows.gateTicksRow.handsOn Rows.gateTicksRow.again) := by
  refine returnsInHanded_of_change (C := Try.checked) own_none started (by kernel_rfl) Try.func5
    (ChangeSpec.witness6 (enc := enc) (C := Try.checked) false ⟨#[], #[.agg #[.int .i64 0, .int .i64 0, .int .i64 0, .int .i64 0, .int .i64 0, .int .i64 0, .int .i64 0, .slice none 0 0, .slice none 0 0], .int .i64 0], []⟩ 8 (by kernel_rfl) (by kernel_rfl) (by kernel_rfl) (by kernel_rfl)) ?_
  intro W base args ds gs before hval0 hW _ _
  have hval : ∀ (j : Nat) t v, Try.f5.params[j]? = some t → args[j]? = some v → Value.okWide Try.prog W .any base t v := hval0
  have hW' := hW
  obtain ⟨p, q, hA0, hV, rfl, _, _⟩ := hW
  have hA : DataW.TrodAll enc Try.prog W 0 (fun _ => true) true [25, 3] args.toList ds p := hA0
  obtain ⟨v0, v1, d0, d1, p0, p1, rfl, rfl, rfl, h0, h1⟩ := trodAll_two hA
  obtain ⟨rfl, rfl⟩ := trodVars_none hV
  obtain ⟨L0, B0, now0, a0, n0, cap0, W0, c0, m0, dap0, V0, rfl, t0, b0⟩ := open_gate (fun _ => hval 0 _ _ rfl rfl) (fun _ => h0)
  obtain ⟨a1, rfl, g1⟩ := open_in (Rho.whole W) (fun _ => hval 1 _ _ rfl rfl) (fun _ => h1)
  refine (calls_of_owesV okx_Tl oks_Tl Try.func5 (by kernel_rfl) (okl_GateTicks L0 B0 now0 a0 n0 cap0 W0 c0 m0 dap0 V0 ⟨t0, g_na b0⟩ a1 ) (Rho.whole W) W (whole_ok W) (fun p h => (by cases h)) (by
    intro z hz
    simp only [List.mem_cons, List.not_mem_nil, or_false] at hz
    rcases hz with rfl | rfl
    · exact b0
    · trivial)).mono fun e W' he => ?_
  obtain ⟨v, rfl, ⟨ρ', hv⟩, hb⟩ := he
  have hv' : v = .bool true := hv
  subst hv'
  exact ⟨_, rfl, law_post (tb := 4) laid_out (by kernel_rfl) (by kernel_rfl) (by kernel_rfl) rfl rfl hW' hb⟩

theorem gateTicks_facts : joinedFacts Try.prog 5 Try.f5 Rows.gateTicksSpec Rows.gateTicksRow = true := by
  unfold joinedFacts
  rw [prog_three.1, prog_three.2.1, prog_three.2.2]
  kernel_rfl
theorem gateTicks_holds : Rows.GateTicksSaid :=
  OpenClaim.holds_of_wide 5 Try.f5 rfl rfl rfl rfl rfl rfl rfl ⟨rfl, rfl, rfl, rfl, rfl⟩ rfl rfl rfl rfl rfl (by kernel_rfl) Try.func5 gateTicks_facts
    (of_decide_eq_true (by kernel_rfl)) (by unfold Func.isWrapper; first | (rw [if_pos (by decide +kernel)]; kernel_rfl) | (rw [if_neg (by decide +kernel)]; exact ⟨rfl, rfl⟩))
    (fun os started H enc _ => gateTicks_lifted os started H enc)
end Go.Proofs.Ytjjlacoffbifbaa
