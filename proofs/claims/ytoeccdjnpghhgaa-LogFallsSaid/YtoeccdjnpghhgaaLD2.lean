/-
  LogFalls: log.Crash and log.Sync answer what the reference answers, for every log and number; the inputs read as they did.
-/
import Derived.Test.YtoeccdjnpghhgaaM1
import Derived.Test.YtoeccdjnpghhgaaM2
import Derived.Test.YtoeccdjnpghhgaaM3
import Derived.Test.YtoeccdjnpghhgaaM4
import Derived.Test.YtoeccdjnpghhgaaM5
import Derived.Test.YtoeccdjnpghhgaaM6
import Derived.Test.YtoeccdjnpghhgaaM7
import Derived.Test.YtoeccdjnpghhgaaM8
import Derived.Test.YtoeccdjnpghhgaaM9
import Derived.Test.YtoeccdjnpghhgaaM10
import Derived.SizedLaws

namespace Go.Proofs.Ytoeccdjnpghhgaa
open Go.ChangeShapes Go.WideShapes Go.ChangeAt Go.RowKit Go.Sx

set_option maxRecDepth 100000 in
theorem logFalls_lifted (os : Os) (started : os.Started) (H : Type) (enc : TypeId × Value → H) :
    ReturnsInHanded {} Try.checked os 4 .any (Rows.logFallsSpec.pre6 enc Try.prog Try.f4 Rows.logFallsRow.domain false) (Rows.logFallsSpec.post enc Try.prog Try.f4 false Rows.logFallsRow.fresh Rows.logFallsRow.handsOn Rows.logFallsRow.again) := by
  refine returnsInHanded_of_change_sized (C := Try.checked) own_none started (by kernel_rfl) Try.func4
    (ChangeSpec.witness6 (enc := enc) (C := Try.checked) false ⟨#[], #[.agg #[.slice none 0 0, .slice none 0 0], .int .i64 0], []⟩ 8 (by kernel_rfl) (by kernel_rfl) (by kernel_rfl) (by kernel_rfl)) ?_
  intro W base args ds gs before hval0 hW _ hsz0 _
  have hval : ∀ (j : Nat) t v, Try.f4.params[j]? = some t → args[j]? = some v → Value.okWide Try.prog W .any base t v := hval0
  have hW' := hW
  obtain ⟨p, q, hA0, hV, rfl, _, _⟩ := hW
  have hA : DataW.TrodAll enc Try.prog W 0 (fun _ => true) true [24, 3] args.toList ds p := hA0
  obtain ⟨v0, v1, d0, d1, p0, p1, rfl, rfl, rfl, h0, h1⟩ := trodAll_two hA
  obtain ⟨rfl, rfl⟩ := trodVars_none hV
  obtain ⟨a0, n0, cap0, F0, b0, m0, cb0, G0, rfl, ⟨f0, g0⟩, k0⟩ := open_log (fun _ => hval 0 _ _ rfl rfl) (fun _ => h0)
  have hw : (DataW.weightsEach Try.prog [24, 3] [d0, d1]).all (· ≤ reachBytes) = true := hsz0
  simp only [DataW.weightsEach, List.append_nil, List.all_append, Bool.and_eq_true] at hw
  obtain ⟨u0, w0⟩ := wt_log h0 f0 g0 hw.1
  obtain ⟨a1, rfl, g1⟩ := open_in (Rho.whole W) (fun _ => hval 1 _ _ rfl rfl) (fun _ => h1)
  refine (calls_of_owesV okx_LA oks_Lf Try.func4 (by kernel_rfl) (okl_LogFalls a0 n0 cap0 F0 b0 m0 cb0 G0 a1 f0 g0 u0 w0) (Rho.whole W) W (whole_ok W) (fun p h => (by cases h)) (by
    intro z hz
    simp only [List.mem_cons, List.not_mem_nil, or_false] at hz
    rcases hz with rfl | rfl
    · exact k0
    · trivial)).mono fun e W' he => ?_
  obtain ⟨v, rfl, ⟨ρ', hv⟩, hb⟩ := he
  have hv' : v = .bool true := hv
  subst hv'
  exact ⟨_, rfl, law_post (tb := 4) laid_out (by kernel_rfl) (by kernel_rfl) (by kernel_rfl) rfl rfl hW' hb⟩

theorem logFalls_facts : joinedFacts Try.prog 4 Try.f4 Rows.logFallsSpec Rows.logFallsRow = true := by
  unfold joinedFacts
  rw [prog_three.1, prog_three.2.1, prog_three.2.2]
  kernel_rfl
theorem logFalls_holds : Rows.LogFallsSaid :=
  OpenClaim.holds_of_wide 4 Try.f4 rfl rfl rfl rfl rfl rfl rfl ⟨rfl, rfl, rfl, rfl, rfl⟩ rfl rfl rfl rfl rfl (by kernel_rfl) Try.func4 logFalls_facts
    (of_decide_eq_true (by kernel_rfl)) (by unfold Func.isWrapper; first | (rw [if_pos (by decide +kernel)]; kernel_rfl) | (rw [if_neg (by decide +kernel)]; exact ⟨rfl, rfl⟩))
    (fun os started H enc _ => logFalls_lifted os started H enc)
end Go.Proofs.Ytoeccdjnpghhgaa
