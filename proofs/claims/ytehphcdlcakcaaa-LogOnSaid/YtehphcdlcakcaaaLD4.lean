/-
  LogOn: a mended log of raw things goes on as if nothing had been: true for every input; the inputs read as they did.
-/
import Derived.Test.YtehphcdlcakcaaaM1
import Derived.Test.YtehphcdlcakcaaaM2
import Derived.Test.YtehphcdlcakcaaaM3
import Derived.Test.YtehphcdlcakcaaaM4
import Derived.Test.YtehphcdlcakcaaaM5
import Derived.Test.YtehphcdlcakcaaaM6
import Derived.Test.YtehphcdlcakcaaaM7
import Derived.Test.YtehphcdlcakcaaaM8
import Derived.Test.YtehphcdlcakcaaaM9
import Derived.Test.YtehphcdlcakcaaaM10
import Derived.Test.YtehphcdlcakcaaaM11
import Derived.Test.YtehphcdlcakcaaaM12

namespace Go.Proofs.Ytehphcdlcakcaaa
open Go.ChangeShapes Go.WideShapes Go.ChangeAt Go.RowKit Go.Sx

set_option maxRecDepth 100000 in
theorem logOn_lifted (os : Os) (started : os.Started) (H : Type) (enc : TypeId × Value → H) :
    ReturnsInHanded {} Try.checked os 4 .any (Rows.logOnSpec.pre6 enc Try.prog Try.f4 Rows.logOnRow.domain false) (Rows.logOnSpec.post enc Try.prog Try.f4 false Rows.logOnRow.fresh Rows.logOnRow.handsOn Rows.logOnRow.again) := by
  refine returnsInHanded_of_change (C := Try.checked) own_none started (by kernel_rfl) Try.func4
    (ChangeSpec.witness6 (enc := enc) (C := Try.checked) false ⟨#[], #[.slice none 0 0, .int .i64 0, .string ⟨#[]⟩], []⟩ 8 (by kernel_rfl) (by kernel_rfl) (by kernel_rfl) (by kernel_rfl)) ?_
  intro W base args ds gs before hval0 hW _ _
  have hval : ∀ (j : Nat) t v, Try.f4.params[j]? = some t → args[j]? = some v → Value.okWide Try.prog W .any base t v := hval0
  have hW' := hW
  obtain ⟨p, q, hA0, hV, rfl, _, _⟩ := hW
  have hA : DataW.TrodAll enc Try.prog W 0 (fun _ => true) true [22, 3, 9] args.toList ds p := hA0
  obtain ⟨v0, v1, v2, d0, d1, d2, p0, p1, p2, rfl, rfl, rfl, h0, h1, h2⟩ := trodAll_three hA
  obtain ⟨rfl, rfl⟩ := trodVars_none hV
  obtain ⟨a0, n0, cap0, K0, A0, B0, s0, rfl, m0, g0, z0⟩ := open_rs (fun _ => hval 0 _ _ rfl rfl) (fun _ => h0)
  obtain ⟨a1, rfl, g1⟩ := open_in (Rho.whole W) (fun _ => hval 1 _ _ rfl rfl) (fun _ => h1)
  obtain ⟨t2, rfl, g2⟩ := open_str (fun _ => hval 2 _ _ rfl rfl) (fun _ => h2)
  refine (calls_of_owesV okx_On oks_On Try.func4 (by kernel_rfl) (Exists.choose_spec <| okl_LogOn a0 n0 cap0 K0 A0 B0 s0 a1 t2 m0 (fun i hi => (g0 i hi).1) (fun i hi => (g0 i hi).2) g1 g2) (Rho.whole W) W (whole_ok W) (fun p h => (by cases h)) (by
    intro z hz
    simp only [List.mem_cons, List.not_mem_nil, or_false] at hz
    rcases hz with rfl | rfl | rfl
    · exact z0
    · trivial
    · trivial)).mono fun e W' he => ?_
  obtain ⟨v, rfl, ⟨ρ', hv⟩, hb⟩ := he
  have hv' : v = .bool true := hv
  subst hv'
  exact ⟨_, rfl, law_post (tb := 4) laid_out (by kernel_rfl) (by kernel_rfl) (by kernel_rfl) rfl rfl hW' hb⟩

theorem logOn_facts : joinedFacts Try.prog 4 Try.f4 Rows.logOnSpec Rows.logOnRow = true := by
  unfold joinedFacts
  rw [prog_three.1, prog_three.2.1, prog_three.2.2]
  kernel_rfl
theorem logOn_holds : Rows.LogOnSaid :=
  OpenClaim.holds_of_wide 4 Try.f4 rfl rfl rfl rfl rfl rfl rfl ⟨rfl, rfl, rfl, rfl, rfl⟩ rfl rfl rfl rfl rfl (by kernel_rfl) Try.func4 logOn_facts
    (of_decide_eq_true (by kernel_rfl)) (by unfold Func.isWrapper; first | (rw [if_pos (by decide +kernel)]; kernel_rfl) | (rw [if_neg (by decide +kernel)]; exact ⟨rfl, rfl⟩))
    (fun os started H enc _ => logOn_lifted os started H enc)
end Go.Proofs.Ytehphcdlcakcaaa
