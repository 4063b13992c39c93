/-
  ForkLines: fork.Line answers what the reference answers, for every tree; the input reads as it did.
-/
import Derived.Test.YtnomjdechekapaaM1
import Derived.Test.YtnomjdechekapaaM2
import Derived.Test.YtnomjdechekapaaM3
import Derived.Test.YtnomjdechekapaaM4
import Derived.Test.YtnomjdechekapaaM5
import Derived.Test.YtnomjdechekapaaM6
import Derived.Test.YtnomjdechekapaaM7
import Derived.Test.YtnomjdechekapaaM8
import Derived.Test.YtnomjdechekapaaM9
import Derived.Test.YtnomjdechekapaaM10
import Derived.Test.YtnomjdechekapaaM11

namespace Go.Proofs.Ytnomjdechekapaa
open Go.ChangeShapes Go.WideShapes Go.ChangeAt Go.RowKit Go.Sx

set_option maxRecDepth 100000 in
theorem forkLines_lifted (os : Os) (started : os.Started) (H : Type) (enc : TypeId × Value → H) :
    ReturnsInHanded {} Try.checked os 6 .any (Rows.forkLinesSpec.pre6 enc Try.prog Try.f6 Rows.forkLinesRow.domain false) (Rows.forkLinesSpec.post enc Try.prog Try.f6 false Rows.forkLinesRow.fresh Rows.forkLinesRow.handsOn Rows.forkLinesRow.again) := by
  refine returnsInHanded_of_change (C := Try.checked) own_none started (by kernel_rfl) Try.func6
    (ChangeSpec.witness6 (enc := enc) (C := Try.checked) false ⟨#[], #[.agg #[.slice none 0 0, .int .i64 0, .int .i64 0], .bool false], []⟩ 8 (by kernel_rfl) (by kernel_rfl) (by kernel_rfl) (by kernel_rfl)) ?_
  intro W base args ds gs before hval0 hW _ _
  have hval : ∀ (j : Nat) t v, Try.f6.params[j]? = some t → args[j]? = some v → Value.okWide Try.prog W .any base t v := hval0
  have hW' := hW
  obtain ⟨p, q, hA0, hV, rfl, _, _⟩ := hW
  have hA : DataW.TrodAll enc Try.prog W 0 (fun _ => true) true [24, 4] args.toList ds p := hA0
  obtain ⟨v0, v1, d0, d1, p0, p1, rfl, rfl, rfl, h0, h1⟩ := trodAll_two hA
  obtain ⟨rfl, rfl⟩ := trodVars_none hV
  obtain ⟨a0, n0, cap0, P0, H0, A0, N0, C0, X0, best0, fin0, rfl, t0, u0, w0, b0⟩ := open_tree (fun _ => hval 0 _ _ rfl rfl) (fun _ => h0)
  obtain ⟨x1, rfl⟩ := open_bo (Rho.whole W) (fun _ => hval 1 _ _ rfl rfl) (fun _ => h1)
  refine (calls_of_owesV okx_Bo oks_Ll Try.func6 (by kernel_rfl) (okl_ForkLines a0 n0 cap0 P0 H0 A0 N0 C0 X0 best0 fin0 t0 x1 ) (Rho.whole W) W (whole_ok W) (fun p h => (by cases h)) (by
    intro z hz
    simp only [List.mem_cons, List.not_mem_nil, or_false] at hz
    rcases hz with rfl | rfl
    · exact b0
    · trivial)).mono fun e W' he => ?_
  obtain ⟨v, rfl, ⟨ρ', hv⟩, hb⟩ := he
  have hv' : v = .bool true := hv
  subst hv'
  exact ⟨_, rfl, law_post (tb := 4) laid_out (by kernel_rfl) (by kernel_rfl) (by kernel_rfl) rfl rfl hW' hb⟩

theorem forkLines_facts : joinedFacts Try.prog 6 Try.f6 Rows.forkLinesSpec Rows.forkLinesRow = true := by
  unfold joinedFacts
  rw [prog_three.1, prog_three.2.1, prog_three.2.2]
  kernel_rfl
theorem forkLines_holds : Rows.ForkLinesSaid :=
  OpenClaim.holds_of_wide 6 Try.f6 rfl rfl rfl rfl rfl rfl rfl ⟨rfl, rfl, rfl, rfl, rfl⟩ rfl rfl rfl rfl rfl (by kernel_rfl) Try.func6 forkLines_facts
    (of_decide_eq_true (by kernel_rfl)) (by unfold Func.isWrapper; first | (rw [if_pos (by decide +kernel)]; kernel_rfl) | (rw [if_neg (by decide +kernel)]; exact ⟨rfl, rfl⟩))
    (fun os started H enc _ => forkLines_lifted os started H enc)
end Go.Proofs.Ytnomjdechekapaa
