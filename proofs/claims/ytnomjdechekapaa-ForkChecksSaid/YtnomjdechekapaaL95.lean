/-
  ForkChecks: fork.Check answers what the reference answers, for every tree; the input reads as it did.
-/
import Derived.Test.YtnomjdechekapaaM1
import Derived.Test.YtnomjdechekapaaM2
import Derived.Test.YtnomjdechekapaaM3
import Derived.Test.YtnomjdechekapaaM4
import Derived.Test.YtnomjdechekapaaM5
import Derived.Test.YtnomjdechekapaaM6
import Derived.Test.YtnomjdechekapaaM7
import Derived.Test.YtnomjdechekapaaM8
import Derived.Test.YtnomjdechekapaaM9
import Derived.Test.YtnomjdechekapaaM10
import Derived.Test.YtnomjdechekapaaM11

namespace Go.Proofs.Ytnomjdechekapaa
open Go.ChangeShapes Go.WideShapes Go.ChangeAt Go.RowKit Go.Sx

set_option maxRecDepth 100000 in
theorem forkChecks_lifted (os : Os) (started : os.Started) (H : Type) (enc : TypeId × Value → H) :
    ReturnsInHanded {} Try.checked os 3 .any (Rows.forkChecksSpec.pre6 enc Try.prog Try.f3 Rows.forkChecksRow.domain false) (Rows.forkChecksSpec.post enc Try.prog Try.f3 false Rows.forkChecksRow.fresh Rows.forkChecksRow.handsOn Rows.forkChecksRow.again) := by
  refine returnsInHanded_of_change (C := Try.checked) own_none started (by kernel_rfl) Try.func3
    (ChangeSpec.witness6 (enc := enc) (C := Try.checked) false ⟨#[], #[.agg #[.slice none 0 0, .int .i64 0, .int .i64 0]], []⟩ 8 (by kernel_rfl) (by kernel_rfl) (by kernel_rfl) (by kernel_rfl)) ?_
  intro W base args ds gs before hval0 hW _ _
  have hval : ∀ (j : Nat) t v, Try.f3.params[j]? = some t → args[j]? = some v → Value.okWide Try.prog W .any base t v := hval0
  have hW' := hW
  obtain ⟨p, q, hA0, hV, rfl, _, _⟩ := hW
  have hA : DataW.TrodAll enc Try.prog W 0 (fun _ => true) true [24] args.toList ds p := hA0
  obtain ⟨v0, d0, rfl, rfl, h0⟩ := trodAll_one hA
  obtain ⟨rfl, rfl⟩ := trodVars_none hV
  obtain ⟨a0, n0, cap0, P0, H0, A0, N0, C0, X0, best0, fin0, rfl, t0, u0, w0, b0⟩ := open_tree (fun _ => hval 0 _ _ rfl rfl) (fun _ => h0)
  refine (calls_of_owesV okx_Bo oks_Lc Try.func3 (by kernel_rfl) (okl_ForkChecks a0 n0 cap0 P0 H0 A0 N0 C0 X0 best0 fin0 t0 ) (Rho.whole W) W (whole_ok W) (fun p h => (by cases h)) (by
    intro z hz
    simp only [List.mem_cons, List.not_mem_nil, or_false] at hz
    rcases hz with rfl
    · exact b0)).mono fun e W' he => ?_
  obtain ⟨v, rfl, ⟨ρ', hv⟩, hb⟩ := he
  have hv' : v = .bool true := hv
  subst hv'
  exact ⟨_, rfl, law_post (tb := 4) laid_out (by kernel_rfl) (by kernel_rfl) (by kernel_rfl) rfl rfl hW' hb⟩

theorem forkChecks_facts : joinedFacts Try.prog 3 Try.f3 Rows.forkChecksSpec Rows.forkChecksRow = true := by
  unfold joinedFacts
  rw [prog_three.1, prog_three.2.1, prog_three.2.2]
  kernel_rfl
theorem forkChecks_holds : Rows.ForkChecksSaid :=
  OpenClaim.holds_of_wide 3 Try.f3 rfl rfl rfl rfl rfl rfl rfl ⟨rfl, rfl, rfl, rfl, rfl⟩ rfl rfl rfl rfl rfl (by kernel_rfl) Try.func3 forkChecks_facts
    (of_decide_eq_true (by kernel_rfl)) (by unfold Func.isWrapper; first | (rw [if_pos (by decide +kernel)]; kernel_rfl) | (rw [if_neg (by decide +kernel)]; exact ⟨rfl, rfl⟩))
    (fun os started H enc _ => forkChecks_lifted os started H enc)
end Go.Proofs.Ytnomjdechekapaa
