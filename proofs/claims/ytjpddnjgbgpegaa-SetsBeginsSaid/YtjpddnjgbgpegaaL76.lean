/-
  SetsBegins: for every input, true, and the input reads as it did.
-/
import Derived.Test.YtjpddnjgbgpegaaM1
import Derived.Test.YtjpddnjgbgpegaaM2
import Derived.Test.YtjpddnjgbgpegaaM3
import Derived.Test.YtjpddnjgbgpegaaM4
import Derived.Test.YtjpddnjgbgpegaaM5
import Derived.Test.YtjpddnjgbgpegaaM6
import Derived.Test.YtjpddnjgbgpegaaM7
import Derived.Test.YtjpddnjgbgpegaaM8
import Derived.Test.YtjpddnjgbgpegaaM9
import Derived.Test.YtjpddnjgbgpegaaM10
import Derived.Test.YtjpddnjgbgpegaaRows

namespace Go.Proofs.Ytjpddnjgbgpegaa
open Go.ChangeShapes Go.WideShapes Go.ChangeAt Go.RowKit Go.Sx

theorem prog_three : Try.prog.mayEnter = true ∧ Try.prog.liftsFinal = Rows.setsBeginsRow.lifted ∧ Try.prog.make = some Rows.setsBeginsRow.make := ⟨by kernel_rfl, by kernel_rfl, by kernel_rfl⟩
theorem own_none : ownKnob Try.prog.godebug = none := by kernel_rfl
theorem laid_out : laidOutB Try.prog = true := by kernel_rfl
theorem okx_Be : CxOK Try.prog cxBe := okx_mark (okx_mark (okx_mark (okx_mark (okx_mark (okx_mark (okx_mark okx_nil))))))
theorem oks_Be : ∀ p ∈ slBe, FnOKs Try.prog cxBe.gl p.1 p.2 := oks_cons card_lk (oks_cons card_kf (oks_cons card_ss oks_nil))

set_option maxRecDepth 100000 in
theorem setsBegins_lifted (os : Os) (started : os.Started) (H : Type) (enc : TypeId × Value → H) :
    ReturnsInHanded {} Try.checked os 6 .any (Rows.setsBeginsSpec.pre6 enc Try.prog Try.f6 Rows.setsBeginsRow.domain false) (Rows.setsBeginsSpec.post enc Try.prog Try.f6 false Rows.setsBeginsRow.fresh Rows.setsBeginsRow.handsOn Rows.setsBeginsRow.again) := by
  refine returnsInHanded_of_change (C := Try.checked) own_none started (by kernel_rfl) Try.func6
    (ChangeSpec.witness6 (enc := enc) (C := Try.checked) false ⟨#[], #[.slice none 0 0], []⟩ 8 (by kernel_rfl) (by kernel_rfl) (by kernel_rfl) (by kernel_rfl)) ?_
  intro W base args ds gs before hval0 hW _ _
  have hval : ∀ (j : Nat) t v, Try.f6.params[j]? = some t → args[j]? = some v → Value.okWide Try.prog W .any base t v := hval0
  have hW' := hW
  obtain ⟨p, q, hA0, hV, rfl, _, _⟩ := hW
  have hA : DataW.TrodAll enc Try.prog W 0 (fun _ => true) true [34] args.toList ds p := hA0
  obtain ⟨v0, d0, rfl, rfl, h0⟩ := trodAll_one hA
  obtain ⟨rfl, rfl⟩ := trodVars_none hV
  obtain ⟨a, n, cap, k, rfl, hk, z0⟩ := open_keys (fun _ => hval 0 _ _ rfl rfl) (fun _ => h0)
  refine (calls_of_owesV okx_Be oks_Be Try.func6 (by kernel_rfl) (ok_lbe a n cap k hk) (Rho.whole W) W (whole_ok W) (fun p h => (by cases h)) (by
    intro z hz
    simp only [List.mem_cons, List.not_mem_nil, or_false] at hz
    rcases hz with rfl
    exact z0)).mono fun e W' he => ?_
  obtain ⟨v, rfl, ⟨ρ', hv⟩, hb⟩ := he
  have hv' : v = .bool true := hv
  subst hv'
  exact ⟨_, rfl, law_post (tb := 4) laid_out (by kernel_rfl) (by kernel_rfl) (by kernel_rfl) rfl rfl hW' hb⟩

theorem setsBegins_facts : joinedFacts Try.prog 6 Try.f6 Rows.setsBeginsSpec Rows.setsBeginsRow = true := by
  unfold joinedFacts
  rw [prog_three.1, prog_three.2.1, prog_three.2.2]
  kernel_rfl
theorem setsBegins_holds : Rows.SetsBeginsSaid :=
  OpenClaim.holds_of_wide 6 Try.f6 rfl rfl rfl rfl rfl rfl rfl ⟨rfl, rfl, rfl, rfl, rfl⟩ rfl rfl rfl rfl rfl (by kernel_rfl) Try.func6 setsBegins_facts
    (of_decide_eq_true (by kernel_rfl)) (by unfold Func.isWrapper; first | (rw [if_pos (by decide +kernel)]; kernel_rfl) | (rw [if_neg (by decide +kernel)]; exact ⟨rfl, rfl⟩))
    (fun os started H enc _ => setsBegins_lifted os started H enc)
end Go.Proofs.Ytjpddnjgbgpegaa
