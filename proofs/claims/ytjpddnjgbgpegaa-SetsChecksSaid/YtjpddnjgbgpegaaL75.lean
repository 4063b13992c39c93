/-
  SetsChecks: for every input, true, and the input reads as it did.
-/
import Derived.Test.YtjpddnjgbgpegaaM1
import Derived.Test.YtjpddnjgbgpegaaM2
import Derived.Test.YtjpddnjgbgpegaaM3
import Derived.Test.YtjpddnjgbgpegaaM4
import Derived.Test.YtjpddnjgbgpegaaM5
import Derived.Test.YtjpddnjgbgpegaaM6
import Derived.Test.YtjpddnjgbgpegaaM7
import Derived.Test.YtjpddnjgbgpegaaM8
import Derived.Test.YtjpddnjgbgpegaaM9
import Derived.Test.YtjpddnjgbgpegaaM10
import Derived.Test.YtjpddnjgbgpegaaRows

namespace Go.Proofs.Ytjpddnjgbgpegaa
open Go.ChangeShapes Go.WideShapes Go.ChangeAt Go.RowKit Go.Sx

theorem prog_three : Try.prog.mayEnter = true ∧ Try.prog.liftsFinal = Rows.setsChecksRow.lifted ∧ Try.prog.make = some Rows.setsChecksRow.make := ⟨by kernel_rfl, by kernel_rfl, by kernel_rfl⟩
theorem own_none : ownKnob Try.prog.godebug = none := by kernel_rfl
theorem laid_out : laidOutB Try.prog = true := by kernel_rfl
theorem oks_Ls : ∀ p ∈ slLs, FnOKs Try.prog Cx.none.gl p.1 p.2 := oks_cons card_sc (oks_cons card_sf oks_nil)

set_option maxRecDepth 100000 in
theorem setsChecks_lifted (os : Os) (started : os.Started) (H : Type) (enc : TypeId × Value → H) :
    ReturnsInHanded {} Try.checked os 5 .any (Rows.setsChecksSpec.pre6 enc Try.prog Try.f5 Rows.setsChecksRow.domain false) (Rows.setsChecksSpec.post enc Try.prog Try.f5 false Rows.setsChecksRow.fresh Rows.setsChecksRow.handsOn Rows.setsChecksRow.again) := by
  refine returnsInHanded_of_change (C := Try.checked) own_none started (by kernel_rfl) Try.func5
    (ChangeSpec.witness6 (enc := enc) (C := Try.checked) false ⟨#[], #[.slice none 0 0], []⟩ 8 (by kernel_rfl) (by kernel_rfl) (by kernel_rfl) (by kernel_rfl)) ?_
  intro W base args ds gs before hval0 hW _ _
  have hval : ∀ (j : Nat) t v, Try.f5.params[j]? = some t → args[j]? = some v → Value.okWide Try.prog W .any base t v := hval0
  have hW' := hW
  obtain ⟨p, q, hA0, hV, rfl, _, _⟩ := hW
  have hA : DataW.TrodAll enc Try.prog W 0 (fun _ => true) true [31] args.toList ds p := hA0
  obtain ⟨v0, d0, rfl, rfl, h0⟩ := trodAll_one hA
  obtain ⟨rfl, rfl⟩ := trodVars_none hV
  obtain ⟨a, n, cap, I, U, A, N, C, K, rfl, hn, hk, _, z0⟩ := open_sets (fun _ => hval 0 _ _ rfl rfl) (fun _ => h0)
  refine (calls_of_owesV (cx := Cx.none) ⟨fun _ h => (by cases h), fun _ h => (by cases h)⟩ oks_Ls Try.func5 (by kernel_rfl) (ok_lsc a n cap I U A N C K hn hk) (Rho.whole W) W (whole_ok W) (fun p h => (by cases h)) (by
    intro z hz
    simp only [List.mem_cons, List.not_mem_nil, or_false] at hz
    rcases hz with rfl
    exact z0)).mono fun e W' he => ?_
  obtain ⟨v, rfl, ⟨ρ', hv⟩, hb⟩ := he
  have hv' : v = .bool true := hv
  subst hv'
  exact ⟨_, rfl, law_post (tb := 4) laid_out (by kernel_rfl) (by kernel_rfl) (by kernel_rfl) rfl rfl hW' hb⟩

theorem setsChecks_facts : joinedFacts Try.prog 5 Try.f5 Rows.setsChecksSpec Rows.setsChecksRow = true := by
  unfold joinedFacts
  rw [prog_three.1, prog_three.2.1, prog_three.2.2]
  kernel_rfl
theorem setsChecks_holds : Rows.SetsChecksSaid :=
  OpenClaim.holds_of_wide 5 Try.f5 rfl rfl rfl rfl rfl rfl rfl ⟨rfl, rfl, rfl, rfl, rfl⟩ rfl rfl rfl rfl rfl (by kernel_rfl) Try.func5 setsChecks_facts
    (of_decide_eq_true (by kernel_rfl)) (by unfold Func.isWrapper; first | (rw [if_pos (by decide +kernel)]; kernel_rfl) | (rw [if_neg (by decide +kernel)]; exact ⟨rfl, rfl⟩))
    (fun os started H enc _ => setsChecks_lifted os started H enc)
end Go.Proofs.Ytjpddnjgbgpegaa
