/-
  SetsTurns: for every input, true, and the input reads as it did.
-/
import Derived.Test.YtjpddnjgbgpegaaM1
import Derived.Test.YtjpddnjgbgpegaaM2
import Derived.Test.YtjpddnjgbgpegaaM3
import Derived.Test.YtjpddnjgbgpegaaM4
import Derived.Test.YtjpddnjgbgpegaaM5
import Derived.Test.YtjpddnjgbgpegaaM6
import Derived.Test.YtjpddnjgbgpegaaM7
import Derived.Test.YtjpddnjgbgpegaaM8
import Derived.Test.YtjpddnjgbgpegaaM9
import Derived.Test.YtjpddnjgbgpegaaM10
import Derived.Test.YtjpddnjgbgpegaaM11
import Derived.Test.YtjpddnjgbgpegaaM12
import Derived.Test.YtjpddnjgbgpegaaRows

namespace Go.Proofs.Ytjpddnjgbgpegaa
open Go.ChangeShapes Go.WideShapes Go.ChangeAt Go.RowKit Go.Sx

theorem prog_three : Try.prog.mayEnter = true ∧ Try.prog.liftsFinal = Rows.setsTurnsRow.lifted ∧ Try.prog.make = some Rows.setsTurnsRow.make := ⟨by kernel_rfl, by kernel_rfl, by kernel_rfl⟩
theorem own_none : ownKnob Try.prog.godebug = none := by kernel_rfl
theorem laid_out : laidOutB Try.prog = true := by kernel_rfl

set_option maxRecDepth 100000 in
theorem setsTurns_lifted (os : Os) (started : os.Started) (H : Type) (enc : TypeId × Value → H) :
    ReturnsInHanded {} Try.checked os 7 .any (Rows.setsTurnsSpec.pre6 enc Try.prog Try.f7 Rows.setsTurnsRow.domain false) (Rows.setsTurnsSpec.post enc Try.prog Try.f7 false Rows.setsTurnsRow.fresh Rows.setsTurnsRow.handsOn Rows.setsTurnsRow.again) := by
  refine returnsInHanded_of_change (C := Try.checked) own_none started (by kernel_rfl) Try.func7
    (ChangeSpec.witness6 (enc := enc) (C := Try.checked) false ⟨#[], #[.slice none 0 0, .slice none 0 0, .int .i64 0], []⟩ 8 (by kernel_rfl) (by kernel_rfl) (by kernel_rfl) (by kernel_rfl)) ?_
  intro W base args ds gs before hval0 hW _ _
  have hval : ∀ (j : Nat) t v, Try.f7.params[j]? = some t → args[j]? = some v → Value.okWide Try.prog W .any base t v := hval0
  have hW' := hW
  obtain ⟨p, q, hA0, hV, rfl, _, _⟩ := hW
  have hA : DataW.TrodAll enc Try.prog W 0 (fun _ => true) true [31, 34, 3] args.toList ds p := hA0
  obtain ⟨v0, v1, v2, d0, d1, d2, q0, q1, q2, rfl, rfl, rfl, h0, h1, h2⟩ := trodAll_three hA
  obtain ⟨rfl, rfl⟩ := trodVars_none hV
  obtain ⟨a, n, cap, I, U, A, N, C, K, rfl, hn, hk, _, z0⟩ := open_sets (fun _ => hval 0 _ _ rfl rfl) (fun _ => h0)
  obtain ⟨b, m, cb, l, rfl, hl, z1⟩ := open_keys (fun _ => hval 1 _ _ rfl rfl) (fun _ => h1)
  obtain ⟨now, rfl, g2⟩ := open_i64 (fun _ => hval 2 _ _ rfl rfl) (fun _ => h2)
  have hz : ∀ z ∈ [sXs a n cap I U A N C K, sXk b m cb l, sI .i64 now], z.bnd ⟨fun _ => False, (Rho.whole W).fz⟩ := by
    intro z hz
    simp only [List.mem_cons, List.not_mem_nil, or_false] at hz
    rcases hz with rfl | rfl | rfl
    · exact z0
    · exact z1
    · trivial
  have run : Calls Try.prog 7 ([sXs a n cap I U A N C K, sXk b m cb l, sI .i64 now].map (SA.conc (Rho.whole W))).toArray W fun e w' => ∃ v, e = .returned v ∧ (∃ ρ', yes.rep ρ' v) ∧ Below W.heap.size W w' := by
    by_cases h : stE n I U N K = 0
    · exact calls_of_owesV okx_Tu oks_Tu Try.func7 (by kernel_rfl) (ok_tu a n cap I U A N C K b m cb l now hn z0.2.1 hk hl g2 h) (Rho.whole W) W (whole_ok W) (fun p h => (by cases h)) hz
    · exact calls_of_owesV okx_Tg oks_Tg Try.func7 (by kernel_rfl) (ok_tug a n cap I U A N C K b m cb l now hn hk h) (Rho.whole W) W (whole_ok W) (fun p h => (by cases h)) hz
  refine run.mono fun e W' he => ?_
  obtain ⟨v, rfl, ⟨ρ', hv⟩, hb⟩ := he
  have hv' : v = .bool true := hv
  subst hv'
  exact ⟨_, rfl, law_post (tb := 4) laid_out (by kernel_rfl) (by kernel_rfl) (by kernel_rfl) rfl rfl hW' hb⟩

theorem setsTurns_facts : joinedFacts Try.prog 7 Try.f7 Rows.setsTurnsSpec Rows.setsTurnsRow = true := by
  unfold joinedFacts
  rw [prog_three.1, prog_three.2.1, prog_three.2.2]
  kernel_rfl
theorem setsTurns_holds : Rows.SetsTurnsSaid :=
  OpenClaim.holds_of_wide 7 Try.f7 rfl rfl rfl rfl rfl rfl rfl ⟨rfl, rfl, rfl, rfl, rfl⟩ rfl rfl rfl rfl rfl (by kernel_rfl) Try.func7 setsTurns_facts
    (of_decide_eq_true (by kernel_rfl)) (by unfold Func.isWrapper; first | (rw [if_pos (by decide +kernel)]; kernel_rfl) | (rw [if_neg (by decide +kernel)]; exact ⟨rfl, rfl⟩))
    (fun os started H enc _ => setsTurns_lifted os started H enc)
end Go.Proofs.Ytjpddnjgbgpegaa
