/-
  CoinMoves: coin.Move answers what the reference answers, for every coin, from whomever to whomever and however much; the input reads as it did.
-/
import Derived.Test.YtnkgniedhmnanaaM1
import Derived.Test.YtnkgniedhmnanaaM2
import Derived.Test.YtnkgniedhmnanaaM3
import Derived.Test.YtnkgniedhmnanaaM4
import Derived.Test.YtnkgniedhmnanaaM5
import Derived.Test.YtnkgniedhmnanaaM6
import Derived.Test.YtnkgniedhmnanaaM7
import Derived.Test.YtnkgniedhmnanaaM8
import Derived.Test.YtnkgniedhmnanaaM9
import Derived.Test.YtnkgniedhmnanaaM10
import Derived.Test.YtnkgniedhmnanaaM11
import Derived.Test.YtnkgniedhmnanaaM12
import Derived.Test.YtnkgniedhmnanaaM13
import Derived.Test.YtnkgniedhmnanaaM14
import Derived.Test.YtnkgniedhmnanaaRows

namespace Go.Proofs.Ytnkgniedhmnanaa
open Go.ChangeShapes Go.WideShapes Go.ChangeAt Go.RowKit Go.Sx

theorem prog_three : Try.prog.mayEnter = true ∧ Try.prog.liftsFinal = Rows.coinMovesRow.lifted ∧ Try.prog.make = some Rows.coinMovesRow.make := ⟨by kernel_rfl, by kernel_rfl, by kernel_rfl⟩
theorem own_none : ownKnob Try.prog.godebug = none := by kernel_rfl
theorem laid_out : laidOutB Try.prog = true := by kernel_rfl

set_option maxRecDepth 100000 in
theorem coinMoves_lifted (os : Os) (started : os.Started) (H : Type) (enc : TypeId × Value → H) :
    ReturnsInHanded {} Try.checked os 7 .any (Rows.coinMovesSpec.pre6 enc Try.prog Try.f7 Rows.coinMovesRow.domain false) (Rows.coinMovesSpec.post enc Try.prog Try.f7 false Rows.coinMovesRow.fresh Rows.coinMovesRow.handsOn Rows.coinMovesRow.again) := by
  refine returnsInHanded_of_change (C := Try.checked) own_none started (by kernel_rfl) Try.func7
    (ChangeSpec.witness6 (enc := enc) (C := Try.checked) false ⟨#[], #[.agg #[.int .u64 0, .int .u64 0, .int .u64 0, .int .u64 0, .slice none 0 0], .agg #[.int .u8 0, .int .u8 0, .int .u8 0, .int .u8 0, .int .u8 0, .int .u8 0, .int .u8 0, .int .u8 0, .int .u8 0, .int .u8 0, .int .u8 0, .int .u8 0, .int .u8 0, .int .u8 0, .int .u8 0, .int .u8 0, .int .u8 0, .int .u8 0, .int .u8 0, .int .u8 0, .int .u8 0, .int .u8 0, .int .u8 0, .int .u8 0, .int .u8 0, .int .u8 0, .int .u8 0, .int .u8 0, .int .u8 0, .int .u8 0, .int .u8 0, .int .u8 0], .agg #[.int .u8 0, .int .u8 0, .int .u8 0, .int .u8 0, .int .u8 0, .int .u8 0, .int .u8 0, .int .u8 0, .int .u8 0, .int .u8 0, .int .u8 0, .int .u8 0, .int .u8 0, .int .u8 0, .int .u8 0, .int .u8 0, .int .u8 0, .int .u8 0, .int .u8 0, .int .u8 0, .int .u8 0, .int .u8 0, .int .u8 0, .int .u8 0, .int .u8 0, .int .u8 0, .int .u8 0, .int .u8 0, .int .u8 0, .int .u8 0, .int .u8 0, .int .u8 0], .agg #[.int .u64 0, .int .u64 0, .int .u64 0, .int .u64 0]], []⟩ 8 (by kernel_rfl) (by kernel_rfl) (by kernel_rfl) (by kernel_rfl)) ?_
  intro W base args ds gs before hval0 hW _ _
  have hval : ∀ (j : Nat) t v, Try.f7.params[j]? = some t → args[j]? = some v → Value.okWide Try.prog W .any base t v := hval0
  have hW' := hW
  obtain ⟨p, q, hA0, hV, rfl, _, _⟩ := hW
  have hA : DataW.TrodAll enc Try.prog W 0 (fun _ => true) true [27, 31, 31, 24] args.toList ds p := hA0
  obtain ⟨v0, v1, v2, v3, d0, d1, d2, d3, p0, p1, p2, p3, rfl, rfl, rfl, h0, h1, h2, h3⟩ := trodAll_four hA
  obtain ⟨rfl, rfl⟩ := trodVars_none hV
  obtain ⟨s0, a0, n0, cap0, W0, A0, rfl, g0, z0⟩ := open_Cn (fun _ => hval 0 _ _ rfl rfl) (fun _ => h0)
  obtain ⟨w1, rfl, g1⟩ := open_wh (fun _ => hval 1 _ _ rfl rfl) (fun _ => h1)
  obtain ⟨w2, rfl, g2⟩ := open_wh (fun _ => hval 2 _ _ rfl rfl) (fun _ => h2)
  obtain ⟨x3, rfl, g3⟩ := open_un (fun _ => hval 3 _ _ rfl rfl) (fun _ => h3)
  refine (calls_of_owesV okx_14 oks_Lv Try.func7 (by kernel_rfl) (okl_CoinMoves s0 a0 n0 cap0 W0 A0 w1 w2 x3 g0 g1 g2 g3) (Rho.whole W) W (whole_ok W) (fun p h => (by cases h)) (by
    intro z hz
    simp only [List.mem_cons, List.not_mem_nil, or_false] at hz
    rcases hz with rfl | rfl | rfl | rfl
    · exact bnd_Cn z0
    · exact bnd_wh _
    · exact bnd_wh _
    · exact bnd_Un _)).mono fun e W' he => ?_
  obtain ⟨v, rfl, ⟨ρ', hv⟩, hb⟩ := he
  have hv' : v = .bool true := hv
  subst hv'
  exact ⟨_, rfl, law_post (tb := 4) laid_out (by kernel_rfl) (by kernel_rfl) (by kernel_rfl) rfl rfl hW' hb⟩

theorem coinMoves_facts : joinedFacts Try.prog 7 Try.f7 Rows.coinMovesSpec Rows.coinMovesRow = true := by
  unfold joinedFacts
  rw [prog_three.1, prog_three.2.1, prog_three.2.2]
  kernel_rfl
theorem coinMoves_holds : Rows.CoinMovesSaid :=
  OpenClaim.holds_of_wide 7 Try.f7 rfl rfl rfl rfl rfl rfl rfl ⟨rfl, rfl, rfl, rfl, rfl⟩ rfl rfl rfl rfl rfl (by kernel_rfl) Try.func7 coinMoves_facts
    (of_decide_eq_true (by kernel_rfl)) (by unfold Func.isWrapper; first | (rw [if_pos (by decide +kernel)]; kernel_rfl) | (rw [if_neg (by decide +kernel)]; exact ⟨rfl, rfl⟩))
    (fun os started H enc _ => coinMoves_lifted os started H enc)
end Go.Proofs.Ytnkgniedhmnanaa
