/-
  Laws, for every input: true, and the input reads as it did.
-/
import Derived.Test.YtbkginommedheaaM1
import Derived.Test.YtbkginommedheaaM2
import Derived.Test.YtbkginommedheaaM3
import Derived.Test.YtbkginommedheaaM4
import Derived.Test.YtbkginommedheaaM5
import Derived.Test.YtbkginommedheaaM6
import Derived.Test.YtbkginommedheaaM7
import Derived.Test.YtbkginommedheaaM8
import Derived.Test.YtbkginommedheaaM9
namespace Go.Proofs.Ytbkginommedheaa
open Go.ChangeShapes Go.WideShapes Go.ChangeAt Go.RowKit Go.Sx

set_option maxRecDepth 100000 in
theorem inverseBack_lifted (os : Os) (started : os.Started) (H : Type) (enc : TypeId × Value → H) :
    ReturnsInHanded {} Try.checked os 3 .any (Rows.inverseBackSpec.pre6 enc Try.prog Try.f3 Rows.inverseBackRow.domain false) (Rows.inverseBackSpec.post enc Try.prog Try.f3 false Rows.inverseBackRow.fresh Rows.inverseBackRow.handsOn Rows.inverseBackRow.again) := by
  refine returnsInHanded_of_change (C := Try.checked) own_none started (by kernel_rfl) Try.func3
    (ChangeSpec.witness6 (enc := enc) (C := Try.checked) false ⟨#[], #[.agg #[.int .i64 0, .int .i64 0, .int .i64 0, .string ⟨#[]⟩], .agg #[.int .i64 0, .int .i64 0, .int .i64 0, .string ⟨#[]⟩]], []⟩ 8 (by kernel_rfl) (by kernel_rfl) (by kernel_rfl) (by kernel_rfl)) ?_
  intro W base args ds gs before hval0 hW _ _
  have hval : ∀ (j : Nat) t v, Try.f3.params[j]? = some t → args[j]? = some v → Value.okWide Try.prog W .any base t v := hval0
  have hW' := hW
  obtain ⟨p, q, hA0, hV, rfl, _, _⟩ := hW
  have hA : DataW.TrodAll enc Try.prog W 0 (fun _ => true) true [23, 23] args.toList ds p := hA0
  obtain ⟨v0, v1, d0, d1, p0, p1, rfl, rfl, rfl, h0, h1⟩ := trodAll_two hA
  obtain ⟨rfl, rfl⟩ := trodVars_none hV
  obtain ⟨k0, a0, b0, s0, rfl, g1, g2, g3⟩ := open_raw (fun _ => hval 0 _ _ rfl rfl) (fun _ => h0)
  obtain ⟨k1, a1, b1, s1, rfl, g4, g5, g6⟩ := open_raw (fun _ => hval 1 _ _ rfl rfl) (fun _ => h1)
  refine (calls_of_owes cxok_IB Try.func3 (by kernel_rfl) (by
    intro z hz
    simp only [List.mem_cons, List.not_mem_nil, or_false] at hz
    rcases hz with rfl | rfl
    · exact bnd_raw _ _ _ _
    · exact bnd_raw _ _ _ _) (ok_InverseBack k0 a0 b0 s0 k1 a1 b1 s1 g1 g2 g3 g4 g5 g6) (fun _ => 0) W).mono fun e W' he => ?_
  obtain ⟨v, rfl, ⟨ρ', hv⟩, hb⟩ := he
  have hv' : v = .bool true := hv
  subst hv'
  exact ⟨_, rfl, law_post (tb := 4) laid_out (by kernel_rfl) (by kernel_rfl) (by kernel_rfl) rfl rfl hW' hb⟩

theorem inverseBack_facts : joinedFacts Try.prog 3 Try.f3 Rows.inverseBackSpec Rows.inverseBackRow = true := by
  unfold joinedFacts
  rw [prog_three.1, prog_three.2.1, prog_three.2.2]
  kernel_rfl
theorem inverseBack_holds : Rows.InverseBackSaid :=
  OpenClaim.holds_of_wide 3 Try.f3 rfl rfl rfl rfl rfl rfl rfl ⟨rfl, rfl, rfl, rfl, rfl⟩ rfl rfl rfl rfl rfl (by kernel_rfl) Try.func3 inverseBack_facts
    (of_decide_eq_true (by kernel_rfl)) (by unfold Func.isWrapper; first | (rw [if_pos (by decide +kernel)]; kernel_rfl) | (rw [if_neg (by decide +kernel)]; exact ⟨rfl, rfl⟩))
    (fun os started H enc _ => inverseBack_lifted os started H enc)
end Go.Proofs.Ytbkginommedheaa
