/-
  Laws, for every input: true, and the input reads as it did.
-/
import Derived.Test.YtbkdokofapbagaaLh
import Derived.Test.YtbkdokofapbagaaP27
namespace Go.Proofs.Ytbkdokofapbagaa
open Go.ChangeShapes Go.WideShapes Go.ChangeAt Go.RowKit Go.Sx

set_option maxRecDepth 100000 in
theorem fieldTurns_lifted (os : Os) (started : os.Started) (H : Type) (enc : TypeId × Value → H) :
    ReturnsInHanded {} Try.checked os 14 .any (Rows.fieldTurnsSpec.pre6 enc Try.prog Try.f14 Rows.fieldTurnsRow.domain false) (Rows.fieldTurnsSpec.post enc Try.prog Try.f14 false Rows.fieldTurnsRow.fresh Rows.fieldTurnsRow.handsOn Rows.fieldTurnsRow.again) := by
  refine returnsInHanded_of_change (C := Try.checked) own_none started (by kernel_rfl) Try.func14
    (ChangeSpec.witness6 (enc := enc) (C := Try.checked) false ⟨#[], #[.agg #[.int .i64 0, .int .i64 0, .int .i64 0, .string ⟨#[]⟩], .agg #[.int .i64 0, .int .i64 0, .int .i64 0, .string ⟨#[]⟩], .agg #[.int .i64 0, .int .i64 0, .int .i64 0, .string ⟨#[]⟩]], []⟩ 8 (by kernel_rfl) (by kernel_rfl) (by kernel_rfl) (by kernel_rfl)) ?_
  intro W base args ds gs before hval0 hW _ _
  have hval : ∀ (j : Nat) t v, Try.f14.params[j]? = some t → args[j]? = some v → Value.okWide Try.prog W .any base t v := hval0
  have hW' := hW
  obtain ⟨p, q, hA0, hV, rfl, _, _⟩ := hW
  have hA : DataW.TrodAll enc Try.prog W 0 (fun _ => true) true [23, 23, 23] args.toList ds p := hA0
  obtain ⟨v0, v1, v2, d0, d1, d2, p0, p1, p2, rfl, rfl, rfl, h0, h1, h2⟩ := trodAll_three hA
  obtain ⟨rfl, rfl⟩ := trodVars_none hV
  obtain ⟨k0, a0, b0, s0, rfl, g1, g2, g3⟩ := open_raw (fun _ => hval 0 _ _ rfl rfl) (fun _ => h0)
  obtain ⟨k1, a1, b1, s1, rfl, g4, g5, g6⟩ := open_raw (fun _ => hval 1 _ _ rfl rfl) (fun _ => h1)
  obtain ⟨k2, a2, b2, s2, rfl, g7, g8, g9⟩ := open_raw (fun _ => hval 2 _ _ rfl rfl) (fun _ => h2)
  refine (calls_of_owes cxok_FT Try.func14 (by kernel_rfl) (by
    intro z hz
    simp only [List.mem_cons, List.not_mem_nil, or_false] at hz
    rcases hz with rfl | rfl | rfl
    · exact bnd_raw _ _ _ _
    · exact bnd_raw _ _ _ _
    · exact bnd_raw _ _ _ _) (ok_FieldTurns k0 a0 b0 s0 k1 a1 b1 s1 k2 a2 b2 s2 g1 g2 g3 g4 g5 g6 g7 g8 g9) (fun _ => 0) W).mono fun e W' he => ?_
  obtain ⟨v, rfl, ⟨ρ', hv⟩, hb⟩ := he
  have hv' : v = .bool true := hv
  subst hv'
  exact ⟨_, rfl, law_post (tb := 4) laid_out (by kernel_rfl) (by kernel_rfl) (by kernel_rfl) rfl rfl hW' hb⟩

theorem fieldTurns_facts : joinedFacts Try.prog 14 Try.f14 Rows.fieldTurnsSpec Rows.fieldTurnsRow = true := by
  unfold joinedFacts
  rw [prog_three.1, prog_three.2.1, prog_three.2.2]
  kernel_rfl
theorem fieldTurns_holds : Rows.FieldTurnsSaid :=
  OpenClaim.holds_of_wide 14 Try.f14 rfl rfl rfl rfl rfl rfl rfl ⟨rfl, rfl, rfl, rfl, rfl⟩ rfl rfl rfl rfl rfl (by kernel_rfl) Try.func14 fieldTurns_facts
    (of_decide_eq_true (by kernel_rfl)) (by unfold Func.isWrapper; first | (rw [if_pos (by decide +kernel)]; kernel_rfl) | (rw [if_neg (by decide +kernel)]; exact ⟨rfl, rfl⟩))
    (fun os started H enc _ => fieldTurns_lifted os started H enc)
end Go.Proofs.Ytbkdokofapbagaa
