/-
  SeenAll: seen.All and seen.Both answer what the reference answers, for every two pages, where the table of math/bits holds what its text lays; the input reads as it did.
-/
import Derived.Test.YtbedejilhhedlaaDoorM1
import Derived.Test.YtbedejilhhedlaaDoorM2
import Derived.Test.YtbedejilhhedlaaDoorM3
import Derived.Test.YtbedejilhhedlaaDoorM4
import Derived.Test.YtbedejilhhedlaaDoorM5
import Derived.Test.YtbedejilhhedlaaDoorM6
import Derived.Test.YtbedejilhhedlaaDoorM7
import Derived.Test.YtbedejilhhedlaaDoorM8
import Derived.Test.YtbedejilhhedlaaDoorM9
import Derived.Test.YtbedejilhhedlaaDoorM10
import Derived.Test.YtbedejilhhedlaaDoorM11
import Derived.Test.YtbedejilhhedlaaDoorTie
import Derived.Test.YtbedejilhhedlaaDoorCards

namespace Go.Proofs.YtbedejilhhedlaaDoor
open Go.ChangeShapes Go.WideShapes Go.ChangeAt Go.RowKit Go.Sx

theorem tabs_ok : tabsB Tryd.prog tabsZ = true := by kernel_rfl
/-- A world whose variables hold the tables. -/
abbrev laidZ : List (String × DataW Unit) := tabsZ.map fun T => (T.name, T.data)
def setRow (h : Array Obj) (T : Tab) : Array Obj :=
  h.modify T.g fun o => match o with
    | .cells _ t frozen => .cells T.vals.toArray t frozen
    | o => o
noncomputable def laidWorld (os : Os) : World :=
  { World.holding Tryd.prog os ⟨#[], #[], []⟩ with heap := tabsZ.foldl setRow (World.holding Tryd.prog os ⟨#[], #[], []⟩).heap }

set_option maxRecDepth 100000 in
theorem seenAll_lifted (os : Os) (started : os.Started) (H : Type) (enc : TypeId × Value → H) :
    ReturnsInHanded {} Tryd.checked os 3 .any (fun w args => (Rows.seenAllSpec.pre enc Tryd.prog Tryd.f3 Rows.seenAllRow.domain false w args ∧ laidMet Tryd.prog laidZ w) ∧ sizedMet enc Tryd.prog Tryd.f3 (OpenSpec.ofChange Rows.seenAllSpec) false w args)
      (Rows.seenAllSpec.post enc Tryd.prog Tryd.f3 false Rows.seenAllRow.fresh Rows.seenAllRow.handsOn Rows.seenAllRow.again) := by
  refine returnsInHanded_of_change_and (C := Tryd.checked) (X := fun w _ => laidMet Tryd.prog laidZ w) (fun _ _ _ hh h => h.of_heap hh) own_none started (by kernel_rfl) Tryd.func3
    (ChangeSpec.witness_at (enc := enc) (C := Tryd.checked) (os := os) (X := fun w _ => laidMet Tryd.prog laidZ w) false (laidWorld os) #[.agg #[.int .u64 0, .int .u64 0, .int .u64 0, .int .u64 0], .agg #[.int .u64 0, .int .u64 0, .int .u64 0, .int .u64 0]] 8 rfl (by kernel_rfl) (by kernel_rfl) (by kernel_rfl) (by kernel_rfl) (by kernel_rfl)
      (laidMet_mk tabs_ok fun T hT => by
        rw [List.mem_singleton.1 hT]
        exact ⟨40, (by kernel_rfl)⟩)) ?_
  intro W base args ds gs before hval0 hW _ _ hL _
  have hval : ∀ (j : Nat) t v, Tryd.f3.params[j]? = some t → args[j]? = some v → Value.okWide Tryd.prog W .any base t v := hval0
  have hW' := hW
  obtain ⟨p, q, hA0, hV, rfl, _, _⟩ := hW
  have hA : DataW.TrodAll enc Tryd.prog W 0 (fun _ => true) true [24, 24] args.toList ds p := hA0
  obtain ⟨v0, v1, d0, d1, p0, p1, rfl, rfl, rfl, h0, h1⟩ := trodAll_two hA
  obtain ⟨rfl, rfl⟩ := trodVars_none hV
  obtain ⟨n0, rfl⟩ := open_pg (Rho.whole W) (fun _ => hval 0 _ _ rfl rfl) (fun _ => h0)
  obtain ⟨n1, rfl⟩ := open_pg (Rho.whole W) (fun _ => hval 1 _ _ rfl rfl) (fun _ => h1)
  refine (calls_of_owesV okx_La oks_La Tryd.func3 (by kernel_rfl) (okl_SeenAll n0 n1 ) (Rho.whole W) W (whole_ok W) (globsOK_tabs tabs_ok hL) (by
    intro z hz
    simp only [List.mem_cons, List.not_mem_nil, or_false] at hz
    rcases hz with rfl | rfl
    · exact bnd_pgu _
    · exact bnd_pgu _)).mono fun e W' he => ?_
  obtain ⟨v, rfl, ⟨ρ', hv⟩, hb⟩ := he
  have hv' : v = .bool true := hv
  subst hv'
  exact ⟨_, rfl, law_post (tb := 4) laid_out (by kernel_rfl) (by kernel_rfl) (by kernel_rfl) rfl rfl hW' hb⟩

theorem seenAll_facts : joinedFacts Tryd.prog 3 Tryd.f3 Rows.seenAllSpec Rows.seenAllRow = true := by
  unfold joinedFacts
  rw [prog_three.1, prog_three.2.1, prog_three.2.2]
  kernel_rfl
theorem seenAll_said : Rows.SeenAllSaid :=
  OpenClaim.holds_of_wide 3 Tryd.f3 rfl rfl rfl rfl rfl rfl rfl ⟨rfl, rfl, rfl, rfl, rfl⟩ rfl rfl rfl rfl rfl (by kernel_rfl) Tryd.func3 seenAll_facts
    (of_decide_eq_true (by kernel_rfl)) (by unfold Func.isWrapper; first | (rw [if_pos (by decide +kernel)]; kernel_rfl) | (rw [if_neg (by decide +kernel)]; exact ⟨rfl, rfl⟩))
    (fun os started H enc _ => seenAll_lifted os started H enc)
set_option maxRecDepth 100000 in
theorem seenAll_holds : Rows.SeenAllCardSaid :=
  Claim7.holds_tied_plain_at .later [] [.data] true (true, "d98c6ac4992403e291d51892b82e125b84acb41c67b68062c6c292988dd91b1a") false
    seenAll_said (fun _ h => by cases h) (by kernel_rfl) (fun _ h => by cases h) seenAll_row_tie rfl ⟨rfl, rfl⟩ (by kernel_rfl) rfl
    (fun f fn hf hfn => by
      obtain rfl : f = 3 := Option.some.inj ((show Tryd.prog.funcNamed "bascule/basculelaw.SeenAll" = some 3 by kernel_rfl).symm.trans hf) |>.symm
      obtain rfl : fn = Tryd.f3 := (Option.some.inj (Tryd.func3.symm.trans hfn)).symm
      exact ⟨by kernel_rfl, fun j t ht => by
        have hp : Tryd.f3.params = #[24, 24] := by kernel_rfl
        rw [hp] at ht
        rcases j with _ | j
        · obtain rfl : 24 = t := by simpa using ht
          exact (by kernel_rfl : Tryd.prog.wantsStandIn 24 = false)
        rcases j with _ | j
        · obtain rfl : 24 = t := by simpa using ht
          exact (by kernel_rfl : Tryd.prog.wantsStandIn 24 = false)
        simp at ht⟩)
    (by kernel_rfl)
end Go.Proofs.YtbedejilhhedlaaDoor
