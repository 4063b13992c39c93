/-
  MarksAll: all marks are told, each once, the lowest one first, for every page, where the table of math/bits holds what its text lays; the input reads as it did.
-/
import Derived.Test.YtggpnmbfjnmfdaaDoorM1
import Derived.Test.YtggpnmbfjnmfdaaDoorM2
import Derived.Test.YtggpnmbfjnmfdaaDoorM3
import Derived.Test.YtggpnmbfjnmfdaaDoorM4
import Derived.Test.YtggpnmbfjnmfdaaDoorM5
import Derived.Test.YtggpnmbfjnmfdaaDoorM6
import Derived.Test.YtggpnmbfjnmfdaaDoorM7
import Derived.Test.YtggpnmbfjnmfdaaDoorM8
import Derived.Test.YtggpnmbfjnmfdaaDoorM9
import Derived.Test.YtggpnmbfjnmfdaaDoorM10
import Derived.Test.YtggpnmbfjnmfdaaDoorTie
import Derived.Test.YtggpnmbfjnmfdaaDoorCards

namespace Go.Proofs.YtggpnmbfjnmfdaaDoor
open Go.ChangeShapes Go.WideShapes Go.ChangeAt Go.RowKit Go.Sx

theorem tabs_ok : tabsB Tryd.prog tabsZ = true := by kernel_rfl
/-- A world whose variables hold the tables. -/
abbrev laidZ : List (String × DataW Unit) := tabsZ.map fun T => (T.name, T.data)
def setRow (h : Array Obj) (T : Tab) : Array Obj :=
  h.modify T.g fun o => match o with
    | .cells _ t frozen => .cells T.vals.toArray t frozen
    | o => o
noncomputable def laidWorld (os : Os) : World :=
  { World.holding Tryd.prog os ⟨#[], #[], []⟩ with heap := tabsZ.foldl setRow (World.holding Tryd.prog os ⟨#[], #[], []⟩).heap }

set_option maxRecDepth 100000 in
theorem marksAll_lifted (os : Os) (started : os.Started) (H : Type) (enc : TypeId × Value → H) :
    ReturnsInHanded {} Tryd.checked os 3 .any (fun w args => (Rows.marksAllSpec.pre enc Tryd.prog Tryd.f3 Rows.marksAllRow.domain false w args ∧ laidMet Tryd.prog laidZ w) ∧ sizedMet enc Tryd.prog Tryd.f3 (OpenSpec.ofChange Rows.marksAllSpec) false w args)
      (Rows.marksAllSpec.post enc Tryd.prog Tryd.f3 false Rows.marksAllRow.fresh Rows.marksAllRow.handsOn Rows.marksAllRow.again) := by
  refine returnsInHanded_of_change_and (C := Tryd.checked) (X := fun w _ => laidMet Tryd.prog laidZ w) (fun _ _ _ hh h => h.of_heap hh) own_none started (by kernel_rfl) Tryd.func3
    (ChangeSpec.witness_at (enc := enc) (C := Tryd.checked) (os := os) (X := fun w _ => laidMet Tryd.prog laidZ w) false (laidWorld os) #[.agg #[.int .u64 0, .int .u64 0, .int .u64 0, .int .u64 0]] 8 rfl (by kernel_rfl) (by kernel_rfl) (by kernel_rfl) (by kernel_rfl) (by kernel_rfl)
      (laidMet_mk tabs_ok fun T hT => by
        rw [List.mem_singleton.1 hT]
        exact ⟨38, (by kernel_rfl)⟩)) ?_
  intro W base args ds gs before hval0 hW _ _ hL _
  have hval : ∀ (j : Nat) t v, Tryd.f3.params[j]? = some t → args[j]? = some v → Value.okWide Tryd.prog W .any base t v := hval0
  have hW' := hW
  obtain ⟨p, q, hA0, hV, rfl, _, _⟩ := hW
  have hA : DataW.TrodAll enc Tryd.prog W 0 (fun _ => true) true [23] args.toList ds p := hA0
  obtain ⟨v0, d0, rfl, rfl, h0⟩ := trodAll_one hA
  obtain ⟨rfl, rfl⟩ := trodVars_none hV
  obtain ⟨n0, rfl⟩ := open_p4 (Rho.whole W) (fun _ => hval 0 _ _ rfl rfl) (fun _ => h0)
  refine (calls_of_owesV okx_Ms oks_Ms Tryd.func3 (by kernel_rfl) (okl_MarksAll n0 ) (Rho.whole W) W (whole_ok W) (globsOK_tabs tabs_ok hL) (by
    intro z hz
    simp only [List.mem_cons, List.not_mem_nil, or_false] at hz
    rcases hz with rfl
    · exact bnd_pgu _)).mono fun e W' he => ?_
  obtain ⟨v, rfl, ⟨ρ', hv⟩, hb⟩ := he
  have hv' : v = .bool true := hv
  subst hv'
  exact ⟨_, rfl, law_post (tb := 4) laid_out (by kernel_rfl) (by kernel_rfl) (by kernel_rfl) rfl rfl hW' hb⟩

theorem marksAll_facts : joinedFacts Tryd.prog 3 Tryd.f3 Rows.marksAllSpec Rows.marksAllRow = true := by
  unfold joinedFacts
  rw [prog_three.1, prog_three.2.1, prog_three.2.2]
  kernel_rfl
theorem marksAll_said : Rows.MarksAllSaid :=
  OpenClaim.holds_of_wide 3 Tryd.f3 rfl rfl rfl rfl rfl rfl rfl ⟨rfl, rfl, rfl, rfl, rfl⟩ rfl rfl rfl rfl rfl (by kernel_rfl) Tryd.func3 marksAll_facts
    (of_decide_eq_true (by kernel_rfl)) (by unfold Func.isWrapper; first | (rw [if_pos (by decide +kernel)]; kernel_rfl) | (rw [if_neg (by decide +kernel)]; exact ⟨rfl, rfl⟩))
    (fun os started H enc _ => marksAll_lifted os started H enc)
set_option maxRecDepth 100000 in
theorem marksAll_holds : Rows.MarksAllCardSaid :=
  Claim7.holds_tied_plain_at .later [] [.data] true (true, "5dc49f66f86e29954884f1cdea39be5fae29ca13cd8d30871fd168a7d1655afd") false
    marksAll_said (fun _ h => by cases h) (by kernel_rfl) (fun _ h => by cases h) marksAll_row_tie rfl ⟨rfl, rfl⟩ (by kernel_rfl) rfl
    (fun f fn hf hfn => by
      obtain rfl : f = 3 := Option.some.inj ((show Tryd.prog.funcNamed "bascule/basculekeep.MarksAll" = some 3 by kernel_rfl).symm.trans hf) |>.symm
      obtain rfl : fn = Tryd.f3 := (Option.some.inj (Tryd.func3.symm.trans hfn)).symm
      exact ⟨by kernel_rfl, fun j t ht => by
        have hp : Tryd.f3.params = #[23] := by kernel_rfl
        rw [hp] at ht
        rcases j with _ | j
        · obtain rfl : 23 = t := by simpa using ht
          exact (by kernel_rfl : Tryd.prog.wantsStandIn 23 = false)
        simp at ht⟩)
    (by kernel_rfl)
end Go.Proofs.YtggpnmbfjnmfdaaDoor
