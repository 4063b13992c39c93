/-
  KeysKnown: for every input, true, and the input reads as it did; the tables hold what the text of the program lays.
-/
import Derived.Test.YtohnkglcabfpjaaDoorM1
import Derived.Test.YtohnkglcabfpjaaDoorM2
import Derived.Test.YtohnkglcabfpjaaDoorM3
import Derived.Test.YtohnkglcabfpjaaDoorM4
import Derived.Test.YtohnkglcabfpjaaDoorM5
import Derived.Test.YtohnkglcabfpjaaDoorM6
import Derived.Test.YtohnkglcabfpjaaDoorM7
import Derived.Test.YtohnkglcabfpjaaDoorM8
import Derived.Test.YtohnkglcabfpjaaDoorM9
import Derived.Test.YtohnkglcabfpjaaDoorM10
import Derived.Test.YtohnkglcabfpjaaDoorM11
import Derived.Test.YtohnkglcabfpjaaDoorM12
import Derived.Test.YtohnkglcabfpjaaDoorM13
import Derived.Test.YtohnkglcabfpjaaDoorTie
import Derived.Test.YtohnkglcabfpjaaDoorCards

namespace Go.Proofs.YtohnkglcabfpjaaDoor
open Go.ChangeShapes Go.WideShapes Go.ChangeAt Go.RowKit Go.Sx

theorem prog_three : Tryd.prog.mayEnter = true ∧ Tryd.prog.liftsFinal = Rows.keysKnownRow.lifted ∧ Tryd.prog.make = some Rows.keysKnownRow.make := ⟨by kernel_rfl, by kernel_rfl, by kernel_rfl⟩
theorem own_none : ownKnob Tryd.prog.godebug = none := by kernel_rfl
theorem laid_out : laidOutB Tryd.prog = true := by kernel_rfl
theorem tabs_ok : tabsB Tryd.prog tabsK = true := by kernel_rfl
/-- A world whose variables hold the tables. -/
abbrev laidK : List (String × DataW Unit) := tabsK.map fun T => (T.name, T.data)
def setRow (h : Array Obj) (T : Tab) : Array Obj :=
  h.modify T.g fun o => match o with
    | .cells _ t frozen => .cells T.vals.toArray t frozen
    | o => o
noncomputable def laidWorld (os : Os) : World :=
  { World.holding Tryd.prog os ⟨#[], #[], []⟩ with heap := tabsK.foldl setRow (World.holding Tryd.prog os ⟨#[], #[], []⟩).heap }
theorem open_i64 {H : Type} {enc : TypeId × Value → H} {W : World} {base b0 : Nat} {sp : Nat → Bool} {held : Bool} {v : Value} {d : DataW H} {ps : List MemPlace}
    (hval : Unit → Value.okWide Tryd.prog W .any b0 3 v) (h : Unit → DataW.Trod enc Tryd.prog W base sp held 3 v d ps) : ∃ a, v = (sI .i64 a).conc (Rho.whole W) ∧ i64ok a := by
  have hu : Tryd.prog.underlying 3 = some (.int .i64) := by kernel_rfl
  obtain ⟨n, e, _, _, w⟩ := open_int hu (by with_reducible exact hval ()) (by with_reducible exact h ())
  exact ⟨n, e, bounds_i64 w⟩
set_option maxRecDepth 100000 in
theorem keysKnown_lifted (os : Os) (started : os.Started) (H : Type) (enc : TypeId × Value → H) :
    ReturnsInHanded {} Tryd.checked os 3 .any (fun w args => (Rows.keysKnownSpec.pre enc Tryd.prog Tryd.f3 Rows.keysKnownRow.domain false w args ∧ laidMet Tryd.prog laidK w) ∧ sizedMet enc Tryd.prog Tryd.f3 (OpenSpec.ofChange Rows.keysKnownSpec) false w args)
      (Rows.keysKnownSpec.post enc Tryd.prog Tryd.f3 false Rows.keysKnownRow.fresh Rows.keysKnownRow.handsOn Rows.keysKnownRow.again) := by
  refine returnsInHanded_of_change_and (C := Tryd.checked) (X := fun w _ => laidMet Tryd.prog laidK w) (fun _ _ _ hh h => h.of_heap hh) own_none started (by kernel_rfl) Tryd.func3
    (ChangeSpec.witness_at (enc := enc) (C := Tryd.checked) (os := os) (X := fun w _ => laidMet Tryd.prog laidK w) false (laidWorld os) #[.int .i64 0] 8 rfl (by kernel_rfl) (by kernel_rfl) (by kernel_rfl) (by kernel_rfl) (by kernel_rfl)
      (laidMet_mk tabs_ok fun T hT => by
        simp only [tabsK, List.mem_cons, List.not_mem_nil, or_false] at hT
        rcases hT with rfl | rfl | rfl
        · exact ⟨85, (by kernel_rfl)⟩
        · exact ⟨97, (by kernel_rfl)⟩
        · exact ⟨97, (by kernel_rfl)⟩)) ?_
  intro W base args ds gs before hval0 hW _ _ hL _
  have hval : ∀ (j : Nat) t v, Tryd.f3.params[j]? = some t → args[j]? = some v → Value.okWide Tryd.prog W .any base t v := hval0
  have hW' := hW
  obtain ⟨p, q, hA0, hV, rfl, _, _⟩ := hW
  have hA : DataW.TrodAll enc Tryd.prog W 0 (fun _ => true) true [3] args.toList ds p := hA0
  obtain ⟨v0, d0, rfl, rfl, h0⟩ := trodAll_one hA
  obtain ⟨rfl, rfl⟩ := trodVars_none hV
  obtain ⟨a0, rfl, g1⟩ := open_i64 (fun _ => hval 0 _ _ rfl rfl) (fun _ => h0)
  refine (calls_of_owesG cxok_KK Tryd.func3 (by kernel_rfl) (ok_KeysKnown a0 g1) (Rho.whole W) W (whole_ok W) (globsOK_tabs tabs_ok hL) (by
    intro z hz
    simp only [List.mem_cons, List.not_mem_nil, or_false] at hz
    rcases hz with rfl
    · trivial)).mono fun e W' he => ?_
  obtain ⟨v, rfl, ⟨ρ', hv⟩, hb⟩ := he
  have hv' : v = .bool true := hv
  subst hv'
  exact ⟨_, rfl, law_post (tb := 4) laid_out (by kernel_rfl) (by kernel_rfl) (by kernel_rfl) rfl rfl hW' hb⟩

theorem keysKnown_facts : joinedFacts Tryd.prog 3 Tryd.f3 Rows.keysKnownSpec Rows.keysKnownRow = true := by
  unfold joinedFacts
  rw [prog_three.1, prog_three.2.1, prog_three.2.2]
  kernel_rfl
theorem keysKnown_said : Rows.KeysKnownSaid :=
  OpenClaim.holds_of_wide 3 Tryd.f3 rfl rfl rfl rfl rfl rfl rfl ⟨rfl, rfl, rfl, rfl, rfl⟩ rfl rfl rfl rfl rfl (by kernel_rfl) Tryd.func3 keysKnown_facts
    (of_decide_eq_true (by kernel_rfl)) (by unfold Func.isWrapper; first | (rw [if_pos (by decide +kernel)]; kernel_rfl) | (rw [if_neg (by decide +kernel)]; exact ⟨rfl, rfl⟩))
    (fun os started H enc _ => keysKnown_lifted os started H enc)
set_option maxRecDepth 100000 in
theorem keysKnown_holds : Rows.KeysKnownCardSaid :=
  Claim7.holds_tied_plain_at .later [] [.data, .data, .data] true (true, "fb0e0d46515dd8fe266ff13c609fabb468c28a80db5d3774f9a1990adcc44cd2") false
    keysKnown_said (fun _ h => by cases h) (by kernel_rfl) (fun _ h => by cases h) keysKnown_row_tie rfl ⟨rfl, rfl⟩ (by kernel_rfl) rfl
    (fun f fn hf hfn => by
      obtain rfl : f = 3 := Option.some.inj ((show Tryd.prog.funcNamed "bascule/basculekeep.KeysKnown" = some 3 by kernel_rfl).symm.trans hf) |>.symm
      obtain rfl : fn = Tryd.f3 := (Option.some.inj (Tryd.func3.symm.trans hfn)).symm
      exact ⟨by kernel_rfl, fun j t ht => by
        have hp : Tryd.f3.params = #[3] := by kernel_rfl
        rw [hp] at ht
        rcases j with _ | j
        · obtain rfl : 3 = t := by simpa using ht
          exact (by kernel_rfl : Tryd.prog.wantsStandIn 3 = false)
        simp at ht⟩)
    (by kernel_rfl)
end Go.Proofs.YtohnkglcabfpjaaDoor
