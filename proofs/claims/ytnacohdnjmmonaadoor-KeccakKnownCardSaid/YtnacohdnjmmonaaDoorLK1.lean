/-
  KeccakParts and KeccakKnown: for every input, true, and the input reads as it did; the tables hold what the text of the program lays.
-/
import Derived.Test.YtnacohdnjmmonaaDoorM1
import Derived.Test.YtnacohdnjmmonaaDoorM2
import Derived.Test.YtnacohdnjmmonaaDoorM3
import Derived.Test.YtnacohdnjmmonaaDoorM4
import Derived.Test.YtnacohdnjmmonaaDoorM5
import Derived.Test.YtnacohdnjmmonaaDoorM6
import Derived.Test.YtnacohdnjmmonaaDoorM7
import Derived.Test.YtnacohdnjmmonaaDoorM8
import Derived.Test.YtnacohdnjmmonaaDoorM9
import Derived.Test.YtnacohdnjmmonaaDoorTie
import Derived.Test.YtnacohdnjmmonaaDoorCards
namespace Go.Proofs.YtnacohdnjmmonaaDoor
open Go.ChangeShapes Go.WideShapes Go.ChangeAt Go.RowKit Go.Sx

theorem prog_three : Tryd.prog.mayEnter = true ∧ Tryd.prog.liftsFinal = Rows.keccakPartsRow.lifted ∧ Tryd.prog.make = some Rows.keccakPartsRow.make := ⟨by kernel_rfl, by kernel_rfl, by kernel_rfl⟩
theorem own_none : ownKnob Tryd.prog.godebug = none := by kernel_rfl
theorem laid_out : laidOutB Tryd.prog = true := by kernel_rfl
theorem tabs_ok : tabsB Tryd.prog tabsK = true := by kernel_rfl
/-- A world whose variables hold the tables. -/
abbrev laidK : List (String × DataW Unit) := tabsK.map fun T => (T.name, T.data)
def setRow (h : Array Obj) (T : Tab) : Array Obj :=
  h.modify T.g fun o => match o with
    | .cells _ t frozen => .cells T.vals.toArray t frozen
    | o => o
noncomputable def laidWorld (os : Os) : World :=
  { World.holding Tryd.prog os ⟨#[], #[], []⟩ with heap := tabsK.foldl setRow (World.holding Tryd.prog os ⟨#[], #[], []⟩).heap }
theorem open_i64 {H : Type} {enc : TypeId × Value → H} {W : World} {base b0 : Nat} {sp : Nat → Bool} {held : Bool} {v : Value} {d : DataW H} {ps : List MemPlace}
    (hval : Unit → Value.okWide Tryd.prog W .any b0 3 v) (h : Unit → DataW.Trod enc Tryd.prog W base sp held 3 v d ps) : ∃ a, v = (sI .i64 a).conc (Rho.whole W) ∧ i64ok a := by
  have hu : Tryd.prog.underlying 3 = some (.int .i64) := by kernel_rfl
  obtain ⟨n, e, _, _, w⟩ := open_int hu (by with_reducible exact hval ()) (by with_reducible exact h ())
  exact ⟨n, e, bounds_i64 w⟩
theorem open_bs {H : Type} {enc : TypeId × Value → H} {W : World} {base b0 : Nat} {sp : Nat → Bool} {held : Bool} {v : Value} {d : DataW H} {ps : List MemPlace}
    (hval : Unit → Value.okWide Tryd.prog W .any b0 22 v) (h : Unit → DataW.Trod enc Tryd.prog W base sp held 22 v d ps) :
    ∃ (a : Option Addr) (n cap : Nat) (f : Nat → Int), v = (sXs a n cap f).conc (Rho.whole W) ∧ n ≤ maxLen ∧ (∀ i, 0 ≤ f i ∧ f i < 256) ∧ SA.bnd ⟨fun _ => False, (Rho.whole W).fz⟩ (sXs a n cap f) := by
  have hu : Tryd.prog.underlying 22 = some (.slice 5) := by kernel_rfl
  have hu2 : Tryd.prog.underlying 5 = some (.int .u8) := by kernel_rfl
  exact open_bytes hu hu2 (by kernel_rfl) (by with_reducible exact hval ()) (by with_reducible exact h ())

set_option maxRecDepth 100000 in
theorem keccakParts_lifted (os : Os) (started : os.Started) (H : Type) (enc : TypeId × Value → H) :
    ReturnsInHanded {} Tryd.checked os 3 .any (fun w args => (Rows.keccakPartsSpec.pre enc Tryd.prog Tryd.f3 Rows.keccakPartsRow.domain false w args ∧ laidMet Tryd.prog laidK w) ∧ sizedMet enc Tryd.prog Tryd.f3 (OpenSpec.ofChange Rows.keccakPartsSpec) false w args)
      (Rows.keccakPartsSpec.post enc Tryd.prog Tryd.f3 false Rows.keccakPartsRow.fresh Rows.keccakPartsRow.handsOn Rows.keccakPartsRow.again) := by
  refine returnsInHanded_of_change_and (C := Tryd.checked) (X := fun w _ => laidMet Tryd.prog laidK w) (fun _ _ _ hh h => h.of_heap hh) own_none started (by kernel_rfl) Tryd.func3
    (ChangeSpec.witness_at (enc := enc) (C := Tryd.checked) (os := os) (X := fun w _ => laidMet Tryd.prog laidK w) false (laidWorld os) #[.slice none 0 0, .int .i64 0, .int .i64 0] 8 rfl (by kernel_rfl) (by kernel_rfl) (by kernel_rfl) (by kernel_rfl) (by kernel_rfl)
      (laidMet_mk tabs_ok fun T hT => by
        simp only [tabsK, List.mem_cons, List.not_mem_nil, or_false] at hT
        rcases hT with rfl | rfl | rfl
        · exact ⟨47, (by kernel_rfl)⟩
        · exact ⟨51, (by kernel_rfl)⟩
        · exact ⟨51, (by kernel_rfl)⟩)) ?_
  intro W base args ds gs before hval0 hW _ _ hL _
  have hval : ∀ (j : Nat) t v, Tryd.f3.params[j]? = some t → args[j]? = some v → Value.okWide Tryd.prog W .any base t v := hval0
  have hW' := hW
  obtain ⟨p, q, hA0, hV, rfl, _, _⟩ := hW
  have hA : DataW.TrodAll enc Tryd.prog W 0 (fun _ => true) true [22, 3, 3] args.toList ds p := hA0
  obtain ⟨v0, v1, v2, d0, d1, d2, p0, p1, p2, rfl, rfl, rfl, h0, h1, h2⟩ := trodAll_three hA
  obtain ⟨rfl, rfl⟩ := trodVars_none hV
  obtain ⟨a0, n0, c0, b0, rfl, g1, g2, g3⟩ := open_bs (fun _ => hval 0 _ _ rfl rfl) (fun _ => h0)
  obtain ⟨a1, rfl, g4⟩ := open_i64 (fun _ => hval 1 _ _ rfl rfl) (fun _ => h1)
  obtain ⟨a2, rfl, g5⟩ := open_i64 (fun _ => hval 2 _ _ rfl rfl) (fun _ => h2)
  refine (calls_of_owesG cxok_Law Tryd.func3 (by kernel_rfl) (ok_KeccakParts a0 n0 c0 b0 a1 a2 g4 g5) (Rho.whole W) W (whole_ok W) (globsOK_tabs tabs_ok hL) (by
    intro z hz
    simp only [List.mem_cons, List.not_mem_nil, or_false] at hz
    rcases hz with rfl | rfl | rfl
    · exact g3
    · trivial
    · trivial)).mono fun e W' he => ?_
  obtain ⟨v, rfl, ⟨ρ', hv⟩, hb⟩ := he
  have hv' : v = .bool true := hv
  subst hv'
  exact ⟨_, rfl, law_post (tb := 4) laid_out (by kernel_rfl) (by kernel_rfl) (by kernel_rfl) rfl rfl hW' hb⟩

theorem keccakParts_facts : joinedFacts Tryd.prog 3 Tryd.f3 Rows.keccakPartsSpec Rows.keccakPartsRow = true := by
  unfold joinedFacts
  rw [prog_three.1, prog_three.2.1, prog_three.2.2]
  kernel_rfl
theorem keccakParts_said : Rows.KeccakPartsSaid :=
  OpenClaim.holds_of_wide 3 Tryd.f3 rfl rfl rfl rfl rfl rfl rfl ⟨rfl, rfl, rfl, rfl, rfl⟩ rfl rfl rfl rfl rfl (by kernel_rfl) Tryd.func3 keccakParts_facts
    (of_decide_eq_true (by kernel_rfl)) (by unfold Func.isWrapper; first | (rw [if_pos (by decide +kernel)]; kernel_rfl) | (rw [if_neg (by decide +kernel)]; exact ⟨rfl, rfl⟩))
    (fun os started H enc _ => keccakParts_lifted os started H enc)
theorem keccakParts_holds : Rows.KeccakPartsCardSaid :=
  Claim7.holds_tied_plain_at .later [] [.data, .data, .data] true (true, "c84c04b79771f79868de0b36c3fd74dc58a641bff1af07cf1a07fa46c0c5b375") false
    keccakParts_said (fun _ h => by cases h) (by kernel_rfl) (fun _ h => by cases h) keccakParts_row_tie rfl ⟨rfl, rfl⟩ (by kernel_rfl) rfl
    (fun f fn hf hfn => by
      obtain rfl : f = 3 := Option.some.inj ((show Tryd.prog.funcNamed "bascule/basculekeep.KeccakParts" = some 3 by kernel_rfl).symm.trans hf) |>.symm
      obtain rfl : fn = Tryd.f3 := (Option.some.inj (Tryd.func3.symm.trans hfn)).symm
      exact ⟨by kernel_rfl, fun j t ht => by
        have hp : Tryd.f3.params = #[22, 3, 3] := by kernel_rfl
        rw [hp] at ht
        rcases j with _ | j
        · obtain rfl : 22 = t := by simpa using ht
          exact (by kernel_rfl : Tryd.prog.wantsStandIn 22 = false)
        rcases j with _ | j
        · obtain rfl : 3 = t := by simpa using ht
          exact (by kernel_rfl : Tryd.prog.wantsStandIn 3 = false)
        rcases j with _ | j
        · obtain rfl : 3 = t := by simpa using ht
          exact (by kernel_rfl : Tryd.prog.wantsStandIn 3 = false)
        simp at ht⟩)
    (by kernel_rfl)

set_option maxRecDepth 100000 in
theorem keccakKnown_lifted (os : Os) (started : os.Started) (H : Type) (enc : TypeId × Value → H) :
    ReturnsInHanded {} Tryd.checked os 4 .any (fun w args => (Rows.keccakKnownSpec.pre enc Tryd.prog Tryd.f4 Rows.keccakKnownRow.domain false w args ∧ laidMet Tryd.prog laidK w) ∧ sizedMet enc Tryd.prog Tryd.f4 (OpenSpec.ofChange Rows.keccakKnownSpec) false w args)
      (Rows.keccakKnownSpec.post enc Tryd.prog Tryd.f4 false Rows.keccakKnownRow.fresh Rows.keccakKnownRow.handsOn Rows.keccakKnownRow.again) := by
  refine returnsInHanded_of_change_and (C := Tryd.checked) (X := fun w _ => laidMet Tryd.prog laidK w) (fun _ _ _ hh h => h.of_heap hh) own_none started (by kernel_rfl) Tryd.func4
    (ChangeSpec.witness_at (enc := enc) (C := Tryd.checked) (os := os) (X := fun w _ => laidMet Tryd.prog laidK w) false (laidWorld os) #[.int .i64 0] 8 rfl (by kernel_rfl) (by kernel_rfl) (by kernel_rfl) (by kernel_rfl) (by kernel_rfl)
      (laidMet_mk tabs_ok fun T hT => by
        simp only [tabsK, List.mem_cons, List.not_mem_nil, or_false] at hT
        rcases hT with rfl | rfl | rfl
        · exact ⟨47, (by kernel_rfl)⟩
        · exact ⟨51, (by kernel_rfl)⟩
        · exact ⟨51, (by kernel_rfl)⟩)) ?_
  intro W base args ds gs before hval0 hW _ _ hL _
  have hval : ∀ (j : Nat) t v, Tryd.f4.params[j]? = some t → args[j]? = some v → Value.okWide Tryd.prog W .any base t v := hval0
  have hW' := hW
  obtain ⟨p, q, hA0, hV, rfl, _, _⟩ := hW
  have hA : DataW.TrodAll enc Tryd.prog W 0 (fun _ => true) true [3] args.toList ds p := hA0
  obtain ⟨v0, d0, rfl, rfl, h0⟩ := trodAll_one hA
  obtain ⟨rfl, rfl⟩ := trodVars_none hV
  obtain ⟨a0, rfl, g1⟩ := open_i64 (fun _ => hval 0 _ _ rfl rfl) (fun _ => h0)
  refine (calls_of_owesG cxok_Law Tryd.func4 (by kernel_rfl) (ok_KeccakKnown a0 g1) (Rho.whole W) W (whole_ok W) (globsOK_tabs tabs_ok hL) (by
    intro z hz
    simp only [List.mem_cons, List.not_mem_nil, or_false] at hz
    rcases hz with rfl
    · trivial)).mono fun e W' he => ?_
  obtain ⟨v, rfl, ⟨ρ', hv⟩, hb⟩ := he
  have hv' : v = .bool true := hv
  subst hv'
  exact ⟨_, rfl, law_post (tb := 4) laid_out (by kernel_rfl) (by kernel_rfl) (by kernel_rfl) rfl rfl hW' hb⟩

theorem keccakKnown_facts : joinedFacts Tryd.prog 4 Tryd.f4 Rows.keccakKnownSpec Rows.keccakKnownRow = true := by
  unfold joinedFacts
  rw [prog_three.1, prog_three.2.1, prog_three.2.2]
  kernel_rfl
theorem keccakKnown_said : Rows.KeccakKnownSaid :=
  OpenClaim.holds_of_wide 4 Tryd.f4 rfl rfl rfl rfl rfl rfl rfl ⟨rfl, rfl, rfl, rfl, rfl⟩ rfl rfl rfl rfl rfl (by kernel_rfl) Tryd.func4 keccakKnown_facts
    (of_decide_eq_true (by kernel_rfl)) (by unfold Func.isWrapper; first | (rw [if_pos (by decide +kernel)]; kernel_rfl) | (rw [if_neg (by decide +kernel)]; exact ⟨rfl, rfl⟩))
    (fun os started H enc _ => keccakKnown_lifted os started H enc)
theorem keccakKnown_holds : Rows.KeccakKnownCardSaid :=
  Claim7.holds_tied_plain_at .later [] [.data, .data, .data] true (true, "c84c04b79771f79868de0b36c3fd74dc58a641bff1af07cf1a07fa46c0c5b375") false
    keccakKnown_said (fun _ h => by cases h) (by kernel_rfl) (fun _ h => by cases h) keccakKnown_row_tie rfl ⟨rfl, rfl⟩ (by kernel_rfl) rfl
    (fun f fn hf hfn => by
      obtain rfl : f = 4 := Option.some.inj ((show Tryd.prog.funcNamed "bascule/basculekeep.KeccakKnown" = some 4 by kernel_rfl).symm.trans hf) |>.symm
      obtain rfl : fn = Tryd.f4 := (Option.some.inj (Tryd.func4.symm.trans hfn)).symm
      exact ⟨by kernel_rfl, fun j t ht => by
        have hp : Tryd.f4.params = #[3] := by kernel_rfl
        rw [hp] at ht
        rcases j with _ | j
        · obtain rfl : 3 = t := by simpa using ht
          exact (by kernel_rfl : Tryd.prog.wantsStandIn 3 = false)
        simp at ht⟩)
    (by kernel_rfl)
end Go.Proofs.YtnacohdnjmmonaaDoor
