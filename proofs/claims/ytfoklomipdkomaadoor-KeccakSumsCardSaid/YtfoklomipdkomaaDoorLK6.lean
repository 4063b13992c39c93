/-
  KeccakAdds and KeccakSums: for every input, true, and the input reads as it did; the tables hold what the text of the program lays.
-/
import Derived.Test.YtfoklomipdkomaaDoorM1
import Derived.Test.YtfoklomipdkomaaDoorM2
import Derived.Test.YtfoklomipdkomaaDoorM3
import Derived.Test.YtfoklomipdkomaaDoorM4
import Derived.Test.YtfoklomipdkomaaDoorM5
import Derived.Test.YtfoklomipdkomaaDoorM6
import Derived.Test.YtfoklomipdkomaaDoorM7
import Derived.Test.YtfoklomipdkomaaDoorM8
import Derived.Test.YtfoklomipdkomaaDoorM9
import Derived.Test.YtfoklomipdkomaaDoorM10
import Derived.Test.YtfoklomipdkomaaDoorM11
import Derived.Test.YtfoklomipdkomaaDoorM12
import Derived.Test.YtfoklomipdkomaaDoorTie
import Derived.Test.YtfoklomipdkomaaDoorCards
namespace Go.Proofs.YtfoklomipdkomaaDoor
open Go.ChangeShapes Go.WideShapes Go.ChangeAt Go.RowKit Go.Sx

theorem prog_three : Tryd.prog.mayEnter = true ∧ Tryd.prog.liftsFinal = Rows.keccakAddsRow.lifted ∧ Tryd.prog.make = some Rows.keccakAddsRow.make := ⟨by kernel_rfl, by kernel_rfl, by kernel_rfl⟩
theorem own_none : ownKnob Tryd.prog.godebug = none := by kernel_rfl
theorem laid_out : laidOutB Tryd.prog = true := by kernel_rfl
theorem tabs_ok : tabsB Tryd.prog tabsK = true := by kernel_rfl
/-- A world whose variables hold the tables. -/
abbrev laidK : List (String × DataW Unit) := tabsK.map fun T => (T.name, T.data)
def setRow (h : Array Obj) (T : Tab) : Array Obj :=
  h.modify T.g fun o => match o with
    | .cells _ t frozen => .cells T.vals.toArray t frozen
    | o => o
noncomputable def laidWorld (os : Os) : World :=
  { World.holding Tryd.prog os ⟨#[], #[], []⟩ with heap := tabsK.foldl setRow (World.holding Tryd.prog os ⟨#[], #[], []⟩).heap }
theorem open_i64 {H : Type} {enc : TypeId × Value → H} {W : World} {base b0 : Nat} {sp : Nat → Bool} {held : Bool} {v : Value} {d : DataW H} {ps : List MemPlace}
    (hval : Unit → Value.okWide Tryd.prog W .any b0 3 v) (h : Unit → DataW.Trod enc Tryd.prog W base sp held 3 v d ps) : ∃ a, v = (sI .i64 a).conc (Rho.whole W) ∧ i64ok a := by
  have hu : Tryd.prog.underlying 3 = some (.int .i64) := by kernel_rfl
  obtain ⟨n, e, _, _, w⟩ := open_int hu (by with_reducible exact hval ()) (by with_reducible exact h ())
  exact ⟨n, e, bounds_i64 w⟩
theorem open_bs {H : Type} {enc : TypeId × Value → H} {W : World} {base b0 : Nat} {sp : Nat → Bool} {held : Bool} {v : Value} {d : DataW H} {ps : List MemPlace}
    (hval : Unit → Value.okWide Tryd.prog W .any b0 27 v) (h : Unit → DataW.Trod enc Tryd.prog W base sp held 27 v d ps) :
    ∃ (a : Option Addr) (n cap : Nat) (f : Nat → Int), v = (sXs a n cap f).conc (Rho.whole W) ∧ n ≤ maxLen ∧ (∀ i, 0 ≤ f i ∧ f i < 256) ∧ SA.bnd ⟨fun _ => False, (Rho.whole W).fz⟩ (sXs a n cap f) := by
  have hu : Tryd.prog.underlying 27 = some (.slice 5) := by kernel_rfl
  have hu2 : Tryd.prog.underlying 5 = some (.int .u8) := by kernel_rfl
  exact open_bytes hu hu2 (by kernel_rfl) (by with_reducible exact hval ()) (by with_reducible exact h ())

set_option maxRecDepth 100000 in
theorem keccakAdds_lifted (os : Os) (started : os.Started) (H : Type) (enc : TypeId × Value → H) :
    ReturnsInHanded {} Tryd.checked os 3 .any (fun w args => (Rows.keccakAddsSpec.pre enc Tryd.prog Tryd.f3 Rows.keccakAddsRow.domain false w args ∧ laidMet Tryd.prog laidK w) ∧ sizedMet enc Tryd.prog Tryd.f3 (OpenSpec.ofChange Rows.keccakAddsSpec) false w args)
      (Rows.keccakAddsSpec.post enc Tryd.prog Tryd.f3 false Rows.keccakAddsRow.fresh Rows.keccakAddsRow.handsOn Rows.keccakAddsRow.again) := by
  refine returnsInHanded_of_change_and (C := Tryd.checked) (X := fun w _ => laidMet Tryd.prog laidK w) (fun _ _ _ hh h => h.of_heap hh) own_none started (by kernel_rfl) Tryd.func3
    (ChangeSpec.witness_at (enc := enc) (C := Tryd.checked) (os := os) (X := fun w _ => laidMet Tryd.prog laidK w) false (laidWorld os) #[.agg #[.int .u64 0, .int .u64 0, .int .u64 0, .int .u64 0, .int .u64 0, .int .u64 0, .int .u64 0, .int .u64 0, .int .u64 0, .int .u64 0, .int .u64 0, .int .u64 0, .int .u64 0, .int .u64 0, .int .u64 0, .int .u64 0, .int .u64 0, .int .u64 0, .int .u64 0, .int .u64 0, .int .u64 0, .int .u64 0, .int .u64 0, .int .u64 0, .int .u64 0, .int .u8 0, .int .u8 0, .int .u8 0, .int .u8 0, .int .u8 0, .int .u8 0, .int .u8 0, .int .u8 0, .int .u8 0, .int .u8 0, .int .u8 0, .int .u8 0, .int .u8 0, .int .u8 0, .int .u8 0, .int .u8 0, .int .u8 0, .int .u8 0, .int .u8 0, .int .u8 0, .int .u8 0, .int .u8 0, .int .u8 0, .int .u8 0, .int .u8 0, .int .u8 0, .int .u8 0, .int .u8 0, .int .u8 0, .int .u8 0, .int .u8 0, .int .u8 0, .int .u8 0, .int .u8 0, .int .u8 0, .int .u8 0, .int .u8 0, .int .u8 0, .int .u8 0, .int .u8 0, .int .u8 0, .int .u8 0, .int .u8 0, .int .u8 0, .int .u8 0, .int .u8 0, .int .u8 0, .int .u8 0, .int .u8 0, .int .u8 0, .int .u8 0, .int .u8 0, .int .u8 0, .int .u8 0, .int .u8 0, .int .u8 0, .int .u8 0, .int .u8 0, .int .u8 0, .int .u8 0, .int .u8 0, .int .u8 0, .int .u8 0, .int .u8 0, .int .u8 0, .int .u8 0, .int .u8 0, .int .u8 0, .int .u8 0, .int .u8 0, .int .u8 0, .int .u8 0, .int .u8 0, .int .u8 0, .int .u8 0, .int .u8 0, .int .u8 0, .int .u8 0, .int .u8 0, .int .u8 0, .int .u8 0, .int .u8 0, .int .u8 0, .int .u8 0, .int .u8 0, .int .u8 0, .int .u8 0, .int .u8 0, .int .u8 0, .int .u8 0, .int .u8 0, .int .u8 0, .int .u8 0, .int .u8 0, .int .u8 0, .int .u8 0, .int .u8 0, .int .u8 0, .int .u8 0, .int .u8 0, .int .u8 0, .int .u8 0, .int .u8 0, .int .u8 0, .int .u8 0, .int .u8 0, .int .u8 0, .int .u8 0, .int .u8 0, .int .u8 0, .int .u8 0, .int .u8 0, .int .u8 0, .int .u8 0, .int .u8 0, .int .u8 0, .int .u8 0, .int .u8 0, .int .u8 0, .int .u8 0, .int .u8 0, .int .u8 0, .int .u8 0, .int .u8 0, .int .u8 0, .int .u8 0, .int .u8 0, .int .u8 0, .int .u8 0, .int .u8 0, .int .u8 0, .int .u8 0, .int .u8 0, .int .u8 0, .int .u8 0, .int .u8 0, .int .i64 0], .slice none 0 0] 8 rfl (by kernel_rfl) (by kernel_rfl) (by kernel_rfl) (by kernel_rfl) (by kernel_rfl)
      (laidMet_mk tabs_ok fun T hT => by
        simp only [tabsK, List.mem_cons, List.not_mem_nil, or_false] at hT
        rcases hT with rfl | rfl | rfl
        · exact ⟨44, (by kernel_rfl)⟩
        · exact ⟨49, (by kernel_rfl)⟩
        · exact ⟨49, (by kernel_rfl)⟩)) ?_
  intro W base args ds gs before hval0 hW _ hsz0 hL _
  have hval : ∀ (j : Nat) t v, Tryd.f3.params[j]? = some t → args[j]? = some v → Value.okWide Tryd.prog W .any base t v := hval0
  have hW' := hW
  obtain ⟨p, q, hA0, hV, rfl, _, _⟩ := hW
  have hA : DataW.TrodAll enc Tryd.prog W 0 (fun _ => true) true [26, 27] args.toList ds p := hA0
  obtain ⟨v0, v1, d0, d1, p0, p1, rfl, rfl, rfl, h0, h1⟩ := trodAll_two hA
  obtain ⟨rfl, rfl⟩ := trodVars_none hV
  obtain ⟨L0, H0, N0, rfl, g1, g2, g3⟩ := open_sp (fun _ => hval 0 _ _ rfl rfl) (fun _ => h0)
  obtain ⟨a1, n1, c1, b1, rfl, g4, g5, g6⟩ := open_bs (fun _ => hval 1 _ _ rfl rfl) (fun _ => h1)
  have m1 : n1 ≤ 140737488355327 := by
    cases a1 with
    | none =>
      have := (g6.1 rfl).1
      omega
    | some a =>
      have hw : (DataW.weightsEach Tryd.prog [26, 27] [d0, d1]).all (· ≤ reachBytes) = true := hsz0
      simp only [DataW.weightsEach, List.append_nil, List.all_append, Bool.and_eq_true] at hw
      exact trod_len (e := 5) (by kernel_rfl) (by kernel_rfl) h1 hw.2
  refine (calls_of_owesG cxok_Adds Tryd.func3 (by kernel_rfl) (ok_KeccakAdds L0 H0 N0 a1 n1 c1 b1 g1 g2 g3 m1 g5) (Rho.whole W) W (whole_ok W) (globsOK_tabs tabs_ok hL) (by
    intro z hz
    simp only [List.mem_cons, List.not_mem_nil, or_false] at hz
    rcases hz with rfl | rfl
    · exact bnd_sSp _ _ _ _
    · exact g6)).mono fun e W' he => ?_
  obtain ⟨v, rfl, ⟨ρ', hv⟩, hb⟩ := he
  have hv' : v = .bool true := hv
  subst hv'
  exact ⟨_, rfl, law_post (tb := 4) laid_out (by kernel_rfl) (by kernel_rfl) (by kernel_rfl) rfl rfl hW' hb⟩

theorem keccakAdds_facts : joinedFacts Tryd.prog 3 Tryd.f3 Rows.keccakAddsSpec Rows.keccakAddsRow = true := by
  unfold joinedFacts
  rw [prog_three.1, prog_three.2.1, prog_three.2.2]
  kernel_rfl
theorem keccakAdds_said : Rows.KeccakAddsSaid :=
  OpenClaim.holds_of_wide 3 Tryd.f3 rfl rfl rfl rfl rfl rfl rfl ⟨rfl, rfl, rfl, rfl, rfl⟩ rfl rfl rfl rfl rfl (by kernel_rfl) Tryd.func3 keccakAdds_facts
    (of_decide_eq_true (by kernel_rfl)) (by unfold Func.isWrapper; first | (rw [if_pos (by decide +kernel)]; kernel_rfl) | (rw [if_neg (by decide +kernel)]; exact ⟨rfl, rfl⟩))
    (fun os started H enc _ => keccakAdds_lifted os started H enc)
set_option maxRecDepth 100000 in
theorem keccakAdds_holds : Rows.KeccakAddsCardSaid :=
  Claim7.holds_tied_plain_at .later [] [.data, .data, .data] true (true, "64b9c2414b1aaf5c99ad8adc40ae98af3ab4646820adf4397ab6f9b6fcbbb78d") false
    keccakAdds_said (fun _ h => by cases h) (by kernel_rfl) (fun _ h => by cases h) keccakAdds_row_tie rfl ⟨rfl, rfl⟩ (by kernel_rfl) rfl
    (fun f fn hf hfn => by
      obtain rfl : f = 3 := Option.some.inj ((show Tryd.prog.funcNamed "bascule/basculelaw.KeccakAdds" = some 3 by kernel_rfl).symm.trans hf) |>.symm
      obtain rfl : fn = Tryd.f3 := (Option.some.inj (Tryd.func3.symm.trans hfn)).symm
      exact ⟨by kernel_rfl, fun j t ht => by
        have hp : Tryd.f3.params = #[26, 27] := by kernel_rfl
        rw [hp] at ht
        rcases j with _ | j
        · obtain rfl : 26 = t := by simpa using ht
          exact (by kernel_rfl : Tryd.prog.wantsStandIn 26 = false)
        rcases j with _ | j
        · obtain rfl : 27 = t := by simpa using ht
          exact (by kernel_rfl : Tryd.prog.wantsStandIn 27 = false)
        simp at ht⟩)
    (by kernel_rfl)

set_option maxRecDepth 100000 in
theorem keccakSums_lifted (os : Os) (started : os.Started) (H : Type) (enc : TypeId × Value → H) :
    ReturnsInHanded {} Tryd.checked os 4 .any (fun w args => (Rows.keccakSumsSpec.pre enc Tryd.prog Tryd.f4 Rows.keccakSumsRow.domain false w args ∧ laidMet Tryd.prog laidK w) ∧ sizedMet enc Tryd.prog Tryd.f4 (OpenSpec.ofChange Rows.keccakSumsSpec) false w args)
      (Rows.keccakSumsSpec.post enc Tryd.prog Tryd.f4 false Rows.keccakSumsRow.fresh Rows.keccakSumsRow.handsOn Rows.keccakSumsRow.again) := by
  refine returnsInHanded_of_change_and (C := Tryd.checked) (X := fun w _ => laidMet Tryd.prog laidK w) (fun _ _ _ hh h => h.of_heap hh) own_none started (by kernel_rfl) Tryd.func4
    (ChangeSpec.witness_at (enc := enc) (C := Tryd.checked) (os := os) (X := fun w _ => laidMet Tryd.prog laidK w) false (laidWorld os) #[.slice none 0 0] 8 rfl (by kernel_rfl) (by kernel_rfl) (by kernel_rfl) (by kernel_rfl) (by kernel_rfl)
      (laidMet_mk tabs_ok fun T hT => by
        simp only [tabsK, List.mem_cons, List.not_mem_nil, or_false] at hT
        rcases hT with rfl | rfl | rfl
        · exact ⟨44, (by kernel_rfl)⟩
        · exact ⟨49, (by kernel_rfl)⟩
        · exact ⟨49, (by kernel_rfl)⟩)) ?_
  intro W base args ds gs before hval0 hW _ hsz0 hL _
  have hval : ∀ (j : Nat) t v, Tryd.f4.params[j]? = some t → args[j]? = some v → Value.okWide Tryd.prog W .any base t v := hval0
  have hW' := hW
  obtain ⟨p, q, hA0, hV, rfl, _, _⟩ := hW
  have hA : DataW.TrodAll enc Tryd.prog W 0 (fun _ => true) true [27] args.toList ds p := hA0
  obtain ⟨v0, d0, rfl, rfl, h0⟩ := trodAll_one hA
  obtain ⟨rfl, rfl⟩ := trodVars_none hV
  obtain ⟨a0, n0, c0, b0, rfl, g1, g2, g3⟩ := open_bs (fun _ => hval 0 _ _ rfl rfl) (fun _ => h0)
  have m0 : n0 ≤ 140737488355327 := by
    cases a0 with
    | none =>
      have := (g3.1 rfl).1
      omega
    | some a =>
      have hw : (DataW.weightsEach Tryd.prog [27] [d0]).all (· ≤ reachBytes) = true := hsz0
      simp only [DataW.weightsEach, List.append_nil, List.all_append, Bool.and_eq_true] at hw
      exact trod_len (e := 5) (by kernel_rfl) (by kernel_rfl) h0 hw
  refine (calls_of_owesG cxok_Sums Tryd.func4 (by kernel_rfl) (ok_KeccakSums a0 n0 c0 b0 m0 g2) (Rho.whole W) W (whole_ok W) (globsOK_tabs tabs_ok hL) (by
    intro z hz
    simp only [List.mem_cons, List.not_mem_nil, or_false] at hz
    rcases hz with rfl
    · exact g3)).mono fun e W' he => ?_
  obtain ⟨v, rfl, ⟨ρ', hv⟩, hb⟩ := he
  have hv' : v = .bool true := hv
  subst hv'
  exact ⟨_, rfl, law_post (tb := 4) laid_out (by kernel_rfl) (by kernel_rfl) (by kernel_rfl) rfl rfl hW' hb⟩

theorem keccakSums_facts : joinedFacts Tryd.prog 4 Tryd.f4 Rows.keccakSumsSpec Rows.keccakSumsRow = true := by
  unfold joinedFacts
  rw [prog_three.1, prog_three.2.1, prog_three.2.2]
  kernel_rfl
theorem keccakSums_said : Rows.KeccakSumsSaid :=
  OpenClaim.holds_of_wide 4 Tryd.f4 rfl rfl rfl rfl rfl rfl rfl ⟨rfl, rfl, rfl, rfl, rfl⟩ rfl rfl rfl rfl rfl (by kernel_rfl) Tryd.func4 keccakSums_facts
    (of_decide_eq_true (by kernel_rfl)) (by unfold Func.isWrapper; first | (rw [if_pos (by decide +kernel)]; kernel_rfl) | (rw [if_neg (by decide +kernel)]; exact ⟨rfl, rfl⟩))
    (fun os started H enc _ => keccakSums_lifted os started H enc)
set_option maxRecDepth 100000 in
theorem keccakSums_holds : Rows.KeccakSumsCardSaid :=
  Claim7.holds_tied_plain_at .later [] [.data, .data, .data] true (true, "64b9c2414b1aaf5c99ad8adc40ae98af3ab4646820adf4397ab6f9b6fcbbb78d") false
    keccakSums_said (fun _ h => by cases h) (by kernel_rfl) (fun _ h => by cases h) keccakSums_row_tie rfl ⟨rfl, rfl⟩ (by kernel_rfl) rfl
    (fun f fn hf hfn => by
      obtain rfl : f = 4 := Option.some.inj ((show Tryd.prog.funcNamed "bascule/basculelaw.KeccakSums" = some 4 by kernel_rfl).symm.trans hf) |>.symm
      obtain rfl : fn = Tryd.f4 := (Option.some.inj (Tryd.func4.symm.trans hfn)).symm
      exact ⟨by kernel_rfl, fun j t ht => by
        have hp : Tryd.f4.params = #[27] := by kernel_rfl
        rw [hp] at ht
        rcases j with _ | j
        · obtain rfl : 27 = t := by simpa using ht
          exact (by kernel_rfl : Tryd.prog.wantsStandIn 27 = false)
        simp at ht⟩)
    (by kernel_rfl)
end Go.Proofs.YtfoklomipdkomaaDoor
