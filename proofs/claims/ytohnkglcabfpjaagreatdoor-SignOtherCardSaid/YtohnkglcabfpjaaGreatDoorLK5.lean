/-
  SignRight, SignOne and SignOther: for every input, true, and the input reads as it did; the tables hold what the text of the program lays.
-/
import Derived.Test.YtohnkglcabfpjaaGreatDoorM1
import Derived.Test.YtohnkglcabfpjaaGreatDoorM2
import Derived.Test.YtohnkglcabfpjaaGreatDoorM3
import Derived.Test.YtohnkglcabfpjaaGreatDoorM4
import Derived.Test.YtohnkglcabfpjaaGreatDoorM5
import Derived.Test.YtohnkglcabfpjaaGreatDoorM6
import Derived.Test.YtohnkglcabfpjaaGreatDoorM7
import Derived.Test.YtohnkglcabfpjaaGreatDoorM8
import Derived.Test.YtohnkglcabfpjaaGreatDoorM9
import Derived.Test.YtohnkglcabfpjaaGreatDoorM10
import Derived.Test.YtohnkglcabfpjaaGreatDoorM11
import Derived.Test.YtohnkglcabfpjaaGreatDoorM12
import Derived.Test.YtohnkglcabfpjaaGreatDoorM13
import Derived.Test.YtohnkglcabfpjaaGreatDoorM14
import Derived.Test.YtohnkglcabfpjaaGreatDoorM15
import Derived.Test.YtohnkglcabfpjaaGreatDoorM16
import Derived.Test.YtohnkglcabfpjaaGreatDoorTie
import Derived.Test.YtohnkglcabfpjaaGreatDoorCards

namespace Go.Proofs.YtohnkglcabfpjaaGreatDoor
open Go.ChangeShapes Go.WideShapes Go.ChangeAt Go.RowKit Go.Sx

theorem prog_three : Tryz.prog.mayEnter = true ∧ Tryz.prog.liftsFinal = Rows.signRightRow.lifted ∧ Tryz.prog.make = some Rows.signRightRow.make := ⟨by kernel_rfl, by kernel_rfl, by kernel_rfl⟩
theorem own_none : ownKnob Tryz.prog.godebug = none := by kernel_rfl
theorem laid_out : laidOutB Tryz.prog = true := by kernel_rfl
theorem tabs_ok : tabsB Tryz.prog tabsK = true := by kernel_rfl
/-- A world whose variables hold the tables. -/
abbrev laidK : List (String × DataW Unit) := tabsK.map fun T => (T.name, T.data)
def setRow (h : Array Obj) (T : Tab) : Array Obj :=
  h.modify T.g fun o => match o with
    | .cells _ t frozen => .cells T.vals.toArray t frozen
    | o => o
noncomputable def laidWorld (os : Os) : World :=
  { World.holding Tryz.prog os ⟨#[], #[], []⟩ with heap := tabsK.foldl setRow (World.holding Tryz.prog os ⟨#[], #[], []⟩).heap }
theorem open_i64 {H : Type} {enc : TypeId × Value → H} {W : World} {base b0 : Nat} {sp : Nat → Bool} {held : Bool} {v : Value} {d : DataW H} {ps : List MemPlace}
    (hval : Unit → Value.okWide Tryz.prog W .any b0 3 v) (h : Unit → DataW.Trod enc Tryz.prog W base sp held 3 v d ps) : ∃ a, v = (sI .i64 a).conc (Rho.whole W) ∧ i64ok a := by
  have hu : Tryz.prog.underlying 3 = some (.int .i64) := by kernel_rfl
  obtain ⟨n, e, _, _, w⟩ := open_int hu (by with_reducible exact hval ()) (by with_reducible exact h ())
  exact ⟨n, e, bounds_i64 w⟩
theorem lks_raw : lks Tryz.prog 3 23 = some [.int .i64, .int .i64, .int .i64, .text] := by kernel_rfl
theorem raw_of {v : Value} (ρ : Rho) (hx : ∃ cs : List Value, v = .agg cs.toArray ∧ fitsL [.int .i64, .int .i64, .int .i64, .text] cs) : ∃ k a b s, v = (sRaw k a b s).conc ρ ∧ i64ok k ∧ i64ok a ∧ i64ok b := by
  obtain ⟨cs, rfl, hf⟩ := hx
  match cs, hf with
  | [.int k1 a1, .int k2 a2, .int k3 a3, .string s], hf =>
    obtain ⟨⟨rfl, w1⟩, ⟨rfl, w2⟩, ⟨rfl, w3⟩, _, _⟩ := hf
    exact ⟨a1, a2, a3, s, rfl, bounds_i64 w1, bounds_i64 w2, bounds_i64 w3⟩
/-- A raw thing, opened. -/
theorem open_raw {H : Type} {enc : TypeId × Value → H} {W : World} {base b0 : Nat} {sp : Nat → Bool} {held : Bool} {v : Value} {d : DataW H} {ps : List MemPlace}
    (hval : Unit → Value.okWide Tryz.prog W .any b0 23 v) (h : Unit → DataW.Trod enc Tryz.prog W base sp held 23 v d ps) :
    ∃ k a b s, v = (sRaw k a b s).conc (Rho.whole W) ∧ i64ok k ∧ i64ok a ∧ i64ok b := by
  have hx : ∃ cs : List Value, v = .agg cs.toArray ∧ fitsL [.int .i64, .int .i64, .int .i64, .text] cs := by
    refine open_flat (H := H) (enc := enc) (P := Tryz.prog) (w := W) (base := base) (sp := sp) (held := held) (d := 3) (t := 23) (r := .any) (b0 := b0) (v := v) (x := d) (ps := ps) lks_raw ?_ ?_ ?_
    · kernel_rfl
    · with_reducible exact hval ()
    · with_reducible exact h ()
  exact raw_of _ hx
theorem bnd_raw {n : Env} (k a b : Int) (s : ByteArray) : SA.bnd n (sRaw k a b s) := by
  intro y hy
  simp only [List.mem_cons, List.not_mem_nil, or_false] at hy
  rcases hy with rfl | rfl | rfl | rfl <;> trivial

set_option maxRecDepth 100000 in
theorem signRight_lifted (os : Os) (started : os.Started) (H : Type) (enc : TypeId × Value → H) :
    ReturnsInHanded {} Tryz.checked os 3 .any (fun w args => (Rows.signRightSpec.pre enc Tryz.prog Tryz.f3 Rows.signRightRow.domain false w args ∧ laidMet Tryz.prog laidK w) ∧ sizedMet enc Tryz.prog Tryz.f3 (OpenSpec.ofChange Rows.signRightSpec) false w args)
      (Rows.signRightSpec.post enc Tryz.prog Tryz.f3 false Rows.signRightRow.fresh Rows.signRightRow.handsOn Rows.signRightRow.again) := by
  refine returnsInHanded_of_change_and (C := Tryz.checked) (X := fun w _ => laidMet Tryz.prog laidK w) (fun _ _ _ hh h => h.of_heap hh) own_none started (by kernel_rfl) Tryz.func3
    (ChangeSpec.witness_at (enc := enc) (C := Tryz.checked) (os := os) (X := fun w _ => laidMet Tryz.prog laidK w) false (laidWorld os) #[.int .i64 0, .int .i64 0, .agg #[.int .i64 0, .int .i64 0, .int .i64 0, .string ⟨#[]⟩]] 8 rfl (by kernel_rfl) (by kernel_rfl) (by kernel_rfl) (by kernel_rfl) (by kernel_rfl)
      (laidMet_mk tabs_ok fun T hT => by
        simp only [tabsK, List.mem_cons, List.not_mem_nil, or_false] at hT
        rcases hT with rfl | rfl | rfl
        · exact ⟨162, (by kernel_rfl)⟩
        · exact ⟨167, (by kernel_rfl)⟩
        · exact ⟨167, (by kernel_rfl)⟩)) ?_
  intro W base args ds gs before hval0 hW _ _ hL _
  have hval : ∀ (j : Nat) t v, Tryz.f3.params[j]? = some t → args[j]? = some v → Value.okWide Tryz.prog W .any base t v := hval0
  have hW' := hW
  obtain ⟨p, q, hA0, hV, rfl, _, _⟩ := hW
  have hA : DataW.TrodAll enc Tryz.prog W 0 (fun _ => true) true [3, 3, 23] args.toList ds p := hA0
  obtain ⟨v0, v1, v2, d0, d1, d2, p0, p1, p2, rfl, rfl, rfl, h0, h1, h2⟩ := trodAll_three hA
  obtain ⟨rfl, rfl⟩ := trodVars_none hV
  obtain ⟨a0, rfl, g1⟩ := open_i64 (fun _ => hval 0 _ _ rfl rfl) (fun _ => h0)
  obtain ⟨a1, rfl, g2⟩ := open_i64 (fun _ => hval 1 _ _ rfl rfl) (fun _ => h1)
  obtain ⟨k2, a2, b2, s2, rfl, g3, g4, g5⟩ := open_raw (fun _ => hval 2 _ _ rfl rfl) (fun _ => h2)
  refine (calls_of_owesG cxok_Sig Tryz.func3 (by kernel_rfl) (ok_SignRight a0 a1 k2 a2 b2 s2 g1 g2 g3 g4 g5) (Rho.whole W) W (whole_ok W) (globsOK_tabs tabs_ok hL) (by
    intro z hz
    simp only [List.mem_cons, List.not_mem_nil, or_false] at hz
    rcases hz with rfl | rfl | rfl
    · trivial
    · trivial
    · exact bnd_raw _ _ _ _)).mono fun e W' he => ?_
  obtain ⟨v, rfl, ⟨ρ', hv⟩, hb⟩ := he
  have hv' : v = .bool true := hv
  subst hv'
  exact ⟨_, rfl, law_post (tb := 4) laid_out (by kernel_rfl) (by kernel_rfl) (by kernel_rfl) rfl rfl hW' hb⟩

theorem signRight_facts : joinedFacts Tryz.prog 3 Tryz.f3 Rows.signRightSpec Rows.signRightRow = true := by
  unfold joinedFacts
  rw [prog_three.1, prog_three.2.1, prog_three.2.2]
  kernel_rfl
theorem signRight_said : Rows.SignRightSaid :=
  OpenClaim.holds_of_wide 3 Tryz.f3 rfl rfl rfl rfl rfl rfl rfl ⟨rfl, rfl, rfl, rfl, rfl⟩ rfl rfl rfl rfl rfl (by kernel_rfl) Tryz.func3 signRight_facts
    (of_decide_eq_true (by kernel_rfl)) (by unfold Func.isWrapper; first | (rw [if_pos (by decide +kernel)]; kernel_rfl) | (rw [if_neg (by decide +kernel)]; exact ⟨rfl, rfl⟩))
    (fun os started H enc _ => signRight_lifted os started H enc)
set_option maxRecDepth 100000 in
theorem signRight_holds : Rows.SignRightCardSaid :=
  Claim7.holds_tied_plain_at .later [] [.data, .data, .data] true (true, "d48fbe62fcc58f16ab9ea1172fc99f55f502e68178ddd68d62fdfddd0e8fcb9e") false
    signRight_said (fun _ h => by cases h) (by kernel_rfl) (fun _ h => by cases h) signRight_row_tie rfl ⟨rfl, rfl⟩ (by kernel_rfl) rfl
    (fun f fn hf hfn => by
      obtain rfl : f = 3 := Option.some.inj ((show Tryz.prog.funcNamed "bascule/basculekeep.SignRight" = some 3 by kernel_rfl).symm.trans hf) |>.symm
      obtain rfl : fn = Tryz.f3 := (Option.some.inj (Tryz.func3.symm.trans hfn)).symm
      exact ⟨by kernel_rfl, fun j t ht => by
        have hp : Tryz.f3.params = #[3, 3, 23] := by kernel_rfl
        rw [hp] at ht
        rcases j with _ | j
        · obtain rfl : 3 = t := by simpa using ht
          exact (by kernel_rfl : Tryz.prog.wantsStandIn 3 = false)
        rcases j with _ | j
        · obtain rfl : 3 = t := by simpa using ht
          exact (by kernel_rfl : Tryz.prog.wantsStandIn 3 = false)
        rcases j with _ | j
        · obtain rfl : 23 = t := by simpa using ht
          exact (by kernel_rfl : Tryz.prog.wantsStandIn 23 = false)
        simp at ht⟩)
    (by kernel_rfl)

set_option maxRecDepth 100000 in
theorem signOne_lifted (os : Os) (started : os.Started) (H : Type) (enc : TypeId × Value → H) :
    ReturnsInHanded {} Tryz.checked os 4 .any (fun w args => (Rows.signOneSpec.pre enc Tryz.prog Tryz.f4 Rows.signOneRow.domain false w args ∧ laidMet Tryz.prog laidK w) ∧ sizedMet enc Tryz.prog Tryz.f4 (OpenSpec.ofChange Rows.signOneSpec) false w args)
      (Rows.signOneSpec.post enc Tryz.prog Tryz.f4 false Rows.signOneRow.fresh Rows.signOneRow.handsOn Rows.signOneRow.again) := by
  refine returnsInHanded_of_change_and (C := Tryz.checked) (X := fun w _ => laidMet Tryz.prog laidK w) (fun _ _ _ hh h => h.of_heap hh) own_none started (by kernel_rfl) Tryz.func4
    (ChangeSpec.witness_at (enc := enc) (C := Tryz.checked) (os := os) (X := fun w _ => laidMet Tryz.prog laidK w) false (laidWorld os) #[.int .i64 0, .int .i64 0, .agg #[.int .i64 0, .int .i64 0, .int .i64 0, .string ⟨#[]⟩]] 8 rfl (by kernel_rfl) (by kernel_rfl) (by kernel_rfl) (by kernel_rfl) (by kernel_rfl)
      (laidMet_mk tabs_ok fun T hT => by
        simp only [tabsK, List.mem_cons, List.not_mem_nil, or_false] at hT
        rcases hT with rfl | rfl | rfl
        · exact ⟨162, (by kernel_rfl)⟩
        · exact ⟨167, (by kernel_rfl)⟩
        · exact ⟨167, (by kernel_rfl)⟩)) ?_
  intro W base args ds gs before hval0 hW _ _ hL _
  have hval : ∀ (j : Nat) t v, Tryz.f4.params[j]? = some t → args[j]? = some v → Value.okWide Tryz.prog W .any base t v := hval0
  have hW' := hW
  obtain ⟨p, q, hA0, hV, rfl, _, _⟩ := hW
  have hA : DataW.TrodAll enc Tryz.prog W 0 (fun _ => true) true [3, 3, 23] args.toList ds p := hA0
  obtain ⟨v0, v1, v2, d0, d1, d2, p0, p1, p2, rfl, rfl, rfl, h0, h1, h2⟩ := trodAll_three hA
  obtain ⟨rfl, rfl⟩ := trodVars_none hV
  obtain ⟨a0, rfl, g1⟩ := open_i64 (fun _ => hval 0 _ _ rfl rfl) (fun _ => h0)
  obtain ⟨a1, rfl, g2⟩ := open_i64 (fun _ => hval 1 _ _ rfl rfl) (fun _ => h1)
  obtain ⟨k2, a2, b2, s2, rfl, g3, g4, g5⟩ := open_raw (fun _ => hval 2 _ _ rfl rfl) (fun _ => h2)
  refine (calls_of_owesG cxok_Sig Tryz.func4 (by kernel_rfl) (ok_SignOne a0 a1 k2 a2 b2 s2 g1 g2 g3 g4 g5) (Rho.whole W) W (whole_ok W) (globsOK_tabs tabs_ok hL) (by
    intro z hz
    simp only [List.mem_cons, List.not_mem_nil, or_false] at hz
    rcases hz with rfl | rfl | rfl
    · trivial
    · trivial
    · exact bnd_raw _ _ _ _)).mono fun e W' he => ?_
  obtain ⟨v, rfl, ⟨ρ', hv⟩, hb⟩ := he
  have hv' : v = .bool true := hv
  subst hv'
  exact ⟨_, rfl, law_post (tb := 4) laid_out (by kernel_rfl) (by kernel_rfl) (by kernel_rfl) rfl rfl hW' hb⟩

theorem signOne_facts : joinedFacts Tryz.prog 4 Tryz.f4 Rows.signOneSpec Rows.signOneRow = true := by
  unfold joinedFacts
  rw [prog_three.1, prog_three.2.1, prog_three.2.2]
  kernel_rfl
theorem signOne_said : Rows.SignOneSaid :=
  OpenClaim.holds_of_wide 4 Tryz.f4 rfl rfl rfl rfl rfl rfl rfl ⟨rfl, rfl, rfl, rfl, rfl⟩ rfl rfl rfl rfl rfl (by kernel_rfl) Tryz.func4 signOne_facts
    (of_decide_eq_true (by kernel_rfl)) (by unfold Func.isWrapper; first | (rw [if_pos (by decide +kernel)]; kernel_rfl) | (rw [if_neg (by decide +kernel)]; exact ⟨rfl, rfl⟩))
    (fun os started H enc _ => signOne_lifted os started H enc)
set_option maxRecDepth 100000 in
theorem signOne_holds : Rows.SignOneCardSaid :=
  Claim7.holds_tied_plain_at .later [] [.data, .data, .data] true (true, "d48fbe62fcc58f16ab9ea1172fc99f55f502e68178ddd68d62fdfddd0e8fcb9e") false
    signOne_said (fun _ h => by cases h) (by kernel_rfl) (fun _ h => by cases h) signOne_row_tie rfl ⟨rfl, rfl⟩ (by kernel_rfl) rfl
    (fun f fn hf hfn => by
      obtain rfl : f = 4 := Option.some.inj ((show Tryz.prog.funcNamed "bascule/basculekeep.SignOne" = some 4 by kernel_rfl).symm.trans hf) |>.symm
      obtain rfl : fn = Tryz.f4 := (Option.some.inj (Tryz.func4.symm.trans hfn)).symm
      exact ⟨by kernel_rfl, fun j t ht => by
        have hp : Tryz.f4.params = #[3, 3, 23] := by kernel_rfl
        rw [hp] at ht
        rcases j with _ | j
        · obtain rfl : 3 = t := by simpa using ht
          exact (by kernel_rfl : Tryz.prog.wantsStandIn 3 = false)
        rcases j with _ | j
        · obtain rfl : 3 = t := by simpa using ht
          exact (by kernel_rfl : Tryz.prog.wantsStandIn 3 = false)
        rcases j with _ | j
        · obtain rfl : 23 = t := by simpa using ht
          exact (by kernel_rfl : Tryz.prog.wantsStandIn 23 = false)
        simp at ht⟩)
    (by kernel_rfl)

set_option maxRecDepth 100000 in
theorem signOther_lifted (os : Os) (started : os.Started) (H : Type) (enc : TypeId × Value → H) :
    ReturnsInHanded {} Tryz.checked os 5 .any (fun w args => (Rows.signOtherSpec.pre enc Tryz.prog Tryz.f5 Rows.signOtherRow.domain false w args ∧ laidMet Tryz.prog laidK w) ∧ sizedMet enc Tryz.prog Tryz.f5 (OpenSpec.ofChange Rows.signOtherSpec) false w args)
      (Rows.signOtherSpec.post enc Tryz.prog Tryz.f5 false Rows.signOtherRow.fresh Rows.signOtherRow.handsOn Rows.signOtherRow.again) := by
  refine returnsInHanded_of_change_and (C := Tryz.checked) (X := fun w _ => laidMet Tryz.prog laidK w) (fun _ _ _ hh h => h.of_heap hh) own_none started (by kernel_rfl) Tryz.func5
    (ChangeSpec.witness_at (enc := enc) (C := Tryz.checked) (os := os) (X := fun w _ => laidMet Tryz.prog laidK w) false (laidWorld os) #[.int .i64 0, .int .i64 0, .agg #[.int .i64 0, .int .i64 0, .int .i64 0, .string ⟨#[]⟩], .agg #[.int .i64 0, .int .i64 0, .int .i64 0, .string ⟨#[]⟩]] 8 rfl (by kernel_rfl) (by kernel_rfl) (by kernel_rfl) (by kernel_rfl) (by kernel_rfl)
      (laidMet_mk tabs_ok fun T hT => by
        simp only [tabsK, List.mem_cons, List.not_mem_nil, or_false] at hT
        rcases hT with rfl | rfl | rfl
        · exact ⟨162, (by kernel_rfl)⟩
        · exact ⟨167, (by kernel_rfl)⟩
        · exact ⟨167, (by kernel_rfl)⟩)) ?_
  intro W base args ds gs before hval0 hW _ _ hL _
  have hval : ∀ (j : Nat) t v, Tryz.f5.params[j]? = some t → args[j]? = some v → Value.okWide Tryz.prog W .any base t v := hval0
  have hW' := hW
  obtain ⟨p, q, hA0, hV, rfl, _, _⟩ := hW
  have hA : DataW.TrodAll enc Tryz.prog W 0 (fun _ => true) true [3, 3, 23, 23] args.toList ds p := hA0
  obtain ⟨v0, v1, v2, v3, d0, d1, d2, d3, p0, p1, p2, p3, rfl, rfl, rfl, h0, h1, h2, h3⟩ := trodAll_four hA
  obtain ⟨rfl, rfl⟩ := trodVars_none hV
  obtain ⟨a0, rfl, g1⟩ := open_i64 (fun _ => hval 0 _ _ rfl rfl) (fun _ => h0)
  obtain ⟨a1, rfl, g2⟩ := open_i64 (fun _ => hval 1 _ _ rfl rfl) (fun _ => h1)
  obtain ⟨k2, a2, b2, s2, rfl, g3, g4, g5⟩ := open_raw (fun _ => hval 2 _ _ rfl rfl) (fun _ => h2)
  obtain ⟨k3, a3, b3, s3, rfl, g6, g7, g8⟩ := open_raw (fun _ => hval 3 _ _ rfl rfl) (fun _ => h3)
  refine (calls_of_owesG cxok_Sig Tryz.func5 (by kernel_rfl) (ok_SignOther a0 a1 k2 a2 b2 s2 k3 a3 b3 s3 g1 g2 g3 g4 g5 g6 g7 g8) (Rho.whole W) W (whole_ok W) (globsOK_tabs tabs_ok hL) (by
    intro z hz
    simp only [List.mem_cons, List.not_mem_nil, or_false] at hz
    rcases hz with rfl | rfl | rfl | rfl
    · trivial
    · trivial
    · exact bnd_raw _ _ _ _
    · exact bnd_raw _ _ _ _)).mono fun e W' he => ?_
  obtain ⟨v, rfl, ⟨ρ', hv⟩, hb⟩ := he
  have hv' : v = .bool true := hv
  subst hv'
  exact ⟨_, rfl, law_post (tb := 4) laid_out (by kernel_rfl) (by kernel_rfl) (by kernel_rfl) rfl rfl hW' hb⟩

theorem signOther_facts : joinedFacts Tryz.prog 5 Tryz.f5 Rows.signOtherSpec Rows.signOtherRow = true := by
  unfold joinedFacts
  rw [prog_three.1, prog_three.2.1, prog_three.2.2]
  kernel_rfl
theorem signOther_said : Rows.SignOtherSaid :=
  OpenClaim.holds_of_wide 5 Tryz.f5 rfl rfl rfl rfl rfl rfl rfl ⟨rfl, rfl, rfl, rfl, rfl⟩ rfl rfl rfl rfl rfl (by kernel_rfl) Tryz.func5 signOther_facts
    (of_decide_eq_true (by kernel_rfl)) (by unfold Func.isWrapper; first | (rw [if_pos (by decide +kernel)]; kernel_rfl) | (rw [if_neg (by decide +kernel)]; exact ⟨rfl, rfl⟩))
    (fun os started H enc _ => signOther_lifted os started H enc)
set_option maxRecDepth 100000 in
theorem signOther_holds : Rows.SignOtherCardSaid :=
  Claim7.holds_tied_plain_at .later [] [.data, .data, .data] true (true, "d48fbe62fcc58f16ab9ea1172fc99f55f502e68178ddd68d62fdfddd0e8fcb9e") false
    signOther_said (fun _ h => by cases h) (by kernel_rfl) (fun _ h => by cases h) signOther_row_tie rfl ⟨rfl, rfl⟩ (by kernel_rfl) rfl
    (fun f fn hf hfn => by
      obtain rfl : f = 5 := Option.some.inj ((show Tryz.prog.funcNamed "bascule/basculekeep.SignOther" = some 5 by kernel_rfl).symm.trans hf) |>.symm
      obtain rfl : fn = Tryz.f5 := (Option.some.inj (Tryz.func5.symm.trans hfn)).symm
      exact ⟨by kernel_rfl, fun j t ht => by
        have hp : Tryz.f5.params = #[3, 3, 23, 23] := by kernel_rfl
        rw [hp] at ht
        rcases j with _ | j
        · obtain rfl : 3 = t := by simpa using ht
          exact (by kernel_rfl : Tryz.prog.wantsStandIn 3 = false)
        rcases j with _ | j
        · obtain rfl : 3 = t := by simpa using ht
          exact (by kernel_rfl : Tryz.prog.wantsStandIn 3 = false)
        rcases j with _ | j
        · obtain rfl : 23 = t := by simpa using ht
          exact (by kernel_rfl : Tryz.prog.wantsStandIn 23 = false)
        rcases j with _ | j
        · obtain rfl : 23 = t := by simpa using ht
          exact (by kernel_rfl : Tryz.prog.wantsStandIn 23 = false)
        simp at ht⟩)
    (by kernel_rfl)
end Go.Proofs.YtohnkglcabfpjaaGreatDoor
