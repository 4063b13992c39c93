/-
  PaperSum: for every input, true, and the input reads as it did; the tables hold what the text of the program lays.
-/
import Derived.Test.YtgcnbpdifpjkcaaDoorM1
import Derived.Test.YtgcnbpdifpjkcaaDoorM2
import Derived.Test.YtgcnbpdifpjkcaaDoorM3
import Derived.Test.YtgcnbpdifpjkcaaDoorM4
import Derived.Test.YtgcnbpdifpjkcaaDoorM5
import Derived.Test.YtgcnbpdifpjkcaaDoorM6
import Derived.Test.YtgcnbpdifpjkcaaDoorM7
import Derived.Test.YtgcnbpdifpjkcaaDoorM8
import Derived.Test.YtgcnbpdifpjkcaaDoorM9
import Derived.Test.YtgcnbpdifpjkcaaDoorM10
import Derived.Test.YtgcnbpdifpjkcaaDoorM11
import Derived.Test.YtgcnbpdifpjkcaaDoorM12
import Derived.Test.YtgcnbpdifpjkcaaDoorTie
import Derived.Test.YtgcnbpdifpjkcaaDoorCards

namespace Go.Proofs.YtgcnbpdifpjkcaaDoor
open Go.ChangeShapes Go.WideShapes Go.ChangeAt Go.RowKit Go.Sx

theorem prog_three : Tryd.prog.mayEnter = true ∧ Tryd.prog.liftsFinal = Rows.paperSumRow.lifted ∧ Tryd.prog.make = some Rows.paperSumRow.make := ⟨by kernel_rfl, by kernel_rfl, by kernel_rfl⟩
theorem own_none : ownKnob Tryd.prog.godebug = none := by kernel_rfl
theorem laid_out : laidOutB Tryd.prog = true := by kernel_rfl
theorem tabs_ok : tabsB Tryd.prog tabsK = true := by kernel_rfl
/-- A world whose variables hold the tables. -/
abbrev laidK : List (String × DataW Unit) := tabsK.map fun T => (T.name, T.data)
def setRow (h : Array Obj) (T : Tab) : Array Obj :=
  h.modify T.g fun o => match o with
    | .cells _ t frozen => .cells T.vals.toArray t frozen
    | o => o
noncomputable def laidWorld (os : Os) : World :=
  { World.holding Tryd.prog os ⟨#[], #[], []⟩ with heap := tabsK.foldl setRow (World.holding Tryd.prog os ⟨#[], #[], []⟩).heap }
theorem lks_raw : lks Tryd.prog 3 23 = some [.int .i64, .int .i64, .int .i64, .text] := by kernel_rfl
theorem raw_of {v : Value} (ρ : Rho) (hx : ∃ cs : List Value, v = .agg cs.toArray ∧ fitsL [.int .i64, .int .i64, .int .i64, .text] cs) : ∃ k a b s, v = (sRaw k a b s).conc ρ ∧ i64ok k ∧ i64ok a ∧ i64ok b := by
  obtain ⟨cs, rfl, hf⟩ := hx
  match cs, hf with
  | [.int k1 a1, .int k2 a2, .int k3 a3, .string s], hf =>
    obtain ⟨⟨rfl, w1⟩, ⟨rfl, w2⟩, ⟨rfl, w3⟩, _, _⟩ := hf
    exact ⟨a1, a2, a3, s, rfl, bounds_i64 w1, bounds_i64 w2, bounds_i64 w3⟩
/-- A raw thing, opened. -/
theorem open_raw {H : Type} {enc : TypeId × Value → H} {W : World} {base b0 : Nat} {sp : Nat → Bool} {held : Bool} {v : Value} {d : DataW H} {ps : List MemPlace}
    (hval : Unit → Value.okWide Tryd.prog W .any b0 23 v) (h : Unit → DataW.Trod enc Tryd.prog W base sp held 23 v d ps) :
    ∃ k a b s, v = (sRaw k a b s).conc (Rho.whole W) ∧ i64ok k ∧ i64ok a ∧ i64ok b := by
  have hx : ∃ cs : List Value, v = .agg cs.toArray ∧ fitsL [.int .i64, .int .i64, .int .i64, .text] cs := by
    refine open_flat (H := H) (enc := enc) (P := Tryd.prog) (w := W) (base := base) (sp := sp) (held := held) (d := 3) (t := 23) (r := .any) (b0 := b0) (v := v) (x := d) (ps := ps) lks_raw ?_ ?_ ?_
    · kernel_rfl
    · with_reducible exact hval ()
    · with_reducible exact h ()
  exact raw_of _ hx
theorem bnd_raw {n : Env} (k a b : Int) (s : ByteArray) : SA.bnd n (sRaw k a b s) := by
  intro y hy
  simp only [List.mem_cons, List.not_mem_nil, or_false] at hy
  rcases hy with rfl | rfl | rfl | rfl <;> trivial

set_option maxRecDepth 100000 in
theorem paperSum_lifted (os : Os) (started : os.Started) (H : Type) (enc : TypeId × Value → H) :
    ReturnsInHanded {} Tryd.checked os 3 .any (fun w args => (Rows.paperSumSpec.pre enc Tryd.prog Tryd.f3 Rows.paperSumRow.domain false w args ∧ laidMet Tryd.prog laidK w) ∧ sizedMet enc Tryd.prog Tryd.f3 (OpenSpec.ofChange Rows.paperSumSpec) false w args)
      (Rows.paperSumSpec.post enc Tryd.prog Tryd.f3 false Rows.paperSumRow.fresh Rows.paperSumRow.handsOn Rows.paperSumRow.again) := by
  refine returnsInHanded_of_change_and (C := Tryd.checked) (X := fun w _ => laidMet Tryd.prog laidK w) (fun _ _ _ hh h => h.of_heap hh) own_none started (by kernel_rfl) Tryd.func3
    (ChangeSpec.witness_at (enc := enc) (C := Tryd.checked) (os := os) (X := fun w _ => laidMet Tryd.prog laidK w) false (laidWorld os) #[.agg #[.int .i64 0, .int .i64 0, .int .i64 0, .string ⟨#[]⟩], .agg #[.int .i64 0, .int .i64 0, .int .i64 0, .string ⟨#[]⟩]] 8 rfl (by kernel_rfl) (by kernel_rfl) (by kernel_rfl) (by kernel_rfl) (by kernel_rfl)
      (laidMet_mk tabs_ok fun T hT => by
        simp only [tabsK, List.mem_cons, List.not_mem_nil, or_false] at hT
        rcases hT with rfl | rfl | rfl
        · exact ⟨58, (by kernel_rfl)⟩
        · exact ⟨62, (by kernel_rfl)⟩
        · exact ⟨62, (by kernel_rfl)⟩)) ?_
  intro W base args ds gs before hval0 hW _ _ hL _
  have hval : ∀ (j : Nat) t v, Tryd.f3.params[j]? = some t → args[j]? = some v → Value.okWide Tryd.prog W .any base t v := hval0
  have hW' := hW
  obtain ⟨p, q, hA0, hV, rfl, _, _⟩ := hW
  have hA : DataW.TrodAll enc Tryd.prog W 0 (fun _ => true) true [23, 23] args.toList ds p := hA0
  obtain ⟨v0, v1, d0, d1, p0, p1, rfl, rfl, rfl, h0, h1⟩ := trodAll_two hA
  obtain ⟨rfl, rfl⟩ := trodVars_none hV
  obtain ⟨k0, a0, b0, s0, rfl, g1, g2, g3⟩ := open_raw (fun _ => hval 0 _ _ rfl rfl) (fun _ => h0)
  obtain ⟨k1, a1, b1, s1, rfl, g4, g5, g6⟩ := open_raw (fun _ => hval 1 _ _ rfl rfl) (fun _ => h1)
  refine (calls_of_owesV cxok_PT sl_PS Tryd.func3 (by kernel_rfl) (okl_PS k0 a0 b0 s0 k1 a1 b1 s1 g1 g2 g3 g4 g5 g6) (Rho.whole W) W (whole_ok W) (globsOK_tabs tabs_ok hL) (by
    intro z hz
    simp only [List.mem_cons, List.not_mem_nil, or_false] at hz
    rcases hz with rfl | rfl
    · exact bnd_raw _ _ _ _
    · exact bnd_raw _ _ _ _)).mono fun e W' he => ?_
  obtain ⟨v, rfl, ⟨ρ', hv⟩, hb⟩ := he
  have hv' : v = .bool true := hv
  subst hv'
  exact ⟨_, rfl, law_post (tb := 4) laid_out (by kernel_rfl) (by kernel_rfl) (by kernel_rfl) rfl rfl hW' hb⟩

theorem paperSum_facts : joinedFacts Tryd.prog 3 Tryd.f3 Rows.paperSumSpec Rows.paperSumRow = true := by
  unfold joinedFacts
  rw [prog_three.1, prog_three.2.1, prog_three.2.2]
  kernel_rfl
theorem paperSum_said : Rows.PaperSumSaid :=
  OpenClaim.holds_of_wide 3 Tryd.f3 rfl rfl rfl rfl rfl rfl rfl ⟨rfl, rfl, rfl, rfl, rfl⟩ rfl rfl rfl rfl rfl (by kernel_rfl) Tryd.func3 paperSum_facts
    (of_decide_eq_true (by kernel_rfl)) (by unfold Func.isWrapper; first | (rw [if_pos (by decide +kernel)]; kernel_rfl) | (rw [if_neg (by decide +kernel)]; exact ⟨rfl, rfl⟩))
    (fun os started H enc _ => paperSum_lifted os started H enc)
set_option maxRecDepth 100000 in
theorem paperSum_holds : Rows.PaperSumCardSaid :=
  Claim7.holds_tied_plain_at .later [] [.data, .data, .data] true (true, "3eb50e981b613cfd346e30845c9af35d9be70386fffed596637c1183941c3494") false
    paperSum_said (fun _ h => by cases h) (by kernel_rfl) (fun _ h => by cases h) paperSum_row_tie rfl ⟨rfl, rfl⟩ (by kernel_rfl) rfl
    (fun f fn hf hfn => by
      obtain rfl : f = 3 := Option.some.inj ((show Tryd.prog.funcNamed "bascule/basculekeep.PaperSum" = some 3 by kernel_rfl).symm.trans hf) |>.symm
      obtain rfl : fn = Tryd.f3 := (Option.some.inj (Tryd.func3.symm.trans hfn)).symm
      exact ⟨by kernel_rfl, fun j t ht => by
        have hp : Tryd.f3.params = #[23, 23] := by kernel_rfl
        rw [hp] at ht
        rcases j with _ | j
        · obtain rfl : 23 = t := by simpa using ht
          exact (by kernel_rfl : Tryd.prog.wantsStandIn 23 = false)
        rcases j with _ | j
        · obtain rfl : 23 = t := by simpa using ht
          exact (by kernel_rfl : Tryd.prog.wantsStandIn 23 = false)
        simp at ht⟩)
    (by kernel_rfl)
end Go.Proofs.YtgcnbpdifpjkcaaDoor
