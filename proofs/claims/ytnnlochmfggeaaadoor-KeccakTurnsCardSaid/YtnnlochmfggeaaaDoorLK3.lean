/-
  KeccakTurns: for every input, true, and the input reads as it did; the tables hold what the text of the program lays.
-/
import Derived.Test.YtnnlochmfggeaaaDoorM1
import Derived.Test.YtnnlochmfggeaaaDoorM2
import Derived.Test.YtnnlochmfggeaaaDoorM3
import Derived.Test.YtnnlochmfggeaaaDoorM4
import Derived.Test.YtnnlochmfggeaaaDoorM5
import Derived.Test.YtnnlochmfggeaaaDoorM6
import Derived.Test.YtnnlochmfggeaaaDoorM7
import Derived.Test.YtnnlochmfggeaaaDoorM8
import Derived.Test.YtnnlochmfggeaaaDoorM9
import Derived.Test.YtnnlochmfggeaaaDoorM10
import Derived.Test.YtnnlochmfggeaaaDoorTie
import Derived.Test.YtnnlochmfggeaaaDoorCards
namespace Go.Proofs.YtnnlochmfggeaaaDoor
open Go.ChangeShapes Go.WideShapes Go.ChangeAt Go.RowKit Go.Sx

theorem prog_three : Tryd.prog.mayEnter = true ∧ Tryd.prog.liftsFinal = Rows.keccakTurnsRow.lifted ∧ Tryd.prog.make = some Rows.keccakTurnsRow.make := ⟨by kernel_rfl, by kernel_rfl, by kernel_rfl⟩
theorem own_none : ownKnob Tryd.prog.godebug = none := by kernel_rfl
theorem laid_out : laidOutB Tryd.prog = true := by kernel_rfl
theorem tabs_ok : tabsB Tryd.prog tabsK = true := by kernel_rfl
/-- A world whose variables hold the tables. -/
abbrev laidK : List (String × DataW Unit) := tabsK.map fun T => (T.name, T.data)
def setRow (h : Array Obj) (T : Tab) : Array Obj :=
  h.modify T.g fun o => match o with
    | .cells _ t frozen => .cells T.vals.toArray t frozen
    | o => o
noncomputable def laidWorld (os : Os) : World :=
  { World.holding Tryd.prog os ⟨#[], #[], []⟩ with heap := tabsK.foldl setRow (World.holding Tryd.prog os ⟨#[], #[], []⟩).heap }
theorem open_i64 {H : Type} {enc : TypeId × Value → H} {W : World} {base b0 : Nat} {sp : Nat → Bool} {held : Bool} {v : Value} {d : DataW H} {ps : List MemPlace}
    (hval : Unit → Value.okWide Tryd.prog W .any b0 3 v) (h : Unit → DataW.Trod enc Tryd.prog W base sp held 3 v d ps) : ∃ a, v = (sI .i64 a).conc (Rho.whole W) ∧ i64ok a := by
  have hu : Tryd.prog.underlying 3 = some (.int .i64) := by kernel_rfl
  obtain ⟨n, e, _, _, w⟩ := open_int hu (by with_reducible exact hval ()) (by with_reducible exact h ())
  exact ⟨n, e, bounds_i64 w⟩
theorem open_bs {H : Type} {enc : TypeId × Value → H} {W : World} {base b0 : Nat} {sp : Nat → Bool} {held : Bool} {v : Value} {d : DataW H} {ps : List MemPlace}
    (hval : Unit → Value.okWide Tryd.prog W .any b0 29 v) (h : Unit → DataW.Trod enc Tryd.prog W base sp held 29 v d ps) :
    ∃ (a : Option Addr) (n cap : Nat) (f : Nat → Int), v = (sXs a n cap f).conc (Rho.whole W) ∧ n ≤ maxLen ∧ (∀ i, 0 ≤ f i ∧ f i < 256) ∧ SA.bnd ⟨fun _ => False, (Rho.whole W).fz⟩ (sXs a n cap f) := by
  have hu : Tryd.prog.underlying 29 = some (.slice 5) := by kernel_rfl
  have hu2 : Tryd.prog.underlying 5 = some (.int .u8) := by kernel_rfl
  exact open_bytes hu hu2 (by kernel_rfl) (by with_reducible exact hval ()) (by with_reducible exact h ())

theorem lks_k25 : lks Tryd.prog 3 23 = some (List.replicate 25 (.int .u64)) := by kernel_rfl
theorem fits_u64s : ∀ {n : Nat} {cs : List Value}, fitsL (List.replicate n (.int .u64)) cs → ∃ L : Nat → Int, cs = (List.range n).map (fun i => Value.int .u64 (L i)) ∧ lanes n L
  | 0, cs, h => by
    cases cs with
    | nil => exact ⟨fun _ => 0, rfl, fun _ h => absurd h (Nat.not_lt_zero _)⟩
    | cons c cs => exact h.elim
  | n + 1, cs, h => by
    cases cs with
    | nil => exact h.elim
    | cons c cs =>
      rw [List.replicate_succ] at h
      cases c <;> try exact h.1.elim
      rename_i k x
      obtain ⟨⟨rfl, w⟩, hr⟩ := h
      obtain ⟨L, rfl, hL⟩ := fits_u64s hr
      refine ⟨fun i => match i with | 0 => x | i + 1 => L i, ?_, fun i hi => ?_⟩
      · rw [List.range_succ_eq_map]; simp
      · cases i with
        | zero => have := bounds_u64 w; exact ⟨this.1, (by omega : x < 18446744073709551616)⟩
        | succ i => exact hL i (by omega)
theorem open_k25 {H : Type} {enc : TypeId × Value → H} {W : World} {base b0 : Nat} {sp : Nat → Bool} {held : Bool} {v : Value} {d : DataW H} {ps : List MemPlace}
    (hval : Unit → Value.okWide Tryd.prog W .any b0 23 v) (h : Unit → DataW.Trod enc Tryd.prog W base sp held 23 v d ps) : ∃ L : Nat → Int, v = (sRow .u64 25 L).conc (Rho.whole W) ∧ lanes 25 L := by
  have hx : ∃ cs : List Value, v = .agg cs.toArray ∧ fitsL (List.replicate 25 (.int .u64)) cs := by
    refine open_flat (H := H) (enc := enc) (P := Tryd.prog) (w := W) (base := base) (sp := sp) (held := held) (d := 3) (t := 23) (r := .any) (b0 := b0) (v := v) (x := d) (ps := ps) lks_k25 ?_ ?_ ?_
    · kernel_rfl
    · with_reducible exact hval ()
    · with_reducible exact h ()
  obtain ⟨cs, rfl, hf⟩ := hx
  obtain ⟨L, rfl, hL⟩ := fits_u64s hf
  refine ⟨L, ?_, hL⟩
  simp only [SA.conc, concs_f]

set_option maxRecDepth 100000 in
theorem keccakTurns_lifted (os : Os) (started : os.Started) (H : Type) (enc : TypeId × Value → H) :
    ReturnsInHanded {} Tryd.checked os 3 .any (fun w args => (Rows.keccakTurnsSpec.pre enc Tryd.prog Tryd.f3 Rows.keccakTurnsRow.domain false w args ∧ laidMet Tryd.prog laidK w) ∧ sizedMet enc Tryd.prog Tryd.f3 (OpenSpec.ofChange Rows.keccakTurnsSpec) false w args)
      (Rows.keccakTurnsSpec.post enc Tryd.prog Tryd.f3 false Rows.keccakTurnsRow.fresh Rows.keccakTurnsRow.handsOn Rows.keccakTurnsRow.again) := by
  refine returnsInHanded_of_change_and (C := Tryd.checked) (X := fun w _ => laidMet Tryd.prog laidK w) (fun _ _ _ hh h => h.of_heap hh) own_none started (by kernel_rfl) Tryd.func3
    (ChangeSpec.witness_at (enc := enc) (C := Tryd.checked) (os := os) (X := fun w _ => laidMet Tryd.prog laidK w) false (laidWorld os) #[.agg #[.int .u64 0, .int .u64 0, .int .u64 0, .int .u64 0, .int .u64 0, .int .u64 0, .int .u64 0, .int .u64 0, .int .u64 0, .int .u64 0, .int .u64 0, .int .u64 0, .int .u64 0, .int .u64 0, .int .u64 0, .int .u64 0, .int .u64 0, .int .u64 0, .int .u64 0, .int .u64 0, .int .u64 0, .int .u64 0, .int .u64 0, .int .u64 0, .int .u64 0]] 8 rfl (by kernel_rfl) (by kernel_rfl) (by kernel_rfl) (by kernel_rfl) (by kernel_rfl)
      (laidMet_mk tabs_ok fun T hT => by
        simp only [tabsK, List.mem_cons, List.not_mem_nil, or_false] at hT
        rcases hT with rfl | rfl | rfl
        · exact ⟨42, (by kernel_rfl)⟩
        · exact ⟨50, (by kernel_rfl)⟩
        · exact ⟨50, (by kernel_rfl)⟩)) ?_
  intro W base args ds gs before hval0 hW _ _ hL _
  have hval : ∀ (j : Nat) t v, Tryd.f3.params[j]? = some t → args[j]? = some v → Value.okWide Tryd.prog W .any base t v := hval0
  have hW' := hW
  obtain ⟨p, q, hA0, hV, rfl, _, _⟩ := hW
  have hA : DataW.TrodAll enc Tryd.prog W 0 (fun _ => true) true [23] args.toList ds p := hA0
  obtain ⟨v0, d0, rfl, rfl, h0⟩ := trodAll_one hA
  obtain ⟨rfl, rfl⟩ := trodVars_none hV
  obtain ⟨L0, rfl, g1⟩ := open_k25 (fun _ => hval 0 _ _ rfl rfl) (fun _ => h0)
  refine (calls_of_owesG cxok_Turns Tryd.func3 (by kernel_rfl) (ok_KeccakTurns L0 g1) (Rho.whole W) W (whole_ok W) (globsOK_tabs tabs_ok hL) (by
    intro z hz
    simp only [List.mem_cons, List.not_mem_nil, or_false] at hz
    rcases hz with rfl
    · exact bnd_row _ _ _ _)).mono fun e W' he => ?_
  obtain ⟨v, rfl, ⟨ρ', hv⟩, hb⟩ := he
  have hv' : v = .bool true := hv
  subst hv'
  exact ⟨_, rfl, law_post (tb := 4) laid_out (by kernel_rfl) (by kernel_rfl) (by kernel_rfl) rfl rfl hW' hb⟩

theorem keccakTurns_facts : joinedFacts Tryd.prog 3 Tryd.f3 Rows.keccakTurnsSpec Rows.keccakTurnsRow = true := by
  unfold joinedFacts
  rw [prog_three.1, prog_three.2.1, prog_three.2.2]
  kernel_rfl
theorem keccakTurns_said : Rows.KeccakTurnsSaid :=
  OpenClaim.holds_of_wide 3 Tryd.f3 rfl rfl rfl rfl rfl rfl rfl ⟨rfl, rfl, rfl, rfl, rfl⟩ rfl rfl rfl rfl rfl (by kernel_rfl) Tryd.func3 keccakTurns_facts
    (of_decide_eq_true (by kernel_rfl)) (by unfold Func.isWrapper; first | (rw [if_pos (by decide +kernel)]; kernel_rfl) | (rw [if_neg (by decide +kernel)]; exact ⟨rfl, rfl⟩))
    (fun os started H enc _ => keccakTurns_lifted os started H enc)
theorem keccakTurns_holds : Rows.KeccakTurnsCardSaid :=
  Claim7.holds_tied_plain_at .later [] [.data, .data, .data] true (true, "b9c1312683080c8f28d6f5185f86a0eb4d4106595c9715d012914222b728df1a") false
    keccakTurns_said (fun _ h => by cases h) (by kernel_rfl) (fun _ h => by cases h) keccakTurns_row_tie rfl ⟨rfl, rfl⟩ (by kernel_rfl) rfl
    (fun f fn hf hfn => by
      obtain rfl : f = 3 := Option.some.inj ((show Tryd.prog.funcNamed "bascule/basculelaw.KeccakTurns" = some 3 by kernel_rfl).symm.trans hf) |>.symm
      obtain rfl : fn = Tryd.f3 := (Option.some.inj (Tryd.func3.symm.trans hfn)).symm
      exact ⟨by kernel_rfl, fun j t ht => by
        have hp : Tryd.f3.params = #[23] := by kernel_rfl
        rw [hp] at ht
        rcases j with _ | j
        · obtain rfl : 23 = t := by simpa using ht
          exact (by kernel_rfl : Tryd.prog.wantsStandIn 23 = false)
        simp at ht⟩)
    (by kernel_rfl)
end Go.Proofs.YtnnlochmfggeaaaDoor
