/-
  TurnApart: for every input, true, and the input reads as it did; the tables hold what the text of the program lays.
-/
import Derived.Test.YtnacohdnjmmonaaDoorM1
import Derived.Test.YtnacohdnjmmonaaDoorM2
import Derived.Test.YtnacohdnjmmonaaDoorM3
import Derived.Test.YtnacohdnjmmonaaDoorM4
import Derived.Test.YtnacohdnjmmonaaDoorM5
import Derived.Test.YtnacohdnjmmonaaDoorM6
import Derived.Test.YtnacohdnjmmonaaDoorM7
import Derived.Test.YtnacohdnjmmonaaDoorM8
import Derived.Test.YtnacohdnjmmonaaDoorM9
import Derived.Test.YtnacohdnjmmonaaDoorTie
import Derived.Test.YtnacohdnjmmonaaDoorCards
namespace Go.Proofs.YtnacohdnjmmonaaDoor
open Go.ChangeShapes Go.WideShapes Go.ChangeAt Go.RowKit Go.Sx

theorem lks_k25 : lks Tryd.prog 3 25 = some (List.replicate 25 (.int .u64)) := by kernel_rfl
theorem fits_u64s : ∀ {n : Nat} {cs : List Value}, fitsL (List.replicate n (.int .u64)) cs → ∃ L : Nat → Int, cs = (List.range n).map (fun i => Value.int .u64 (L i)) ∧ lanes n L
  | 0, cs, h => by
    cases cs with
    | nil => exact ⟨fun _ => 0, rfl, fun _ h => absurd h (Nat.not_lt_zero _)⟩
    | cons c cs => exact h.elim
  | n + 1, cs, h => by
    cases cs with
    | nil => exact h.elim
    | cons c cs =>
      rw [List.replicate_succ] at h
      cases c <;> try exact h.1.elim
      rename_i k x
      obtain ⟨⟨rfl, w⟩, hr⟩ := h
      obtain ⟨L, rfl, hL⟩ := fits_u64s hr
      refine ⟨fun i => match i with | 0 => x | i + 1 => L i, ?_, fun i hi => ?_⟩
      · rw [List.range_succ_eq_map]; simp
      · cases i with
        | zero => have := bounds_u64 w; exact ⟨this.1, (by omega : x < 18446744073709551616)⟩
        | succ i => exact hL i (by omega)
theorem open_k25 {H : Type} {enc : TypeId × Value → H} {W : World} {base b0 : Nat} {sp : Nat → Bool} {held : Bool} {v : Value} {d : DataW H} {ps : List MemPlace}
    (hval : Unit → Value.okWide Tryd.prog W .any b0 25 v) (h : Unit → DataW.Trod enc Tryd.prog W base sp held 25 v d ps) : ∃ L : Nat → Int, v = (sRow .u64 25 L).conc (Rho.whole W) ∧ lanes 25 L := by
  have hx : ∃ cs : List Value, v = .agg cs.toArray ∧ fitsL (List.replicate 25 (.int .u64)) cs := by
    refine open_flat (H := H) (enc := enc) (P := Tryd.prog) (w := W) (base := base) (sp := sp) (held := held) (d := 3) (t := 25) (r := .any) (b0 := b0) (v := v) (x := d) (ps := ps) lks_k25 ?_ ?_ ?_
    · kernel_rfl
    · with_reducible exact hval ()
    · with_reducible exact h ()
  obtain ⟨cs, rfl, hf⟩ := hx
  obtain ⟨L, rfl, hL⟩ := fits_u64s hf
  refine ⟨L, ?_, hL⟩
  simp only [SA.conc, concs_f]

set_option maxRecDepth 100000 in
theorem turnApart_lifted (os : Os) (started : os.Started) (H : Type) (enc : TypeId × Value → H) :
    ReturnsInHanded {} Tryd.checked os 5 .any (fun w args => (Rows.turnApartSpec.pre enc Tryd.prog Tryd.f5 Rows.turnApartRow.domain false w args ∧ laidMet Tryd.prog laidK w) ∧ sizedMet enc Tryd.prog Tryd.f5 (OpenSpec.ofChange Rows.turnApartSpec) false w args)
      (Rows.turnApartSpec.post enc Tryd.prog Tryd.f5 false Rows.turnApartRow.fresh Rows.turnApartRow.handsOn Rows.turnApartRow.again) := by
  refine returnsInHanded_of_change_and (C := Tryd.checked) (X := fun w _ => laidMet Tryd.prog laidK w) (fun _ _ _ hh h => h.of_heap hh) own_none started (by kernel_rfl) Tryd.func5
    (ChangeSpec.witness_at (enc := enc) (C := Tryd.checked) (os := os) (X := fun w _ => laidMet Tryd.prog laidK w) false (laidWorld os) #[.agg #[.int .u64 0, .int .u64 0, .int .u64 0, .int .u64 0, .int .u64 0, .int .u64 0, .int .u64 0, .int .u64 0, .int .u64 0, .int .u64 0, .int .u64 0, .int .u64 0, .int .u64 0, .int .u64 0, .int .u64 0, .int .u64 0, .int .u64 0, .int .u64 0, .int .u64 0, .int .u64 0, .int .u64 0, .int .u64 0, .int .u64 0, .int .u64 0, .int .u64 0], .int .i64 0, .int .i64 0] 8 rfl (by kernel_rfl) (by kernel_rfl) (by kernel_rfl) (by kernel_rfl) (by kernel_rfl)
      (laidMet_mk tabs_ok fun T hT => by
        simp only [tabsK, List.mem_cons, List.not_mem_nil, or_false] at hT
        rcases hT with rfl | rfl | rfl
        · exact ⟨47, (by kernel_rfl)⟩
        · exact ⟨51, (by kernel_rfl)⟩
        · exact ⟨51, (by kernel_rfl)⟩)) ?_
  intro W base args ds gs before hval0 hW _ _ hL _
  have hval : ∀ (j : Nat) t v, Tryd.f5.params[j]? = some t → args[j]? = some v → Value.okWide Tryd.prog W .any base t v := hval0
  have hW' := hW
  obtain ⟨p, q, hA0, hV, rfl, _, _⟩ := hW
  have hA : DataW.TrodAll enc Tryd.prog W 0 (fun _ => true) true [25, 3, 3] args.toList ds p := hA0
  obtain ⟨v0, v1, v2, d0, d1, d2, p0, p1, p2, rfl, rfl, rfl, h0, h1, h2⟩ := trodAll_three hA
  obtain ⟨rfl, rfl⟩ := trodVars_none hV
  obtain ⟨L0, rfl, g1⟩ := open_k25 (fun _ => hval 0 _ _ rfl rfl) (fun _ => h0)
  obtain ⟨a1, rfl, g2⟩ := open_i64 (fun _ => hval 1 _ _ rfl rfl) (fun _ => h1)
  obtain ⟨a2, rfl, g3⟩ := open_i64 (fun _ => hval 2 _ _ rfl rfl) (fun _ => h2)
  refine (calls_of_owesG cxok_Apart Tryd.func5 (by kernel_rfl) (ok_TurnApart L0 a1 a2 g1 g2 g3) (Rho.whole W) W (whole_ok W) (globsOK_tabs tabs_ok hL) (by
    intro z hz
    simp only [List.mem_cons, List.not_mem_nil, or_false] at hz
    rcases hz with rfl | rfl | rfl
    · exact bnd_row _ _ _ _
    · trivial
    · trivial)).mono fun e W' he => ?_
  obtain ⟨v, rfl, ⟨ρ', hv⟩, hb⟩ := he
  have hv' : v = .bool true := hv
  subst hv'
  exact ⟨_, rfl, law_post (tb := 4) laid_out (by kernel_rfl) (by kernel_rfl) (by kernel_rfl) rfl rfl hW' hb⟩

theorem turnApart_facts : joinedFacts Tryd.prog 5 Tryd.f5 Rows.turnApartSpec Rows.turnApartRow = true := by
  unfold joinedFacts
  rw [prog_three.1, prog_three.2.1, prog_three.2.2]
  kernel_rfl
theorem turnApart_said : Rows.TurnApartSaid :=
  OpenClaim.holds_of_wide 5 Tryd.f5 rfl rfl rfl rfl rfl rfl rfl ⟨rfl, rfl, rfl, rfl, rfl⟩ rfl rfl rfl rfl rfl (by kernel_rfl) Tryd.func5 turnApart_facts
    (of_decide_eq_true (by kernel_rfl)) (by unfold Func.isWrapper; first | (rw [if_pos (by decide +kernel)]; kernel_rfl) | (rw [if_neg (by decide +kernel)]; exact ⟨rfl, rfl⟩))
    (fun os started H enc _ => turnApart_lifted os started H enc)
theorem turnApart_holds : Rows.TurnApartCardSaid :=
  Claim7.holds_tied_plain_at .later [] [.data, .data, .data] true (true, "c84c04b79771f79868de0b36c3fd74dc58a641bff1af07cf1a07fa46c0c5b375") false
    turnApart_said (fun _ h => by cases h) (by kernel_rfl) (fun _ h => by cases h) turnApart_row_tie rfl ⟨rfl, rfl⟩ (by kernel_rfl) rfl
    (fun f fn hf hfn => by
      obtain rfl : f = 5 := Option.some.inj ((show Tryd.prog.funcNamed "bascule/basculekeep.TurnApart" = some 5 by kernel_rfl).symm.trans hf) |>.symm
      obtain rfl : fn = Tryd.f5 := (Option.some.inj (Tryd.func5.symm.trans hfn)).symm
      exact ⟨by kernel_rfl, fun j t ht => by
        have hp : Tryd.f5.params = #[25, 3, 3] := by kernel_rfl
        rw [hp] at ht
        rcases j with _ | j
        · obtain rfl : 25 = t := by simpa using ht
          exact (by kernel_rfl : Tryd.prog.wantsStandIn 25 = false)
        rcases j with _ | j
        · obtain rfl : 3 = t := by simpa using ht
          exact (by kernel_rfl : Tryd.prog.wantsStandIn 3 = false)
        rcases j with _ | j
        · obtain rfl : 3 = t := by simpa using ht
          exact (by kernel_rfl : Tryd.prog.wantsStandIn 3 = false)
        simp at ht⟩)
    (by kernel_rfl)
end Go.Proofs.YtnacohdnjmmonaaDoor
