/-
  BodyWrites: for every input, true, and the input reads as it did; the tables hold what the text of the program lays.
-/
import Derived.Test.YtpebkgbelifdgaaDoorM1
import Derived.Test.YtpebkgbelifdgaaDoorM2
import Derived.Test.YtpebkgbelifdgaaDoorM3
import Derived.Test.YtpebkgbelifdgaaDoorM4
import Derived.Test.YtpebkgbelifdgaaDoorM5
import Derived.Test.YtpebkgbelifdgaaDoorM6
import Derived.Test.YtpebkgbelifdgaaDoorM7
import Derived.Test.YtpebkgbelifdgaaDoorM8
import Derived.Test.YtpebkgbelifdgaaDoorM9
import Derived.Test.YtpebkgbelifdgaaDoorM10
import Derived.Test.YtpebkgbelifdgaaDoorM11
import Derived.Test.YtpebkgbelifdgaaDoorM12
import Derived.Test.YtpebkgbelifdgaaDoorM13
import Derived.Test.YtpebkgbelifdgaaDoorM14
import Derived.Test.YtpebkgbelifdgaaDoorTie
import Derived.Test.YtpebkgbelifdgaaDoorCards

namespace Go.Proofs.YtpebkgbelifdgaaDoor
open Go.ChangeShapes Go.WideShapes Go.ChangeAt Go.RowKit Go.Sx

theorem prog_three : Tryd.prog.mayEnter = true ∧ Tryd.prog.liftsFinal = Rows.bodyWritesRow.lifted ∧ Tryd.prog.make = some Rows.bodyWritesRow.make := ⟨by kernel_rfl, by kernel_rfl, by kernel_rfl⟩
theorem own_none : ownKnob Tryd.prog.godebug = none := by kernel_rfl
theorem laid_out : laidOutB Tryd.prog = true := by kernel_rfl
theorem tabs_ok : tabsB Tryd.prog tabsK = true := by kernel_rfl
/-- A world whose variables hold the tables. -/
abbrev laidK : List (String × DataW Unit) := tabsK.map fun T => (T.name, T.data)
def setRow (h : Array Obj) (T : Tab) : Array Obj :=
  h.modify T.g fun o => match o with
    | .cells _ t frozen => .cells T.vals.toArray t frozen
    | o => o
noncomputable def laidWorld (os : Os) : World :=
  { World.holding Tryd.prog os ⟨#[], #[], []⟩ with heap := tabsK.foldl setRow (World.holding Tryd.prog os ⟨#[], #[], []⟩).heap }
theorem lqs_D : lqs Tryd.prog 4 25 = some bdLQ := by kernel_rfl
theorem open_D {H : Type} {enc : TypeId × Value → H} {W : World} {base b0 : Nat} {sp : Nat → Bool} {held : Bool} {v : Value} {d : DataW H} {ps : List MemPlace}
    (hval : Unit → Value.okWide Tryd.prog W .any b0 25 v) (h : Unit → DataW.Trod enc Tryd.prog W base sp held 25 v d ps) :
    ∃ (t n c : Int) (em : Nat → Int) (u l : Int) (a : Option Addr) (m cap : Nat) (k : Nat → Nat → Int), v = (sBody t n c em u l a m cap k).conc (Rho.whole W) ∧ bodyIn t n c em u l m k ∧ SC.bnd ⟨fun _ => False, (Rho.whole W).fz⟩ (.xs a m cap 1 (u8F k)) := by
  have hx : ∃ cs : List Value, v = .agg cs.toArray ∧ fitsQ W bdLQ cs := by
    refine open_q (H := H) (enc := enc) (P := Tryd.prog) (w := W) (base := base) (sp := sp) (held := held) (d := 4) (t := 25) (r := .any) (b0 := b0) (v := v) (x := d) (ps := ps) lqs_D ?_ ?_ ?_
    · kernel_rfl
    · with_reducible exact hval ()
    · with_reducible exact h ()
  obtain ⟨cs, rfl, hf⟩ := hx
  obtain ⟨t, n, c, em, u, l, a, m, cap, k, rfl, h1, h2⟩ := fits_body hf
  exact ⟨t, n, c, em, u, l, a, m, cap, k, rfl, h1, h2⟩
theorem bnd_D {E : Env} {t n c : Int} {em : Nat → Int} {u l : Int} {a : Option Addr} {m cap : Nat} {k : Nat → Nat → Int} (h : SC.bnd E (.xs a m cap 1 (u8F k))) : SA.bnd E (sBody t n c em u l a m cap k) := by
  intro y hy
  simp only [List.mem_cons, List.not_mem_nil, or_false] at hy
  rcases hy with rfl | rfl | rfl | rfl | rfl | rfl | rfl
  · trivial
  · trivial
  · trivial
  · trivial
  · trivial
  · trivial
  · exact h

set_option maxRecDepth 100000 in
theorem bodyWrites_lifted (os : Os) (started : os.Started) (H : Type) (enc : TypeId × Value → H) :
    ReturnsInHanded {} Tryd.checked os 3 .any (fun w args => (Rows.bodyWritesSpec.pre enc Tryd.prog Tryd.f3 Rows.bodyWritesRow.domain false w args ∧ laidMet Tryd.prog laidK w) ∧ sizedMet enc Tryd.prog Tryd.f3 (OpenSpec.ofChange Rows.bodyWritesSpec) false w args)
      (Rows.bodyWritesSpec.post enc Tryd.prog Tryd.f3 false Rows.bodyWritesRow.fresh Rows.bodyWritesRow.handsOn Rows.bodyWritesRow.again) := by
  refine returnsInHanded_of_change_and (C := Tryd.checked) (X := fun w _ => laidMet Tryd.prog laidK w) (fun _ _ _ hh h => h.of_heap hh) own_none started (by kernel_rfl) Tryd.func3
    (ChangeSpec.witness_at (enc := enc) (C := Tryd.checked) (os := os) (X := fun w _ => laidMet Tryd.prog laidK w) false (laidWorld os) #[.agg #[.int .i64 0, .int .i64 0, .int .i64 0, .int .u8 0, .int .u8 0, .int .u8 0, .int .u8 0, .int .u8 0, .int .u8 0, .int .u8 0, .int .u8 0, .int .u8 0, .int .u8 0, .int .u8 0, .int .u8 0, .int .u8 0, .int .u8 0, .int .u8 0, .int .u8 0, .int .u8 0, .int .u8 0, .int .u8 0, .int .u8 0, .int .u8 0, .int .u8 0, .int .u8 0, .int .u8 0, .int .u8 0, .int .u8 0, .int .u8 0, .int .u8 0, .int .u8 0, .int .u8 0, .int .u8 0, .int .u8 0, .int .i64 0, .int .i64 0, .slice none 0 0]] 8 rfl (by kernel_rfl) (by kernel_rfl) (by kernel_rfl) (by kernel_rfl) (by kernel_rfl)
      (laidMet_mk tabs_ok fun T hT => by
        simp only [tabsK, List.mem_cons, List.not_mem_nil, or_false] at hT
        rcases hT with rfl | rfl | rfl
        · exact ⟨58, (by kernel_rfl)⟩
        · exact ⟨63, (by kernel_rfl)⟩
        · exact ⟨63, (by kernel_rfl)⟩)) ?_
  intro W base args ds gs before hval0 hW _ _ hL _
  have hval : ∀ (j : Nat) t v, Tryd.f3.params[j]? = some t → args[j]? = some v → Value.okWide Tryd.prog W .any base t v := hval0
  have hW' := hW
  obtain ⟨p, q, hA0, hV, rfl, _, _⟩ := hW
  have hA : DataW.TrodAll enc Tryd.prog W 0 (fun _ => true) true [25] args.toList ds p := hA0
  obtain ⟨v0, d0, rfl, rfl, h0⟩ := trodAll_one hA
  obtain ⟨rfl, rfl⟩ := trodVars_none hV
  obtain ⟨t0, n0, c0, em0, u0, l0, a0, m0, cap0, k0, rfl, g1, z0⟩ := open_D (fun _ => hval 0 _ _ rfl rfl) (fun _ => h0)
  refine (calls_of_owesV cxok_BW sl_BW Tryd.func3 (by kernel_rfl) (okl_BW t0 n0 c0 u0 l0 em0 a0 m0 cap0 k0 g1) (Rho.whole W) W (whole_ok W) (globsOK_tabs tabs_ok hL) (by
    intro z hz
    simp only [List.mem_cons, List.not_mem_nil, or_false] at hz
    rcases hz with rfl
    · exact bnd_D z0)).mono fun e W' he => ?_
  obtain ⟨v, rfl, ⟨ρ', hv⟩, hb⟩ := he
  have hv' : v = .bool true := hv
  subst hv'
  exact ⟨_, rfl, law_post (tb := 4) laid_out (by kernel_rfl) (by kernel_rfl) (by kernel_rfl) rfl rfl hW' hb⟩

theorem bodyWrites_facts : joinedFacts Tryd.prog 3 Tryd.f3 Rows.bodyWritesSpec Rows.bodyWritesRow = true := by
  unfold joinedFacts
  rw [prog_three.1, prog_three.2.1, prog_three.2.2]
  kernel_rfl
theorem bodyWrites_said : Rows.BodyWritesSaid :=
  OpenClaim.holds_of_wide 3 Tryd.f3 rfl rfl rfl rfl rfl rfl rfl ⟨rfl, rfl, rfl, rfl, rfl⟩ rfl rfl rfl rfl rfl (by kernel_rfl) Tryd.func3 bodyWrites_facts
    (of_decide_eq_true (by kernel_rfl)) (by unfold Func.isWrapper; first | (rw [if_pos (by decide +kernel)]; kernel_rfl) | (rw [if_neg (by decide +kernel)]; exact ⟨rfl, rfl⟩))
    (fun os started H enc _ => bodyWrites_lifted os started H enc)
set_option maxRecDepth 100000 in
theorem bodyWrites_holds : Rows.BodyWritesCardSaid :=
  Claim7.holds_tied_plain_at .later [] [.data, .data, .data] true (true, "19206cee01d563e3c23a178b660f90b277cde849628d765540d9e3a999e5b2f6") false
    bodyWrites_said (fun _ h => by cases h) (by kernel_rfl) (fun _ h => by cases h) bodyWrites_row_tie rfl ⟨rfl, rfl⟩ (by kernel_rfl) rfl
    (fun f fn hf hfn => by
      obtain rfl : f = 3 := Option.some.inj ((show Tryd.prog.funcNamed "bascule/basculelaw.BodyWrites" = some 3 by kernel_rfl).symm.trans hf) |>.symm
      obtain rfl : fn = Tryd.f3 := (Option.some.inj (Tryd.func3.symm.trans hfn)).symm
      exact ⟨by kernel_rfl, fun j t ht => by
        have hp : Tryd.f3.params = #[25] := by kernel_rfl
        rw [hp] at ht
        rcases j with _ | j
        · obtain rfl : 25 = t := by simpa using ht
          exact (by kernel_rfl : Tryd.prog.wantsStandIn 25 = false)
        simp at ht⟩)
    (by kernel_rfl)
end Go.Proofs.YtpebkgbelifdgaaDoor
