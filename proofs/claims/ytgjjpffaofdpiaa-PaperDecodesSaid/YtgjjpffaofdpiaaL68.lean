/-
  PaperDecodes: for every input, true, and the input reads as it did.
-/
import Derived.Test.YtgjjpffaofdpiaaM1
import Derived.Test.YtgjjpffaofdpiaaM2
import Derived.Test.YtgjjpffaofdpiaaM3
import Derived.Test.YtgjjpffaofdpiaaM4
import Derived.Test.YtgjjpffaofdpiaaM5
import Derived.Test.YtgjjpffaofdpiaaM6
import Derived.Test.YtgjjpffaofdpiaaM7
import Derived.Test.YtgjjpffaofdpiaaM8
import Derived.Test.YtgjjpffaofdpiaaM9
import Derived.Test.YtgjjpffaofdpiaaM10
import Derived.Test.YtgjjpffaofdpiaaM11
import Derived.Test.YtgjjpffaofdpiaaM12
import Derived.Test.YtgjjpffaofdpiaaM13
import Derived.SizedLaws

namespace Go.Proofs.Ytgjjpffaofdpiaa
open Go.ChangeShapes Go.WideShapes Go.ChangeAt Go.RowKit Go.Sx

theorem prog_three : Try.prog.mayEnter = true ∧ Try.prog.liftsFinal = Rows.paperDecodesRow.lifted ∧ Try.prog.make = some Rows.paperDecodesRow.make := ⟨by kernel_rfl, by kernel_rfl, by kernel_rfl⟩
theorem own_none : ownKnob Try.prog.godebug = none := by kernel_rfl
theorem laid_out : laidOutB Try.prog = true := by kernel_rfl

theorem open_b {H : Type} {enc : TypeId × Value → H} {W : World} {base b0 : Nat} {sp : Nat → Bool} {held : Bool} {v : Value} {d : DataW H} {ps : List MemPlace}
    (hval : Unit → Value.okWide Try.prog W .any b0 39 v) (h : Unit → DataW.Trod enc Try.prog W base sp held 39 v d ps) :
    ∃ (a : Option Addr) (n cap : Nat) (k : Nat → Nat → Int), v = SA.conc (Rho.whole W) (.sc (.xs a n cap 1 (u8F k))) ∧ (n ≤ maxLen ∧ ∀ i, i < n → 0 ≤ k i 0 ∧ k i 0 < 256) ∧ SC.bnd ⟨fun _ => False, (Rho.whole W).fz⟩ (.xs a n cap 1 (u8F k)) := by
  have hx : (LQ.sl [.int .u8]).fits W v := by
    refine open_sl (H := H) (enc := enc) (P := Try.prog) (w := W) (base := base) (sp := sp) (held := held) (d := 3) (t := 39) (e := 5) (ks := [.int .u8]) (r := .any) (b0 := b0) (v := v) (x := d) (ps := ps) ?_ ?_ ?_ ?_ ?_ ?_
    · kernel_rfl
    · kernel_rfl
    · kernel_rfl
    · decide
    · with_reducible exact hval ()
    · with_reducible exact h ()
  obtain ⟨a, n, cap, f, rfl, hm, hf, hb⟩ := hx
  obtain ⟨k, hk, hb⟩ := fits_bytes hf hb
  exact ⟨a, n, cap, k, rfl, ⟨hm, hk⟩, hb⟩

set_option maxRecDepth 100000 in
theorem paperDecodes_lifted (os : Os) (started : os.Started) (H : Type) (enc : TypeId × Value → H) :
    ReturnsInHanded {} Try.checked os 7 .any (Rows.paperDecodesSpec.pre6 enc Try.prog Try.f7 Rows.paperDecodesRow.domain false) (Rows.paperDecodesSpec.post enc Try.prog Try.f7 false Rows.paperDecodesRow.fresh Rows.paperDecodesRow.handsOn Rows.paperDecodesRow.again) := by
  refine returnsInHanded_of_change_sized (C := Try.checked) own_none started (by kernel_rfl) Try.func7
    (ChangeSpec.witness6 (enc := enc) (C := Try.checked) false ⟨#[], #[.slice none 0 0], []⟩ 8 (by kernel_rfl) (by kernel_rfl) (by kernel_rfl) (by kernel_rfl)) ?_
  intro W base args ds gs before hval0 hW _ hsz0 _
  have hval : ∀ (j : Nat) t v, Try.f7.params[j]? = some t → args[j]? = some v → Value.okWide Try.prog W .any base t v := hval0
  have hW' := hW
  obtain ⟨p, q, hA0, hV, rfl, _, _⟩ := hW
  have hA : DataW.TrodAll enc Try.prog W 0 (fun _ => true) true [39] args.toList ds p := hA0
  obtain ⟨v0, d0, rfl, rfl, h0⟩ := trodAll_one hA
  obtain ⟨rfl, rfl⟩ := trodVars_none hV
  obtain ⟨a0, n0, cap0, k0, rfl, g0, z0⟩ := open_b (fun _ => hval 0 _ _ rfl rfl) (fun _ => h0)
  have m0 : n0 ≤ 140737488355327 := by
    cases a0 with
    | none =>
      have := (z0.1 rfl).1
      omega
    | some a =>
      have hw : (DataW.weightsEach Try.prog [39] [d0]).all (· ≤ reachBytes) = true := hsz0
      simp only [DataW.weightsEach, List.append_nil] at hw
      exact trod_lenB (e := 5) (by kernel_rfl) (by kernel_rfl) h0 hw
  refine (calls_of_owesV pcx_none sl_PD Try.func7 (by kernel_rfl) (okl_PaperDecodes a0 n0 cap0 k0 g0 m0) (Rho.whole W) W (whole_ok W) (fun p h => (by cases h)) (by
    intro z hz
    simp only [List.mem_cons, List.not_mem_nil, or_false] at hz
    rcases hz with rfl
    · exact z0)).mono fun e W' he => ?_
  obtain ⟨v, rfl, ⟨ρ', hv⟩, hb⟩ := he
  have hv' : v = .bool true := hv
  subst hv'
  exact ⟨_, rfl, law_post (tb := 4) laid_out (by kernel_rfl) (by kernel_rfl) (by kernel_rfl) rfl rfl hW' hb⟩

theorem paperDecodes_facts : joinedFacts Try.prog 7 Try.f7 Rows.paperDecodesSpec Rows.paperDecodesRow = true := by
  unfold joinedFacts
  rw [prog_three.1, prog_three.2.1, prog_three.2.2]
  kernel_rfl
theorem paperDecodes_holds : Rows.PaperDecodesSaid :=
  OpenClaim.holds_of_wide 7 Try.f7 rfl rfl rfl rfl rfl rfl rfl ⟨rfl, rfl, rfl, rfl, rfl⟩ rfl rfl rfl rfl rfl (by kernel_rfl) Try.func7 paperDecodes_facts
    (of_decide_eq_true (by kernel_rfl)) (by unfold Func.isWrapper; first | (rw [if_pos (by decide +kernel)]; kernel_rfl) | (rw [if_neg (by decide +kernel)]; exact ⟨rfl, rfl⟩))
    (fun os started H enc _ => paperDecodes_lifted os started H enc)
end Go.Proofs.Ytgjjpffaofdpiaa
