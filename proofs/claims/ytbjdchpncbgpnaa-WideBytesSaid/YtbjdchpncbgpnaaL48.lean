/-
  Laws, for every input: true, and the input reads as it did.
-/
import Derived.Test.YtbjdchpncbgpnaaM1
import Derived.Test.YtbjdchpncbgpnaaM2
import Derived.Test.YtbjdchpncbgpnaaM3
import Derived.Test.YtbjdchpncbgpnaaM4
import Derived.Test.YtbjdchpncbgpnaaM5
import Derived.Test.YtbjdchpncbgpnaaM6
import Derived.Test.YtbjdchpncbgpnaaM7
import Derived.Test.YtbjdchpncbgpnaaM8
namespace Go.Proofs.Ytbjdchpncbgpnaa
open Go.ChangeShapes Go.WideShapes Go.ChangeAt Go.RowKit Go.Sx

theorem lks_b32 : lks Try.prog 3 36 = some (List.replicate 32 (.int .u8)) := by kernel_rfl
theorem fits_u8s : ∀ {n : Nat} {cs : List Value}, fitsL (List.replicate n (.int .u8)) cs → ∃ g : Nat → Int, cs = (List.range n).map (fun i => Value.int .u8 (g i)) ∧ byteOK n g
  | 0, cs, h => by
    cases cs with
    | nil => exact ⟨fun _ => 0, rfl, fun _ h => absurd h (Nat.not_lt_zero _)⟩
    | cons c cs => exact h.elim
  | n + 1, cs, h => by
    cases cs with
    | nil => exact h.elim
    | cons c cs =>
      rw [List.replicate_succ] at h
      cases c <;> try exact h.1.elim
      rename_i k x
      obtain ⟨⟨rfl, w⟩, hr⟩ := h
      obtain ⟨g, rfl, hg⟩ := fits_u8s hr
      refine ⟨fun i => match i with | 0 => x | i + 1 => g i, ?_, fun i hi => ?_⟩
      · rw [List.range_succ_eq_map]; simp
      · cases i with
        | zero =>
          simp [Lit.wf, IntKind.min, IntKind.max, IntKind.signed, IntKind.bits] at w
          show 0 ≤ x ∧ x < 256
          omega
        | succ i => exact hg i (by omega)
theorem open_b32 {H : Type} {enc : TypeId × Value → H} {W : World} {base b0 : Nat} {sp : Nat → Bool} {held : Bool} {v : Value} {d : DataW H} {ps : List MemPlace}
    (hval : Unit → Value.okWide Try.prog W .any b0 36 v) (h : Unit → DataW.Trod enc Try.prog W base sp held 36 v d ps) : ∃ g : Nat → Int, v = (sBy 32 g).conc Rho.nil ∧ byteOK 32 g := by
  have hx : ∃ cs : List Value, v = .agg cs.toArray ∧ fitsL (List.replicate 32 (.int .u8)) cs := by
    refine open_flat (H := H) (enc := enc) (P := Try.prog) (w := W) (base := base) (sp := sp) (held := held) (d := 3) (t := 36) (r := .any) (b0 := b0) (v := v) (x := d) (ps := ps) lks_b32 ?_ ?_ ?_
    · kernel_rfl
    · with_reducible exact hval ()
    · with_reducible exact h ()
  obtain ⟨cs, rfl, hf⟩ := hx
  obtain ⟨g, rfl, hg⟩ := fits_u8s hf
  refine ⟨g, ?_, hg⟩
  simp only [SA.conc, concs_f]
theorem bnd_b32 (g : Nat → Int) : SA.bnd none0 (sBy 32 g) := by
  intro k hk
  simp only [List.mem_singleton] at hk
  subst hk
  trivial

set_option maxRecDepth 100000 in
theorem wideBytes_lifted (os : Os) (started : os.Started) (H : Type) (enc : TypeId × Value → H) :
    ReturnsInHanded {} Try.checked os 7 .any (Rows.wideBytesSpec.pre6 enc Try.prog Try.f7 Rows.wideBytesRow.domain false) (Rows.wideBytesSpec.post enc Try.prog Try.f7 false Rows.wideBytesRow.fresh Rows.wideBytesRow.handsOn Rows.wideBytesRow.again) := by
  refine returnsInHanded_of_change (C := Try.checked) own_none started (by kernel_rfl) Try.func7
    (ChangeSpec.witness6 (enc := enc) (C := Try.checked) false ⟨#[], #[.agg #[.int .u64 0, .int .u64 0, .int .u64 0, .int .u64 0], .agg #[.int .u8 0, .int .u8 0, .int .u8 0, .int .u8 0, .int .u8 0, .int .u8 0, .int .u8 0, .int .u8 0, .int .u8 0, .int .u8 0, .int .u8 0, .int .u8 0, .int .u8 0, .int .u8 0, .int .u8 0, .int .u8 0, .int .u8 0, .int .u8 0, .int .u8 0, .int .u8 0, .int .u8 0, .int .u8 0, .int .u8 0, .int .u8 0, .int .u8 0, .int .u8 0, .int .u8 0, .int .u8 0, .int .u8 0, .int .u8 0, .int .u8 0, .int .u8 0]], []⟩ 8 (by kernel_rfl) (by kernel_rfl) (by kernel_rfl) (by kernel_rfl)) ?_
  intro W base args ds gs before hval0 hW _ _
  have hval : ∀ (j : Nat) t v, Try.f7.params[j]? = some t → args[j]? = some v → Value.okWide Try.prog W .any base t v := hval0
  have hW' := hW
  obtain ⟨p, q, hA0, hV, rfl, _, _⟩ := hW
  have hA : DataW.TrodAll enc Try.prog W 0 (fun _ => true) true [24, 36] args.toList ds p := hA0
  obtain ⟨v0, v1, d0, d1, p0, p1, rfl, rfl, rfl, h0, h1⟩ := trodAll_two hA
  obtain ⟨rfl, rfl⟩ := trodVars_none hV
  obtain ⟨n0, rfl⟩ := open_u (fun _ => hval 0 _ _ rfl rfl) (fun _ => h0)
  obtain ⟨w1, rfl, g1⟩ := open_b32 (fun _ => hval 1 _ _ rfl rfl) (fun _ => h1)
  refine (calls_of_owes cxok_WBy Try.func7 (by kernel_rfl) (by
    intro z hz
    simp only [List.mem_cons, List.not_mem_nil, or_false] at hz
    rcases hz with rfl | rfl
    · exact bnd_U _
    · exact bnd_b32 _) (ok_WideBytes n0 w1 g1) Rho.nil W).mono fun e W' he => ?_
  obtain ⟨v, rfl, ⟨ρ', hv⟩, hb⟩ := he
  have hv' : v = .bool true := hv
  subst hv'
  exact ⟨_, rfl, law_post (tb := 4) laid_out (by kernel_rfl) (by kernel_rfl) (by kernel_rfl) rfl rfl hW' hb⟩

theorem wideBytes_facts : joinedFacts Try.prog 7 Try.f7 Rows.wideBytesSpec Rows.wideBytesRow = true := by
  unfold joinedFacts
  rw [prog_three.1, prog_three.2.1, prog_three.2.2]
  kernel_rfl
theorem wideBytes_holds : Rows.WideBytesSaid :=
  OpenClaim.holds_of_wide 7 Try.f7 rfl rfl rfl rfl rfl rfl rfl ⟨rfl, rfl, rfl, rfl, rfl⟩ rfl rfl rfl rfl rfl (by kernel_rfl) Try.func7 wideBytes_facts
    (of_decide_eq_true (by kernel_rfl)) (by unfold Func.isWrapper; first | (rw [if_pos (by decide +kernel)]; kernel_rfl) | (rw [if_neg (by decide +kernel)]; exact ⟨rfl, rfl⟩))
    (fun os started H enc _ => wideBytes_lifted os started H enc)
end Go.Proofs.Ytbjdchpncbgpnaa
