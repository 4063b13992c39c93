/-
  PaperEncodes: for every input, true, and the input reads as it did.
-/
import Derived.Test.YtpebkgbelifdgaaM1
import Derived.Test.YtpebkgbelifdgaaM2
import Derived.Test.YtpebkgbelifdgaaM3
import Derived.Test.YtpebkgbelifdgaaM4
import Derived.Test.YtpebkgbelifdgaaM5
import Derived.Test.YtpebkgbelifdgaaM6
import Derived.Test.YtpebkgbelifdgaaM7
import Derived.Test.YtpebkgbelifdgaaM8
import Derived.Test.YtpebkgbelifdgaaM9
import Derived.Test.YtpebkgbelifdgaaM10

namespace Go.Proofs.Ytpebkgbelifdgaa
open Go.ChangeShapes Go.WideShapes Go.ChangeAt Go.RowKit Go.Sx

theorem prog_three : Try.prog.mayEnter = true ∧ Try.prog.liftsFinal = Rows.bodyChecksRow.lifted ∧ Try.prog.make = some Rows.bodyChecksRow.make := ⟨by kernel_rfl, by kernel_rfl, by kernel_rfl⟩
theorem own_none : ownKnob Try.prog.godebug = none := by kernel_rfl
theorem laid_out : laidOutB Try.prog = true := by kernel_rfl

theorem lqs_P : lqs Try.prog 8 31 = some (.k (.int .i64) :: .sl sgLK :: bdLQ) := by kernel_rfl
theorem open_P {H : Type} {enc : TypeId × Value → H} {W : World} {base b0 : Nat} {sp : Nat → Bool} {held : Bool} {v : Value} {d : DataW H} {ps : List MemPlace}
    (hval : Unit → Value.okWide Try.prog W .any b0 31 v) (h : Unit → DataW.Trod enc Try.prog W base sp held 31 v d ps) :
    ∃ (s : Int) (b : Option Addr) (y cy : Nat) (w : Nat → Int) (R S : Nat → Nat) (o : Nat → Int) (t n c : Int) (em : Nat → Int) (u l : Int) (a : Option Addr) (m cap : Nat) (k : Nat → Nat → Int), v = SA.conc (Rho.whole W) (.agg (ksPap s b y cy w R S o t n c em u l a m cap k)) ∧
      (y ≤ maxLen ∧ bodyIn t n c em u l m k) ∧ SC.bnd ⟨fun _ => False, (Rho.whole W).fz⟩ (.xs b y cy 10 (sgnF w R S o)) ∧ SC.bnd ⟨fun _ => False, (Rho.whole W).fz⟩ (.xs a m cap 1 (u8F k)) := by
  have hx : ∃ cs : List Value, v = .agg cs.toArray ∧ fitsQ W (.k (.int .i64) :: .sl sgLK :: bdLQ) cs := by
    refine open_q (H := H) (enc := enc) (P := Try.prog) (w := W) (base := base) (sp := sp) (held := held) (d := 8) (t := 31) (r := .any) (b0 := b0) (v := v) (x := d) (ps := ps) lqs_P ?_ ?_ ?_
    · kernel_rfl
    · with_reducible exact hval ()
    · with_reducible exact h ()
  obtain ⟨cs, rfl, hf⟩ := hx
  obtain ⟨s, b, y, cy, w, R, S, o, t, n, c, em, u, l, a, m, cap, k, rfl, h1, h2, h3⟩ := fits_paper hf
  exact ⟨s, b, y, cy, w, R, S, o, t, n, c, em, u, l, a, m, cap, k, rfl, ⟨h1.2.1, h1.2.2.2⟩, h2, h3⟩
theorem bnd_P {E : Env} {s : Int} {b : Option Addr} {y cy : Nat} {w : Nat → Int} {R S : Nat → Nat} {o : Nat → Int} {t n c : Int} {em : Nat → Int} {u l : Int} {a : Option Addr} {m cap : Nat} {k : Nat → Nat → Int} (h1 : SC.bnd E (.xs b y cy 10 (sgnF w R S o))) (h2 : SC.bnd E (.xs a m cap 1 (u8F k))) : SA.bnd E (.agg (ksPap s b y cy w R S o t n c em u l a m cap k)) := by
  intro y hy
  simp only [List.mem_cons, List.not_mem_nil, or_false] at hy
  rcases hy with rfl | rfl | rfl | rfl | rfl | rfl | rfl | rfl | rfl
  · trivial
  · exact h1
  · trivial
  · trivial
  · trivial
  · trivial
  · trivial
  · trivial
  · exact h2

theorem okl_PaperEncodes (s : Int) (b : Option Addr) (y cy : Nat) (w : Nat → Int) (R S : Nat → Nat) (o : Nat → Int) (t n c : Int) (em : Nat → Int) (u l : Int) (a : Option Addr) (m cap : Nat) (k : Nat → Nat → Int) (h : y ≤ maxLen ∧ bodyIn t n c em u l m k) : OwesV Try.prog Cx.none slPE [] 30 Try.f4 [.agg (ksPap s b y cy w R S o t n c em u l a m cap k)] yes := ok_PaperEncodes s b y cy w R S o t n c u l em a m cap k (by have := h.1; have := max_len; omega)
set_option maxRecDepth 100000 in
theorem paperEncodes_lifted (os : Os) (started : os.Started) (H : Type) (enc : TypeId × Value → H) :
    ReturnsInHanded {} Try.checked os 4 .any (Rows.paperEncodesSpec.pre6 enc Try.prog Try.f4 Rows.paperEncodesRow.domain false) (Rows.paperEncodesSpec.post enc Try.prog Try.f4 false Rows.paperEncodesRow.fresh Rows.paperEncodesRow.handsOn Rows.paperEncodesRow.again) := by
  refine returnsInHanded_of_change (C := Try.checked) own_none started (by kernel_rfl) Try.func4
    (ChangeSpec.witness6 (enc := enc) (C := Try.checked) false ⟨#[], #[.agg #[.int .i64 0, .slice none 0 0, .int .i64 0, .int .i64 0, .int .i64 0, .int .u8 0, .int .u8 0, .int .u8 0, .int .u8 0, .int .u8 0, .int .u8 0, .int .u8 0, .int .u8 0, .int .u8 0, .int .u8 0, .int .u8 0, .int .u8 0, .int .u8 0, .int .u8 0, .int .u8 0, .int .u8 0, .int .u8 0, .int .u8 0, .int .u8 0, .int .u8 0, .int .u8 0, .int .u8 0, .int .u8 0, .int .u8 0, .int .u8 0, .int .u8 0, .int .u8 0, .int .u8 0, .int .u8 0, .int .u8 0, .int .u8 0, .int .u8 0, .int .i64 0, .int .i64 0, .slice none 0 0]], []⟩ 8 (by kernel_rfl) (by kernel_rfl) (by kernel_rfl) (by kernel_rfl)) ?_
  intro W base args ds gs before hval0 hW _ _
  have hval : ∀ (j : Nat) t v, Try.f4.params[j]? = some t → args[j]? = some v → Value.okWide Try.prog W .any base t v := hval0
  have hW' := hW
  obtain ⟨p, q, hA0, hV, rfl, _, _⟩ := hW
  have hA : DataW.TrodAll enc Try.prog W 0 (fun _ => true) true [31] args.toList ds p := hA0
  obtain ⟨v0, d0, rfl, rfl, h0⟩ := trodAll_one hA
  obtain ⟨rfl, rfl⟩ := trodVars_none hV
  obtain ⟨s0, b0, y0, cy0, w0, R0, S0, o0, t0, n0, c0, em0, u0, l0, a0, m0, cap0, k0, rfl, g0, Y0, z0⟩ := open_P (fun _ => hval 0 _ _ rfl rfl) (fun _ => h0)
  refine (calls_of_owesV pcx_none (sl_cons card_enc (sl_cons card_rpb sl_nil)) Try.func4 (by kernel_rfl) (okl_PaperEncodes s0 b0 y0 cy0 w0 R0 S0 o0 t0 n0 c0 em0 u0 l0 a0 m0 cap0 k0 g0) (Rho.whole W) W (whole_ok W) (fun p h => (by cases h)) (by
    intro z hz
    simp only [List.mem_cons, List.not_mem_nil, or_false] at hz
    rcases hz with rfl
    · exact bnd_P Y0 z0)).mono fun e W' he => ?_
  obtain ⟨v, rfl, ⟨ρ', hv⟩, hb⟩ := he
  have hv' : v = .bool true := hv
  subst hv'
  exact ⟨_, rfl, law_post (tb := 4) laid_out (by kernel_rfl) (by kernel_rfl) (by kernel_rfl) rfl rfl hW' hb⟩

theorem paperEncodes_facts : joinedFacts Try.prog 4 Try.f4 Rows.paperEncodesSpec Rows.paperEncodesRow = true := by
  unfold joinedFacts
  rw [prog_three.1, prog_three.2.1, prog_three.2.2]
  kernel_rfl
theorem paperEncodes_holds : Rows.PaperEncodesSaid :=
  OpenClaim.holds_of_wide 4 Try.f4 rfl rfl rfl rfl rfl rfl rfl ⟨rfl, rfl, rfl, rfl, rfl⟩ rfl rfl rfl rfl rfl (by kernel_rfl) Try.func4 paperEncodes_facts
    (of_decide_eq_true (by kernel_rfl)) (by unfold Func.isWrapper; first | (rw [if_pos (by decide +kernel)]; kernel_rfl) | (rw [if_neg (by decide +kernel)]; exact ⟨rfl, rfl⟩))
    (fun os started H enc _ => paperEncodes_lifted os started H enc)
end Go.Proofs.Ytpebkgbelifdgaa
