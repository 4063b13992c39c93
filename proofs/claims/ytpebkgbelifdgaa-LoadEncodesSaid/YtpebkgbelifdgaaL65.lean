/-
  LoadEncodes: for every input, true, and the input reads as it did.
-/
import Derived.Test.YtpebkgbelifdgaaM1
import Derived.Test.YtpebkgbelifdgaaM2
import Derived.Test.YtpebkgbelifdgaaM3
import Derived.Test.YtpebkgbelifdgaaM4
import Derived.Test.YtpebkgbelifdgaaM5
import Derived.Test.YtpebkgbelifdgaaM6
import Derived.Test.YtpebkgbelifdgaaM7
import Derived.Test.YtpebkgbelifdgaaM8
import Derived.Test.YtpebkgbelifdgaaM9
import Derived.Test.YtpebkgbelifdgaaM10
import Derived.Test.YtpebkgbelifdgaaM11
import Derived.Test.YtpebkgbelifdgaaM12
import Derived.Test.YtpebkgbelifdgaaM13
import Derived.Test.YtpebkgbelifdgaaM14

namespace Go.Proofs.Ytpebkgbelifdgaa
open Go.ChangeShapes Go.WideShapes Go.ChangeAt Go.RowKit Go.Sx

theorem prog_three : Try.prog.mayEnter = true ∧ Try.prog.liftsFinal = Rows.loadEncodesRow.lifted ∧ Try.prog.make = some Rows.loadEncodesRow.make := ⟨by kernel_rfl, by kernel_rfl, by kernel_rfl⟩
theorem own_none : ownKnob Try.prog.godebug = none := by kernel_rfl
theorem laid_out : laidOutB Try.prog = true := by kernel_rfl

theorem lqs_D : lqs Try.prog 4 45 = some ldLQ := by kernel_rfl
theorem open_D {H : Type} {enc : TypeId × Value → H} {W : World} {base b0 : Nat} {sp : Nat → Bool} {held : Bool} {v : Value} {d : DataW H} {ps : List MemPlace}
    (hval : Unit → Value.okWide Try.prog W .any b0 45 v) (h : Unit → DataW.Trod enc Try.prog W base sp held 45 v d ps) :
    ∃ (kd : Int) (am fe : Nat) (tk : Nat → Int) (hm : Int) (to : Nat → Int) (tc dc : Int) (sy : ByteArray) (a : Option Addr) (m cap : Nat) (dk : Nat → Nat → Int) (ix : Int) (b : Option Addr) (y cy : Nat) (kk : Nat → Nat → Int),
      v = (aLd kd am fe tk hm to tc dc sy a m cap dk ix b y cy kk).conc (Rho.whole W) ∧ loadIn kd am fe tk hm to tc dc sy m dk ix y kk ∧ SC.bnd ⟨fun _ => False, (Rho.whole W).fz⟩ (.xs a m cap 1 (u8F dk)) ∧ SC.bnd ⟨fun _ => False, (Rho.whole W).fz⟩ (.xs b y cy 20 (u8F kk)) := by
  have hx : ∃ cs : List Value, v = .agg cs.toArray ∧ fitsQ W ldLQ cs := by
    refine open_q (H := H) (enc := enc) (P := Try.prog) (w := W) (base := base) (sp := sp) (held := held) (d := 4) (t := 45) (r := .any) (b0 := b0) (v := v) (x := d) (ps := ps) lqs_D ?_ ?_ ?_
    · kernel_rfl
    · with_reducible exact hval ()
    · with_reducible exact h ()
  obtain ⟨cs, rfl, hf⟩ := hx
  obtain ⟨kd, am, fe, tk, hm, to, tc, dc, sy, a, m, cap, dk, ix, b, y, cy, kk, rfl, h1, h2, h3⟩ := fits_load hf
  exact ⟨kd, am, fe, tk, hm, to, tc, dc, sy, a, m, cap, dk, ix, b, y, cy, kk, rfl, h1, h2, h3⟩
theorem bnd_D {E : Env} {kd : Int} {am fe : Nat} {tk : Nat → Int} {hm : Int} {to : Nat → Int} {tc dc : Int} {sy : ByteArray} {a : Option Addr} {m cap : Nat} {dk : Nat → Nat → Int} {ix : Int} {b : Option Addr} {y cy : Nat} {kk : Nat → Nat → Int} (h : SC.bnd E (.xs a m cap 1 (u8F dk))) (h' : SC.bnd E (.xs b y cy 20 (u8F kk))) : SA.bnd E (aLd kd am fe tk hm to tc dc sy a m cap dk ix b y cy kk) := by
  intro z hz
  simp only [List.mem_cons, List.not_mem_nil, or_false] at hz
  rcases hz with rfl | rfl | rfl | rfl | rfl | rfl | rfl | rfl | rfl | rfl | rfl | rfl
  all_goals first | exact h | exact h' | trivial

set_option maxRecDepth 100000 in
theorem loadEncodes_lifted (os : Os) (started : os.Started) (H : Type) (enc : TypeId × Value → H) :
    ReturnsInHanded {} Try.checked os 7 .any (Rows.loadEncodesSpec.pre6 enc Try.prog Try.f7 Rows.loadEncodesRow.domain false) (Rows.loadEncodesSpec.post enc Try.prog Try.f7 false Rows.loadEncodesRow.fresh Rows.loadEncodesRow.handsOn Rows.loadEncodesRow.again) := by
  refine returnsInHanded_of_change (C := Try.checked) own_none started (by kernel_rfl) Try.func7
    (ChangeSpec.witness6 (enc := enc) (C := Try.checked) false ⟨#[], #[.agg #[.int .i64 0, .int .u64 0, .int .u64 0, .int .u64 0, .int .u64 0, .int .u64 0, .int .u64 0, .int .u64 0, .int .u64 0, .int .u8 0, .int .u8 0, .int .u8 0, .int .u8 0, .int .u8 0, .int .u8 0, .int .u8 0, .int .u8 0, .int .u8 0, .int .u8 0, .int .u8 0, .int .u8 0, .int .u8 0, .int .u8 0, .int .u8 0, .int .u8 0, .int .u8 0, .int .u8 0, .int .u8 0, .int .u8 0, .int .u8 0, .int .u8 0, .int .u8 0, .int .u8 0, .int .u8 0, .int .u8 0, .int .u8 0, .int .u8 0, .int .u8 0, .int .u8 0, .int .u8 0, .int .u8 0, .int .i64 0, .int .u8 0, .int .u8 0, .int .u8 0, .int .u8 0, .int .u8 0, .int .u8 0, .int .u8 0, .int .u8 0, .int .u8 0, .int .u8 0, .int .u8 0, .int .u8 0, .int .u8 0, .int .u8 0, .int .u8 0, .int .u8 0, .int .u8 0, .int .u8 0, .int .u8 0, .int .u8 0, .int .u8 0, .int .u8 0, .int .u8 0, .int .u8 0, .int .u8 0, .int .u8 0, .int .u8 0, .int .u8 0, .int .u8 0, .int .u8 0, .int .u8 0, .int .u8 0, .int .i64 0, .int .i64 0, .string ⟨#[]⟩, .slice none 0 0, .int .i64 0, .slice none 0 0]], []⟩ 8 (by kernel_rfl) (by kernel_rfl) (by kernel_rfl) (by kernel_rfl)) ?_
  intro W base args ds gs before hval0 hW _ _
  have hval : ∀ (j : Nat) t v, Try.f7.params[j]? = some t → args[j]? = some v → Value.okWide Try.prog W .any base t v := hval0
  have hW' := hW
  obtain ⟨p, q, hA0, hV, rfl, _, _⟩ := hW
  have hA : DataW.TrodAll enc Try.prog W 0 (fun _ => true) true [45] args.toList ds p := hA0
  obtain ⟨v0, d0, rfl, rfl, h0⟩ := trodAll_one hA
  obtain ⟨rfl, rfl⟩ := trodVars_none hV
  obtain ⟨kd, am, fe, tk, hm, to, tc, dc, sy, a, m, cap, dk, ix, b, y, cy, kk, rfl, g0, z0, z1⟩ := open_D (fun _ => hval 0 _ _ rfl rfl) (fun _ => h0)
  refine (calls_of_owesV okx_none sl_LE Try.func7 (by kernel_rfl) (okl_LoadEncodes kd am fe tk hm to tc dc sy a m cap dk ix b y cy kk g0 (fun e => (z0.1 e).1) (fun e => (z1.1 e).1)) (Rho.whole W) W (whole_ok W) (fun p h => (by cases h)) (by
    intro z hz
    simp only [List.mem_cons, List.not_mem_nil, or_false] at hz
    rcases hz with rfl
    · exact bnd_D z0 z1)).mono fun e W' he => ?_
  obtain ⟨v, rfl, ⟨ρ', hv⟩, hb⟩ := he
  have hv' : v = .bool true := hv
  subst hv'
  exact ⟨_, rfl, law_post (tb := 4) laid_out (by kernel_rfl) (by kernel_rfl) (by kernel_rfl) rfl rfl hW' hb⟩

theorem loadEncodes_facts : joinedFacts Try.prog 7 Try.f7 Rows.loadEncodesSpec Rows.loadEncodesRow = true := by
  unfold joinedFacts
  rw [prog_three.1, prog_three.2.1, prog_three.2.2]
  kernel_rfl
theorem loadEncodes_holds : Rows.LoadEncodesSaid :=
  OpenClaim.holds_of_wide 7 Try.f7 rfl rfl rfl rfl rfl rfl rfl ⟨rfl, rfl, rfl, rfl, rfl⟩ rfl rfl rfl rfl rfl (by kernel_rfl) Try.func7 loadEncodes_facts
    (of_decide_eq_true (by kernel_rfl)) (by unfold Func.isWrapper; first | (rw [if_pos (by decide +kernel)]; kernel_rfl) | (rw [if_neg (by decide +kernel)]; exact ⟨rfl, rfl⟩))
    (fun os started H enc _ => loadEncodes_lifted os started H enc)
end Go.Proofs.Ytpebkgbelifdgaa
