/-
  CoinGives: for every input, true, and the input reads as it did.
-/
import Derived.Test.YtnjdoebaneogjaaM1
import Derived.Test.YtnjdoebaneogjaaM2
import Derived.Test.YtnjdoebaneogjaaM3
import Derived.Test.YtnjdoebaneogjaaM4
import Derived.Test.YtnjdoebaneogjaaM5
import Derived.Test.YtnjdoebaneogjaaM6
import Derived.Test.YtnjdoebaneogjaaM7
import Derived.Test.YtnjdoebaneogjaaM8
import Derived.Test.YtnjdoebaneogjaaM9
import Derived.Test.YtnjdoebaneogjaaM10
import Derived.Test.YtnjdoebaneogjaaM11
import Derived.Test.YtnjdoebaneogjaaM12
import Derived.Test.YtnjdoebaneogjaaM13

namespace Go.Proofs.Ytnjdoebaneogjaa
open Go.ChangeShapes Go.WideShapes Go.ChangeAt Go.RowKit Go.Sx

theorem prog_three : Try.prog.mayEnter = true ∧ Try.prog.liftsFinal = Rows.coinGivesRow.lifted ∧ Try.prog.make = some Rows.coinGivesRow.make := ⟨by kernel_rfl, by kernel_rfl, by kernel_rfl⟩
theorem own_none : ownKnob Try.prog.godebug = none := by kernel_rfl
theorem laid_out : laidOutB Try.prog = true := by kernel_rfl

theorem trodAll_five {H : Type} {enc : TypeId × Value → H} {P : Program} {w : World} {base : Nat} {spare : Nat → Bool} {held : Bool} {t1 t2 t3 t4 t5 : TypeId} {args : Array Value} {ds : List (DataW H)} {ps : List MemPlace} (h : DataW.TrodAll enc P w base spare held [t1, t2, t3, t4, t5] args.toList ds ps) :
    ∃ v1 v2 v3 v4 v5 d1 d2 d3 d4 d5 p1 p2 p3 p4 p5, args = #[v1, v2, v3, v4, v5] ∧ ds = [d1, d2, d3, d4, d5] ∧ ps = p1 ++ p2 ++ p3 ++ p4 ++ p5 ∧ DataW.Trod enc P w base spare held t1 v1 d1 p1 ∧ DataW.Trod enc P w base spare held t2 v2 d2 p2 ∧ DataW.Trod enc P w base spare held t3 v3 d3 p3 ∧ DataW.Trod enc P w base spare held t4 v4 d4 p4 ∧ DataW.Trod enc P w base spare held t5 v5 d5 p5 := by
  obtain ⟨v1, vs1, d1, ds1, p1, q1, hargs, rfl, rfl, h1, r1⟩ := trodAll_cons h
  obtain ⟨v2, vs2, d2, ds2, p2, q2, rfl, rfl, rfl, h2, r2⟩ := trodAll_cons r1
  obtain ⟨v3, vs3, d3, ds3, p3, q3, rfl, rfl, rfl, h3, r3⟩ := trodAll_cons r2
  obtain ⟨v4, vs4, d4, ds4, p4, q4, rfl, rfl, rfl, h4, r4⟩ := trodAll_cons r3
  obtain ⟨v5, vs5, d5, ds5, p5, q5, rfl, rfl, rfl, h5, r5⟩ := trodAll_cons r4
  obtain ⟨rfl, rfl, rfl⟩ := trodAll_nil r5
  exact ⟨v1, v2, v3, v4, v5, d1, d2, d3, d4, d5, p1, p2, p3, p4, p5, by cases args; simp_all, rfl, by simp, h1, h2, h3, h4, h5⟩
def rawLK : List LK := [.int .i64, .int .i64, .int .i64, .text]
def strV : Value → ByteArray
  | .string s => s
  | _ => ⟨#[]⟩
theorem fits_raws {w : World} {a : Option Addr} {n cap : Nat} {f : Nat → Nat → Value} (hf : ∀ i, i < n → ∀ (c : Nat) (x : LK), rawLK[c]? = some x → x.fits (f i c)) (hb : SC.bnd ⟨fun _ => False, (Rho.whole w).fz⟩ (.xs a n cap 4 fun i c => .val (f i c))) :
    ∃ (K A B : Nat → Int) (s : Nat → ByteArray), (∀ i, i < n → i64ok (K i) ∧ i64ok (A i) ∧ i64ok (B i)) ∧ SC.bnd ⟨fun _ => False, (Rho.whole w).fz⟩ (.xs a n cap 4 (rwF K A B s)) := by
  refine ⟨fun i => intV (f i 0), fun i => intV (f i 1), fun i => intV (f i 2), fun i => strV (f i 3), fun i hi => ⟨bounds_i64 (fit_int (hf i hi 0 _ rfl)).2, bounds_i64 (fit_int (hf i hi 1 _ rfl)).2, bounds_i64 (fit_int (hf i hi 2 _ rfl)).2⟩, xs_told hb fun i hi c hc => ?_⟩
  match c, hc with
  | 0, _ => exact ⟨(fit_int (hf i hi 0 _ rfl)).1, trivial, rfl⟩
  | 1, _ => exact ⟨(fit_int (hf i hi 1 _ rfl)).1, trivial, rfl⟩
  | 2, _ => exact ⟨(fit_int (hf i hi 2 _ rfl)).1, trivial, rfl⟩
  | 3, _ =>
    have h3 := hf i hi 3 .text rfl
    refine ⟨?_, trivial, rfl⟩
    show f i 3 = .string (strV (f i 3))
    cases hv : f i 3 <;> rw [hv] at h3 <;> first | rfl | exact h3.elim
theorem open_rs {H : Type} {enc : TypeId × Value → H} {W : World} {base b0 : Nat} {sp : Nat → Bool} {held : Bool} {v : Value} {d : DataW H} {ps : List MemPlace}
    (hval : Unit → Value.okWide Try.prog W .any b0 22 v) (h : Unit → DataW.Trod enc Try.prog W base sp held 22 v d ps) :
    ∃ (a : Option Addr) (n cap : Nat) (K A B : Nat → Int) (s : Nat → ByteArray), v = SA.conc (Rho.whole W) (.sc (.xs a n cap 4 (rwF K A B s))) ∧ n ≤ maxLen ∧ (∀ i, i < n → i64ok (K i) ∧ i64ok (A i) ∧ i64ok (B i)) ∧ SC.bnd ⟨fun _ => False, (Rho.whole W).fz⟩ (.xs a n cap 4 (rwF K A B s)) := by
  have hx : (LQ.sl rawLK).fits W v := by
    refine open_sl (H := H) (enc := enc) (P := Try.prog) (w := W) (base := base) (sp := sp) (held := held) (d := 3) (t := 22) (e := 59) (ks := rawLK) (r := .any) (b0 := b0) (v := v) (x := d) (ps := ps) ?_ ?_ ?_ ?_ ?_ ?_
    · kernel_rfl
    · kernel_rfl
    · kernel_rfl
    · decide
    · with_reducible exact hval ()
    · with_reducible exact h ()
  obtain ⟨a, n, cap, f, rfl, hm, hf, hb⟩ := hx
  obtain ⟨K, A, B, s, hk, hb⟩ := fits_raws hf hb
  exact ⟨a, n, cap, K, A, B, s, rfl, hm, hk, hb⟩
theorem open_i64 {H : Type} {enc : TypeId × Value → H} {W : World} {base b0 : Nat} {sp : Nat → Bool} {held : Bool} {v : Value} {d : DataW H} {ps : List MemPlace}
    (hval : Unit → Value.okWide Try.prog W .any b0 3 v) (h : Unit → DataW.Trod enc Try.prog W base sp held 3 v d ps) : ∃ a, v = (sI .i64 a).conc (Rho.whole W) ∧ i64ok a := by
  have hu : Try.prog.underlying 3 = some (.int .i64) := by kernel_rfl
  obtain ⟨n, e, _, _, w⟩ := open_int hu (by with_reducible exact hval ()) (by with_reducible exact h ())
  exact ⟨n, e, bounds_i64 w⟩
set_option maxRecDepth 100000 in
theorem coinGives_lifted (os : Os) (started : os.Started) (H : Type) (enc : TypeId × Value → H) :
    ReturnsInHanded {} Try.checked os 3 .any (Rows.coinGivesSpec.pre6 enc Try.prog Try.f3 Rows.coinGivesRow.domain false) (Rows.coinGivesSpec.post enc Try.prog Try.f3 false Rows.coinGivesRow.fresh Rows.coinGivesRow.handsOn Rows.coinGivesRow.again) := by
  refine returnsInHanded_of_change (C := Try.checked) own_none started (by kernel_rfl) Try.func3
    (ChangeSpec.witness6 (enc := enc) (C := Try.checked) false ⟨#[], #[.slice none 0 0, .int .i64 0, .int .i64 0, .int .i64 0, .int .i64 0], []⟩ 8 (by kernel_rfl) (by kernel_rfl) (by kernel_rfl) (by kernel_rfl)) ?_
  intro W base args ds gs before hval0 hW _ _
  have hval : ∀ (j : Nat) t v, Try.f3.params[j]? = some t → args[j]? = some v → Value.okWide Try.prog W .any base t v := hval0
  have hW' := hW
  obtain ⟨p, q, hA0, hV, rfl, _, _⟩ := hW
  have hA : DataW.TrodAll enc Try.prog W 0 (fun _ => true) true [22, 3, 3, 3, 3] args.toList ds p := hA0
  obtain ⟨v0, v1, v2, v3, v4, d0, d1, d2, d3, d4, q0, q1, q2, q3, q4, rfl, rfl, rfl, h0, h1, h2, h3, h4⟩ := trodAll_five hA
  obtain ⟨rfl, rfl⟩ := trodVars_none hV
  obtain ⟨a0, n0, cap0, K0, A0, B0, s0, rfl, m0, g0, z0⟩ := open_rs (fun _ => hval 0 _ _ rfl rfl) (fun _ => h0)
  obtain ⟨i1, rfl, g1⟩ := open_i64 (fun _ => hval 1 _ _ rfl rfl) (fun _ => h1)
  obtain ⟨i2, rfl, g2⟩ := open_i64 (fun _ => hval 2 _ _ rfl rfl) (fun _ => h2)
  obtain ⟨i3, rfl, g3⟩ := open_i64 (fun _ => hval 3 _ _ rfl rfl) (fun _ => h3)
  obtain ⟨i4, rfl, g4⟩ := open_i64 (fun _ => hval 4 _ _ rfl rfl) (fun _ => h4)
  obtain ⟨iv, hok⟩ := okl_CoinGives a0 n0 cap0 K0 A0 B0 s0 i1 i2 i3 i4 m0 g0 g1 g2 g3 g4
  refine (calls_of_owesV okx_Gv sl_Gv Try.func3 (by kernel_rfl) hok (Rho.whole W) W (whole_ok W) (fun p h => (by cases h)) (by
    intro z hz
    simp only [List.mem_cons, List.not_mem_nil, or_false] at hz
    rcases hz with rfl | rfl | rfl | rfl | rfl
    · exact z0
    · trivial
    · trivial
    · trivial
    · trivial)).mono fun e W' he => ?_
  obtain ⟨v, rfl, ⟨ρ', hv⟩, hb⟩ := he
  have hv' : v = .bool true := hv
  subst hv'
  exact ⟨_, rfl, law_post (tb := 4) laid_out (by kernel_rfl) (by kernel_rfl) (by kernel_rfl) rfl rfl hW' hb⟩

theorem coinGives_facts : joinedFacts Try.prog 3 Try.f3 Rows.coinGivesSpec Rows.coinGivesRow = true := by
  unfold joinedFacts
  rw [prog_three.1, prog_three.2.1, prog_three.2.2]
  kernel_rfl
theorem coinGives_holds : Rows.CoinGivesSaid :=
  OpenClaim.holds_of_wide 3 Try.f3 rfl rfl rfl rfl rfl rfl rfl ⟨rfl, rfl, rfl, rfl, rfl⟩ rfl rfl rfl rfl rfl (by kernel_rfl) Try.func3 coinGives_facts
    (of_decide_eq_true (by kernel_rfl)) (by unfold Func.isWrapper; first | (rw [if_pos (by decide +kernel)]; kernel_rfl) | (rw [if_neg (by decide +kernel)]; exact ⟨rfl, rfl⟩))
    (fun os started H enc _ => coinGives_lifted os started H enc)
end Go.Proofs.Ytnjdoebaneogjaa
