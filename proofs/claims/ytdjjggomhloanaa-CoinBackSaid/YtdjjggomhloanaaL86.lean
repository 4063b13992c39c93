/-
  CoinBack: for every input, true, and the input reads as it did.
-/
import Derived.Test.YtdjjggomhloanaaM1
import Derived.Test.YtdjjggomhloanaaM2
import Derived.Test.YtdjjggomhloanaaM3
import Derived.Test.YtdjjggomhloanaaM4
import Derived.Test.YtdjjggomhloanaaM5
import Derived.Test.YtdjjggomhloanaaM6
import Derived.Test.YtdjjggomhloanaaM7
import Derived.Test.YtdjjggomhloanaaM8
import Derived.Test.YtdjjggomhloanaaM9
import Derived.Test.YtdjjggomhloanaaM10
import Derived.Test.YtdjjggomhloanaaM11
import Derived.Test.YtdjjggomhloanaaM12
import Derived.Test.YtdjjggomhloanaaM13
import Derived.Test.YtdjjggomhloanaaM14

namespace Go.Proofs.Ytdjjggomhloanaa
open Go.ChangeShapes Go.WideShapes Go.ChangeAt Go.RowKit Go.Sx

theorem prog_three : Try.prog.mayEnter = true ∧ Try.prog.liftsFinal = Rows.coinBackRow.lifted ∧ Try.prog.make = some Rows.coinBackRow.make := ⟨by kernel_rfl, by kernel_rfl, by kernel_rfl⟩
theorem own_none : ownKnob Try.prog.godebug = none := by kernel_rfl
theorem laid_out : laidOutB Try.prog = true := by kernel_rfl

def rawLK : List LK := [.int .i64, .int .i64, .int .i64, .text]
def strV : Value → ByteArray
  | .string s => s
  | _ => ⟨#[]⟩
theorem lks_raw : lks Try.prog 3 47 = some rawLK := by kernel_rfl
theorem fits_raws {w : World} {a : Option Addr} {n cap : Nat} {f : Nat → Nat → Value} (hf : ∀ i, i < n → ∀ (c : Nat) (x : LK), rawLK[c]? = some x → x.fits (f i c)) (hb : SC.bnd ⟨fun _ => False, (Rho.whole w).fz⟩ (.xs a n cap 4 fun i c => .val (f i c))) :
    ∃ (K A B : Nat → Int) (s : Nat → ByteArray), (∀ i, i < n → i64ok (K i) ∧ i64ok (A i) ∧ i64ok (B i)) ∧ SC.bnd ⟨fun _ => False, (Rho.whole w).fz⟩ (.xs a n cap 4 (rwF K A B s)) := by
  refine ⟨fun i => intV (f i 0), fun i => intV (f i 1), fun i => intV (f i 2), fun i => strV (f i 3), fun i hi => ⟨bounds_i64 (fit_int (hf i hi 0 _ rfl)).2, bounds_i64 (fit_int (hf i hi 1 _ rfl)).2, bounds_i64 (fit_int (hf i hi 2 _ rfl)).2⟩, xs_told hb fun i hi c hc => ?_⟩
  match c, hc with
  | 0, _ => exact ⟨(fit_int (hf i hi 0 _ rfl)).1, trivial, rfl⟩
  | 1, _ => exact ⟨(fit_int (hf i hi 1 _ rfl)).1, trivial, rfl⟩
  | 2, _ => exact ⟨(fit_int (hf i hi 2 _ rfl)).1, trivial, rfl⟩
  | 3, _ =>
    have h3 := hf i hi 3 .text rfl
    refine ⟨?_, trivial, rfl⟩
    show f i 3 = .string (strV (f i 3))
    cases hv : f i 3 <;> rw [hv] at h3 <;> first | rfl | exact h3.elim
theorem open_rs {H : Type} {enc : TypeId × Value → H} {W : World} {base b0 : Nat} {sp : Nat → Bool} {held : Bool} {v : Value} {d : DataW H} {ps : List MemPlace}
    (hval : Unit → Value.okWide Try.prog W .any b0 22 v) (h : Unit → DataW.Trod enc Try.prog W base sp held 22 v d ps) :
    ∃ (a : Option Addr) (n cap : Nat) (K A B : Nat → Int) (s : Nat → ByteArray), v = SA.conc (Rho.whole W) (.sc (.xs a n cap 4 (rwF K A B s))) ∧ n ≤ maxLen ∧ (∀ i, i < n → i64ok (K i) ∧ i64ok (A i) ∧ i64ok (B i)) ∧ SC.bnd ⟨fun _ => False, (Rho.whole W).fz⟩ (.xs a n cap 4 (rwF K A B s)) := by
  have hx : (LQ.sl rawLK).fits W v := by
    refine open_sl (H := H) (enc := enc) (P := Try.prog) (w := W) (base := base) (sp := sp) (held := held) (d := 3) (t := 22) (e := 47) (ks := rawLK) (r := .any) (b0 := b0) (v := v) (x := d) (ps := ps) ?_ ?_ ?_ ?_ ?_ ?_
    · kernel_rfl
    · kernel_rfl
    · kernel_rfl
    · decide
    · with_reducible exact hval ()
    · with_reducible exact h ()
  obtain ⟨a, n, cap, f, rfl, hm, hf, hb⟩ := hx
  obtain ⟨K, A, B, s, hk, hb⟩ := fits_raws hf hb
  exact ⟨a, n, cap, K, A, B, s, rfl, hm, hk, hb⟩
theorem raw_of {W : World} {v : Value} (hx : ∃ cs : List Value, v = .agg cs.toArray ∧ fitsL rawLK cs) : ∃ k a b s, v = (sRaw k a b s).conc (Rho.whole W) ∧ i64ok k ∧ i64ok a ∧ i64ok b := by
  obtain ⟨cs, rfl, hf⟩ := hx
  match cs, hf with
  | [.int k1 a1, .int k2 a2, .int k3 a3, .string s], hf =>
    obtain ⟨⟨rfl, w1⟩, ⟨rfl, w2⟩, ⟨rfl, w3⟩, _, _⟩ := hf
    exact ⟨a1, a2, a3, s, rfl, bounds_i64 w1, bounds_i64 w2, bounds_i64 w3⟩
/-- A raw thing, opened. -/
theorem open_raw {H : Type} {enc : TypeId × Value → H} {W : World} {base b0 : Nat} {sp : Nat → Bool} {held : Bool} {v : Value} {d : DataW H} {ps : List MemPlace}
    (hval : Unit → Value.okWide Try.prog W .any b0 47 v) (h : Unit → DataW.Trod enc Try.prog W base sp held 47 v d ps) :
    ∃ k a b s, v = (sRaw k a b s).conc (Rho.whole W) ∧ i64ok k ∧ i64ok a ∧ i64ok b := by
  have hx : ∃ cs : List Value, v = .agg cs.toArray ∧ fitsL rawLK cs := by
    refine open_flat (H := H) (enc := enc) (P := Try.prog) (w := W) (base := base) (sp := sp) (held := held) (d := 3) (t := 47) (r := .any) (b0 := b0) (v := v) (x := d) (ps := ps) lks_raw ?_ ?_ ?_
    · kernel_rfl
    · with_reducible exact hval ()
    · with_reducible exact h ()
  exact raw_of hx
theorem open_i64 {H : Type} {enc : TypeId × Value → H} {W : World} {base b0 : Nat} {sp : Nat → Bool} {held : Bool} {v : Value} {d : DataW H} {ps : List MemPlace}
    (hval : Unit → Value.okWide Try.prog W .any b0 3 v) (h : Unit → DataW.Trod enc Try.prog W base sp held 3 v d ps) : ∃ a, v = (sI .i64 a).conc (Rho.whole W) ∧ i64ok a := by
  have hu : Try.prog.underlying 3 = some (.int .i64) := by kernel_rfl
  obtain ⟨n, e, _, _, w⟩ := open_int hu (by with_reducible exact hval ()) (by with_reducible exact h ())
  exact ⟨n, e, bounds_i64 w⟩
theorem bnd_raw {E : Env} (k a b : Int) (s : ByteArray) : SA.bnd E (sRaw k a b s) := by
  intro y hy
  simp only [List.mem_cons, List.not_mem_nil, or_false] at hy
  rcases hy with rfl | rfl | rfl | rfl <;> trivial

set_option maxRecDepth 100000 in
theorem coinBack_lifted (os : Os) (started : os.Started) (H : Type) (enc : TypeId × Value → H) :
    ReturnsInHanded {} Try.checked os 5 .any (Rows.coinBackSpec.pre6 enc Try.prog Try.f5 Rows.coinBackRow.domain false) (Rows.coinBackSpec.post enc Try.prog Try.f5 false Rows.coinBackRow.fresh Rows.coinBackRow.handsOn Rows.coinBackRow.again) := by
  refine returnsInHanded_of_change (C := Try.checked) own_none started (by kernel_rfl) Try.func5
    (ChangeSpec.witness6 (enc := enc) (C := Try.checked) false ⟨#[], #[.slice none 0 0, .int .i64 0, .agg #[.int .i64 0, .int .i64 0, .int .i64 0, .string ⟨#[]⟩]], []⟩ 8 (by kernel_rfl) (by kernel_rfl) (by kernel_rfl) (by kernel_rfl)) ?_
  intro W base args ds gs before hval0 hW _ _
  have hval : ∀ (j : Nat) t v, Try.f5.params[j]? = some t → args[j]? = some v → Value.okWide Try.prog W .any base t v := hval0
  have hW' := hW
  obtain ⟨p, q, hA0, hV, rfl, _, _⟩ := hW
  have hA : DataW.TrodAll enc Try.prog W 0 (fun _ => true) true [22, 3, 47] args.toList ds p := hA0
  obtain ⟨v0, v1, v2, d0, d1, d2, q0, q1, q2, rfl, rfl, rfl, h0, h1, h2⟩ := trodAll_three hA
  obtain ⟨rfl, rfl⟩ := trodVars_none hV
  obtain ⟨a0, n0, cap0, K0, A0, B0, s0, rfl, m0, g0, z0⟩ := open_rs (fun _ => hval 0 _ _ rfl rfl) (fun _ => h0)
  obtain ⟨i1, rfl, g1⟩ := open_i64 (fun _ => hval 1 _ _ rfl rfl) (fun _ => h1)
  obtain ⟨k2, a2, b2, s2, rfl, g2, g3, g4⟩ := open_raw (fun _ => hval 2 _ _ rfl rfl) (fun _ => h2)
  obtain ⟨iv, hok⟩ := okl_CoinBack a0 n0 cap0 K0 A0 B0 s0 i1 k2 a2 b2 s2 m0 g0 g1 g2 g3 g4
  refine (calls_of_owesV okx_Bk sl_Bk Try.func5 (by kernel_rfl) hok (Rho.whole W) W (whole_ok W) (fun p h => (by cases h)) (by
    intro z hz
    simp only [List.mem_cons, List.not_mem_nil, or_false] at hz
    rcases hz with rfl | rfl | rfl
    · exact z0
    · trivial
    · exact bnd_raw _ _ _ _)).mono fun e W' he => ?_
  obtain ⟨v, rfl, ⟨ρ', hv⟩, hb⟩ := he
  have hv' : v = .bool true := hv
  subst hv'
  exact ⟨_, rfl, law_post (tb := 4) laid_out (by kernel_rfl) (by kernel_rfl) (by kernel_rfl) rfl rfl hW' hb⟩

theorem coinBack_facts : joinedFacts Try.prog 5 Try.f5 Rows.coinBackSpec Rows.coinBackRow = true := by
  unfold joinedFacts
  rw [prog_three.1, prog_three.2.1, prog_three.2.2]
  kernel_rfl
theorem coinBack_holds : Rows.CoinBackSaid :=
  OpenClaim.holds_of_wide 5 Try.f5 rfl rfl rfl rfl rfl rfl rfl ⟨rfl, rfl, rfl, rfl, rfl⟩ rfl rfl rfl rfl rfl (by kernel_rfl) Try.func5 coinBack_facts
    (of_decide_eq_true (by kernel_rfl)) (by unfold Func.isWrapper; first | (rw [if_pos (by decide +kernel)]; kernel_rfl) | (rw [if_neg (by decide +kernel)]; exact ⟨rfl, rfl⟩))
    (fun os started H enc _ => coinBack_lifted os started H enc)
end Go.Proofs.Ytdjjggomhloanaa
