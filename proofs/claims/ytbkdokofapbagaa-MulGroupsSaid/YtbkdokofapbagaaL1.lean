/-
  Laws, for every input: true, and the input reads as it did.
-/
import Derived.Test.YtbkdokofapbagaaC1
namespace Go.Proofs.Ytbkdokofapbagaa
open Go.ChangeShapes Go.WideShapes Go.ChangeAt Go.RowKit Go.Sx

theorem own_none : ownKnob Try.prog.godebug = none := by kernel_rfl
theorem laid_out : laidOutB Try.prog = true := by kernel_rfl

theorem lks_raw : lks Try.prog 3 23 = some [.int .i64, .int .i64, .int .i64, .text] := by kernel_rfl
theorem raw_of {v : Value} (hx : ∃ cs : List Value, v = .agg cs.toArray ∧ fitsL [.int .i64, .int .i64, .int .i64, .text] cs) : ∃ k a b s, v = (sRaw k a b s).conc (fun _ => 0) ∧ i64ok k ∧ i64ok a ∧ i64ok b := by
  obtain ⟨cs, rfl, hf⟩ := hx
  match cs, hf with
  | [.int k1 a1, .int k2 a2, .int k3 a3, .string s], hf =>
    obtain ⟨⟨rfl, w1⟩, ⟨rfl, w2⟩, ⟨rfl, w3⟩, _, _⟩ := hf
    exact ⟨a1, a2, a3, s, rfl, bounds_i64 w1, bounds_i64 w2, bounds_i64 w3⟩
/-- A raw thing, opened. -/
theorem open_raw {H : Type} {enc : TypeId × Value → H} {W : World} {base b0 : Nat} {sp : Nat → Bool} {held : Bool} {v : Value} {d : DataW H} {ps : List MemPlace}
    (hval : Unit → Value.okWide Try.prog W .any b0 23 v) (h : Unit → DataW.Trod enc Try.prog W base sp held 23 v d ps) :
    ∃ k a b s, v = (sRaw k a b s).conc (fun _ => 0) ∧ i64ok k ∧ i64ok a ∧ i64ok b := by
  have hx : ∃ cs : List Value, v = .agg cs.toArray ∧ fitsL [.int .i64, .int .i64, .int .i64, .text] cs := by
    refine open_flat (H := H) (enc := enc) (P := Try.prog) (w := W) (base := base) (sp := sp) (held := held) (d := 3) (t := 23) (r := .any) (b0 := b0) (v := v) (x := d) (ps := ps) lks_raw ?_ ?_ ?_
    · kernel_rfl
    · with_reducible exact hval ()
    · with_reducible exact h ()
  exact raw_of hx
theorem bnd_raw (k a b : Int) (s : ByteArray) : SA.bnd none0 (sRaw k a b s) := by
  intro y hy
  simp only [List.mem_cons, List.not_mem_nil, or_false] at hy
  rcases hy with rfl | rfl | rfl | rfl <;> trivial

set_option maxRecDepth 100000 in
theorem addBack_lifted (os : Os) (started : os.Started) (H : Type) (enc : TypeId × Value → H) :
    ReturnsInHanded {} Try.checked os 3 .any (Rows.addBackSpec.pre6 enc Try.prog Try.f3 Rows.addBackRow.domain false) (Rows.addBackSpec.post enc Try.prog Try.f3 false Rows.addBackRow.fresh Rows.addBackRow.handsOn Rows.addBackRow.again) := by
  refine returnsInHanded_of_change (C := Try.checked) own_none started (by kernel_rfl) Try.func3
    (ChangeSpec.witness6 (enc := enc) (C := Try.checked) false ⟨#[], #[.agg #[.int .i64 0, .int .i64 0, .int .i64 0, .string ⟨#[]⟩], .agg #[.int .i64 0, .int .i64 0, .int .i64 0, .string ⟨#[]⟩]], []⟩ 8 (by kernel_rfl) (by kernel_rfl) (by kernel_rfl) (by kernel_rfl)) ?_
  intro W base args ds gs before hval0 hW _ _
  have hval : ∀ (j : Nat) t v, Try.f3.params[j]? = some t → args[j]? = some v → Value.okWide Try.prog W .any base t v := hval0
  have hW' := hW
  obtain ⟨p, q, hA0, hV, rfl, _, _⟩ := hW
  have hA : DataW.TrodAll enc Try.prog W 0 (fun _ => true) true [23, 23] args.toList ds p := hA0
  obtain ⟨v0, v1, d0, d1, p0, p1, rfl, rfl, rfl, h0, h1⟩ := trodAll_two hA
  obtain ⟨rfl, rfl⟩ := trodVars_none hV
  obtain ⟨k0, a0, b0, s0, rfl, g1, g2, g3⟩ := open_raw (fun _ => hval 0 _ _ rfl rfl) (fun _ => h0)
  obtain ⟨k1, a1, b1, s1, rfl, g4, g5, g6⟩ := open_raw (fun _ => hval 1 _ _ rfl rfl) (fun _ => h1)
  refine (calls_of_owes cxok_AddBack Try.func3 (by kernel_rfl) (by
    intro z hz
    simp only [List.mem_cons, List.not_mem_nil, or_false] at hz
    rcases hz with rfl | rfl <;> exact bnd_raw _ _ _ _) (ok_AddBack k0 a0 b0 s0 k1 a1 b1 s1 g1 g2 g3 g4 g5 g6) (fun _ => 0) W).mono fun e W' he => ?_
  obtain ⟨v, rfl, ⟨ρ', hv⟩, hb⟩ := he
  have hv' : v = .bool true := hv
  subst hv'
  exact ⟨_, rfl, law_post (tb := 4) laid_out (by kernel_rfl) (by kernel_rfl) (by kernel_rfl) rfl rfl hW' hb⟩

theorem addBack_holds : Rows.AddBackSaid :=
  OpenClaim.holds_of_wide 3 Try.f3 rfl rfl rfl rfl rfl rfl rfl ⟨rfl, rfl, rfl, rfl, rfl⟩ rfl rfl rfl rfl rfl (by kernel_rfl) Try.func3 (by kernel_rfl)
    (of_decide_eq_true (by kernel_rfl)) (by unfold Func.isWrapper; first | (rw [if_pos (by decide +kernel)]; kernel_rfl) | (rw [if_neg (by decide +kernel)]; exact ⟨rfl, rfl⟩))
    (fun os started H enc _ => addBack_lifted os started H enc)
end Go.Proofs.Ytbkdokofapbagaa
