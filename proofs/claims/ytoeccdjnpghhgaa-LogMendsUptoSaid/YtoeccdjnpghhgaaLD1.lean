/-
  LogOpens, LogMends: log.Open and log.Mend answer what the reference answers, for every log that a machine can hold (at most 1048576 parts); the inputs read as they did.
-/
import Derived.Test.YtoeccdjnpghhgaaM1
import Derived.Test.YtoeccdjnpghhgaaM2
import Derived.Test.YtoeccdjnpghhgaaM3
import Derived.Test.YtoeccdjnpghhgaaM4
import Derived.Test.YtoeccdjnpghhgaaM5
import Derived.Test.YtoeccdjnpghhgaaM6
import Derived.Test.YtoeccdjnpghhgaaM7
import Derived.Test.YtoeccdjnpghhgaaM8
import Derived.Test.YtoeccdjnpghhgaaM9
import Derived.Test.YtoeccdjnpghhgaaM10
import Derived.Test.YtoeccdjnpghhgaaM11
import Derived.JoinedCond

namespace Go.Proofs.Ytoeccdjnpghhgaa
open Go.ChangeShapes Go.WideShapes Go.ChangeAt Go.RowKit Go.Sx

theorem logOpens_contract (H : Type) (enc : TypeId × Value → H) (W : World) (base : Nat) (args : Array Value) (ds gs : List (DataW H)) (before : List MemPlace)
    (hval0 : ∀ (j : Nat) t v, Try.f5.params[j]? = some t → args[j]? = some v → Value.okWide Try.prog W .any base t v)
    (hW : DataW.Whole enc Try.prog Try.f5.params.toList Rows.logOpensSpec.vars false W args.toList ds gs before) (hk : Rows.uptoSmall H (ds ++ gs) = true) :
    Calls Try.prog 5 args W fun e W' => ∃ v, e = .returned v ∧ Rows.logOpensSpec.post enc Try.prog Try.f5 false Rows.logOpensRow.fresh Rows.logOpensRow.handsOn Rows.logOpensRow.again W args v W' := by
  have hval : ∀ (j : Nat) t v, Try.f5.params[j]? = some t → args[j]? = some v → Value.okWide Try.prog W .any base t v := hval0
  have hW' := hW
  obtain ⟨p, q, hA0, hV, rfl, _, _⟩ := hW
  have hA : DataW.TrodAll enc Try.prog W 0 (fun _ => true) true [24] args.toList ds p := hA0
  obtain ⟨v0, d0, rfl, rfl, h0⟩ := trodAll_one hA
  obtain ⟨rfl, rfl⟩ := trodVars_none hV
  obtain ⟨a0, n0, cap0, F0, b0, m0, cb0, G0, rfl, ⟨f0, g0⟩, k0⟩ := open_log (fun _ => hval 0 _ _ rfl rfl) (fun _ => h0)
  have u0 := bulk_log h0
  have c0 := bQ_cap (k0 _ (List.mem_cons_self ..))
  have e0 := bQ_cap (k0 _ (List.mem_cons_of_mem _ (List.mem_cons_self ..)))
  have hk := of_decide_eq_true hk
  simp only [List.append_nil, Rows.uptoBulkAll] at hk
  refine (calls_of_owesV okx_LA oks_Lo Try.func5 (by kernel_rfl) (okl_LogOpens a0 n0 cap0 F0 b0 m0 cb0 G0 f0 g0 c0 e0 (by omega)) (Rho.whole W) W (whole_ok W) (fun p h => (by cases h)) (by
    intro z hz
    simp only [List.mem_cons, List.not_mem_nil, or_false] at hz
    rcases hz with rfl
    · exact k0)).mono fun e W' he => ?_
  obtain ⟨v, rfl, ⟨ρ', hv⟩, hb⟩ := he
  have hv' : v = .bool true := hv
  subst hv'
  exact ⟨_, rfl, law_post (tb := 4) laid_out (by kernel_rfl) (by kernel_rfl) (by kernel_rfl) rfl rfl hW' hb⟩
set_option maxRecDepth 100000 in
theorem logOpens_lifted (os : Os) (started : os.Started) (H : Type) (enc : TypeId × Value → H) (F : Stop.Interp) :
    ReturnsInHanded {} Try.checked os 5 .any ((Rows.OpenSpec.upto Rows.logOpensSpec).pre6 enc Try.prog Try.f5 Rows.logOpensUptoRow.domain false) (((Rows.OpenSpec.upto Rows.logOpensSpec).at F).post enc Try.prog Try.f5 false Rows.logOpensUptoRow.fresh Rows.logOpensUptoRow.handsOn Rows.logOpensUptoRow.again) := by
  refine returnsInHanded_of_cond (C := Try.checked) (s := Rows.OpenSpec.upto Rows.logOpensSpec) (k := Rows.uptoSmall) rfl own_none started (by kernel_rfl) Try.func5
    (OpenSpec.witness (enc := enc) (C := Try.checked) (s := Rows.OpenSpec.upto Rows.logOpensSpec) (k := Rows.uptoSmall) rfl false ⟨#[], #[.agg #[.slice none 0 0, .slice none 0 0]], []⟩ 8 (by kernel_rfl) (by kernel_rfl) (by kernel_rfl)
      (x := ([.agg [.nil, .nil]], [], [])) (by kernel_rfl) rfl (by kernel_rfl)) ?_
  intro W base args ds gs before hval hW _ hk _
  exact logOpens_contract H enc W base args ds gs before hval hW hk

theorem logOpens_facts : joinedFacts Try.prog 5 Try.f5 (Rows.OpenSpec.upto Rows.logOpensSpec).bare Rows.logOpensUptoRow = true := by
  unfold joinedFacts
  rw [prog_three.1, prog_three.2.1, prog_three.2.2]
  kernel_rfl
theorem logOpens_holds : Rows.LogOpensUptoSaid :=
  OpenClaim.holds_of_cond 5 Try.f5 rfl rfl rfl rfl rfl rfl rfl ⟨rfl, rfl, rfl, rfl, rfl⟩ rfl rfl rfl rfl rfl (by kernel_rfl) Try.func5 logOpens_facts
    (of_decide_eq_true (by kernel_rfl)) (by unfold Func.isWrapper; first | (rw [if_pos (by decide +kernel)]; kernel_rfl) | (rw [if_neg (by decide +kernel)]; exact ⟨rfl, rfl⟩))
    (fun os started H enc _ F => logOpens_lifted os started H enc F)

theorem logMends_contract (H : Type) (enc : TypeId × Value → H) (W : World) (base : Nat) (args : Array Value) (ds gs : List (DataW H)) (before : List MemPlace)
    (hval0 : ∀ (j : Nat) t v, Try.f6.params[j]? = some t → args[j]? = some v → Value.okWide Try.prog W .any base t v)
    (hW : DataW.Whole enc Try.prog Try.f6.params.toList Rows.logMendsSpec.vars false W args.toList ds gs before) (hk : Rows.uptoSmall H (ds ++ gs) = true) :
    Calls Try.prog 6 args W fun e W' => ∃ v, e = .returned v ∧ Rows.logMendsSpec.post enc Try.prog Try.f6 false Rows.logMendsRow.fresh Rows.logMendsRow.handsOn Rows.logMendsRow.again W args v W' := by
  have hval : ∀ (j : Nat) t v, Try.f6.params[j]? = some t → args[j]? = some v → Value.okWide Try.prog W .any base t v := hval0
  have hW' := hW
  obtain ⟨p, q, hA0, hV, rfl, _, _⟩ := hW
  have hA : DataW.TrodAll enc Try.prog W 0 (fun _ => true) true [24] args.toList ds p := hA0
  obtain ⟨v0, d0, rfl, rfl, h0⟩ := trodAll_one hA
  obtain ⟨rfl, rfl⟩ := trodVars_none hV
  obtain ⟨a0, n0, cap0, F0, b0, m0, cb0, G0, rfl, ⟨f0, g0⟩, k0⟩ := open_log (fun _ => hval 0 _ _ rfl rfl) (fun _ => h0)
  have u0 := bulk_log h0
  have c0 := bQ_cap (k0 _ (List.mem_cons_self ..))
  have e0 := bQ_cap (k0 _ (List.mem_cons_of_mem _ (List.mem_cons_self ..)))
  have hk := of_decide_eq_true hk
  simp only [List.append_nil, Rows.uptoBulkAll] at hk
  refine (calls_of_owesV okx_LA oks_Lm Try.func6 (by kernel_rfl) (okl_LogMends a0 n0 cap0 F0 b0 m0 cb0 G0 f0 g0 c0 e0 (by omega)) (Rho.whole W) W (whole_ok W) (fun p h => (by cases h)) (by
    intro z hz
    simp only [List.mem_cons, List.not_mem_nil, or_false] at hz
    rcases hz with rfl
    · exact k0)).mono fun e W' he => ?_
  obtain ⟨v, rfl, ⟨ρ', hv⟩, hb⟩ := he
  have hv' : v = .bool true := hv
  subst hv'
  exact ⟨_, rfl, law_post (tb := 4) laid_out (by kernel_rfl) (by kernel_rfl) (by kernel_rfl) rfl rfl hW' hb⟩
set_option maxRecDepth 100000 in
theorem logMends_lifted (os : Os) (started : os.Started) (H : Type) (enc : TypeId × Value → H) (F : Stop.Interp) :
    ReturnsInHanded {} Try.checked os 6 .any ((Rows.OpenSpec.upto Rows.logMendsSpec).pre6 enc Try.prog Try.f6 Rows.logMendsUptoRow.domain false) (((Rows.OpenSpec.upto Rows.logMendsSpec).at F).post enc Try.prog Try.f6 false Rows.logMendsUptoRow.fresh Rows.logMendsUptoRow.handsOn Rows.logMendsUptoRow.again) := by
  refine returnsInHanded_of_cond (C := Try.checked) (s := Rows.OpenSpec.upto Rows.logMendsSpec) (k := Rows.uptoSmall) rfl own_none started (by kernel_rfl) Try.func6
    (OpenSpec.witness (enc := enc) (C := Try.checked) (s := Rows.OpenSpec.upto Rows.logMendsSpec) (k := Rows.uptoSmall) rfl false ⟨#[], #[.agg #[.slice none 0 0, .slice none 0 0]], []⟩ 8 (by kernel_rfl) (by kernel_rfl) (by kernel_rfl)
      (x := ([.agg [.nil, .nil]], [], [])) (by kernel_rfl) rfl (by kernel_rfl)) ?_
  intro W base args ds gs before hval hW _ hk _
  exact logMends_contract H enc W base args ds gs before hval hW hk

theorem logMends_facts : joinedFacts Try.prog 6 Try.f6 (Rows.OpenSpec.upto Rows.logMendsSpec).bare Rows.logMendsUptoRow = true := by
  unfold joinedFacts
  rw [prog_three.1, prog_three.2.1, prog_three.2.2]
  kernel_rfl
theorem logMends_holds : Rows.LogMendsUptoSaid :=
  OpenClaim.holds_of_cond 6 Try.f6 rfl rfl rfl rfl rfl rfl rfl ⟨rfl, rfl, rfl, rfl, rfl⟩ rfl rfl rfl rfl rfl (by kernel_rfl) Try.func6 logMends_facts
    (of_decide_eq_true (by kernel_rfl)) (by unfold Func.isWrapper; first | (rw [if_pos (by decide +kernel)]; kernel_rfl) | (rw [if_neg (by decide +kernel)]; exact ⟨rfl, rfl⟩))
    (fun os started H enc _ F => logMends_lifted os started H enc F)
end Go.Proofs.Ytoeccdjnpghhgaa
