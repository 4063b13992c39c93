/-
  Texts: P123.
-/
import Derived.Test.YtjokmekclibpmaaM1
import Derived.Test.YtjokmekclibpmaaM2
import Derived.Test.YtjokmekclibpmaaM3
import Derived.Test.YtjokmekclibpmaaM4
import Derived.Test.YtjokmekclibpmaaM5
import Derived.Test.YtjokmekclibpmaaM6
import Derived.Test.YtjokmekclibpmaaM7
import Derived.Test.YtjokmekclibpmaaM8
import Derived.Test.YtjokmekclibpmaaM9
import Derived.Test.YtjokmekclibpmaaM10
import Derived.Test.YtjokmekclibpmaaM11
import Derived.Test.YtjokmekclibpmaaM12
import Derived.Test.YtjokmekclibpmaaM13
section
/-
  The reference's curves: which may be, and which points are on them; the law.
-/
namespace Go.Proofs.Ytjokmekclibpmaa
open Go Go.Sx Go.RowKit

theorem cmpI_lt' (a b : Nat) : decide (cmpI a b < 0) = decide (a < b) := by
  unfold cmpI
  split
  · rename_i h; rw [decide_eq_true h]; rfl
  · rename_i h
    rw [decide_eq_false h]
    split <;> rfl
theorem cmpI_gt' (a b : Nat) : decide (cmpI a b > 0) = decide (b < a) := by
  unfold cmpI
  split
  · rename_i h; rw [decide_eq_false (show ¬ b < a by omega)]; rfl
  · split
    · rename_i h; rw [decide_eq_true h]; rfl
    · rename_i h; rw [decide_eq_false h]; rfl
theorem limb_and (P : Nat) : (IntKind.u64.wrap ((BitVec.ofInt 64 (limb P 0) &&& BitVec.ofInt 64 3).toNat : Int) == (3 : Int)) = decide (P % M256 % 4 = 3) := by
  have e : limb P 0 = ((P / 2 ^ (64 * 0) % 2 ^ 64 : Nat) : Int) := rfl
  have e2 : (P / 2 ^ (64 * 0) % 2 ^ 64 : Nat) = P % 18446744073709551616 := by rw [Nat.mul_zero, Nat.pow_zero, Nat.div_one]
  have e3 : (BitVec.ofInt 64 ((P % 18446744073709551616 : Nat) : Int) &&& BitVec.ofInt 64 3).toNat = P % 18446744073709551616 % 4 := by
    rw [BitVec.toNat_and, BitVec.toNat_ofInt, BitVec.toNat_ofInt]
    have a : (((P % 18446744073709551616 : Nat) : Int) % ((2 ^ 64 : Nat) : Int)).toNat = P % 18446744073709551616 := by omega
    have b : ((3 : Int) % ((2 ^ 64 : Nat) : Int)).toNat = 2 ^ 2 - 1 := by decide
    rw [a, b, Nat.and_two_pow_sub_one_eq_mod]
  rw [e, e2, e3]
  have hM := M256_eq
  have w : IntKind.u64.wrap ((P % 18446744073709551616 % 4 : Nat) : Int) = ((P % 18446744073709551616 % 4 : Nat) : Int) := by
    rw [IntKind.wrap_u64]; omega
  rw [w, Bool.eq_iff_iff, beq_iff_eq, decide_eq_true_iff]
  have q : P % M256 % 4 = P % 18446744073709551616 % 4 := by rw [hM]; omega
  omega
theorem vn_two {g : Nat → Int} {n : Int} (h : 0 ≤ n ∧ n < 18446744073709551616) (h0 : g 0 = n % 4294967296) (h1 : g 1 = n / 4294967296) : vn 2 g = n.toNat ∧ dgs 2 g := by
  constructor
  · unfold vn
    simp only [vz, h0, h1]
    omega
  · refine ⟨fun i hi => ?_⟩
    rcases (show i = 0 ∨ i = 1 by omega) with rfl | rfl
    · rw [h0]; omega
    · rw [h1]; omega
theorem ok_refBy (n : Int) (m : Nat) (h : 0 ≤ n ∧ n < 18446744073709551616) (hm : m % M256 ≠ 0) : OwesV Try.prog .none slRest [] 4 Try.f22 [sI .u64 n, sU m] (rbyG n m) := by
  rw [vc_refBy]
  have e1 : n.tmod 4294967296 = n % 4294967296 := by rw [Int.tmod_eq_emod_of_nonneg h.1]
  have e2 : IntKind.u64.wrap (n.tdiv 4294967296) = n / 4294967296 := by
    rw [Int.tdiv_eq_ediv_of_nonneg h.1, IntKind.wrap_u64]; omega
  intro x1
  have hM := Nat.mod_lt m M_pos
  obtain ⟨v1, v2⟩ := vn_two (g := fun i => (intsL [SK.c (SC.val (.int .u64 (n.tmod 4294967296))), SK.c (SC.val (.int .u64 (IntKind.u64.wrap (n.tdiv 4294967296))))]).getD i 0) h e1 e2
  refine ⟨Nat.le_refl _, fun _ => ⟨fun _ => trivial, v2, by decide, hm, ?_, trivial⟩⟩
  have v1' : (vn 2 fun i => (intsL [SK.c (SC.val (.int .u64 (n.tmod 4294967296))), SK.c (SC.val (.int .u64 (IntKind.u64.wrap (n.tdiv 4294967296))))]).getD i 0) = n.toNat := v1
  rw [v1']
theorem FnOKV_WU {cx : Cx} {sl : List (Nat × SSpec)} {f : Nat} {fn : Func} (hcx : CxOK Try.prog cx) (hsl : ∀ p ∈ sl, FnOKs Try.prog cx.gl p.1 p.2) (hf : Try.prog.funcs[f]? = some fn) (hb : fn.body.isSome = true) (hn : (fn.name == "runtime.NumGoroutine") = false) {c : Int → Nat → List Prop} {g : Int → Nat → SV} {N : Nat} (hg : ∀ a b, (g a b).bnd none0)
    (h : ∀ a b, Ok (c a b) → OwesV Try.prog cx sl [] N fn [sI .u64 a, sU b] (g a b)) : FnOKg Try.prog cx.gl f (specWU c g) := by
  refine FnOK_owesV hcx hsl hf hb hn fun args ps sv hs hp => ?_
  unfold specWU at hs
  split at hs
  case h_2 => cases hs
  rename_i x y
  split at hs
  case h_2 => cases hs
  rename_i n p m hx hy
  simp only [Option.some.injEq, Prod.mk.injEq] at hs
  obtain ⟨rfl, rfl⟩ := hs
  obtain ⟨o1, o2⟩ := Ok.append.1 hp
  refine ⟨[], N, [sI .u64 n, sU m], fun ρ => by simp only [List.map_cons, List.map_nil, asI_canon hx ρ, asU_canon hy o1 ρ], fun fz _ z hz => ?_, hg n m, h n m o2⟩
  simp only [List.mem_cons, List.not_mem_nil, or_false] at hz
  rcases hz with rfl | rfl
  · exact trivial
  · exact bnd_Un _
theorem card_refBy : FnOK Try.prog 22 (specWU rbyC rbyG) :=
  FnOKV_WU cx_none sl_rest Try.func22 (by kernel_rfl) (by kernel_rfl) (fun _ _ => bnd_Un _) fun n m h => ok_refBy n m h.1 h.2.1
theorem card_refIsZ : FnOK Try.prog 24 (specU isZG) :=
  FnOK_U CxOK_nil (iv := []) (N := 10) Try.func24 (by kernel_rfl) (by kernel_rfl) (fun _ => bnd_one (bnd_B _)) fun a => by
    show Owes _ _ _ _ _ _ (isZG a)
    rw [vc_refIsZ]
    exact conj_one _
theorem ok_refRgt (ls : List (List At)) (vs : List (Option Addr)) (hc : Ok (rrgC ls)) : Owes Try.prog cxRrg [] 10 Try.f41 (mkArgs [.str pCv, .str [.u]] ls vs) (rrgG ls) := by
  unfold rrgC at hc
  split at hc
  · rename_i P A B N X Y F x
    show Owes Try.prog cxRrg [] 10 Try.f41 [sCv P A B N X Y F, sU x] (rrgG [[.u P, .u A, .u B, .u N, .u X, .u Y, .b F], [.u x]])
    rw [vc_refRgt]
    have h : x % M256 < P % M256 := hc.1
    have hp : 0 < P % M256 := Nat.lt_of_le_of_lt (Nat.zero_le _) h
    have lt := fun v => Nat.mod_lt v hp
    have md := mdM hp
    intro x1 x2 x3 x4 x5 x6
    have e3 : x3 % M256 = x3 := md _
    have e5 : x5 = (x3 + x4) % x1 := by show (x3 % M256 + x4) % x1 % M256 = _; rw [e3]; exact md _
    have e6 : x2 * x5 % x1 % M256 = x2 * x5 % x1 := md _
    refine ⟨by show P % M256 ≠ 0; omega, h, h, by show P % M256 ≠ 0; omega, by show P % M256 ≠ 0; omega, h, by rw [e5]; exact lt _, by show P % M256 ≠ 0; omega, ?_, trivial⟩
    rw [e6, e5]
  · exact hc.1.elim
theorem card_refRgt : FnOK Try.prog 41 cRrg :=
  FnOK_A (CxOK_cons card_refPro (CxOK_cons card_refTot CxOK_nil)) (iv := fun _ => []) (N := 10) Try.func41 (by kernel_rfl) (by kernel_rfl) (fun ls => by unfold rrgG; split; exact bnd_one (bnd_U _); exact bnd_none) ok_refRgt
theorem ok_refIsOn (ls : List (List At)) (vs : List (Option Addr)) (hc : Ok (isOC ls)) : Owes Try.prog cxIsOn [] 10 Try.f25 (mkArgs [.str pCv, .str pPt] ls vs) (isOnG ls) := by
  unfold isOC at hc
  split at hc
  · rename_i P A B N X Y F x y f
    show Owes Try.prog cxIsOn [] 10 Try.f25 [sCv P A B N X Y F, sPt x y f] (isOnG [[.u P, .u A, .u B, .u N, .u X, .u Y, .b F], [.u x, .u y, .b f]])
    rw [vc_refIsOn]
    intro x1 x2 x3 x4 x5 x6 x7 x8
    have e6 : x6 = decide (x1 < x4) := cmpI_lt' _ _
    have e8 : x8 = (decide (x1 < x4) && decide (x3 < x4)) := by
      show (x6 && decide (x7 < 0)) = _
      rw [e6, show decide (x7 < 0) = decide (x3 < x4) from cmpI_lt' _ _]
    have h8 : x8 = true → x1 < x4 ∧ x3 < x4 := fun h => by
      rw [e8, Bool.and_eq_true, decide_eq_true_eq, decide_eq_true_eq] at h; exact h
    refine ⟨fun h => ⟨id, id, id, ?_⟩, fun h => ⟨id, id, id, id, id, id, id, id, id, id, id, id, fun k => ?_, fun k => (h8 k).2, fun k => (h8 k).2, id, id, id, fun k => (h8 k).1, id, id, id, ?_⟩⟩
    · subst h; rfl
    · have := (h8 k).1; omega
    · subst h
      rw [e8, conj_one]
      show _ = (decide (x1 < x4) && (decide (x3 < x4) && (x3 * x3 % x4 == (x1 * ((x1 * x1 % x4 + A % M256) % x4) % x4 + B % M256) % x4)))
      cases h1 : decide (x1 < x4)
      · rfl
      · cases h3 : decide (x3 < x4)
        · rfl
        · have hp : 0 < P % M256 := Nat.lt_of_le_of_lt (Nat.zero_le _) (of_decide_eq_true h1)
          have m1 : x3 * x3 % x4 % M256 = x3 * x3 % x4 := mdM hp _
          have m2 : ∀ v, v % x4 % M256 = v % x4 := mdM hp
          rw [m1, m2]
          simp
  · exact hc.1.elim
theorem card_refIsOn : FnOK Try.prog 25 cIsOn :=
  FnOK_A (CxOK_cons card_refIsZ (CxOK_cons card_refOrd (CxOK_cons card_refPro (CxOK_cons card_refRgt CxOK_nil)))) (iv := fun _ => []) (N := 10) Try.func25 (by kernel_rfl) (by kernel_rfl) (fun ls => by unfold isOnG; split; exact bnd_one (bnd_B _); exact bnd_none) ok_refIsOn

theorem isOn_ha {P A B x y : Nat} {f : Bool} (hA : rB A P = true) : isOnB P A B x y f = haB P A B x y f := by
  unfold isOnB haB rB
  cases f with
  | true => rfl
  | false =>
    have e : (x % M256 * ((x % M256 * (x % M256) % (P % M256) + A % M256) % (P % M256)) % (P % M256) + B % M256) % (P % M256) = rhsN (P % M256) (A % M256) (B % M256) (x % M256) := by
      unfold rhsN
      generalize x % M256 = x'
      generalize A % M256 = A'
      generalize B % M256 = B'
      generalize P % M256 = P'
      simp only [Nat.add_mod_mod, Nat.mod_add_mod, Nat.mul_mod_mod, Nat.mod_mul_mod]
      rw [Nat.mul_add, Nat.mul_comm x' A']
    rw [e]
    rfl
theorem slopes_ref (A B P : Nat) : (4 % P * (A ^ 3 % P) % P + 27 % P * (B ^ 2 % P) % P) % P = slopesN P A B := by
  unfold slopesN tw3
  simp only [Nat.add_mod_mod, Nat.mod_add_mod, Nat.mul_mod_mod, Nat.mod_mul_mod]
  rw [show A ^ 3 = A * (A * A) by rw [Nat.pow_succ, Nat.pow_two, Nat.mul_assoc, Nat.mul_comm], Nat.pow_two]
  generalize A * (A * A) = a
  generalize B * B = b
  congr 1
  omega
theorem ok_refCF (ls : List (List At)) (vs : List (Option Addr)) (hc : Ok (ckC ls)) : Owes Try.prog cxRCF [] 10 Try.f9 (mkArgs [.str pCv] ls vs) (ckG ls) := by
  unfold ckC at hc
  split at hc
  · rename_i P A B N X Y F
    show Owes Try.prog cxRCF [] 10 Try.f9 [sCv P A B N X Y F] (.one (sI .i64 (ckE P A B N X Y F)))
    rw [vc_refCF]
    intro x1 x2 x3 x4 x5 x6 x7 x8 x9 x10 x11 x12 x13 x14 x15 x16 x17
    have e3 : x3 = decide (3 < x1) := cmpI_gt' _ _
    have e4 : x4 = (decide (3 < x1) && decide (P % M256 % 4 = 3)) := by show (x3 && _) = _; rw [e3, limb_and]
    have e7 : x7 = (x4 && rB A P) := by show (x4 && decide (x6 < 0)) = _; rw [show decide (x6 < 0) = decide (x5 < x1) from cmpI_lt' _ _]; rfl
    have e10 : x10 = (x7 && rB B P) := by show (x7 && decide (x9 < 0)) = _; rw [show decide (x9 < 0) = decide (x8 < x1) from cmpI_lt' _ _]; rfl
    have e11 : decide (x11 > 0) = decide (1 < N % M256) := cmpI_gt' _ _
    rw [ckE_eq]
    refine ⟨id, id, id, id, id, id, id, id, id, id, id, id, id, id, id, id, id, id, id, id, id, id, fun h => ?_, fun h => ?_⟩
    · have g : gdB P A B N X Y F = false := by
        rw [e11, e10, e7, e4] at h
        unfold gdB
        cases ha : decide (3 < P % M256) <;> cases hb : decide (P % M256 % 4 = 3) <;> cases hA : rB A P <;> cases hB : rB B P <;> cases hN : decide (1 < N % M256) <;> first | rfl | (rw [show decide (3 < x1) = true from ha, hb, hA, hB, hN] at h; cases h)
      rw [g]; rfl
    · have h : (x10 && decide (x11 > 0)) = true := by simpa using h
      rw [e11, e10, e7, e4] at h
      simp only [Bool.and_eq_true] at h
      obtain ⟨⟨⟨⟨ha, hb⟩, hA⟩, hB⟩, hN⟩ := h
      have hp := rB_pos hA
      have md : ∀ v, v % x1 % M256 = v % x1 := mdM hp
      have lt := fun v => Nat.mod_lt v hp
      have n0 : x1 ≠ 0 := by show P % M256 ≠ 0; omega
      have e16 : x16 = (slopesN (P % M256) (A % M256) (B % M256) == 0) := by
        show ((x12 * x13 % x1 % M256 + x14 * x15 % x1 % M256) % x1 % M256 == 0) = _
        rw [md, md, md, show x12 = 4 % x1 from md _, show x13 = x5 ^ 3 % x1 from md _, show x14 = 27 % x1 from md _, show x15 = x8 ^ 2 % x1 from md _, slopes_ref]
      have g : gdB P A B N X Y F = (!(x17 || !isOnB P A B X Y F)) := by
        unfold gdB
        rw [show decide (3 < P % M256) = true from ha, hb, hA, hB, hN, isOn_ha hA]
        show _ = !((x16 || F) || _)
        rw [e16]
        cases (slopesN (P % M256) (A % M256) (B % M256) == 0) <;> cases F <;> cases haB P A B X Y _ <;> rfl
      rw [g]
      refine ⟨⟨by decide, by decide⟩, n0, n0, rB_iff.1 hA, n0, by rw [show x12 = 4 % x1 from md _]; exact lt _, by rw [show x13 = x5 ^ 3 % x1 from md _]; exact lt _, ⟨by decide, by decide⟩, n0, n0, rB_iff.1 hB, n0, by rw [show x14 = 27 % x1 from md _]; exact lt _, by rw [show x15 = x8 ^ 2 % x1 from md _]; exact lt _, n0, id, id, fun k => by rw [k]; rfl, id, id, id, id, fun k => by rw [k]; rfl, fun k => ?_, fun k => ?_⟩
      · rw [k]; rfl
      · rw [k]; rfl
  · exact hc.1.elim
theorem card_refCF : FnOK Try.prog 9 cRCF :=
  FnOK_A (cx := cxRCF) (CxOK_cons card_refIsZ (CxOK_cons card_refOrd (CxOK_cons card_refPro (CxOK_cons card_refTot (CxOK_cons card_refBy (CxOK_cons card_refPower (CxOK_cons card_refIsOn CxOK_nil))))))) (iv := fun _ => []) (N := 10) Try.func9 (by kernel_rfl) (by kernel_rfl) (fun ls => by unfold ckG; split; exact bnd_one (bnd_I _ _); exact bnd_none) ok_refCF
/-- What is asked of a point, where its curve may be. -/
theorem on_eq (P A B N X Y x y : Nat) (F f : Bool) : havT P A B x y f (ckE P A B N X Y F) = nt (gdB P A B N X Y F && isOnB P A B x y f) 0 := by
  rw [ckE_eq]
  cases g : gdB P A B N X Y F with
  | false => exact havT_16 _ _ _ _ _ _
  | true =>
    obtain ⟨_, _, hA, hB, _⟩ := gdB_A g
    show havT P A B x y f 0 = _
    rw [havT_eq hA hB, isOn_ha hA]
    rfl
theorem ck_ne (P A B N X Y : Nat) (F : Bool) : (ckE P A B N X Y F != 0) = !gdB P A B N X Y F := by
  rw [ckE_eq]; cases gdB P A B N X Y F <;> rfl
theorem ok_refOn (ls : List (List At)) (vs : List (Option Addr)) (hc : Ok (onC ls)) : Owes Try.prog cxROn [] 10 Try.f10 (mkArgs [.str pCv, .str pPt] ls vs) (onG ls) := by
  unfold onC at hc
  split at hc
  · rename_i P A B N X Y F x y f
    show Owes Try.prog cxROn [] 10 Try.f10 [sCv P A B N X Y F, sPt x y f] (.one (sI .i64 (havT P A B x y f (ckE P A B N X Y F))))
    rw [vc_refOn]
    intro x1
    have e1 : x1 = !gdB P A B N X Y F := ck_ne _ _ _ _ _ _ _
    rw [on_eq]
    refine ⟨id, id, id, fun k => by rw [k]; rfl, fun k => ?_, fun k => ?_⟩
    · rw [e1] at k
      revert k
      clear e1
      clear x1
      cases gdB P A B N X Y F <;> cases isOnB P A B x y f <;> intro k <;> first | rfl | (exact absurd k (by decide))
    · rw [e1] at k
      revert k
      clear e1
      clear x1
      cases gdB P A B N X Y F <;> cases isOnB P A B x y f <;> intro k <;> first | rfl | (exact absurd k (by decide))
  · exact hc.1.elim
theorem card_refOn : FnOK Try.prog 10 cROn :=
  FnOK_A (cx := cxROn) (CxOK_cons card_refCF (CxOK_cons card_refIsOn CxOK_nil)) (iv := fun _ => []) (N := 10) Try.func10 (by kernel_rfl) (by kernel_rfl) (fun ls => by unfold onG; split; exact bnd_one (bnd_I _ _); exact bnd_none) ok_refOn
theorem ok_CurveChecks (P A B N X Y : Nat) (F : Bool) (x y : Nat) (f : Bool) : Owes Try.prog cxCC [] 10 Try.f3 [sCv P A B N X Y F, sPt x y f] yes := by
  rw [vc_CurveChecks]
  intro x1 x2
  have e : x1 = true := beq_self_eq_true _
  refine ⟨id, id, id, ?_⟩
  rw [e, beq_self_eq_true]; rfl
theorem cxok_CC : CxOK Try.prog cxCC := CxOK_cons xcard_Check (CxOK_cons xcard_On (CxOK_cons card_refCF (CxOK_cons card_refOn CxOK_nil)))
end Go.Proofs.Ytjokmekclibpmaa
end
