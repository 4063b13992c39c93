/-
  Texts: P123, P124, P125, V77, P126, P127.
-/
import Derived.Test.YteimeidpcgebkaaM1
import Derived.Test.YteimeidpcgebkaaM2
import Derived.Test.YteimeidpcgebkaaM3
import Derived.Test.YteimeidpcgebkaaM4
import Derived.Test.YteimeidpcgebkaaM5
import Derived.Test.YteimeidpcgebkaaM6
import Derived.Test.YteimeidpcgebkaaM7
import Derived.Test.YteimeidpcgebkaaM8
import Derived.Test.YteimeidpcgebkaaM9
import Derived.Test.YteimeidpcgebkaaM10
import Derived.Test.YteimeidpcgebkaaM11
import Derived.Test.YteimeidpcgebkaaM12
import Derived.Test.YteimeidpcgebkaaM13
import Derived.Test.YteimeidpcgebkaaM14
import Derived.Test.YteimeidpcgebkaaM15
section
namespace Go.Proofs.Yteimeidpcgebkaa
open Go Go.Sx Go.RowKit
theorem cmpI_lt' (a b : Nat) : decide (cmpI a b < 0) = decide (a < b) := by
 unfold cmpI
 split
 ·rename_i h; rw [decide_eq_true h]; rfl
 ·rename_i h
  rw [decide_eq_false h]
  split <;> rfl
theorem cmpI_gt' (a b : Nat) : decide (cmpI a b > 0) = decide (b < a) := by
 unfold cmpI
 split
 ·rename_i h; rw [decide_eq_false (show ¬ b < a by omega)]; rfl
 ·split
  ·rename_i h; rw [decide_eq_true h]; rfl
  ·rename_i h; rw [decide_eq_false h]; rfl
theorem limb_and (P : Nat) : (IntKind.u64.wrap ((BitVec.ofInt 64 (limb P 0) &&& BitVec.ofInt 64 3).toNat : Int) == (3 : Int)) = decide (P % M256 % 4 = 3) := by
 have e : limb P 0 = ((P / 2 ^ (64 * 0) % 2 ^ 64 : Nat) : Int) := rfl
 have e2 : (P / 2 ^ (64 * 0) % 2 ^ 64 : Nat) = P % 18446744073709551616 := by rw [Nat.mul_zero, Nat.pow_zero, Nat.div_one]
 have e3 : (BitVec.ofInt 64 ((P % 18446744073709551616 : Nat) : Int) &&& BitVec.ofInt 64 3).toNat = P % 18446744073709551616 % 4 := by
  rw [BitVec.toNat_and, BitVec.toNat_ofInt, BitVec.toNat_ofInt]
  have a : (((P % 18446744073709551616 : Nat) : Int) % ((2 ^ 64 : Nat) : Int)).toNat = P % 18446744073709551616 := by omega
  have b : ((3 : Int) % ((2 ^ 64 : Nat) : Int)).toNat = 2 ^ 2 - 1 := by decide
  rw [a, b, Nat.and_two_pow_sub_one_eq_mod]
 rw [e, e2, e3]
 have hM := M256_eq
 have w : IntKind.u64.wrap ((P % 18446744073709551616 % 4 : Nat) : Int) = ((P % 18446744073709551616 % 4 : Nat) : Int) := by
  rw [IntKind.wrap_u64]; omega
 rw [w, Bool.eq_iff_iff, beq_iff_eq, decide_eq_true_iff]
 have q : P % M256 % 4 = P % 18446744073709551616 % 4 := by rw [hM]; omega
 omega
theorem vn_two {g : Nat → Int} {n : Int} (h : 0 ≤ n ∧ n < 18446744073709551616) (h0 : g 0 = n % 4294967296) (h1 : g 1 = n / 4294967296) : vn 2 g = n.toNat ∧ dgs 2 g := by
 constructor
 ·unfold vn
  simp only [vz, h0, h1]
  omega
 ·refine ⟨fun i hi => ?_⟩
  rcases (show i = 0 ∨ i = 1 by omega) with rfl | rfl
  ·rw [h0]; omega
  ·rw [h1]; omega
theorem ok_refBy (n : Int) (m : Nat) (h : 0 ≤ n ∧ n < 18446744073709551616) (hm : m % M256 ≠ 0) : OwesV Try.prog .none slRest [] 4 Try.f42 [sI .u64 n, sU m] (rbyG n m) := by
 rw [vc_refBy]
 have e1 : n.tmod 4294967296 = n % 4294967296 := by rw [Int.tmod_eq_emod_of_nonneg h.1]
 have e2 : IntKind.u64.wrap (n.tdiv 4294967296) = n / 4294967296 := by
  rw [Int.tdiv_eq_ediv_of_nonneg h.1, IntKind.wrap_u64]; omega
 intro x1
 have hM := Nat.mod_lt m M_pos
 obtain ⟨v1, v2⟩ := vn_two (g := fun i => (intsL [SK.c (SC.val (.int .u64 (n.tmod 4294967296))), SK.c (SC.val (.int .u64 (IntKind.u64.wrap (n.tdiv 4294967296))))]).getD i 0) h e1 e2
 refine ⟨Nat.le_refl _, fun _ => ⟨fun _ => trivial, v2, by decide, hm, ?_, trivial⟩⟩
 have v1' : (vn 2 fun i => (intsL [SK.c (SC.val (.int .u64 (n.tmod 4294967296))), SK.c (SC.val (.int .u64 (IntKind.u64.wrap (n.tdiv 4294967296))))]).getD i 0) = n.toNat := v1
 rw [v1']
theorem FnOKV_WU {cx : Cx} {sl : List (Nat × SSpec)} {f : Nat} {fn : Func} (hcx : CxOK Try.prog cx) (hsl : ∀ p ∈ sl, FnOKs Try.prog cx.gl p.1 p.2) (hf : Try.prog.funcs[f]? = some fn) (hb : fn.body.isSome = true) (hn : (fn.name == "runtime.NumGoroutine") = false) {c : Int → Nat → List Prop} {g : Int → Nat → SV} {N : Nat} (hg : ∀ a b, (g a b).bnd none0)
  (h : ∀ a b, Ok (c a b) → OwesV Try.prog cx sl [] N fn [sI .u64 a, sU b] (g a b)) : FnOKg Try.prog cx.gl f (specWU c g) := by
 refine FnOK_owesV hcx hsl hf hb hn fun args ps sv hs hp => ?_
 unfold specWU at hs
 split at hs
 case h_2 => cases hs
 rename_i x y
 split at hs
 case h_2 => cases hs
 rename_i n p m hx hy
 simp only [Option.some.injEq, Prod.mk.injEq] at hs
 obtain ⟨rfl, rfl⟩ := hs
 obtain ⟨o1, o2⟩ := Ok.append.1 hp
 refine ⟨[], N, [sI .u64 n, sU m], fun ρ => by simp only [List.map_cons, List.map_nil, asI_canon hx ρ, asU_canon hy o1 ρ], fun fz _ z hz => ?_, hg n m, h n m o2⟩
 simp only [List.mem_cons, List.not_mem_nil, or_false] at hz
 rcases hz with rfl | rfl
 ·exact trivial
 ·exact bnd_Un _
theorem card_refBy : FnOK Try.prog 42 (specWU rbyC rbyG) :=
 FnOKV_WU cx_none sl_rest Try.func42 (by kernel_rfl) (by kernel_rfl) (fun _ _ => bnd_Un _) fun n m h => ok_refBy n m h.1 h.2.1
theorem card_refIsZ : FnOK Try.prog 43 (specU isZG) :=
 FnOK_U CxOK_nil (iv := []) (N := 10) Try.func43 (by kernel_rfl) (by kernel_rfl) (fun _ => bnd_one (bnd_B _)) fun a => by
  show Owes _ _ _ _ _ _ (isZG a)
  rw [vc_refIsZ]
  exact conj_one _
theorem ok_refRgt (ls : List (List At)) (vs : List (Option Addr)) (hc : Ok (rrgC ls)) : Owes Try.prog cxRrg [] 10 Try.f34 (mkArgs [.str pCv, .str [.u]] ls vs) (rrgG ls) := by
 unfold rrgC at hc
 split at hc
 ·rename_i P A B N X Y F x
  show Owes Try.prog cxRrg [] 10 Try.f34 [sCv P A B N X Y F, sU x] (rrgG [[.u P, .u A, .u B, .u N, .u X, .u Y, .b F], [.u x]])
  rw [vc_refRgt]
  have h : x % M256 < P % M256 := hc.1
  have hp : 0 < P % M256 := Nat.lt_of_le_of_lt (Nat.zero_le _) h
  have lt := fun v => Nat.mod_lt v hp
  have md := mdM hp
  intro x1 x2 x3 x4 x5 x6
  have e3 : x3 % M256 = x3 := md _
  have e5 : x5 = (x3 + x4) % x1 := by show (x3 % M256 + x4) % x1 % M256 = _; rw [e3]; exact md _
  have e6 : x2 * x5 % x1 % M256 = x2 * x5 % x1 := md _
  refine ⟨by show P % M256 ≠ 0; omega, h, h, by show P % M256 ≠ 0; omega, by show P % M256 ≠ 0; omega, h, by rw [e5]; exact lt _, by show P % M256 ≠ 0; omega, ?_, trivial⟩
  rw [e6, e5]
 ·exact hc.1.elim
theorem card_refRgt : FnOK Try.prog 34 cRrg :=
 FnOK_A (CxOK_cons card_refPro (CxOK_cons card_refTot CxOK_nil)) (iv := fun _ => []) (N := 10) Try.func34 (by kernel_rfl) (by kernel_rfl) (fun ls => by unfold rrgG; split; exact bnd_one (bnd_U _); exact bnd_none) ok_refRgt
theorem ok_refIsOn (ls : List (List At)) (vs : List (Option Addr)) (hc : Ok (isOC ls)) : Owes Try.prog cxIsOn [] 10 Try.f17 (mkArgs [.str pCv, .str pPt] ls vs) (isOnG ls) := by
 unfold isOC at hc
 split at hc
 ·rename_i P A B N X Y F x y f
  show Owes Try.prog cxIsOn [] 10 Try.f17 [sCv P A B N X Y F, sPt x y f] (isOnG [[.u P, .u A, .u B, .u N, .u X, .u Y, .b F], [.u x, .u y, .b f]])
  rw [vc_refIsOn]
  intro x1 x2 x3 x4 x5 x6 x7 x8
  have e6 : x6 = decide (x1 < x4) := cmpI_lt' _ _
  have e8 : x8 = (decide (x1 < x4) && decide (x3 < x4)) := by
   show (x6 && decide (x7 < 0)) = _
   rw [e6, show decide (x7 < 0) = decide (x3 < x4) from cmpI_lt' _ _]
  have h8 : x8 = true → x1 < x4 ∧ x3 < x4 := fun h => by
   rw [e8, Bool.and_eq_true, decide_eq_true_eq, decide_eq_true_eq] at h; exact h
  refine ⟨fun h => ⟨id, id, id, ?_⟩, fun h => ⟨id, id, id, id, id, id, id, id, id, id, id, id, fun k => ?_, fun k => (h8 k).2, fun k => (h8 k).2, id, id, id, fun k => (h8 k).1, id, id, id, ?_⟩⟩
  ·subst h; rfl
  ·have := (h8 k).1; omega
  ·subst h
   rw [e8, conj_one]
   show _ = (decide (x1 < x4) && (decide (x3 < x4) && (x3 * x3 % x4 == (x1 * ((x1 * x1 % x4 + A % M256) % x4) % x4 + B % M256) % x4)))
   cases h1 : decide (x1 < x4)
   ·rfl
   ·cases h3 : decide (x3 < x4)
    ·rfl
    ·have hp : 0 < P % M256 := Nat.lt_of_le_of_lt (Nat.zero_le _) (of_decide_eq_true h1)
     have m1 : x3 * x3 % x4 % M256 = x3 * x3 % x4 := mdM hp _
     have m2 : ∀ v, v % x4 % M256 = v % x4 := mdM hp
     rw [m1, m2]
     simp
 ·exact hc.1.elim
theorem card_refIsOn : FnOK Try.prog 17 cIsOn :=
 FnOK_A (CxOK_cons card_refIsZ (CxOK_cons card_refOrd (CxOK_cons card_refPro (CxOK_cons card_refRgt CxOK_nil)))) (iv := fun _ => []) (N := 10) Try.func17 (by kernel_rfl) (by kernel_rfl) (fun ls => by unfold isOnG; split; exact bnd_one (bnd_B _); exact bnd_none) ok_refIsOn
theorem isOn_ha {P A B x y : Nat} {f : Bool} (hA : rB A P = true) : isOnB P A B x y f = haB P A B x y f := by
 unfold isOnB haB rB
 cases f with
 | true => rfl
 | false =>
  have e : (x % M256 * ((x % M256 * (x % M256) % (P % M256) + A % M256) % (P % M256)) % (P % M256) + B % M256) % (P % M256) = rhsN (P % M256) (A % M256) (B % M256) (x % M256) := by
   unfold rhsN
   generalize x % M256 = x'
   generalize A % M256 = A'
   generalize B % M256 = B'
   generalize P % M256 = P'
   simp only [Nat.add_mod_mod, Nat.mod_add_mod, Nat.mul_mod_mod, Nat.mod_mul_mod]
   rw [Nat.mul_add, Nat.mul_comm x' A']
  rw [e]
  rfl
theorem slopes_ref (A B P : Nat) : (4 % P * (A ^ 3 % P) % P + 27 % P * (B ^ 2 % P) % P) % P = slopesN P A B := by
 unfold slopesN tw3
 simp only [Nat.add_mod_mod, Nat.mod_add_mod, Nat.mul_mod_mod, Nat.mod_mul_mod]
 rw [show A ^ 3 = A * (A * A) by rw [Nat.pow_succ, Nat.pow_two, Nat.mul_assoc, Nat.mul_comm], Nat.pow_two]
 generalize A * (A * A) = a
 generalize B * B = b
 congr 1
 omega
theorem ok_refCF (ls : List (List At)) (vs : List (Option Addr)) (hc : Ok (ckC ls)) : Owes Try.prog cxRCF [] 10 Try.f16 (mkArgs [.str pCv] ls vs) (ckG ls) := by
 unfold ckC at hc
 split at hc
 ·rename_i P A B N X Y F
  show Owes Try.prog cxRCF [] 10 Try.f16 [sCv P A B N X Y F] (.one (sI .i64 (ckE P A B N X Y F)))
  rw [vc_refCF]
  intro x1 x2 x3 x4 x5 x6 x7 x8 x9 x10 x11 x12 x13 x14 x15 x16 x17
  have e3 : x3 = decide (3 < x1) := cmpI_gt' _ _
  have e4 : x4 = (decide (3 < x1) && decide (P % M256 % 4 = 3)) := by show (x3 && _) = _; rw [e3, limb_and]
  have e7 : x7 = (x4 && rB A P) := by show (x4 && decide (x6 < 0)) = _; rw [show decide (x6 < 0) = decide (x5 < x1) from cmpI_lt' _ _]; rfl
  have e10 : x10 = (x7 && rB B P) := by show (x7 && decide (x9 < 0)) = _; rw [show decide (x9 < 0) = decide (x8 < x1) from cmpI_lt' _ _]; rfl
  have e11 : decide (x11 > 0) = decide (1 < N % M256) := cmpI_gt' _ _
  rw [ckE_eq]
  refine ⟨id, id, id, id, id, id, id, id, id, id, id, id, id, id, id, id, id, id, id, id, id, id, fun h => ?_, fun h => ?_⟩
  ·have g : gdB P A B N X Y F = false := by
    rw [e11, e10, e7, e4] at h
    unfold gdB
    cases ha : decide (3 < P % M256) <;> cases hb : decide (P % M256 % 4 = 3) <;> cases hA : rB A P <;> cases hB : rB B P <;> cases hN : decide (1 < N % M256) <;> first | rfl | (rw [show decide (3 < x1) = true from ha, hb, hA, hB, hN] at h; cases h)
   rw [g]; rfl
  ·have h : (x10 && decide (x11 > 0)) = true := by simpa using h
   rw [e11, e10, e7, e4] at h
   simp only [Bool.and_eq_true] at h
   obtain ⟨⟨⟨⟨ha, hb⟩, hA⟩, hB⟩, hN⟩ := h
   have hp := rB_pos hA
   have md : ∀ v, v % x1 % M256 = v % x1 := mdM hp
   have lt := fun v => Nat.mod_lt v hp
   have n0 : x1 ≠ 0 := by show P % M256 ≠ 0; omega
   have e16 : x16 = (slopesN (P % M256) (A % M256) (B % M256) == 0) := by
    show ((x12 * x13 % x1 % M256 + x14 * x15 % x1 % M256) % x1 % M256 == 0) = _
    rw [md, md, md, show x12 = 4 % x1 from md _, show x13 = x5 ^ 3 % x1 from md _, show x14 = 27 % x1 from md _, show x15 = x8 ^ 2 % x1 from md _, slopes_ref]
   have g : gdB P A B N X Y F = (!(x17 || !isOnB P A B X Y F)) := by
    unfold gdB
    rw [show decide (3 < P % M256) = true from ha, hb, hA, hB, hN, isOn_ha hA]
    show _ = !((x16 || F) || _)
    rw [e16]
    cases (slopesN (P % M256) (A % M256) (B % M256) == 0) <;> cases F <;> cases haB P A B X Y _ <;> rfl
   rw [g]
   refine ⟨⟨by decide, by decide⟩, n0, n0, rB_iff.1 hA, n0, by rw [show x12 = 4 % x1 from md _]; exact lt _, by rw [show x13 = x5 ^ 3 % x1 from md _]; exact lt _, ⟨by decide, by decide⟩, n0, n0, rB_iff.1 hB, n0, by rw [show x14 = 27 % x1 from md _]; exact lt _, by rw [show x15 = x8 ^ 2 % x1 from md _]; exact lt _, n0, id, id, fun k => by rw [k]; rfl, id, id, id, id, fun k => by rw [k]; rfl, fun k => ?_, fun k => ?_⟩
   ·rw [k]; rfl
   ·rw [k]; rfl
 ·exact hc.1.elim
theorem card_refCF : FnOK Try.prog 16 cRCF :=
 FnOK_A (cx := cxRCF) (CxOK_cons card_refIsZ (CxOK_cons card_refOrd (CxOK_cons card_refPro (CxOK_cons card_refTot (CxOK_cons card_refBy (CxOK_cons card_refPower (CxOK_cons card_refIsOn CxOK_nil))))))) (iv := fun _ => []) (N := 10) Try.func16 (by kernel_rfl) (by kernel_rfl) (fun ls => by unfold ckG; split; exact bnd_one (bnd_I _ _); exact bnd_none) ok_refCF
theorem on_eq (P A B N X Y x y : Nat) (F f : Bool) : havT P A B x y f (ckE P A B N X Y F) = nt (gdB P A B N X Y F && isOnB P A B x y f) 0 := by
 rw [ckE_eq]
 cases g : gdB P A B N X Y F with
 | false => exact havT_16 _ _ _ _ _ _
 | true =>
  obtain ⟨_, _, hA, hB, _⟩ := gdB_A g
  show havT P A B x y f 0 = _
  rw [havT_eq hA hB, isOn_ha hA]
  rfl
theorem ck_ne (P A B N X Y : Nat) (F : Bool) : (ckE P A B N X Y F != 0) = !gdB P A B N X Y F := by
 rw [ckE_eq]; cases gdB P A B N X Y F <;> rfl
theorem ok_refOn (ls : List (List At)) (vs : List (Option Addr)) (hc : Ok (onC ls)) : Owes Try.prog cxROn [] 10 Try.f20 (mkArgs [.str pCv, .str pPt] ls vs) (onG ls) := by
 unfold onC at hc
 split at hc
 ·rename_i P A B N X Y F x y f
  show Owes Try.prog cxROn [] 10 Try.f20 [sCv P A B N X Y F, sPt x y f] (.one (sI .i64 (havT P A B x y f (ckE P A B N X Y F))))
  rw [vc_refOn]
  intro x1
  have e1 : x1 = !gdB P A B N X Y F := ck_ne _ _ _ _ _ _ _
  rw [on_eq]
  refine ⟨id, id, id, fun k => by rw [k]; rfl, fun k => ?_, fun k => ?_⟩
  ·rw [e1] at k
   revert k
   clear e1
   clear x1
   cases gdB P A B N X Y F <;> cases isOnB P A B x y f <;> intro k <;> first | rfl | (exact absurd k (by decide))
  ·rw [e1] at k
   revert k
   clear e1
   clear x1
   cases gdB P A B N X Y F <;> cases isOnB P A B x y f <;> intro k <;> first | rfl | (exact absurd k (by decide))
 ·exact hc.1.elim
theorem card_refOn : FnOK Try.prog 20 cROn :=
 FnOK_A (cx := cxROn) (CxOK_cons card_refCF (CxOK_cons card_refIsOn CxOK_nil)) (iv := fun _ => []) (N := 10) Try.func20 (by kernel_rfl) (by kernel_rfl) (fun ls => by unfold onG; split; exact bnd_one (bnd_I _ _); exact bnd_none) ok_refOn
end Go.Proofs.Yteimeidpcgebkaa
end

section
namespace Go.Proofs.Yteimeidpcgebkaa
open Go Go.Sx Go.RowKit
def opp (m b : Nat) : Nat := if b = 0 then 0 else m - b
theorem add_case {a b m : Nat} (ha : a < m) (hb : b < m) : (a + b) % m = if a + b < m then a + b else a + b - m := by
 split
 ·rename_i h; exact Nat.mod_eq_of_lt h
 ·rw [Nat.mod_eq_sub_mod (by omega), Nat.mod_eq_of_lt (by omega)]
theorem sub_case {a b m : Nat} (ha : a < m) (hb : b < m) : (a + m - b) % m = if b ≤ a then a - b else a + m - b := by
 split
 ·rw [show a + m - b = (a - b) + m by omega, Nat.add_mod_right, Nat.mod_eq_of_lt (by omega)]
 ·exact Nat.mod_eq_of_lt (by omega)
theorem opp_sub {a b m : Nat} (ha : a < m) (hb : b < m) : (a + opp m b) % m = (a + m - b) % m := by
 rw [sub_case ha hb]
 unfold opp
 split
 ·rw [Nat.add_zero, Nat.mod_eq_of_lt ha, if_pos (by omega), show b = 0 by assumption, Nat.sub_zero]
 ·rw [add_case ha (by omega)]
  split <;> split <;> omega
theorem opp_two {t x z m : Nat} (ht : t < m) (hx : x < m) (hz : z < m) : (t + opp m ((x + z) % m)) % m = ((t + m - x) % m + m - z) % m := by
 have hp : 0 < m := by omega
 rw [opp_sub ht (Nat.mod_lt _ hp), sub_case ht (Nat.mod_lt _ hp), sub_case (Nat.mod_lt _ hp) hz, sub_case ht hx, add_case hx hz]
 split <;> split <;> split <;> split <;> omega
theorem opp_le {m b : Nat} (h : b < m) : opp m b < m := by unfold opp; split <;> omega
theorem okI_gcd {b m : Nat} (h : rB b m = true) : okI b m = decide (Nat.gcd (b % M256) (m % M256) = 1) := by
 have hp := rB_pos h
 unfold okI finvE
 rw [if_neg (by omega), if_pos (rB_iff.1 h), invE_gcd]
 split
 ·rename_i g; rw [decide_eq_true g]; rfl
 ·rename_i g; rw [decide_eq_false g]; rfl
theorem hIV_of {b m : Nat} (h : rB b m = true) : hIV m b = rivX b m := by
 have e := okI_gcd h
 unfold hIV rivX
 by_cases g : Nat.gcd (b % M256) (m % M256) = 1
 ·rw [decide_eq_true g] at e
  rw [if_pos g, if_pos (by unfold okI at e; exact eq_of_beq e)]
 ·rw [decide_eq_false g] at e
  rw [if_neg g, if_neg (by unfold okI at e; exact ne_of_beq_false e)]
theorem rB_hI {b m : Nat} (h : rB b m = true) : rB (hIV m b) m = true := by
 have hp := rB_pos h
 rw [hIV_of h]
 unfold rivX
 split
 ·rename_i g
  obtain ⟨i1, _⟩ := invN_spec (rB_iff.1 h) g
  rw [rB_iff, mod_M i1]
  exact i1
 ·exact rB_zero hp
theorem hDT_eq {m a b : Nat} (ha : rB a m = true) (hb : rB b m = true) (n : Int) : hDT m a b n = nt (okI b m) n := by
 unfold hDT
 rw [nt_nt, okF_b, ha, rB_hI hb, Bool.and_self, Bool.and_true]
def slD (m x y : Nat) (f : Bool) (z w : Nat) (g : Bool) : Nat := cond (samePt x y f z w g) (hAV m y y) (hSV m z x)
theorem rB_slD {m : Nat} (hp : 0 < m % M256) (x y : Nat) (f : Bool) (z w : Nat) (g : Bool) : rB (slD m x y f z w g) m = true := by
 unfold slD
 cases samePt x y f z w g
 ·exact rB_hS hp _ _
 ·exact rB_hA hp _ _
theorem slT_eq {m A x y z w : Nat} {f g : Bool} (hA : rB A m = true) (hx : rB x m = true) (hy : rB y m = true) (hz : rB z m = true) (hw : rB w m = true) (n : Int) : slT m A x y f z w g n = nt (okI (slD m x y f z w g) m) n := by
 have hp := rB_pos hA
 unfold slT slD
 cases samePt x y f z w g
 ·show hDT _ _ _ _ = nt _ _
  rw [hDT_eq (rB_hS hp _ _) (rB_hS hp _ _)]
  simp only [nt_nt, okF_b, hx, hy, hz, hw, Bool.and_self, Bool.true_and]
  rfl
 ·show hDT _ _ _ _ = nt _ _
  rw [hDT_eq (rB_hA hp _ _) (rB_hA hp _ _)]
  simp only [h3T_eq, nt_nt, okF_b, hx, hy, hA, rB_hM hp, rB_h3 hp, Bool.and_self, Bool.true_and]
  rfl
theorem rB_slV {m : Nat} (hp : 0 < m % M256) (A x y : Nat) (f : Bool) (z w : Nat) (g : Bool) : rB (slV m A x y f z w g) m = true := by
 unfold slV
 cases samePt x y f z w g
 ·exact rB_hM hp _ _
 ·exact rB_hM hp _ _
theorem thT_eq {m s x y z : Nat} (hs : rB s m = true) (hx : rB x m = true) (hy : rB y m = true) (hz : rB z m = true) (n : Int) : thT m s x y z n = n := by
 have hp := rB_pos hs
 have hX : rB (thX m s x z) m = true := rB_hS hp _ _
 unfold thT
 simp only [nt_nt, okF_b, hs, hx, hy, hz, hX, rB_hM hp, rB_hS hp, Bool.and_self]
 rfl
def smO (m x y : Nat) (f : Bool) (z w : Nat) (g : Bool) : Bool := cond f true (cond g true (cond (x % M256 == z % M256 && hAV m y w % M256 == 0) true (okI (slD m x y f z w g) m)))
theorem smT_eq {P A x y z w : Nat} {f g : Bool} (h : rtgP P A x y f z w g) (n : Int) : smT P A x y f z w g n = nt (smO P x y f z w g) n := by
 have hA := rB_iff.2 h.A0
 have hp := rB_pos hA
 unfold smT smO
 cases f with
 | true => rfl
 | false => cases g with
  | true => rfl
  | false =>
   have hx := rB_iff.2 (h.p0 rfl).1
   have hy := rB_iff.2 (h.p0 rfl).2
   have hz := rB_iff.2 (h.q0 rfl).1
   have hw := rB_iff.2 (h.q0 rfl).2
   have hs := rB_slV hp A x y false z w false
   rw [thT_eq hs hx hy hz, thT_eq hs hx hy hz, slT_eq hA hx hy hz hw, slT_eq hA hx hy hz hw, okF_b, hy, hw]
   cases (x % M256 == z % M256) <;> cases (hAV P y w % M256 == 0) <;> rfl
theorem smB_eq {P A x y z w : Nat} {f g : Bool} (h : rtgP P A x y f z w g) : smB P A x y f z w g = smO P x y f z w g := by
 unfold smB
 rw [smT_eq h, nt_zero]
theorem sm_in {P A x y z w : Nat} {f g : Bool} (h : rtgP P A x y f z w g) : inB P (smV P A x y f z w g).1 (smV P A x y f z w g).2.1 (smV P A x y f z w g).2.2 = true := by
 have hp := rB_pos (rB_iff.2 h.A0)
 unfold smV inB
 cases f with
 | true =>
  cases g with
  | true => rfl
  | false => show (false || (rB z P && rB w P)) = true; rw [rB_iff.2 (h.q0 rfl).1, rB_iff.2 (h.q0 rfl).2]; rfl
 | false =>
  cases g with
  | true => show (false || (rB x P && rB y P)) = true; rw [rB_iff.2 (h.p0 rfl).1, rB_iff.2 (h.p0 rfl).2]; rfl
  | false =>
   have a : ∀ s, rB (thX P s x z) P = true := fun s => rB_hS hp _ _
   have b : ∀ s, rB (thY P s x y z) P = true := fun s => rB_hS hp _ _
   cases (x % M256 == z % M256) <;> cases (hAV P y w % M256 == 0) <;> simp [a, b]
theorem thX_of {m s x z : Nat} (hs : rB s m = true) (hx : rB x m = true) (hz : rB z m = true) : thX m s x z = ((s % M256 * (s % M256) % (m % M256) + m % M256 - x % M256) % (m % M256) + m % M256 - z % M256) % (m % M256) := by
 have hp := rB_pos hs
 unfold thX
 rw [hSV_of (rB_hS hp _ _) hz, hSV_of (rB_hM hp _ _) hx, hMV_of hs hs, mdM hp, mdM hp]
theorem thY_of {m s x y z : Nat} (hs : rB s m = true) (hx : rB x m = true) (hy : rB y m = true) : thY m s x y z = (s % M256 * ((x % M256 + m % M256 - thX m s x z % M256) % (m % M256)) % (m % M256) + m % M256 - y % M256) % (m % M256) := by
 have hp := rB_pos hs
 have hX : rB (thX m s x z) m = true := rB_hS hp _ _
 unfold thY
 rw [hSV_of (rB_hM hp _ _) hy, hMV_of hs (rB_hS hp _ _), hSV_of hx hX, mdM hp, mdM hp]
end Go.Proofs.Yteimeidpcgebkaa
end

section
namespace Go.Proofs.Yteimeidpcgebkaa
open Go Go.Sx Go.RowKit
theorem opp_M {m b : Nat} (hp : 0 < m % M256) (h : b < m % M256) : (if b = 0 then 0 else m % M256 - b) % M256 = opp (m % M256) b := by
 have : opp (m % M256) b < m % M256 := opp_le h
 exact mod_M this
theorem rTail {P x y z s a15 a16 a17 a18 a19 : Nat} (hs : rB s P = true) (hx : rB x P = true) (hy : rB y P = true) (hz : rB z P = true)
  (e15 : a15 = (x % M256 + z % M256) % (P % M256) % M256) (e16 : a16 = (if a15 = 0 then 0 else P % M256 - a15) % M256)
  (e17 : a17 = (s % M256 * (s % M256) % (P % M256) % M256 + a16) % (P % M256) % M256) (e18 : a18 = (x % M256 + (if a17 = 0 then 0 else P % M256 - a17) % M256) % (P % M256) % M256)
  (e19 : a19 = (if y % M256 = 0 then 0 else P % M256 - y % M256) % M256) :
  a15 < P % M256 ∧ a17 = thX P s x z % M256 ∧ a17 < P % M256 ∧ a18 < P % M256 ∧ (s % M256 * a18 % (P % M256) % M256 + a19) % (P % M256) % M256 = thY P s x y z % M256 := by
 have hp := rB_pos hs
 have md := mdM hp
 have lt := fun v => Nat.mod_lt v hp
 have lx := rB_iff.1 hx
 have ly := rB_iff.1 hy
 have lz := rB_iff.1 hz
 rw [md] at e15
 have l15 : a15 < P % M256 := by rw [e15]; exact lt _
 rw [opp_M hp l15, e15] at e16
 rw [md, e16, md] at e17
 rw [opp_two (lt _) lx lz] at e17
 have l17 : a17 < P % M256 := by rw [e17]; exact lt _
 have hX : thX P s x z = a17 := by rw [e17, thX_of hs hx hz]
 rw [opp_M hp l17, md, opp_sub lx l17] at e18
 rw [opp_M hp ly] at e19
 have l18 : a18 < P % M256 := by rw [e18]; exact lt _
 refine ⟨l15, ?_, l17, l18, ?_⟩
 ·rw [hX, mod_M l17]
 ·rw [thY_of hs hx hy, hX, mod_M l17, md, md, md, e19, opp_sub (lt _) ly, e18]
theorem tw3_ref (t P : Nat) : 3 % P * t % P = tw3 P t := by
 unfold tw3
 simp only [Nat.add_mod_mod, Nat.mod_add_mod, Nat.mul_mod_mod, Nat.mod_mul_mod]
 congr 1
 omega
theorem ok_refTg (P A B N X Y x y z w : Nat) (F f g : Bool) (h : rtgP P A x y f z w g) : Owes Try.prog cxTg [] 10 Try.f18 [sCv P A B N X Y F, sPt x y f, sPt z w g] (.tup [sPt (smR P A x y f z w g).1 (smR P A x y f z w g).2.1 (smR P A x y f z w g).2.2, sB (smB P A x y f z w g)]) := by
 rw [vc_refTg]
 have hA := rB_iff.2 h.A0
 have hp := rB_pos hA
 have md := mdM hp
 have lt := fun v => Nat.mod_lt v hp
 have eB := smB_eq h
 have eR : smR P A x y f z w g = cond (smB P A x y f z w g) (smV P A x y f z w g) (0, 0, false) := rfl
 have key : ∀ (p : Pt) (o : Bool), smR P A x y f z w g = p → smB P A x y f z w g = o → ∀ a b c d, a = p.1 % M256 → b = p.2.1 % M256 → c = p.2.2 → d = o →
   (a = (smR P A x y f z w g).1 % M256 ∧ b = (smR P A x y f z w g).2.1 % M256 ∧ c = (smR P A x y f z w g).2.2 ∧ True) ∧ d = smB P A x y f z w g := by
  intro p o e1 e2 a b c d h1 h2 h3 h4
  rw [e1, e2]
  exact ⟨⟨h1, h2, h3, trivial⟩, h4⟩
 intro x1 x2 x3 x4 x5 x6 x7 x8 x9 x10 x11 x12 x13 x14 x15 x16 x17 x18 x19 x20 x21 x22 x23 x24 x25
 refine ⟨fun hf => ?_, fun hf => ⟨fun hg => ?_, fun hg => ?_⟩⟩
 ·subst hf
  have o1 : smB P A x y true z w g = true := eB
  exact key (z, w, g) true (by rw [eR, o1]; rfl) o1 _ _ _ _ rfl rfl rfl rfl
 ·subst hf
  subst hg
  have o1 : smB P A x y false z w true = true := eB
  exact key (x, y, false) true (by rw [eR, o1]; rfl) o1 _ _ _ _ rfl rfl rfl rfl
 subst hf
 subst hg
 have hx := rB_iff.2 (h.p0 rfl).1
 have hy := rB_iff.2 (h.p0 rfl).2
 have hz := rB_iff.2 (h.q0 rfl).1
 have hw := rB_iff.2 (h.q0 rfl).2
 have n0 : x8 ≠ 0 := by show P % M256 ≠ 0; omega
 have e7 : x7 = (x % M256 == z % M256) := conj_one _
 have es : hAV P y w % M256 = (x6 + x3) % x8 % M256 := by rw [hAV_of hy hw]
 refine ⟨id, id, id, id, id, id, fun _ => n0, id, id, fun h2 => ?_, fun h2 => ?_⟩
 ·rw [e7, ← es, Bool.and_eq_true] at h2
  have o1 : smB P A x y false z w false = true := by
   rw [eB]; unfold smO; rw [h2.1, h2.2]; rfl
  have v1 : smV P A x y false z w false = (0, 0, true) := by unfold smV; rw [h2.1, h2.2]; rfl
  exact key (0, 0, true) true (by rw [eR, o1, v1]; rfl) o1 _ _ _ _ rfl rfl rfl rfl
 rw [e7, ← es] at h2
 have o1 : smB P A x y false z w false = okI (slD P x y false z w false) P := by
  rw [eB]; unfold smO; rw [h2]; rfl
 have v1 : smV P A x y false z w false = (thX P (slV P A x y false z w false) x z, thY P (slV P A x y false z w false) x y z, false) := by
  unfold smV
  cases ha : (x % M256 == z % M256)
  ·rfl
  ·rw [ha, Bool.true_and] at h2
   rw [h2]; rfl
 have hs := rB_slV hp A x y false z w false
 have hd := rB_slD hp x y false z w false
 have ls := rB_iff.1 hs
 have e19 : x19 = opp x8 x6 := opp_M hp (rB_iff.1 hy)
 have fine : okI (slD P x y false z w false) P = true → smR P A x y false z w false = (thX P (slV P A x y false z w false) x z, thY P (slV P A x y false z w false) x y z, false) := fun k => by
  rw [eR, o1, k, v1]; rfl
 have none' : okI (slD P x y false z w false) P = false → smR P A x y false z w false = (0, 0, false) := fun k => by
  rw [eR, o1, k]; rfl
 refine ⟨Nat.le_of_lt (rB_iff.1 hy), n0, Nat.le_of_lt (rB_iff.1 hx), n0, fun hsame => ?_, fun hsame => ?_⟩
 ·have hsame : samePt x y false z w false = true := hsame
  have dD : slD P x y false z w false = x11 := by unfold slD; rw [hsame]; exact hAV_of hy hy
  have dI : okI (slD P x y false z w false) P = rivB x11 P := by rw [dD, okI_gcd (dD ▸ hd)]; rfl
  have l12 : x12 < x8 := by show _ % x8 % M256 < _; rw [md]; exact lt _
  have dV : slV P A x y false z w false % M256 = x14 := by
   have e12 : hAV P (h3V P (hMV P x x)) A = x12 := by
    rw [hAV_of (rB_h3 hp _) hA, h3V_of (rB_hM hp _ _), hMV_of hx hx, md]
    show _ = (x9 * x10 % x8 % M256 + A % M256) % x8 % M256
    rw [md, md, show x9 = 3 % x8 from md _, show x10 = x5 * x5 % x8 from md _, tw3_ref]
    have : ∀ t, tw3 (P % M256) t % M256 = tw3 (P % M256) t := fun t => md _
    rw [this]
   have e13 : hIV P (hAV P y y) % M256 = x13 := by
    rw [hAV_of hy hy, hIV_of (rB_mod hp _)]
   unfold slV
   rw [hsame]
   show hMV P (hAV P (h3V P (hMV P x x)) A) (hIV P (hAV P y y)) % M256 = _
   rw [hMV_of (rB_hA hp _ _) (rB_hI (rB_hA hp _ _)), e12, e13, mod_M l12]
  have l13 : x13 < x8 := by
   have := rB_hI (m := P) (b := x11) (by rw [← dD]; exact hd)
   rw [hIV_of (by rw [← dD]; exact hd)] at this
   exact rB_iff.1 this
  have l14 : x14 < x8 := by rw [← dV]; exact ls
  obtain ⟨t1, t2, t3, t4, t5⟩ := rTail (a15 := x15) (a16 := x16) (a17 := x17) (a18 := x18) (a19 := x19) hs hx hy hz rfl rfl (by rw [dV]) rfl rfl
  refine ⟨⟨by decide, by decide⟩, n0, n0, rB_iff.1 hx, rB_iff.1 hx, n0, by rw [show x9 = 3 % x8 from md _]; exact lt _, by rw [show x10 = x5 * x5 % x8 from md _]; exact lt _, n0, n0, by rw [show x11 % M256 = x11 from md _]; exact lt _, fun k => ?_, fun k => ?_⟩
  ·rw [← dI] at k
   have k : okI (slD P x y false z w false) P = false := by simpa using k
   exact key (0, 0, false) false (none' k) (o1.trans k) _ _ _ _ rfl rfl rfl rfl
  ·rw [← dI] at k
   have k : okI (slD P x y false z w false) P = true := by simpa using k
   refine ⟨n0, l12, l13, n0, l14, l14, n0, Nat.le_of_lt t1, n0, Nat.le_of_lt t3, n0, n0, l14, t4, Nat.le_of_lt (rB_iff.1 hy), n0, ?_⟩
   rw [dV] at t5
   exact key _ true (fine k) (o1.trans k) _ _ _ _ t2 t5 rfl rfl
 ·have hsame : samePt x y false z w false = false := hsame
  have e20 : x20 = hSV P z x := by
   show (x1 + (if x5 = 0 then 0 else x8 - x5) % M256) % x8 = _
   rw [opp_M hp (rB_iff.1 hx), opp_sub (rB_iff.1 hz) (rB_iff.1 hx), hSV_of hz hx]
  have e21 : x21 = hSV P w y := by
   show (x3 + x19) % x8 % M256 = _
   rw [e19, opp_sub (rB_iff.1 hw) (rB_iff.1 hy), md, hSV_of hw hy]
  have dD : slD P x y false z w false = x20 := by unfold slD; rw [hsame, e20]; rfl
  have dI : okI (slD P x y false z w false) P = rivB x20 P := by rw [dD, okI_gcd (dD ▸ hd)]; rfl
  have l20 : x20 < x8 := lt _
  have l21 : x21 < x8 := by show _ % x8 % M256 < _; rw [md]; exact lt _
  have l22 : x22 < x8 := by
   have := rB_hI (m := P) (b := x20) (by rw [← dD]; exact hd)
   rw [hIV_of (by rw [← dD]; exact hd)] at this
   exact rB_iff.1 this
  have dV : slV P A x y false z w false % M256 = x23 := by
   unfold slV
   rw [hsame]
   show hMV P (hSV P w y) (hIV P (hSV P z x)) % M256 = _
   rw [hMV_of (rB_hS hp _ _) (rB_hI (rB_hS hp _ _)), ← e21, ← e20, hIV_of (by rw [← dD]; exact hd), mod_M l21]
  have l23 : x23 < x8 := by rw [← dV]; exact ls
  obtain ⟨t1, t2, t3, t4, t5⟩ := rTail (a15 := x15) (a16 := x16) (a17 := x24) (a18 := x25) (a19 := x19) hs hx hy hz rfl rfl (by rw [dV]) rfl rfl
  refine ⟨by rw [mod_M l20]; exact l20, fun k => ?_, fun k => ?_⟩
  ·rw [← dI] at k
   have k : okI (slD P x y false z w false) P = false := by simpa using k
   exact key (0, 0, false) false (none' k) (o1.trans k) _ _ _ _ rfl rfl rfl rfl
  ·rw [← dI] at k
   have k : okI (slD P x y false z w false) P = true := by simpa using k
   refine ⟨n0, l21, l22, n0, l23, l23, n0, Nat.le_of_lt t1, n0, Nat.le_of_lt t3, n0, n0, l23, t4, Nat.le_of_lt (rB_iff.1 hy), n0, ?_⟩
   rw [dV] at t5
   exact key _ true (fine k) (o1.trans k) _ _ _ _ t2 t5 rfl rfl
end Go.Proofs.Yteimeidpcgebkaa
end

section
namespace Go.Proofs.Yteimeidpcgebkaa
open Go Go.Sx Go.RowKit
set_option maxRecDepth 100000
def obOf (P A B N X Y : Nat) (F : Bool) (k x y : Nat) (f : Bool) (p : Pt) : List SO := [.cells 28 [.u P, .u A, .u B, .u N, .u X, .u Y, .c (.val (.bool F))] 0, .cells 24 [.u k] 0, .cells 26 [.u x, .u y, .c (.val (.bool f))] 0, .cells 26 (zeroU ++ zeroU ++ [.c (.bit false)]) 0, .cells 26 [.u p.1, .u p.2.1, .c (.val (.bool p.2.2))] 0]
def invOfO (P A B N X Y : Nat) (F : Bool) (k x y : Nat) (f : Bool) (S : Nat → Pt) (G : Nat → Prop) : Inv where
 X := Nat
 tm w := slotsAt 51 [(3, .one (.sc (.ptr 0 0))), (4, .one (.sc (.ptr 1 0))), (5, .one (.sc (.ptr 2 0))), (6, .one (.sc (.ptr 3 0))), (8, .one (.sc (.ptr 4 0))), (9, .one (sI .i64 (3 - (w : Int))))]
 ob w := obOf P A B N X Y F k x y f (S (64 * w))
 holds w := w ≤ 4 ∧ G (64 * w)
 less w := 4 - w
def invOfI (P A B N X Y : Nat) (F : Bool) (k x y : Nat) (f : Bool) (S : Nat → Pt) (G : Nat → Prop) : Inv where
 X := Nat × Nat
 tm y := slotsAt 51 [(3, .one (.sc (.ptr 0 0))), (4, .one (.sc (.ptr 1 0))), (5, .one (.sc (.ptr 2 0))), (6, .one (.sc (.ptr 3 0))), (8, .one (.sc (.ptr 4 0))), (9, .one (sI .i64 (3 - (y.1 : Int)))), (10, .one (sI .i64 (63 - (y.2 : Int))))]
 ob z := obOf P A B N X Y F k x y f (S (64 * z.1 + z.2))
 holds y := y.1 < 4 ∧ y.2 ≤ 64 ∧ G (64 * y.1 + y.2)
 less y := 64 - y.2
structure ofnP (P A x y : Nat) (f : Bool) : Prop where
 A0 : A % M256 < P % M256
 p0 : f = false → x % M256 < P % M256 ∧ y % M256 < P % M256
def ofnC : List (List At) → List Prop
 | [[.u P, .u A, .u _, .u _, .u _, .u _, .b _], [.u _], [.u x, .u y, .b f]] => [ofnP P A x y f]
 | _ => [False]
def ofnB (P A k x y : Nat) (f : Bool) : Bool := (mlS P A k (x, y, f) 0 256).2 == 0
def ofnR (P A k x y : Nat) (f : Bool) : Pt := cond (ofnB P A k x y f) (mlS P A k (x, y, f) 0 256).1 (0, 0, false)
def ofnG : List (List At) → SV
 | [[.u P, .u A, .u _, .u _, .u _, .u _, .b _], [.u k], [.u x, .u y, .b f]] => .tup [ptS (ofnR P A k x y f), sB (ofnB P A k x y f)]
 | _ => .tup []
def cOfn : FSpec := specA [.str pCv, .str [.u], .str pPt] ofnC ofnG
def shMul : List AP := [.str pCv, .str [.u], .str pPt]
def mulC : List (List At) → List Prop
 | [[.u _, .u _, .u _, .u _, .u _, .u _, .b _], [.u _], [.u _, .u _, .b _]] => []
 | _ => [False]
def muB (P A B N X Y : Nat) (F : Bool) (k x y : Nat) (f : Bool) : Bool := gdB P A B N X Y F && isOnB P A B x y f && ofnB P A k x y f
def muR (P A B N X Y : Nat) (F : Bool) (k x y : Nat) (f : Bool) : Pt := cond (muB P A B N X Y F k x y f) (mlS P A k (x, y, f) 0 256).1 (0, 0, false)
def mulG : List (List At) → SV
 | [[.u P, .u A, .u B, .u N, .u X, .u Y, .b F], [.u k], [.u x, .u y, .b f]] => .tup [ptS (muR P A B N X Y F k x y f), sI .i64 (nt (muB P A B N X Y F k x y f) 0)]
 | _ => .tup []
def cMul : FSpec := specA shMul mulC mulG
def cxOfn : Cx := [(18, cRtg)]
def cxPO : Cx := [(20, cROn), (21, cOfn)]
def cxCM : Cx := [(8, cMul), (9, cMul)]
theorem vc_refOfn (P A B N X Y k x y r1 r2 : Nat) (F f r3 o : Bool) (S : Nat → Pt) (G : Nat → Prop) :
  Owes Try.prog cxOfn [(3, .inv (invOfO P A B N X Y F k x y f S G)), (6, .invR (invOfI P A B N X Y F k x y f S G) (fun y z => z.1 = y.1))] 4 Try.f21 [sCv P A B N X Y F, sU k, sPt x y f] (.tup [sPt r1 r2 r3, sB o]) =
  (let x1 : Nat := P % M256; let x2 : Nat := A % M256; let x3 : Nat := B % M256; let x4 : Nat := N % M256; let x5 : Nat := X % M256; let x6 : Nat := Y % M256; let x7 : Nat := k % M256; let x8 : Nat := x % M256; let x9 : Nat := y % M256; let x10 : Nat := r1 % M256; let x11 : Nat := r2 % M256; (∀ (y_1 : Nat), closedB (slotsAt 51 [(3, SV.one (SA.sc (SC.ptr 0 0))), (4, SV.one (SA.sc (SC.ptr 1 0))), (5, SV.one (SA.sc (SC.ptr 2 0))), (6, SV.one (SA.sc (SC.ptr 3 0))), (8, SV.one (SA.sc (SC.ptr 4 0))), (9, SV.one (sI Go.IntKind.i64 ((3 : Int) - (↑y_1 : Int))))]) (obOf P A B N X Y F k x y f (S (64 * y_1))) = Bool.true) ∧ ∃ (y_1 : Nat), (y_1 ≤ 4 ∧ G (64 * y_1)) ∧ (3 : Int) = (3 : Int) - (↑y_1 : Int) ∧ x1 = x1 ∧ x2 = x2 ∧ x3 = x3 ∧ x4 = x4 ∧ x5 = x5 ∧ x6 = x6 ∧ F = F ∧ 0 = 0 ∧ x7 = x7 ∧ 0 = 0 ∧ x8 = x8 ∧ x9 = x9 ∧ f = f ∧ 0 = 0 ∧ 0 = 0 ∧ (0 = (S (64 * y_1)).fst % M256 ∧ 0 = (S (64 * y_1)).snd.fst % M256 ∧ Bool.true = (S (64 * y_1)).snd.snd ∧ True) ∧ 0 = 0 ∧ ∀ (y_2 : Nat), y_2 ≤ 4 ∧ G (64 * y_2) → (Decidable.decide ((3 : Int) - (↑y_2 : Int) ≥ (0 : Int)) = Bool.true → (∀ (y_3 : Nat × Nat), closedB (slotsAt 51 [(3, SV.one (SA.sc (SC.ptr 0 0))), (4, SV.one (SA.sc (SC.ptr 1 0))), (5, SV.one (SA.sc (SC.ptr 2 0))), (6, SV.one (SA.sc (SC.ptr 3 0))), (8, SV.one (SA.sc (SC.ptr 4 0))), (9, SV.one (sI Go.IntKind.i64 ((3 : Int) - (↑y_3.fst : Int)))), (10, SV.one (sI Go.IntKind.i64 ((63 : Int) - (↑y_3.snd : Int))))]) (obOf P A B N X Y F k x y f (S (64 * y_3.fst + y_3.snd))) = Bool.true) ∧ ∃ (y0 : Nat × Nat), ((y0.fst < 4 ∧ y0.snd ≤ 64 ∧ G (64 * y0.fst + y0.snd)) ∧ y0.fst = y0.fst) ∧ (3 : Int) - (↑y_2 : Int) = (3 : Int) - (↑y0.fst : Int) ∧ (63 : Int) = (63 : Int) - (↑y0.snd : Int) ∧ x1 = x1 ∧ x2 = x2 ∧ x3 = x3 ∧ x4 = x4 ∧ x5 = x5 ∧ x6 = x6 ∧ F = F ∧ 0 = 0 ∧ x7 = x7 ∧ 0 = 0 ∧ x8 = x8 ∧ x9 = x9 ∧ f = f ∧ 0 = 0 ∧ 0 = 0 ∧ (S (64 * y_2)).fst % M256 = (S (64 * y0.fst + y0.snd)).fst % M256 ∧ (S (64 * y_2)).snd.fst % M256 = (S (64 * y0.fst + y0.snd)).snd.fst % M256 ∧ (S (64 * y_2)).snd.snd = (S (64 * y0.fst + y0.snd)).snd.snd ∧ 0 = 0 ∧ ∀ (y_3 : Nat × Nat), y_3.fst < 4 ∧ y_3.snd ≤ 64 ∧ G (64 * y_3.fst + y_3.snd) → y_3.fst = y0.fst → (Decidable.decide ((63 : Int) - (↑y_3.snd : Int) ≥ (0 : Int)) = Bool.true → rtgP P A (S (64 * y_3.fst + y_3.snd)).fst (S (64 * y_3.fst + y_3.snd)).snd.fst (S (64 * y_3.fst + y_3.snd)).snd.snd (S (64 * y_3.fst + y_3.snd)).fst (S (64 * y_3.fst + y_3.snd)).snd.fst (S (64 * y_3.fst + y_3.snd)).snd.snd ∧ (smB P A (S (64 * y_3.fst + y_3.snd)).fst (S (64 * y_3.fst + y_3.snd)).snd.fst (S (64 * y_3.fst + y_3.snd)).snd.snd (S (64 * y_3.fst + y_3.snd)).fst (S (64 * y_3.fst + y_3.snd)).snd.fst (S (64 * y_3.fst + y_3.snd)).snd.snd = Bool.true → smB P A (S (64 * y_3.fst + y_3.snd)).fst (S (64 * y_3.fst + y_3.snd)).snd.fst (S (64 * y_3.fst + y_3.snd)).snd.snd (S (64 * y_3.fst + y_3.snd)).fst (S (64 * y_3.fst + y_3.snd)).snd.fst (S (64 * y_3.fst + y_3.snd)).snd.snd = Bool.true) ∧ (smB P A (S (64 * y_3.fst + y_3.snd)).fst (S (64 * y_3.fst + y_3.snd)).snd.fst (S (64 * y_3.fst + y_3.snd)).snd.snd (S (64 * y_3.fst + y_3.snd)).fst (S (64 * y_3.fst + y_3.snd)).snd.fst (S (64 * y_3.fst + y_3.snd)).snd.snd = Bool.true → (0 : Int) ≤ (3 : Int) - (↑y_3.fst : Int) ∧ (3 : Int) - (↑y_3.fst : Int) < (4 : Int)) ∧ (smB P A (S (64 * y_3.fst + y_3.snd)).fst (S (64 * y_3.fst + y_3.snd)).snd.fst (S (64 * y_3.fst + y_3.snd)).snd.snd (S (64 * y_3.fst + y_3.snd)).fst (S (64 * y_3.fst + y_3.snd)).snd.fst (S (64 * y_3.fst + y_3.snd)).snd.snd = Bool.true → smB P A (S (64 * y_3.fst + y_3.snd)).fst (S (64 * y_3.fst + y_3.snd)).snd.fst (S (64 * y_3.fst + y_3.snd)).snd.snd (S (64 * y_3.fst + y_3.snd)).fst (S (64 * y_3.fst + y_3.snd)).snd.fst (S (64 * y_3.fst + y_3.snd)).snd.snd = Bool.true) ∧ (smB P A (S (64 * y_3.fst + y_3.snd)).fst (S (64 * y_3.fst + y_3.snd)).snd.fst (S (64 * y_3.fst + y_3.snd)).snd.snd (S (64 * y_3.fst + y_3.snd)).fst (S (64 * y_3.fst + y_3.snd)).snd.fst (S (64 * y_3.fst + y_3.snd)).snd.snd = Bool.true → (0 : Int) ≤ (3 : Int) - (↑y_3.fst : Int) ∧ (3 : Int) - (↑y_3.fst : Int) < (4 : Int)) ∧ (smB P A (S (64 * y_3.fst + y_3.snd)).fst (S (64 * y_3.fst + y_3.snd)).snd.fst (S (64 * y_3.fst + y_3.snd)).snd.snd (S (64 * y_3.fst + y_3.snd)).fst (S (64 * y_3.fst + y_3.snd)).snd.fst (S (64 * y_3.fst + y_3.snd)).snd.snd = Bool.true → smB P A (S (64 * y_3.fst + y_3.snd)).fst (S (64 * y_3.fst + y_3.snd)).snd.fst (S (64 * y_3.fst + y_3.snd)).snd.snd (S (64 * y_3.fst + y_3.snd)).fst (S (64 * y_3.fst + y_3.snd)).snd.fst (S (64 * y_3.fst + y_3.snd)).snd.snd = Bool.true) ∧ (smB P A (S (64 * y_3.fst + y_3.snd)).fst (S (64 * y_3.fst + y_3.snd)).snd.fst (S (64 * y_3.fst + y_3.snd)).snd.snd (S (64 * y_3.fst + y_3.snd)).fst (S (64 * y_3.fst + y_3.snd)).snd.fst (S (64 * y_3.fst + y_3.snd)).snd.snd = Bool.true → (0 : Int) ≤ (63 : Int) - (↑y_3.snd : Int)) ∧ (smB P A (S (64 * y_3.fst + y_3.snd)).fst (S (64 * y_3.fst + y_3.snd)).snd.fst (S (64 * y_3.fst + y_3.snd)).snd.snd (S (64 * y_3.fst + y_3.snd)).fst (S (64 * y_3.fst + y_3.snd)).snd.fst (S (64 * y_3.fst + y_3.snd)).snd.snd = Bool.true → smB P A (S (64 * y_3.fst + y_3.snd)).fst (S (64 * y_3.fst + y_3.snd)).snd.fst (S (64 * y_3.fst + y_3.snd)).snd.snd (S (64 * y_3.fst + y_3.snd)).fst (S (64 * y_3.fst + y_3.snd)).snd.fst (S (64 * y_3.fst + y_3.snd)).snd.snd = Bool.true) ∧ (smB P A (S (64 * y_3.fst + y_3.snd)).fst (S (64 * y_3.fst + y_3.snd)).snd.fst (S (64 * y_3.fst + y_3.snd)).snd.snd (S (64 * y_3.fst + y_3.snd)).fst (S (64 * y_3.fst + y_3.snd)).snd.fst (S (64 * y_3.fst + y_3.snd)).snd.snd = Bool.true → smB P A (S (64 * y_3.fst + y_3.snd)).fst (S (64 * y_3.fst + y_3.snd)).snd.fst (S (64 * y_3.fst + y_3.snd)).snd.snd (S (64 * y_3.fst + y_3.snd)).fst (S (64 * y_3.fst + y_3.snd)).snd.fst (S (64 * y_3.fst + y_3.snd)).snd.snd = Bool.true) ∧ (smB P A (S (64 * y_3.fst + y_3.snd)).fst (S (64 * y_3.fst + y_3.snd)).snd.fst (S (64 * y_3.fst + y_3.snd)).snd.snd (S (64 * y_3.fst + y_3.snd)).fst (S (64 * y_3.fst + y_3.snd)).snd.fst (S (64 * y_3.fst + y_3.snd)).snd.snd = Bool.true → smB P A (S (64 * y_3.fst + y_3.snd)).fst (S (64 * y_3.fst + y_3.snd)).snd.fst (S (64 * y_3.fst + y_3.snd)).snd.snd (S (64 * y_3.fst + y_3.snd)).fst (S (64 * y_3.fst + y_3.snd)).snd.fst (S (64 * y_3.fst + y_3.snd)).snd.snd = Bool.true) ∧ (smB P A (S (64 * y_3.fst + y_3.snd)).fst (S (64 * y_3.fst + y_3.snd)).snd.fst (S (64 * y_3.fst + y_3.snd)).snd.snd (S (64 * y_3.fst + y_3.snd)).fst (S (64 * y_3.fst + y_3.snd)).snd.fst (S (64 * y_3.fst + y_3.snd)).snd.snd = Bool.true → smB P A (S (64 * y_3.fst + y_3.snd)).fst (S (64 * y_3.fst + y_3.snd)).snd.fst (S (64 * y_3.fst + y_3.snd)).snd.snd (S (64 * y_3.fst + y_3.snd)).fst (S (64 * y_3.fst + y_3.snd)).snd.fst (S (64 * y_3.fst + y_3.snd)).snd.snd = Bool.true) ∧ ((smB P A (S (64 * y_3.fst + y_3.snd)).fst (S (64 * y_3.fst + y_3.snd)).snd.fst (S (64 * y_3.fst + y_3.snd)).snd.snd (S (64 * y_3.fst + y_3.snd)).fst (S (64 * y_3.fst + y_3.snd)).snd.fst (S (64 * y_3.fst + y_3.snd)).snd.snd && Go.IntKind.u64.wrap (↑(BitVec.ofInt 64 (limb k ((3 : Int) - (↑y_3.fst : Int)).toNat) &&& BitVec.ofInt 64 (Go.IntKind.u64.wrap ((1 : Int) * (2 : Int) ^ Min.min ((63 : Int) - (↑y_3.snd : Int)).toNat 64))).toNat : Int) != (0 : Int)) = Bool.true → rtgP P A (smR P A (S (64 * y_3.fst + y_3.snd)).fst (S (64 * y_3.fst + y_3.snd)).snd.fst (S (64 * y_3.fst + y_3.snd)).snd.snd (S (64 * y_3.fst + y_3.snd)).fst (S (64 * y_3.fst + y_3.snd)).snd.fst (S (64 * y_3.fst + y_3.snd)).snd.snd).fst (smR P A (S (64 * y_3.fst + y_3.snd)).fst (S (64 * y_3.fst + y_3.snd)).snd.fst (S (64 * y_3.fst + y_3.snd)).snd.snd (S (64 * y_3.fst + y_3.snd)).fst (S (64 * y_3.fst + y_3.snd)).snd.fst (S (64 * y_3.fst + y_3.snd)).snd.snd).snd.fst (smR P A (S (64 * y_3.fst + y_3.snd)).fst (S (64 * y_3.fst + y_3.snd)).snd.fst (S (64 * y_3.fst + y_3.snd)).snd.snd (S (64 * y_3.fst + y_3.snd)).fst (S (64 * y_3.fst + y_3.snd)).snd.fst (S (64 * y_3.fst + y_3.snd)).snd.snd).snd.snd x y f ∧ ((!smB P A (smR P A (S (64 * y_3.fst + y_3.snd)).fst (S (64 * y_3.fst + y_3.snd)).snd.fst (S (64 * y_3.fst + y_3.snd)).snd.snd (S (64 * y_3.fst + y_3.snd)).fst (S (64 * y_3.fst + y_3.snd)).snd.fst (S (64 * y_3.fst + y_3.snd)).snd.snd).fst (smR P A (S (64 * y_3.fst + y_3.snd)).fst (S (64 * y_3.fst + y_3.snd)).snd.fst (S (64 * y_3.fst + y_3.snd)).snd.snd (S (64 * y_3.fst + y_3.snd)).fst (S (64 * y_3.fst + y_3.snd)).snd.fst (S (64 * y_3.fst + y_3.snd)).snd.snd).snd.fst (smR P A (S (64 * y_3.fst + y_3.snd)).fst (S (64 * y_3.fst + y_3.snd)).snd.fst (S (64 * y_3.fst + y_3.snd)).snd.snd (S (64 * y_3.fst + y_3.snd)).fst (S (64 * y_3.fst + y_3.snd)).snd.fst (S (64 * y_3.fst + y_3.snd)).snd.snd).snd.snd x y f) = Bool.true → (0 = x10 ∧ 0 = x11 ∧ Bool.false = r3 ∧ True) ∧ Bool.false = o) ∧ ((!smB P A (smR P A (S (64 * y_3.fst + y_3.snd)).fst (S (64 * y_3.fst + y_3.snd)).snd.fst (S (64 * y_3.fst + y_3.snd)).snd.snd (S (64 * y_3.fst + y_3.snd)).fst (S (64 * y_3.fst + y_3.snd)).snd.fst (S (64 * y_3.fst + y_3.snd)).snd.snd).fst (smR P A (S (64 * y_3.fst + y_3.snd)).fst (S (64 * y_3.fst + y_3.snd)).snd.fst (S (64 * y_3.fst + y_3.snd)).snd.snd (S (64 * y_3.fst + y_3.snd)).fst (S (64 * y_3.fst + y_3.snd)).snd.fst (S (64 * y_3.fst + y_3.snd)).snd.snd).snd.fst (smR P A (S (64 * y_3.fst + y_3.snd)).fst (S (64 * y_3.fst + y_3.snd)).snd.fst (S (64 * y_3.fst + y_3.snd)).snd.snd (S (64 * y_3.fst + y_3.snd)).fst (S (64 * y_3.fst + y_3.snd)).snd.fst (S (64 * y_3.fst + y_3.snd)).snd.snd).snd.snd x y f) = Bool.false → ∃ (y' : Nat × Nat), ((y'.fst < 4 ∧ y'.snd ≤ 64 ∧ G (64 * y'.fst + y'.snd)) ∧ y'.fst = y0.fst) ∧ (3 : Int) - (↑y_3.fst : Int) = (3 : Int) - (↑y'.fst : Int) ∧ Go.IntKind.i64.wrap ((63 : Int) - (↑y_3.snd : Int) - (1 : Int)) = (63 : Int) - (↑y'.snd : Int) ∧ x1 = x1 ∧ x2 = x2 ∧ x3 = x3 ∧ x4 = x4 ∧ x5 = x5 ∧ x6 = x6 ∧ F = F ∧ 0 = 0 ∧ x7 = x7 ∧ 0 = 0 ∧ x8 = x8 ∧ x9 = x9 ∧ f = f ∧ 0 = 0 ∧ 0 = 0 ∧ (smR P A (smR P A (S (64 * y_3.fst + y_3.snd)).fst (S (64 * y_3.fst + y_3.snd)).snd.fst (S (64 * y_3.fst + y_3.snd)).snd.snd (S (64 * y_3.fst + y_3.snd)).fst (S (64 * y_3.fst + y_3.snd)).snd.fst (S (64 * y_3.fst + y_3.snd)).snd.snd).fst (smR P A (S (64 * y_3.fst + y_3.snd)).fst (S (64 * y_3.fst + y_3.snd)).snd.fst (S (64 * y_3.fst + y_3.snd)).snd.snd (S (64 * y_3.fst + y_3.snd)).fst (S (64 * y_3.fst + y_3.snd)).snd.fst (S (64 * y_3.fst + y_3.snd)).snd.snd).snd.fst (smR P A (S (64 * y_3.fst + y_3.snd)).fst (S (64 * y_3.fst + y_3.snd)).snd.fst (S (64 * y_3.fst + y_3.snd)).snd.snd (S (64 * y_3.fst + y_3.snd)).fst (S (64 * y_3.fst + y_3.snd)).snd.fst (S (64 * y_3.fst + y_3.snd)).snd.snd).snd.snd x y f).fst % M256 = (S (64 * y'.fst + y'.snd)).fst % M256 ∧ (smR P A (smR P A (S (64 * y_3.fst + y_3.snd)).fst (S (64 * y_3.fst + y_3.snd)).snd.fst (S (64 * y_3.fst + y_3.snd)).snd.snd (S (64 * y_3.fst + y_3.snd)).fst (S (64 * y_3.fst + y_3.snd)).snd.fst (S (64 * y_3.fst + y_3.snd)).snd.snd).fst (smR P A (S (64 * y_3.fst + y_3.snd)).fst (S (64 * y_3.fst + y_3.snd)).snd.fst (S (64 * y_3.fst + y_3.snd)).snd.snd (S (64 * y_3.fst + y_3.snd)).fst (S (64 * y_3.fst + y_3.snd)).snd.fst (S (64 * y_3.fst + y_3.snd)).snd.snd).snd.fst (smR P A (S (64 * y_3.fst + y_3.snd)).fst (S (64 * y_3.fst + y_3.snd)).snd.fst (S (64 * y_3.fst + y_3.snd)).snd.snd (S (64 * y_3.fst + y_3.snd)).fst (S (64 * y_3.fst + y_3.snd)).snd.fst (S (64 * y_3.fst + y_3.snd)).snd.snd).snd.snd x y f).snd.fst % M256 = (S (64 * y'.fst + y'.snd)).snd.fst % M256 ∧ (smR P A (smR P A (S (64 * y_3.fst + y_3.snd)).fst (S (64 * y_3.fst + y_3.snd)).snd.fst (S (64 * y_3.fst + y_3.snd)).snd.snd (S (64 * y_3.fst + y_3.snd)).fst (S (64 * y_3.fst + y_3.snd)).snd.fst (S (64 * y_3.fst + y_3.snd)).snd.snd).fst (smR P A (S (64 * y_3.fst + y_3.snd)).fst (S (64 * y_3.fst + y_3.snd)).snd.fst (S (64 * y_3.fst + y_3.snd)).snd.snd (S (64 * y_3.fst + y_3.snd)).fst (S (64 * y_3.fst + y_3.snd)).snd.fst (S (64 * y_3.fst + y_3.snd)).snd.snd).snd.fst (smR P A (S (64 * y_3.fst + y_3.snd)).fst (S (64 * y_3.fst + y_3.snd)).snd.fst (S (64 * y_3.fst + y_3.snd)).snd.snd (S (64 * y_3.fst + y_3.snd)).fst (S (64 * y_3.fst + y_3.snd)).snd.fst (S (64 * y_3.fst + y_3.snd)).snd.snd).snd.snd x y f).snd.snd = (S (64 * y'.fst + y'.snd)).snd.snd ∧ 0 = 0 ∧ 64 - y'.snd < 64 - y_3.snd)) ∧ ((smB P A (S (64 * y_3.fst + y_3.snd)).fst (S (64 * y_3.fst + y_3.snd)).snd.fst (S (64 * y_3.fst + y_3.snd)).snd.snd (S (64 * y_3.fst + y_3.snd)).fst (S (64 * y_3.fst + y_3.snd)).snd.fst (S (64 * y_3.fst + y_3.snd)).snd.snd && Go.IntKind.u64.wrap (↑(BitVec.ofInt 64 (limb k ((3 : Int) - (↑y_3.fst : Int)).toNat) &&& BitVec.ofInt 64 (Go.IntKind.u64.wrap ((1 : Int) * (2 : Int) ^ Min.min ((63 : Int) - (↑y_3.snd : Int)).toNat 64))).toNat : Int) != (0 : Int)) = Bool.false → ((!smB P A (S (64 * y_3.fst + y_3.snd)).fst (S (64 * y_3.fst + y_3.snd)).snd.fst (S (64 * y_3.fst + y_3.snd)).snd.snd (S (64 * y_3.fst + y_3.snd)).fst (S (64 * y_3.fst + y_3.snd)).snd.fst (S (64 * y_3.fst + y_3.snd)).snd.snd) = Bool.true → (0 = x10 ∧ 0 = x11 ∧ Bool.false = r3 ∧ True) ∧ Bool.false = o) ∧ ((!smB P A (S (64 * y_3.fst + y_3.snd)).fst (S (64 * y_3.fst + y_3.snd)).snd.fst (S (64 * y_3.fst + y_3.snd)).snd.snd (S (64 * y_3.fst + y_3.snd)).fst (S (64 * y_3.fst + y_3.snd)).snd.fst (S (64 * y_3.fst + y_3.snd)).snd.snd) = Bool.false → ∃ (y' : Nat × Nat), ((y'.fst < 4 ∧ y'.snd ≤ 64 ∧ G (64 * y'.fst + y'.snd)) ∧ y'.fst = y0.fst) ∧ (3 : Int) - (↑y_3.fst : Int) = (3 : Int) - (↑y'.fst : Int) ∧ Go.IntKind.i64.wrap ((63 : Int) - (↑y_3.snd : Int) - (1 : Int)) = (63 : Int) - (↑y'.snd : Int) ∧ x1 = x1 ∧ x2 = x2 ∧ x3 = x3 ∧ x4 = x4 ∧ x5 = x5 ∧ x6 = x6 ∧ F = F ∧ 0 = 0 ∧ x7 = x7 ∧ 0 = 0 ∧ x8 = x8 ∧ x9 = x9 ∧ f = f ∧ 0 = 0 ∧ 0 = 0 ∧ (smR P A (S (64 * y_3.fst + y_3.snd)).fst (S (64 * y_3.fst + y_3.snd)).snd.fst (S (64 * y_3.fst + y_3.snd)).snd.snd (S (64 * y_3.fst + y_3.snd)).fst (S (64 * y_3.fst + y_3.snd)).snd.fst (S (64 * y_3.fst + y_3.snd)).snd.snd).fst % M256 = (S (64 * y'.fst + y'.snd)).fst % M256 ∧ (smR P A (S (64 * y_3.fst + y_3.snd)).fst (S (64 * y_3.fst + y_3.snd)).snd.fst (S (64 * y_3.fst + y_3.snd)).snd.snd (S (64 * y_3.fst + y_3.snd)).fst (S (64 * y_3.fst + y_3.snd)).snd.fst (S (64 * y_3.fst + y_3.snd)).snd.snd).snd.fst % M256 = (S (64 * y'.fst + y'.snd)).snd.fst % M256 ∧ (smR P A (S (64 * y_3.fst + y_3.snd)).fst (S (64 * y_3.fst + y_3.snd)).snd.fst (S (64 * y_3.fst + y_3.snd)).snd.snd (S (64 * y_3.fst + y_3.snd)).fst (S (64 * y_3.fst + y_3.snd)).snd.fst (S (64 * y_3.fst + y_3.snd)).snd.snd).snd.snd = (S (64 * y'.fst + y'.snd)).snd.snd ∧ 0 = 0 ∧ 64 - y'.snd < 64 - y_3.snd))) ∧ (Decidable.decide ((63 : Int) - (↑y_3.snd : Int) ≥ (0 : Int)) = Bool.false → ∃ (y' : Nat), (y' ≤ 4 ∧ G (64 * y')) ∧ Go.IntKind.i64.wrap ((3 : Int) - (↑y_3.fst : Int) - (1 : Int)) = (3 : Int) - (↑y' : Int) ∧ x1 = x1 ∧ x2 = x2 ∧ x3 = x3 ∧ x4 = x4 ∧ x5 = x5 ∧ x6 = x6 ∧ F = F ∧ 0 = 0 ∧ x7 = x7 ∧ 0 = 0 ∧ x8 = x8 ∧ x9 = x9 ∧ f = f ∧ 0 = 0 ∧ 0 = 0 ∧ (S (64 * y_3.fst + y_3.snd)).fst % M256 = (S (64 * y')).fst % M256 ∧ (S (64 * y_3.fst + y_3.snd)).snd.fst % M256 = (S (64 * y')).snd.fst % M256 ∧ (S (64 * y_3.fst + y_3.snd)).snd.snd = (S (64 * y')).snd.snd ∧ 0 = 0 ∧ 4 - y' < 4 - y_2)) ∧ (Decidable.decide ((3 : Int) - (↑y_2 : Int) ≥ (0 : Int)) = Bool.false → ((S (64 * y_2)).fst % M256 = x10 ∧ (S (64 * y_2)).snd.fst % M256 = x11 ∧ (S (64 * y_2)).snd.snd = r3 ∧ True) ∧ Bool.true = o)) := by kernel_rfl
theorem vc_refPO (P A B N X Y k x y r1 r2 : Nat) (F f r3 : Bool) (e : Int) :
  Owes Try.prog cxPO [] 4 Try.f9 [sCv P A B N X Y F, sU k, sPt x y f] (.tup [sPt r1 r2 r3, sI .i64 e]) =
  (let x1 : Nat := r1 % M256; let x2 : Nat := r2 % M256; ((havT P A B x y f (ckE P A B N X Y F) != (0 : Int)) = Bool.true → (0 = x1 ∧ 0 = x2 ∧ Bool.false = r3 ∧ True) ∧ (16 : Int) = e) ∧ ((havT P A B x y f (ckE P A B N X Y F) != (0 : Int)) = Bool.false → ofnP P A x y f ∧ ((!ofnB P A k x y f) = Bool.true → (0 = x1 ∧ 0 = x2 ∧ Bool.false = r3 ∧ True) ∧ (16 : Int) = e) ∧ ((!ofnB P A k x y f) = Bool.false → ((ofnR P A k x y f).fst % M256 = x1 ∧ (ofnR P A k x y f).snd.fst % M256 = x2 ∧ (ofnR P A k x y f).snd.snd = r3 ∧ True) ∧ (0 : Int) = e))) := by kernel_rfl
theorem vc_CurveMults (P A B N X Y k x y : Nat) (F f : Bool) :
  Owes Try.prog cxCM [] 10 Try.f4 [sCv P A B N X Y F, sU k, sPt x y f] yes =
  (let x1 : Nat := (muR P A B N X Y F k x y f).fst % M256; let x2 : Nat := (muR P A B N X Y F k x y f).snd.fst % M256; let x3 : Bool := (muR P A B N X Y F k x y f).snd.snd; let x4 : Bool := conj [x1 == x1, x2 == x2, x3 == x3]; let x5 : Int := nt (muB P A B N X Y F k x y f) (0 : Int); (x4 = Bool.true → x4 = Bool.true) ∧ (x4 = Bool.true → x4 = Bool.true) ∧ (x4 = Bool.true → x4 = Bool.true) ∧ (x4 && x5 == x5) = Bool.true) := by kernel_rfl
end Go.Proofs.Yteimeidpcgebkaa
end

section
namespace Go.Proofs.Yteimeidpcgebkaa
open Go Go.Sx Go.RowKit
def Sta (h : Int → Int) : Prop := (∀ n, h n = n) ∨ ∀ n, h n = 16
theorem Sta.nt (b : Bool) : Sta (nt b) := by
 cases b
 ·exact .inr fun _ => rfl
 ·exact .inl fun _ => rfl
theorem Sta.id : Sta fun n => n := .inl fun _ => rfl
theorem Sta.comp {h g : Int → Int} (hh : Sta h) (hg : Sta g) : Sta fun n => h (g n) := by
 rcases hh with a | a
 ·rcases hg with b | b
  ·exact .inl fun n => by show h (g n) = n; rw [a, b]
  ·exact .inr fun n => by show h (g n) = 16; rw [a, b]
 ·exact .inr fun n => a _
theorem Sta.cond {h g : Int → Int} (b : Bool) (hh : Sta h) (hg : Sta g) : Sta fun n => cond b (h n) (g n) := by
 cases b
 ·exact hg
 ·exact hh
theorem sta_h3 (m a : Nat) : Sta (h3T m a) := (Sta.nt _).comp (Sta.nt _)
theorem sta_hD (m a b : Nat) : Sta (hDT m a b) := (Sta.nt _).comp (Sta.nt _)
theorem sta_sl (m A x y : Nat) (f : Bool) (z w : Nat) (g : Bool) : Sta (slT m A x y f z w g) :=
 Sta.cond (samePt x y f z w g) (g := fun n => hDT m (hSV m w y) (hSV m z x) (nt (okF z x m) (nt (okF w y m) n))) ((sta_hD _ _ _).comp ((Sta.nt _).comp ((Sta.nt _).comp ((sta_h3 _ _).comp (Sta.nt _))))) ((sta_hD _ _ _).comp ((Sta.nt _).comp (Sta.nt _)))
theorem sta_th (m s x y z : Nat) : Sta (thT m s x y z) := (Sta.nt _).comp ((Sta.nt _).comp ((Sta.nt _).comp ((Sta.nt _).comp ((Sta.nt _).comp (Sta.nt _)))))
theorem sta_sm (m A x y : Nat) (f : Bool) (z w : Nat) (g : Bool) : Sta (smT m A x y f z w g) :=
 Sta.cond f (h := fun n => n) Sta.id (Sta.cond g (h := fun n => n) Sta.id (Sta.cond _ (Sta.cond _ (Sta.nt _) ((sta_th _ _ _ _ _).comp ((sta_sl _ _ _ _ _ _ _ _).comp (Sta.nt _)))) ((sta_th _ _ _ _ _).comp (sta_sl _ _ _ _ _ _ _ _))))
theorem Sta.sixteen {h : Int → Int} (a : Sta h) : h 16 = 16 := by rcases a with a | a <;> exact a _
theorem Sta.nought {h : Int → Int} (a : Sta h) : h 0 = 0 ∨ h 0 = 16 := by
 rcases a with a | a
 ·exact .inl (a _)
 ·exact .inr (a _)
section
variable {P A k : Nat} {p : Pt}
abbrev mS (P A k : Nat) (p : Pt) (n : Nat) : Pt := (mlS P A k p 0 n).1
abbrev mT (P A k : Nat) (p : Pt) (n : Nat) : Int := (mlS P A k p 0 n).2
def dbl (P A : Nat) (s : Pt) : Pt := smV P A s.1 s.2.1 s.2.2 s.1 s.2.1 s.2.2
theorem mS_one {n : Nat} (h : (k % M256).testBit (255 - n) = true) : mS P A k p (n + 1) = smV P A (dbl P A (mS P A k p n)).1 (dbl P A (mS P A k p n)).2.1 (dbl P A (mS P A k p n)).2.2 p.1 p.2.1 p.2.2 := by
 show (mlS P A k p 0 (n + 1)).1 = _
 rw [mlS, h]; rfl
theorem mS_zero {n : Nat} (h : (k % M256).testBit (255 - n) = false) : mS P A k p (n + 1) = dbl P A (mS P A k p n) := by
 show (mlS P A k p 0 (n + 1)).1 = _
 rw [mlS, h]; rfl
theorem mT_one {n : Nat} (h : (k % M256).testBit (255 - n) = true) : mT P A k p (n + 1) = smT P A (dbl P A (mS P A k p n)).1 (dbl P A (mS P A k p n)).2.1 (dbl P A (mS P A k p n)).2.2 p.1 p.2.1 p.2.2 (smT P A (mS P A k p n).1 (mS P A k p n).2.1 (mS P A k p n).2.2 (mS P A k p n).1 (mS P A k p n).2.1 (mS P A k p n).2.2 (mT P A k p n)) := by
 show (mlS P A k p 0 (n + 1)).2 = _
 rw [mlS, h]; rfl
theorem mT_zero {n : Nat} (h : (k % M256).testBit (255 - n) = false) : mT P A k p (n + 1) = smT P A (mS P A k p n).1 (mS P A k p n).2.1 (mS P A k p n).2.2 (mS P A k p n).1 (mS P A k p n).2.1 (mS P A k p n).2.2 (mT P A k p n) := by
 show (mlS P A k p 0 (n + 1)).2 = _
 rw [mlS, h]; rfl
theorem mT_vals : ∀ n, mT P A k p n = 0 ∨ mT P A k p n = 16
 | 0 => .inl rfl
 | n + 1 => by
  have a := (sta_sm P A (mS P A k p n).1 (mS P A k p n).2.1 (mS P A k p n).2.2 (mS P A k p n).1 (mS P A k p n).2.1 (mS P A k p n).2.2)
  have b := (sta_sm P A (dbl P A (mS P A k p n)).1 (dbl P A (mS P A k p n)).2.1 (dbl P A (mS P A k p n)).2.2 p.1 p.2.1 p.2.2)
  have c : ∀ {h : Int → Int}, Sta h → ∀ x, x = 0 ∨ x = 16 → h x = 0 ∨ h x = 16 := by
   rintro h s x (rfl | rfl)
   ·exact s.nought
   ·exact .inr s.sixteen
  cases hb : (k % M256).testBit (255 - n) with
  | true => rw [mT_one hb]; exact c b _ (c a _ (mT_vals n))
  | false => rw [mT_zero hb]; exact c a _ (mT_vals n)
theorem mT_stay {n : Nat} (h : mT P A k p n = 16) : ∀ j, mT P A k p (n + j) = 16
 | 0 => h
 | j + 1 => by
  have ih := mT_stay h j
  rw [← Nat.add_assoc]
  cases hb : (k % M256).testBit (255 - (n + j)) with
  | true => rw [mT_one hb, ih, (sta_sm _ _ _ _ _ _ _ _).sixteen, (sta_sm _ _ _ _ _ _ _ _).sixteen]
  | false => rw [mT_zero hb, ih, (sta_sm _ _ _ _ _ _ _ _).sixteen]
theorem mT_end {n : Nat} (hn : n ≤ 256) (h : mT P A k p n ≠ 0) : mT P A k p 256 = 16 := by
 have := (mT_vals (P := P) (A := A) (k := k) (p := p) n).resolve_left h
 have e := mT_stay this (256 - n)
 rwa [show n + (256 - n) = 256 by omega] at e
theorem rtg_of {A x y z w : Nat} {f g : Bool} (hA : rB A P = true) (h1 : inB P x y f = true) (h2 : inB P z w g = true) : rtgP P A x y f z w g := by
 refine ⟨rB_iff.1 hA, fun h => ?_, fun h => ?_⟩
 ·subst h
  have := Bool.and_eq_true _ _ ▸ (show (rB x P && rB y P) = true from h1)
  exact ⟨rB_iff.1 this.1, rB_iff.1 this.2⟩
 ·subst h
  have := Bool.and_eq_true _ _ ▸ (show (rB z P && rB w P) = true from h2)
  exact ⟨rB_iff.1 this.1, rB_iff.1 this.2⟩
theorem mS_in (hA : rB A P = true) (hp : inB P p.1 p.2.1 p.2.2 = true) : ∀ n, inB P (mS P A k p n).1 (mS P A k p n).2.1 (mS P A k p n).2.2 = true
 | 0 => rfl
 | n + 1 => by
  have ih := mS_in hA hp n
  have d := sm_in (rtg_of hA ih ih)
  cases hb : (k % M256).testBit (255 - n) with
  | true => rw [mS_one hb]; exact sm_in (rtg_of hA d hp)
  | false => rw [mS_zero hb]; exact d
end
theorem mlS_fst (P A k : Nat) (p : Pt) (n0 : Int) : ∀ n, (mlS P A k p n0 n).1 = mS P A k p n
 | 0 => rfl
 | n + 1 => by
  have ih := mlS_fst P A k p n0 n
  show (mlS P A k p n0 (n + 1)).1 = (mlS P A k p 0 (n + 1)).1
  rw [mlS, mlS]
  have e : (mlS P A k p 0 n).1 = (mlS P A k p n0 n).1 := ih.symm
  rw [e]
  cases (k % M256).testBit (255 - n) <;> rfl
theorem mlS_16 (P A k : Nat) (p : Pt) : ∀ n, (mlS P A k p 16 n).2 = 16
 | 0 => rfl
 | n + 1 => by
  have ih := mlS_16 P A k p n
  rw [mlS]
  cases (k % M256).testBit (255 - n)
  ·show smT _ _ _ _ _ _ _ _ _ = 16
   rw [ih, (sta_sm _ _ _ _ _ _ _ _).sixteen]
  ·show smT _ _ _ _ _ _ _ _ (smT _ _ _ _ _ _ _ _ _) = 16
   rw [ih, (sta_sm _ _ _ _ _ _ _ _).sixteen, (sta_sm _ _ _ _ _ _ _ _).sixteen]
set_option maxHeartbeats 1000000 in
theorem ok_Mult (P A B N X Y : Nat) (F : Bool) (k x y : Nat) (f : Bool) (r : Pt) (e : Int)
  (hr : ∀ (n : Nat) (t : Int) (s : Pt), n ≤ 256 → t = (mlS P A k (x, y, f) (havT P A B x y f (ckE P A B N X Y F)) n).2 → s = mS P A k (x, y, f) n → (n = 256 ∨ t ≠ 0) → (tdV t s).1 % M256 = r.1 % M256 ∧ (tdV t s).2.1 % M256 = r.2.1 % M256 ∧ (tdV t s).2.2 = r.2.2 ∧ t = e) :
  OwesU Try.prog cyMult [] [(7, .inv (invMultW P A B N X Y F k x y f (fun n => mS P A k (x, y, f) n) (fun n => (mlS P A k (x, y, f) (havT P A B x y f (ckE P A B N X Y F)) n).2)))] 10 Try.f8 [sCv P A B N X Y F, sU k, sPt x y f] (.tup [sPt r.1 r.2.1 r.2.2, sI .i64 e]) := by
 obtain ⟨n0, hn0⟩ : ∃ n0, n0 = havT P A B x y f (ckE P A B N X Y F) := ⟨_, rfl⟩
 obtain ⟨S, hS⟩ : ∃ S : Nat → Pt, S = fun n => mS P A k (x, y, f) n := ⟨_, rfl⟩
 obtain ⟨T, hT⟩ : ∃ T : Nat → Int, T = fun n => (mlS P A k (x, y, f) n0 n).2 := ⟨_, rfl⟩
 rw [← hn0] at hr ⊢
 rw [← hS, ← hT, wc_Mult P A B N X Y k x y r.1 r.2.1 F f r.2.2 e S T]
 have hbit := fun j hj => limb_bit k j hj
 have T0 : T 0 = n0 := by rw [hT]; rfl
 have S0 : S 0 = (0, 0, true) := by rw [hS]; rfl
 have s1 : ∀ n, (k % M256).testBit (255 - n) = true → S (n + 1) = smV P A (dbl P A (S n)).1 (dbl P A (S n)).2.1 (dbl P A (S n)).2.2 x y f := fun n h => by rw [hS]; exact mS_one h
 have s0 : ∀ n, (k % M256).testBit (255 - n) = false → S (n + 1) = dbl P A (S n) := fun n h => by rw [hS]; exact mS_zero h
 have t1 : ∀ n, (k % M256).testBit (255 - n) = true → T (n + 1) = smT P A (dbl P A (S n)).1 (dbl P A (S n)).2.1 (dbl P A (S n)).2.2 x y f (smT P A (S n).1 (S n).2.1 (S n).2.2 (S n).1 (S n).2.1 (S n).2.2 (T n)) := fun n h => by
  rw [hT, hS]
  show (mlS P A k (x, y, f) n0 (n + 1)).2 = _
  rw [mlS, h]
  have e1 := mlS_fst P A k (x, y, f) n0 n
  show smT P A (smV P A _ _ _ _ _ _).1 _ _ _ _ _ _ = _
  rw [e1]; rfl
 have t0 : ∀ n, (k % M256).testBit (255 - n) = false → T (n + 1) = smT P A (S n).1 (S n).2.1 (S n).2.2 (S n).1 (S n).2.1 (S n).2.2 (T n) := fun n h => by
  rw [hT, hS]
  show (mlS P A k (x, y, f) n0 (n + 1)).2 = _
  rw [mlS, h]
  have e1 := mlS_fst P A k (x, y, f) n0 n
  show smT P A _ _ _ _ _ _ _ = _
  rw [e1]
 have hr := fun n hn h => hr n (T n) (S n) hn (by rw [hT]) (by rw [hS]) h
 intro x1 x2 x3 x4 x5 x6 x7 x8 x9
 refine ⟨fun _ => rfl, 0, by decide, rfl, rfl, rfl, rfl, rfl, rfl, rfl, rfl, rfl, rfl, rfl, rfl, rfl, rfl, rfl, rfl, ?_, rfl, rfl, rfl, ?_, ?_, ?_, rfl, fun n hn => ⟨id, id, fun hc => ?_, fun hc => ?_⟩⟩
 ·rw [T0, hn0]; rfl
 ·rw [S0]; rfl
 ·rw [S0]; rfl
 ·rw [S0]
 ·rw [Bool.and_eq_true] at hc
  have hn' : n ≤ 255 := by have := of_decide_eq_true hc.1; omega
  obtain ⟨j, hj⟩ : ∃ j : Nat, j = 255 - n := ⟨_, rfl⟩
  have hjI : (255 : Int) - (n : Int) = (j : Int) := by omega
  have u1 : IntKind.i64.wrap ((j : Int).tdiv 64) = ((j / 64 : Nat) : Int) := by
   have e : (j : Int).tdiv 64 = ((j / 64 : Nat) : Int) := tdiv_nat j 64
   rw [e, IntWalk.i64_in _ (by omega)]
  have u2 : (j : Int).tmod 64 = ((j % 64 : Nat) : Int) := by
   rw [Int.tmod_eq_emod_of_nonneg (Int.natCast_nonneg _)]
   exact (Int.natCast_emod j 64).symm
  have u3 : IntKind.i64.wrap ((j : Int) - 1) = 255 - ((n + 1 : Nat) : Int) := by
   rw [IntWalk.i64_in _ (by omega)]
   omega
  have hq : (0 : Int) ≤ ((j / 64 : Nat) : Int) ∧ ((j / 64 : Nat) : Int) < 4 := by omega
  have s1 := s1 n
  have s0 := s0 n
  have t1 := t1 n
  have t0 := t0 n
  rw [← hj] at s1 s0 t1 t0
  rw [hjI, u1, u2, u3, two_min _ (by omega), Int.toNat_natCast, hbit j (by omega)]
  refine ⟨hq, hq, Int.natCast_nonneg _, fun hb => ⟨n + 1, by omega, rfl, rfl, rfl, rfl, rfl, rfl, rfl, rfl, rfl, rfl, rfl, rfl, rfl, rfl, rfl, rfl, ?_, rfl, rfl, rfl, ?_, ?_, ?_, rfl, (show 256 - (n + 1) < 256 - n by omega)⟩, fun hb => ⟨n + 1, by omega, rfl, rfl, rfl, rfl, rfl, rfl, rfl, rfl, rfl, rfl, rfl, rfl, rfl, rfl, rfl, rfl, ?_, rfl, rfl, rfl, ?_, ?_, ?_, rfl, (show 256 - (n + 1) < 256 - n by omega)⟩⟩
  ·rw [t1 hb]; rfl
  ·rw [s1 hb]; rfl
  ·rw [s1 hb]; rfl
  ·rw [s1 hb]; rfl
  ·rw [t0 hb]; rfl
  ·rw [s0 hb]; rfl
  ·rw [s0 hb]; rfl
  ·rw [s0 hb]; rfl
 ·have h : n = 256 ∨ T n ≠ 0 := by
   rcases Nat.lt_or_ge n 256 with g | g
   ·rw [decide_eq_true (show (255 : Int) - (n : Int) ≥ 0 by omega), Bool.true_and] at hc
    exact .inr (by simpa using hc)
   ·exact .inl (by omega)
  obtain ⟨q1, q2, q3, q4⟩ := hr n hn h
  exact ⟨⟨q1, q2, q3, trivial⟩, q4⟩
theorem ofn_not {P A k x y : Nat} {f : Bool} {n : Nat} (hn : n ≤ 256) (h : mT P A k (x, y, f) n ≠ 0) : ofnB P A k x y f = false := by
 unfold ofnB
 rw [show (mlS P A k (x, y, f) 0 256).2 = 16 from mT_end hn h]
 rfl
theorem ok_cMul (ls : List (List At)) (vs : List (Option Addr)) (hc : Ok (mulC ls)) : ∃ iv, OwesU Try.prog cyMult [] iv 10 Try.f8 (mkArgs shMul ls vs) (mulG ls) := by
 unfold mulC at hc
 split at hc
 ·rename_i P A B N X Y F k x y f
  refine ⟨_, ok_Mult P A B N X Y F k x y f (muR P A B N X Y F k x y f) (nt (muB P A B N X Y F k x y f) 0) ?_⟩
  rintro n t s hn rfl rfl h
  rw [on_eq] at h ⊢
  cases hb : (gdB P A B N X Y F && isOnB P A B x y f) with
  | false =>
   have em : muB P A B N X Y F k x y f = false := by unfold muB; rw [hb]; rfl
   have e16 : (mlS P A k (x, y, f) (nt false 0) n).2 = 16 := mlS_16 P A k (x, y, f) n
   unfold muR
   rw [em, e16]
   exact ⟨rfl, rfl, rfl, rfl⟩
  | true =>
   rw [hb] at h
   have h : n = 256 ∨ mT P A k (x, y, f) n ≠ 0 := h
   show (tdV (mT P A k (x, y, f) n) (mS P A k (x, y, f) n)).1 % M256 = _ ∧ (tdV (mT P A k (x, y, f) n) (mS P A k (x, y, f) n)).2.1 % M256 = _ ∧ (tdV (mT P A k (x, y, f) n) (mS P A k (x, y, f) n)).2.2 = _ ∧ mT P A k (x, y, f) n = _
   have em : muB P A B N X Y F k x y f = ofnB P A k x y f := by unfold muB; rw [hb]; rfl
   unfold muR
   rw [em]
   by_cases ht : mT P A k (x, y, f) n = 0
   ·have h256 : n = 256 := h.resolve_right fun g => g ht
    subst h256
    have eo : ofnB P A k x y f = true := by unfold ofnB; rw [show (mlS P A k (x, y, f) 0 256).2 = 0 from ht]; rfl
    rw [eo, ht]
    exact ⟨rfl, rfl, rfl, rfl⟩
   ·rw [ofn_not hn ht, (mT_vals (P := P) (A := A) (k := k) (p := (x, y, f)) n).resolve_left ht]
    exact ⟨rfl, rfl, rfl, rfl⟩
 ·exact hc.1.elim
theorem bnd_mulG (ls : List (List At)) : (mulG ls).bnd none0 := by
 unfold mulG
 split
 ·exact bnd_pte _ _
 ·exact bnd_none
theorem xcard_Mult : FnOK Try.prog 8 cMul := by
 refine FnOK_of Try.func8 (by kernel_rfl) (by kernel_rfl) fun args ps sv hs hp => ?_
 unfold cMul specA at hs
 split at hs
 ·rename_i p ls ha
  simp only [Option.some.injEq, Prod.mk.injEq] at hs
  obtain ⟨rfl, rfl⟩ := hs
  obtain ⟨o1, o2⟩ := Ok.append.1 hp
  refine ⟨bnd_mulG ls, fun ρ w hzz hgg _ => ?_⟩
  obtain ⟨vs, hv⟩ := asArgs_sound ρ ha o1
  rw [hv]
  obtain ⟨iv, ho⟩ := ok_cMul ls vs o2
  refine (calls_of_owesU (cx := cyMult) (CxOK_cons wcard_far (CxOK_wcons wcard_be (CxOK_wcons wcard_have (CxOK_wcons wcard_sum (CxOK_wcons wcard_told CxOK_wnil))))) wNone Try.func8 (by kernel_rfl) ho ρ w hzz hgg fun x hx => SA.bnd_mono none0_le (mkArgs_bnd shMul ls vs x hx)).mono ?_
  rintro e w' ⟨v, rfl, ⟨ρ', hr⟩, hbl⟩
  exact ⟨v, rfl, rep_none0 (bnd_mulG ls) hr, hbl⟩
 ·cases hs
theorem card_refTg : FnOK Try.prog 18 cRtg :=
 FnOK_A (cx := cxTg) (CxOK_cons card_refIsZ (CxOK_cons card_refPro (CxOK_cons card_refTot (CxOK_cons card_refOpp (CxOK_cons card_refBy (CxOK_cons card_refInv CxOK_nil)))))) (iv := fun _ => []) (N := 10) Try.func18 (by kernel_rfl) (by kernel_rfl) (fun ls => by
  unfold rtgG
  split
  ·exact bnd_two (bnd_pt _) (bnd_B _)
  ·exact bnd_none) fun ls vs hc => by
  unfold rtgC at hc
  split at hc
  ·rename_i P A B N X Y F x y f z w g
   exact ok_refTg P A B N X Y x y z w F f g hc.1
  ·exact hc.1.elim
theorem bit_and (k i t : Nat) (ht : t < 64) : (IntKind.u64.wrap ((BitVec.ofInt 64 (limb k i) &&& BitVec.ofInt 64 (IntKind.u64.wrap (1 * 2 ^ Min.min ((t : Int)).toNat 64))).toNat : Int) != 0) = (k / 2 ^ (64 * i) % 2 ^ 64).testBit t := by
 have e : limb k i = ((k / 2 ^ (64 * i) % 2 ^ 64 : Nat) : Int) := rfl
 rw [e]
 have hL : k / 2 ^ (64 * i) % 2 ^ 64 < 2 ^ 64 := Nat.mod_lt _ (by decide)
 generalize k / 2 ^ (64 * i) % 2 ^ 64 = L at *
 have ep : (1 : Int) * 2 ^ Min.min ((t : Int)).toNat 64 = ((2 ^ t : Nat) : Int) := by rw [Int.one_mul, two_min t (by omega)]
 have hp : 2 ^ t < 2 ^ 64 := Nat.pow_lt_pow_right (by decide) ht
 have wr : ∀ q : Nat, q < 2 ^ 64 → IntKind.u64.wrap (q : Int) = (q : Int) := fun q hq => by
  rw [IntKind.wrap_u64]
  have : (2 ^ 64 : Nat) = 18446744073709551616 := by decide
  omega
 have ew : IntKind.u64.wrap ((2 ^ t : Nat) : Int) = ((2 ^ t : Nat) : Int) := wr _ hp
 rw [ep, ew]
 have e3 : (BitVec.ofInt 64 ((L : Nat) : Int) &&& BitVec.ofInt 64 ((2 ^ t : Nat) : Int)).toNat = L &&& 2 ^ t := by
  rw [BitVec.toNat_and, BitVec.toNat_ofInt, BitVec.toNat_ofInt]
  have a : (((L : Nat) : Int) % ((2 ^ 64 : Nat) : Int)).toNat = L := by rw [← Int.natCast_emod, Int.toNat_natCast, Nat.mod_eq_of_lt hL]
  have b : (((2 ^ t : Nat) : Int) % ((2 ^ 64 : Nat) : Int)).toNat = 2 ^ t := by rw [← Int.natCast_emod, Int.toNat_natCast, Nat.mod_eq_of_lt hp]
  rw [a, b]
 rw [e3]
 have hlt : L &&& 2 ^ t < 2 ^ 64 := Nat.lt_of_le_of_lt Nat.and_le_right hp
 have e4 : L &&& 2 ^ t = if L.testBit t = true then 2 ^ t else 0 := by
  apply Nat.eq_of_testBit_eq
  intro i
  rw [Nat.testBit_and, Nat.testBit_two_pow]
  by_cases h : t = i
  ·subst h
   cases hb : L.testBit t <;> simp
  ·cases hb : L.testBit t <;> simp [h]
 rw [wr _ hlt, e4]
 have hp0 : ((2 ^ t : Nat) : Int) ≠ 0 := by have := Nat.two_pow_pos t; omega
 cases L.testBit t
 ·rfl
 ·rw [if_pos rfl]
  exact bne_iff_ne.2 hp0
theorem bit_at (k w v : Nat) (hw : w < 4) (hv : v < 64) : (k / 2 ^ (64 * (3 - w)) % 2 ^ 64).testBit (63 - v) = (k % M256).testBit (255 - (64 * w + v)) := by
 rw [show M256 = 2 ^ 256 from rfl, Nat.testBit_mod_two_pow, Nat.testBit_mod_two_pow, Nat.testBit_div_two_pow, decide_eq_true (show 63 - v < 64 by omega), decide_eq_true (show 255 - (64 * w + v) < 256 by omega), Bool.true_and, Bool.true_and, show 63 - v + 64 * (3 - w) = 255 - (64 * w + v) by omega]
end Go.Proofs.Yteimeidpcgebkaa
end

section
namespace Go.Proofs.Yteimeidpcgebkaa
open Go Go.Sx Go.RowKit
theorem sm_yes {P A x y z w : Nat} {f g : Bool} (h : smB P A x y f z w g = true) : smR P A x y f z w g = smV P A x y f z w g ∧ smT P A x y f z w g 0 = 0 := by
 refine ⟨by unfold smR; rw [h]; rfl, ?_⟩
 unfold smB at h
 exact eq_of_beq h
theorem sm_no {P A x y z w : Nat} {f g : Bool} (h : smB P A x y f z w g = false) : smT P A x y f z w g 0 = 16 := by
 unfold smB at h
 exact (sta_sm P A x y f z w g).nought.resolve_left (ne_of_beq_false h)
theorem nb_t {b : Bool} (h : (!b) = true) : b = false := by cases b <;> first | rfl | cases h
theorem nb_f {b : Bool} (h : (!b) = false) : b = true := by cases b <;> first | rfl | cases h
theorem wrap_less (a : Nat) (ha : a ≤ 300) (b : Int) (hb : 0 ≤ b ∧ b ≤ 300) : IntKind.i64.wrap (b - (a : Int) - 1) = b - ((a + 1 : Nat) : Int) := by
 rw [IntKind.wrap_i64]; omega
structure Ofn (P A k x y : Nat) (f : Bool) (S : Nat → Pt) (T : Nat → Int) (R : Pt) (O : Bool) : Prop where
 rtS : ∀ n, rtgP P A (S n).1 (S n).2.1 (S n).2.2 (S n).1 (S n).2.1 (S n).2.2
 rtD : ∀ n, rtgP P A (dbl P A (S n)).1 (dbl P A (S n)).2.1 (dbl P A (S n)).2.2 x y f
 no1 : ∀ n, n < 256 → T n = 0 → smB P A (S n).1 (S n).2.1 (S n).2.2 (S n).1 (S n).2.1 (S n).2.2 = false → O = false
 no2 : ∀ n, n < 256 → (k % M256).testBit (255 - n) = true → T n = 0 → smB P A (S n).1 (S n).2.1 (S n).2.2 (S n).1 (S n).2.1 (S n).2.2 = true → smB P A (dbl P A (S n)).1 (dbl P A (S n)).2.1 (dbl P A (S n)).2.2 x y f = false → O = false
 go1 : ∀ n, (k % M256).testBit (255 - n) = true → T n = 0 → smB P A (S n).1 (S n).2.1 (S n).2.2 (S n).1 (S n).2.1 (S n).2.2 = true → smB P A (dbl P A (S n)).1 (dbl P A (S n)).2.1 (dbl P A (S n)).2.2 x y f = true → T (n + 1) = 0
 go0 : ∀ n, (k % M256).testBit (255 - n) = false → T n = 0 → smB P A (S n).1 (S n).2.1 (S n).2.2 (S n).1 (S n).2.1 (S n).2.2 = true → T (n + 1) = 0
 sv1 : ∀ n, (k % M256).testBit (255 - n) = true → S (n + 1) = smV P A (dbl P A (S n)).1 (dbl P A (S n)).2.1 (dbl P A (S n)).2.2 x y f
 sv0 : ∀ n, (k % M256).testBit (255 - n) = false → S (n + 1) = dbl P A (S n)
 fin : T 256 = 0 → O = true ∧ R = S 256
 bad : O = false → ∀ r1 r2 : Nat, r1 = R.1 % M256 → r2 = R.2.1 % M256 → (0 = r1 ∧ 0 = r2 ∧ false = R.2.2 ∧ True) ∧ false = O
 S0 : S 0 = (0, 0, true)
 T0 : T 0 = 0
set_option maxHeartbeats 2000000 in
theorem ofn_core (P A B N X Y k x y : Nat) (F f : Bool) (S : Nat → Pt) (T : Nat → Int) (R : Pt) (O : Bool) (H : Ofn P A k x y f S T R O) :
  Owes Try.prog cxOfn [(3, .inv (invOfO P A B N X Y F k x y f S (fun n => T n = 0))), (6, .invR (invOfI P A B N X Y F k x y f S (fun n => T n = 0)) (fun y z => z.1 = y.1))] 4 Try.f21 [sCv P A B N X Y F, sU k, sPt x y f] (.tup [sPt R.1 R.2.1 R.2.2, sB O]) := by
 obtain ⟨rtS, rtD, no1, no2, go1, go0, sv1, sv0, fin, bad, S0, T0⟩ := H
 rw [vc_refOfn P A B N X Y k x y R.1 R.2.1 F f R.2.2 O S (fun n => T n = 0)]
 intro x1 x2 x3 x4 x5 x6 x7 x8 x9 x10 x11
 refine ⟨fun _ => rfl, 0, ⟨by decide, T0⟩, rfl, rfl, rfl, rfl, rfl, rfl, rfl, rfl, rfl, rfl, rfl, rfl, rfl, rfl, rfl, rfl, ⟨by rw [S0]; rfl, by rw [S0]; rfl, by rw [S0], trivial⟩, rfl, fun w ⟨hw, hG⟩ => ⟨fun h1 => ⟨fun _ => rfl, (w, 0), ⟨⟨?_, by show 0 ≤ 64; omega, hG⟩, rfl⟩, rfl, rfl, rfl, rfl, rfl, rfl, rfl, rfl, rfl, rfl, rfl, rfl, rfl, rfl, rfl, rfl, rfl, rfl, rfl, rfl, rfl, fun ⟨w', v⟩ ⟨hw', hv, hG'⟩ e => ⟨fun h2 => ?_, fun h2 => ?_⟩⟩, fun h1 => ?_⟩⟩
 ·have := of_decide_eq_true h1
  show w < 4; omega
 ·have e : w' = w := e
  subst e
  have hw' : w' < 4 := hw'
  have h2 : (63 : Int) - (v : Int) ≥ 0 := of_decide_eq_true h2
  have hv' : v < 64 := by omega
  have hn : 64 * w' + v < 256 := by omega
  have hG' : T (64 * w' + v) = 0 := hG'
  have i1 : (3 : Int) - (w' : Int) = ((3 - w' : Nat) : Int) := by omega
  have i2 : (63 : Int) - (v : Int) = ((63 - v : Nat) : Int) := by omega
  have hb := bit_and k (3 - w') (63 - v) (by omega)
  rw [bit_at k w' v hw' hv'] at hb
  have c3 : (0 : Int) ≤ 3 - (w' : Int) ∧ (3 : Int) - (w' : Int) < 4 := by omega
  have c4 : (0 : Int) ≤ 63 - (v : Int) := by omega
  have w1 := wrap_less v (by omega) 63 (by decide)
  have no1 := no1 _ hn hG'
  have no2 := fun hbit => no2 _ hn hbit hG'
  have go1 := fun hbit => go1 _ hbit hG'
  have go0 := fun hbit => go0 _ hbit hG'
  have sv1 := sv1 (64 * w' + v)
  have sv0 := sv0 (64 * w' + v)
  have rtS := rtS (64 * w' + v)
  have rtD := rtD (64 * w' + v)
  have en : 64 * w' + (v + 1) = 64 * w' + v + 1 := by omega
  refine ⟨rtS, id, fun _ => c3, id, fun _ => c3, id, fun _ => c4, id, id, id, id, fun h3 => ?_, fun h3 => ?_⟩
  ·rw [Bool.and_eq_true] at h3
   obtain ⟨h3, h4⟩ := h3
   have h4' := h4
   rw [show ((3 : Int) - (↑((w', v) : Nat × Nat).fst : Int)) = ((3 - w' : Nat) : Int) from i1, show ((63 : Int) - (↑((w', v) : Nat × Nat).snd : Int)) = ((63 - v : Nat) : Int) from i2, Int.toNat_natCast] at h4'
   have hbit : (k % M256).testBit (255 - (64 * w' + v)) = true := hb.symm.trans h4'
   have eD := (sm_yes h3).1
   rw [eD]
   refine ⟨rtD, fun h5 => ?_, fun h5 => ?_⟩
   ·have h5 : smB P A (dbl P A (S (64 * w' + v))).1 (dbl P A (S (64 * w' + v))).2.1 (dbl P A (S (64 * w' + v))).2.2 x y f = false := nb_t h5
    exact bad (no2 hbit h3 h5) _ _ rfl rfl
   ·have h5 : smB P A (dbl P A (S (64 * w' + v))).1 (dbl P A (S (64 * w' + v))).2.1 (dbl P A (S (64 * w' + v))).2.2 x y f = true := nb_f h5
    have eE := (sm_yes h5).1
    have eS := sv1 hbit
    refine ⟨(w', v + 1), ⟨⟨hw', by show v + 1 ≤ 64; omega, ?_⟩, rfl⟩, rfl, w1, rfl, rfl, rfl, rfl, rfl, rfl, rfl, rfl, rfl, rfl, rfl, rfl, rfl, rfl, rfl, ?_, ?_, ?_, rfl, by show 64 - (v + 1) < 64 - v; omega⟩
    ·show T (64 * w' + (v + 1)) = 0
     rw [en]; exact go1 hbit h3 h5
    ·show (smR P A (dbl P A (S (64 * w' + v))).1 (dbl P A (S (64 * w' + v))).2.1 (dbl P A (S (64 * w' + v))).2.2 x y f).1 % M256 = (S (64 * w' + (v + 1))).1 % M256
     rw [en, eE, eS]
    ·show (smR P A (dbl P A (S (64 * w' + v))).1 (dbl P A (S (64 * w' + v))).2.1 (dbl P A (S (64 * w' + v))).2.2 x y f).2.1 % M256 = (S (64 * w' + (v + 1))).2.1 % M256
     rw [en, eE, eS]
    ·show (smR P A (dbl P A (S (64 * w' + v))).1 (dbl P A (S (64 * w' + v))).2.1 (dbl P A (S (64 * w' + v))).2.2 x y f).2.2 = (S (64 * w' + (v + 1))).2.2
     rw [en, eE, eS]
  ·refine ⟨fun h5 => ?_, fun h5 => ?_⟩
   ·exact bad (no1 (nb_t h5)) _ _ rfl rfl
   ·have h5 : smB P A (S (64 * w' + v)).1 (S (64 * w' + v)).2.1 (S (64 * w' + v)).2.2 (S (64 * w' + v)).1 (S (64 * w' + v)).2.1 (S (64 * w' + v)).2.2 = true := nb_f h5
    have h3' : (smB P A (S (64 * w' + v)).1 (S (64 * w' + v)).2.1 (S (64 * w' + v)).2.2 (S (64 * w' + v)).1 (S (64 * w' + v)).2.1 (S (64 * w' + v)).2.2 && (IntKind.u64.wrap ((BitVec.ofInt 64 (limb k ((3 : Int) - (w' : Int)).toNat) &&& BitVec.ofInt 64 (IntKind.u64.wrap (1 * 2 ^ Min.min ((63 : Int) - (v : Int)).toNat 64))).toNat : Int) != 0)) = false := h3
    rw [h5, Bool.true_and, i1, i2, Int.toNat_natCast] at h3'
    have hbit : (k % M256).testBit (255 - (64 * w' + v)) = false := hb.symm.trans h3'
    have eD := (sm_yes h5).1
    have eS := sv0 hbit
    rw [eD]
    refine ⟨(w', v + 1), ⟨⟨hw', by show v + 1 ≤ 64; omega, ?_⟩, rfl⟩, rfl, w1, rfl, rfl, rfl, rfl, rfl, rfl, rfl, rfl, rfl, rfl, rfl, rfl, rfl, rfl, rfl, ?_, ?_, ?_, rfl, by show 64 - (v + 1) < 64 - v; omega⟩
    ·show T (64 * w' + (v + 1)) = 0
     rw [en]; exact go0 hbit h5
    ·show (dbl P A (S (64 * w' + v))).1 % M256 = (S (64 * w' + (v + 1))).1 % M256
     rw [en, eS]
    ·show (dbl P A (S (64 * w' + v))).2.1 % M256 = (S (64 * w' + (v + 1))).2.1 % M256
     rw [en, eS]
    ·show (dbl P A (S (64 * w' + v))).2.2 = (S (64 * w' + (v + 1))).2.2
     rw [en, eS]
 ·have e : w' = w := e
  subst e
  have hw' : w' < 4 := hw'
  have hv : v ≤ 64 := hv
  have h2 : ¬ (63 : Int) - (v : Int) ≥ 0 := of_decide_eq_false h2
  have : v = 64 := by omega
  subst this
  have hG' : T (64 * w' + 64) = 0 := hG'
  refine ⟨w' + 1, ⟨by omega, by show T (64 * (w' + 1)) = 0; rw [show 64 * (w' + 1) = 64 * w' + 64 by omega]; exact hG'⟩, wrap_less w' (by omega) 3 (by decide), rfl, rfl, rfl, rfl, rfl, rfl, rfl, rfl, rfl, rfl, rfl, rfl, rfl, rfl, rfl, ?_, ?_, ?_, rfl, by omega⟩
  ·show (S (64 * w' + 64)).1 % M256 = (S (64 * (w' + 1))).1 % M256
   rw [show 64 * (w' + 1) = 64 * w' + 64 by omega]
  ·show (S (64 * w' + 64)).2.1 % M256 = (S (64 * (w' + 1))).2.1 % M256
   rw [show 64 * (w' + 1) = 64 * w' + 64 by omega]
  ·show (S (64 * w' + 64)).2.2 = (S (64 * (w' + 1))).2.2
   rw [show 64 * (w' + 1) = 64 * w' + 64 by omega]
 ·have h1 : ¬ (3 : Int) - (w : Int) ≥ 0 := of_decide_eq_false h1
  have : w = 4 := by omega
  subst this
  have hG : T (64 * 4) = 0 := hG
  obtain ⟨f1, f2⟩ := fin hG
  rw [f1]
  refine ⟨⟨?_, ?_, ?_, trivial⟩, rfl⟩
  ·show (S (64 * 4)).1 % M256 = R.1 % M256
   rw [f2]
  ·show (S (64 * 4)).2.1 % M256 = R.2.1 % M256
   rw [f2]
  ·show (S (64 * 4)).2.2 = R.2.2
   rw [f2]
def ivOfn (P A B N X Y k x y : Nat) (F f : Bool) : List (Nat × Hint) := [(3, .inv (invOfO P A B N X Y F k x y f (mS P A k (x, y, f)) (fun n => mT P A k (x, y, f) n = 0))), (6, .invR (invOfI P A B N X Y F k x y f (mS P A k (x, y, f)) (fun n => mT P A k (x, y, f) n = 0)) (fun y z => z.1 = y.1))]
theorem ok_refOfn (P A B N X Y k x y : Nat) (F f : Bool) (h : ofnP P A x y f) :
  Owes Try.prog cxOfn (ivOfn P A B N X Y k x y F f) 4 Try.f21 [sCv P A B N X Y F, sU k, sPt x y f] (.tup [sPt (ofnR P A k x y f).1 (ofnR P A k x y f).2.1 (ofnR P A k x y f).2.2, sB (ofnB P A k x y f)]) := by
 have hA := rB_iff.2 h.A0
 have hp : inB P x y f = true := by
  cases f
  ·show (false || (rB x P && rB y P)) = true
   rw [rB_iff.2 (h.p0 rfl).1, rB_iff.2 (h.p0 rfl).2]; rfl
  ·rfl
 have hin := mS_in (k := k) (p := (x, y, f)) hA hp
 have rtS : ∀ n, rtgP P A (mS P A k (x, y, f) n).1 (mS P A k (x, y, f) n).2.1 (mS P A k (x, y, f) n).2.2 (mS P A k (x, y, f) n).1 (mS P A k (x, y, f) n).2.1 (mS P A k (x, y, f) n).2.2 := fun n => rtg_of hA (hin n) (hin n)
 have rtD : ∀ n, rtgP P A (dbl P A (mS P A k (x, y, f) n)).1 (dbl P A (mS P A k (x, y, f) n)).2.1 (dbl P A (mS P A k (x, y, f) n)).2.2 x y f := fun n => rtg_of hA (sm_in (rtS n)) hp
 have no1 : ∀ n, n < 256 → mT P A k (x, y, f) n = 0 → smB P A (mS P A k (x, y, f) n).1 (mS P A k (x, y, f) n).2.1 (mS P A k (x, y, f) n).2.2 (mS P A k (x, y, f) n).1 (mS P A k (x, y, f) n).2.1 (mS P A k (x, y, f) n).2.2 = false → ofnB P A k x y f = false := by
  intro n hn hG hb
  refine ofn_not (n := n + 1) (by omega) ?_
  cases hbit : (k % M256).testBit (255 - n) with
  | true => rw [mT_one hbit, hG, sm_no hb, (sta_sm _ _ _ _ _ _ _ _).sixteen]; decide
  | false => rw [mT_zero hbit, hG, sm_no hb]; decide
 have no2 : ∀ n, n < 256 → (k % M256).testBit (255 - n) = true → mT P A k (x, y, f) n = 0 → smB P A (mS P A k (x, y, f) n).1 (mS P A k (x, y, f) n).2.1 (mS P A k (x, y, f) n).2.2 (mS P A k (x, y, f) n).1 (mS P A k (x, y, f) n).2.1 (mS P A k (x, y, f) n).2.2 = true →
   smB P A (dbl P A (mS P A k (x, y, f) n)).1 (dbl P A (mS P A k (x, y, f) n)).2.1 (dbl P A (mS P A k (x, y, f) n)).2.2 x y f = false → ofnB P A k x y f = false := by
  intro n hn hbit hG hb hb2
  refine ofn_not (n := n + 1) (by omega) ?_
  rw [mT_one hbit, hG, (sm_yes hb).2]
  exact fun e => by rw [sm_no hb2] at e; cases e
 have go1 : ∀ n, (k % M256).testBit (255 - n) = true → mT P A k (x, y, f) n = 0 → smB P A (mS P A k (x, y, f) n).1 (mS P A k (x, y, f) n).2.1 (mS P A k (x, y, f) n).2.2 (mS P A k (x, y, f) n).1 (mS P A k (x, y, f) n).2.1 (mS P A k (x, y, f) n).2.2 = true →
   smB P A (dbl P A (mS P A k (x, y, f) n)).1 (dbl P A (mS P A k (x, y, f) n)).2.1 (dbl P A (mS P A k (x, y, f) n)).2.2 x y f = true → mT P A k (x, y, f) (n + 1) = 0 := by
  intro n hbit hG hb hb2
  rw [mT_one hbit, hG, (sm_yes hb).2]
  exact (sm_yes hb2).2
 have go0 : ∀ n, (k % M256).testBit (255 - n) = false → mT P A k (x, y, f) n = 0 → smB P A (mS P A k (x, y, f) n).1 (mS P A k (x, y, f) n).2.1 (mS P A k (x, y, f) n).2.2 (mS P A k (x, y, f) n).1 (mS P A k (x, y, f) n).2.1 (mS P A k (x, y, f) n).2.2 = true → mT P A k (x, y, f) (n + 1) = 0 := by
  intro n hbit hG hb
  rw [mT_zero hbit, hG]
  exact (sm_yes hb).2
 have sv1 := fun n => mS_one (P := P) (A := A) (k := k) (p := (x, y, f)) (n := n)
 have sv0 := fun n => mS_zero (P := P) (A := A) (k := k) (p := (x, y, f)) (n := n)
 have fin : mT P A k (x, y, f) 256 = 0 → ofnB P A k x y f = true ∧ ofnR P A k x y f = mS P A k (x, y, f) 256 := fun e => by
  have : ofnB P A k x y f = true := by unfold ofnB; rw [show (mlS P A k (x, y, f) 0 256).2 = 0 from e]; rfl
  exact ⟨this, by unfold ofnR; rw [this]; rfl⟩
 have bad : ofnB P A k x y f = false → ∀ r1 r2 : Nat, r1 = (ofnR P A k x y f).1 % M256 → r2 = (ofnR P A k x y f).2.1 % M256 → (0 = r1 ∧ 0 = r2 ∧ false = (ofnR P A k x y f).2.2 ∧ True) ∧ false = ofnB P A k x y f := by
  rintro e _ _ rfl rfl
  have e2 : ofnR P A k x y f = (0, 0, false) := by unfold ofnR; rw [e]; rfl
  rw [e2, e]
  exact ⟨⟨rfl, rfl, rfl, trivial⟩, rfl⟩
 exact ofn_core P A B N X Y k x y F f (mS P A k (x, y, f)) (mT P A k (x, y, f)) (ofnR P A k x y f) (ofnB P A k x y f) ⟨rtS, rtD, no1, no2, go1, go0, sv1, sv0, fin, bad, rfl, rfl⟩
theorem card_refOfn : FnOK Try.prog 21 cOfn :=
 FnOK_A (cx := cxOfn) (CxOK_cons card_refTg CxOK_nil) (iv := fun ls => match ls with
  | [[.u P, .u A, .u B, .u N, .u X, .u Y, .b F], [.u k], [.u x, .u y, .b f]] => ivOfn P A B N X Y k x y F f
  | _ => []) (N := 4) Try.func21 (by kernel_rfl) (by kernel_rfl) (fun ls => by
  unfold ofnG
  split
  ·exact bnd_two (bnd_pt _) (bnd_B _)
  ·exact bnd_none) fun ls vs hc => by
  unfold ofnC at hc
  split at hc
  ·rename_i P A B N X Y F k x y f
   exact ok_refOfn P A B N X Y k x y F f hc.1
  ·exact hc.1.elim
theorem ok_refPO (ls : List (List At)) (vs : List (Option Addr)) (hc : Ok (mulC ls)) : Owes Try.prog cxPO [] 4 Try.f9 (mkArgs shMul ls vs) (mulG ls) := by
 unfold mulC at hc
 split at hc
 ·rename_i P A B N X Y F k x y f
  show Owes Try.prog cxPO [] 4 Try.f9 [sCv P A B N X Y F, sU k, sPt x y f] (.tup [sPt (muR P A B N X Y F k x y f).1 (muR P A B N X Y F k x y f).2.1 (muR P A B N X Y F k x y f).2.2, sI .i64 (nt (muB P A B N X Y F k x y f) 0)])
  rw [vc_refPO, on_eq]
  have bad : muB P A B N X Y F k x y f = false → muR P A B N X Y F k x y f = (0, 0, false) := fun e => by unfold muR; rw [e]; rfl
  cases hb : (gdB P A B N X Y F && isOnB P A B x y f) with
  | false =>
   have em : muB P A B N X Y F k x y f = false := by unfold muB; rw [hb]; rfl
   rw [bad em, em]
   exact ⟨fun _ => ⟨⟨rfl, rfl, rfl, trivial⟩, rfl⟩, fun h => by cases h⟩
  | true =>
   have em : muB P A B N X Y F k x y f = ofnB P A k x y f := by unfold muB; rw [hb]; rfl
   rw [Bool.and_eq_true] at hb
   obtain ⟨_, _, hA, _, _⟩ := gdB_A hb.1
   have hin := haB_in (isOn_ha (x := x) (y := y) (f := f) (B := B) hA ▸ hb.2)
   have ho : ofnP P A x y f := ⟨rB_iff.1 hA, fun e => (rtg_of hA hin hin).p0 e⟩
   refine ⟨fun h => (by cases h), fun _ => ⟨ho, fun h => ?_, fun h => ?_⟩⟩
   ·have h := nb_t h
    rw [bad (em.trans h), em, h]
    exact ⟨⟨rfl, rfl, rfl, trivial⟩, rfl⟩
   ·have h := nb_f h
    have e1 : ofnR P A k x y f = (mlS P A k (x, y, f) 0 256).1 := by unfold ofnR; rw [h]; rfl
    have e2 : muR P A B N X Y F k x y f = (mlS P A k (x, y, f) 0 256).1 := by unfold muR; rw [em, h]; rfl
    rw [e1, e2, em, h]
    exact ⟨⟨rfl, rfl, rfl, trivial⟩, rfl⟩
 ·exact hc.1.elim
theorem card_refPO : FnOK Try.prog 9 cMul :=
 FnOK_A (cx := cxPO) (CxOK_cons card_refOn (CxOK_cons card_refOfn CxOK_nil)) (iv := fun _ => []) (N := 4) Try.func9 (by kernel_rfl) (by kernel_rfl) bnd_mulG ok_refPO
theorem ok_CurveMults (P A B N X Y : Nat) (F : Bool) (k x y : Nat) (f : Bool) : Owes Try.prog cxCM [] 10 Try.f4 [sCv P A B N X Y F, sU k, sPt x y f] yes := by
 rw [vc_CurveMults]
 intro x1 x2 x3 x4 x5
 have e : x4 = true := by
  show conj [x1 == x1, x2 == x2, x3 == x3] = true
  rw [conj_all]
  simp
 refine ⟨id, id, id, ?_⟩
 rw [e, beq_self_eq_true]; rfl
theorem cxok_CM : CxOK Try.prog cxCM := CxOK_cons xcard_Mult (CxOK_cons card_refPO CxOK_nil)
end Go.Proofs.Yteimeidpcgebkaa
end
