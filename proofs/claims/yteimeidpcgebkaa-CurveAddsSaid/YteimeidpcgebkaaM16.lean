/-
  Texts: P123, P124, P125, V102, V77, P126, P149.
-/
import Derived.Test.YteimeidpcgebkaaM1
import Derived.Test.YteimeidpcgebkaaM2
import Derived.Test.YteimeidpcgebkaaM3
import Derived.Test.YteimeidpcgebkaaM4
import Derived.Test.YteimeidpcgebkaaM5
import Derived.Test.YteimeidpcgebkaaM6
import Derived.Test.YteimeidpcgebkaaM7
import Derived.Test.YteimeidpcgebkaaM8
import Derived.Test.YteimeidpcgebkaaM9
import Derived.Test.YteimeidpcgebkaaM10
import Derived.Test.YteimeidpcgebkaaM11
import Derived.Test.YteimeidpcgebkaaM12
import Derived.Test.YteimeidpcgebkaaM13
import Derived.Test.YteimeidpcgebkaaM14
import Derived.Test.YteimeidpcgebkaaM15
section
namespace Go.Proofs.Yteimeidpcgebkaa
open Go Go.Sx Go.RowKit
theorem cmpI_lt' (a b : Nat) : decide (cmpI a b < 0) = decide (a < b) := by
  unfold cmpI
  split
  · rename_i h; rw [decide_eq_true h]; rfl
  · rename_i h
    rw [decide_eq_false h]
    split <;> rfl
theorem cmpI_gt' (a b : Nat) : decide (cmpI a b > 0) = decide (b < a) := by
  unfold cmpI
  split
  · rename_i h; rw [decide_eq_false (show ¬ b < a by omega)]; rfl
  · split
    · rename_i h; rw [decide_eq_true h]; rfl
    · rename_i h; rw [decide_eq_false h]; rfl
theorem limb_and (P : Nat) : (IntKind.u64.wrap ((BitVec.ofInt 64 (limb P 0) &&& BitVec.ofInt 64 3).toNat : Int) == (3 : Int)) = decide (P % M256 % 4 = 3) := by
  have e : limb P 0 = ((P / 2 ^ (64 * 0) % 2 ^ 64 : Nat) : Int) := rfl
  have e2 : (P / 2 ^ (64 * 0) % 2 ^ 64 : Nat) = P % 18446744073709551616 := by rw [Nat.mul_zero, Nat.pow_zero, Nat.div_one]
  have e3 : (BitVec.ofInt 64 ((P % 18446744073709551616 : Nat) : Int) &&& BitVec.ofInt 64 3).toNat = P % 18446744073709551616 % 4 := by
    rw [BitVec.toNat_and, BitVec.toNat_ofInt, BitVec.toNat_ofInt]
    have a : (((P % 18446744073709551616 : Nat) : Int) % ((2 ^ 64 : Nat) : Int)).toNat = P % 18446744073709551616 := by omega
    have b : ((3 : Int) % ((2 ^ 64 : Nat) : Int)).toNat = 2 ^ 2 - 1 := by decide
    rw [a, b, Nat.and_two_pow_sub_one_eq_mod]
  rw [e, e2, e3]
  have hM := M256_eq
  have w : IntKind.u64.wrap ((P % 18446744073709551616 % 4 : Nat) : Int) = ((P % 18446744073709551616 % 4 : Nat) : Int) := by
    rw [IntKind.wrap_u64]; omega
  rw [w, Bool.eq_iff_iff, beq_iff_eq, decide_eq_true_iff]
  have q : P % M256 % 4 = P % 18446744073709551616 % 4 := by rw [hM]; omega
  omega
theorem vn_two {g : Nat → Int} {n : Int} (h : 0 ≤ n ∧ n < 18446744073709551616) (h0 : g 0 = n % 4294967296) (h1 : g 1 = n / 4294967296) : vn 2 g = n.toNat ∧ dgs 2 g := by
  constructor
  · unfold vn
    simp only [vz, h0, h1]
    omega
  · refine ⟨fun i hi => ?_⟩
    rcases (show i = 0 ∨ i = 1 by omega) with rfl | rfl
    · rw [h0]; omega
    · rw [h1]; omega
theorem ok_refBy (n : Int) (m : Nat) (h : 0 ≤ n ∧ n < 18446744073709551616) (hm : m % M256 ≠ 0) : OwesV Try.prog .none slRest [] 4 Try.f42 [sI .u64 n, sU m] (rbyG n m) := by
  rw [vc_refBy]
  have e1 : n.tmod 4294967296 = n % 4294967296 := by rw [Int.tmod_eq_emod_of_nonneg h.1]
  have e2 : IntKind.u64.wrap (n.tdiv 4294967296) = n / 4294967296 := by
    rw [Int.tdiv_eq_ediv_of_nonneg h.1, IntKind.wrap_u64]; omega
  intro x1
  have hM := Nat.mod_lt m M_pos
  obtain ⟨v1, v2⟩ := vn_two (g := fun i => (intsL [SK.c (SC.val (.int .u64 (n.tmod 4294967296))), SK.c (SC.val (.int .u64 (IntKind.u64.wrap (n.tdiv 4294967296))))]).getD i 0) h e1 e2
  refine ⟨Nat.le_refl _, fun _ => ⟨fun _ => trivial, v2, by decide, hm, ?_, trivial⟩⟩
  have v1' : (vn 2 fun i => (intsL [SK.c (SC.val (.int .u64 (n.tmod 4294967296))), SK.c (SC.val (.int .u64 (IntKind.u64.wrap (n.tdiv 4294967296))))]).getD i 0) = n.toNat := v1
  rw [v1']
theorem FnOKV_WU {cx : Cx} {sl : List (Nat × SSpec)} {f : Nat} {fn : Func} (hcx : CxOK Try.prog cx) (hsl : ∀ p ∈ sl, FnOKs Try.prog cx.gl p.1 p.2) (hf : Try.prog.funcs[f]? = some fn) (hb : fn.body.isSome = true) (hn : (fn.name == "runtime.NumGoroutine") = false) {c : Int → Nat → List Prop} {g : Int → Nat → SV} {N : Nat} (hg : ∀ a b, (g a b).bnd none0)
    (h : ∀ a b, Ok (c a b) → OwesV Try.prog cx sl [] N fn [sI .u64 a, sU b] (g a b)) : FnOKg Try.prog cx.gl f (specWU c g) := by
  refine FnOK_owesV hcx hsl hf hb hn fun args ps sv hs hp => ?_
  unfold specWU at hs
  split at hs
  case h_2 => cases hs
  rename_i x y
  split at hs
  case h_2 => cases hs
  rename_i n p m hx hy
  simp only [Option.some.injEq, Prod.mk.injEq] at hs
  obtain ⟨rfl, rfl⟩ := hs
  obtain ⟨o1, o2⟩ := Ok.append.1 hp
  refine ⟨[], N, [sI .u64 n, sU m], fun ρ => by simp only [List.map_cons, List.map_nil, asI_canon hx ρ, asU_canon hy o1 ρ], fun fz _ z hz => ?_, hg n m, h n m o2⟩
  simp only [List.mem_cons, List.not_mem_nil, or_false] at hz
  rcases hz with rfl | rfl
  · exact trivial
  · exact bnd_Un _
theorem card_refBy : FnOK Try.prog 42 (specWU rbyC rbyG) :=
  FnOKV_WU cx_none sl_rest Try.func42 (by kernel_rfl) (by kernel_rfl) (fun _ _ => bnd_Un _) fun n m h => ok_refBy n m h.1 h.2.1
theorem card_refIsZ : FnOK Try.prog 43 (specU isZG) :=
  FnOK_U CxOK_nil (iv := []) (N := 10) Try.func43 (by kernel_rfl) (by kernel_rfl) (fun _ => bnd_one (bnd_B _)) fun a => by
    show Owes _ _ _ _ _ _ (isZG a)
    rw [vc_refIsZ]
    exact conj_one _
theorem ok_refRgt (ls : List (List At)) (vs : List (Option Addr)) (hc : Ok (rrgC ls)) : Owes Try.prog cxRrg [] 10 Try.f34 (mkArgs [.str pCv, .str [.u]] ls vs) (rrgG ls) := by
  unfold rrgC at hc
  split at hc
  · rename_i P A B N X Y F x
    show Owes Try.prog cxRrg [] 10 Try.f34 [sCv P A B N X Y F, sU x] (rrgG [[.u P, .u A, .u B, .u N, .u X, .u Y, .b F], [.u x]])
    rw [vc_refRgt]
    have h : x % M256 < P % M256 := hc.1
    have hp : 0 < P % M256 := Nat.lt_of_le_of_lt (Nat.zero_le _) h
    have lt := fun v => Nat.mod_lt v hp
    have md := mdM hp
    intro x1 x2 x3 x4 x5 x6
    have e3 : x3 % M256 = x3 := md _
    have e5 : x5 = (x3 + x4) % x1 := by show (x3 % M256 + x4) % x1 % M256 = _; rw [e3]; exact md _
    have e6 : x2 * x5 % x1 % M256 = x2 * x5 % x1 := md _
    refine ⟨by show P % M256 ≠ 0; omega, h, h, by show P % M256 ≠ 0; omega, by show P % M256 ≠ 0; omega, h, by rw [e5]; exact lt _, by show P % M256 ≠ 0; omega, ?_, trivial⟩
    rw [e6, e5]
  · exact hc.1.elim
theorem card_refRgt : FnOK Try.prog 34 cRrg :=
  FnOK_A (CxOK_cons card_refPro (CxOK_cons card_refTot CxOK_nil)) (iv := fun _ => []) (N := 10) Try.func34 (by kernel_rfl) (by kernel_rfl) (fun ls => by unfold rrgG; split; exact bnd_one (bnd_U _); exact bnd_none) ok_refRgt
theorem ok_refIsOn (ls : List (List At)) (vs : List (Option Addr)) (hc : Ok (isOC ls)) : Owes Try.prog cxIsOn [] 10 Try.f17 (mkArgs [.str pCv, .str pPt] ls vs) (isOnG ls) := by
  unfold isOC at hc
  split at hc
  · rename_i P A B N X Y F x y f
    show Owes Try.prog cxIsOn [] 10 Try.f17 [sCv P A B N X Y F, sPt x y f] (isOnG [[.u P, .u A, .u B, .u N, .u X, .u Y, .b F], [.u x, .u y, .b f]])
    rw [vc_refIsOn]
    intro x1 x2 x3 x4 x5 x6 x7 x8
    have e6 : x6 = decide (x1 < x4) := cmpI_lt' _ _
    have e8 : x8 = (decide (x1 < x4) && decide (x3 < x4)) := by
      show (x6 && decide (x7 < 0)) = _
      rw [e6, show decide (x7 < 0) = decide (x3 < x4) from cmpI_lt' _ _]
    have h8 : x8 = true → x1 < x4 ∧ x3 < x4 := fun h => by
      rw [e8, Bool.and_eq_true, decide_eq_true_eq, decide_eq_true_eq] at h; exact h
    refine ⟨fun h => ⟨id, id, id, ?_⟩, fun h => ⟨id, id, id, id, id, id, id, id, id, id, id, id, fun k => ?_, fun k => (h8 k).2, fun k => (h8 k).2, id, id, id, fun k => (h8 k).1, id, id, id, ?_⟩⟩
    · subst h; rfl
    · have := (h8 k).1; omega
    · subst h
      rw [e8, conj_one]
      show _ = (decide (x1 < x4) && (decide (x3 < x4) && (x3 * x3 % x4 == (x1 * ((x1 * x1 % x4 + A % M256) % x4) % x4 + B % M256) % x4)))
      cases h1 : decide (x1 < x4)
      · rfl
      · cases h3 : decide (x3 < x4)
        · rfl
        · have hp : 0 < P % M256 := Nat.lt_of_le_of_lt (Nat.zero_le _) (of_decide_eq_true h1)
          have m1 : x3 * x3 % x4 % M256 = x3 * x3 % x4 := mdM hp _
          have m2 : ∀ v, v % x4 % M256 = v % x4 := mdM hp
          rw [m1, m2]
          simp
  · exact hc.1.elim
theorem card_refIsOn : FnOK Try.prog 17 cIsOn :=
  FnOK_A (CxOK_cons card_refIsZ (CxOK_cons card_refOrd (CxOK_cons card_refPro (CxOK_cons card_refRgt CxOK_nil)))) (iv := fun _ => []) (N := 10) Try.func17 (by kernel_rfl) (by kernel_rfl) (fun ls => by unfold isOnG; split; exact bnd_one (bnd_B _); exact bnd_none) ok_refIsOn
theorem isOn_ha {P A B x y : Nat} {f : Bool} (hA : rB A P = true) : isOnB P A B x y f = haB P A B x y f := by
  unfold isOnB haB rB
  cases f with
  | true => rfl
  | false =>
    have e : (x % M256 * ((x % M256 * (x % M256) % (P % M256) + A % M256) % (P % M256)) % (P % M256) + B % M256) % (P % M256) = rhsN (P % M256) (A % M256) (B % M256) (x % M256) := by
      unfold rhsN
      generalize x % M256 = x'
      generalize A % M256 = A'
      generalize B % M256 = B'
      generalize P % M256 = P'
      simp only [Nat.add_mod_mod, Nat.mod_add_mod, Nat.mul_mod_mod, Nat.mod_mul_mod]
      rw [Nat.mul_add, Nat.mul_comm x' A']
    rw [e]
    rfl
theorem slopes_ref (A B P : Nat) : (4 % P * (A ^ 3 % P) % P + 27 % P * (B ^ 2 % P) % P) % P = slopesN P A B := by
  unfold slopesN tw3
  simp only [Nat.add_mod_mod, Nat.mod_add_mod, Nat.mul_mod_mod, Nat.mod_mul_mod]
  rw [show A ^ 3 = A * (A * A) by rw [Nat.pow_succ, Nat.pow_two, Nat.mul_assoc, Nat.mul_comm], Nat.pow_two]
  generalize A * (A * A) = a
  generalize B * B = b
  congr 1
  omega
theorem ok_refCF (ls : List (List At)) (vs : List (Option Addr)) (hc : Ok (ckC ls)) : Owes Try.prog cxRCF [] 10 Try.f16 (mkArgs [.str pCv] ls vs) (ckG ls) := by
  unfold ckC at hc
  split at hc
  · rename_i P A B N X Y F
    show Owes Try.prog cxRCF [] 10 Try.f16 [sCv P A B N X Y F] (.one (sI .i64 (ckE P A B N X Y F)))
    rw [vc_refCF]
    intro x1 x2 x3 x4 x5 x6 x7 x8 x9 x10 x11 x12 x13 x14 x15 x16 x17
    have e3 : x3 = decide (3 < x1) := cmpI_gt' _ _
    have e4 : x4 = (decide (3 < x1) && decide (P % M256 % 4 = 3)) := by show (x3 && _) = _; rw [e3, limb_and]
    have e7 : x7 = (x4 && rB A P) := by show (x4 && decide (x6 < 0)) = _; rw [show decide (x6 < 0) = decide (x5 < x1) from cmpI_lt' _ _]; rfl
    have e10 : x10 = (x7 && rB B P) := by show (x7 && decide (x9 < 0)) = _; rw [show decide (x9 < 0) = decide (x8 < x1) from cmpI_lt' _ _]; rfl
    have e11 : decide (x11 > 0) = decide (1 < N % M256) := cmpI_gt' _ _
    rw [ckE_eq]
    refine ⟨id, id, id, id, id, id, id, id, id, id, id, id, id, id, id, id, id, id, id, id, id, id, fun h => ?_, fun h => ?_⟩
    · have g : gdB P A B N X Y F = false := by
        rw [e11, e10, e7, e4] at h
        unfold gdB
        cases ha : decide (3 < P % M256) <;> cases hb : decide (P % M256 % 4 = 3) <;> cases hA : rB A P <;> cases hB : rB B P <;> cases hN : decide (1 < N % M256) <;> first | rfl | (rw [show decide (3 < x1) = true from ha, hb, hA, hB, hN] at h; cases h)
      rw [g]; rfl
    · have h : (x10 && decide (x11 > 0)) = true := by simpa using h
      rw [e11, e10, e7, e4] at h
      simp only [Bool.and_eq_true] at h
      obtain ⟨⟨⟨⟨ha, hb⟩, hA⟩, hB⟩, hN⟩ := h
      have hp := rB_pos hA
      have md : ∀ v, v % x1 % M256 = v % x1 := mdM hp
      have lt := fun v => Nat.mod_lt v hp
      have n0 : x1 ≠ 0 := by show P % M256 ≠ 0; omega
      have e16 : x16 = (slopesN (P % M256) (A % M256) (B % M256) == 0) := by
        show ((x12 * x13 % x1 % M256 + x14 * x15 % x1 % M256) % x1 % M256 == 0) = _
        rw [md, md, md, show x12 = 4 % x1 from md _, show x13 = x5 ^ 3 % x1 from md _, show x14 = 27 % x1 from md _, show x15 = x8 ^ 2 % x1 from md _, slopes_ref]
      have g : gdB P A B N X Y F = (!(x17 || !isOnB P A B X Y F)) := by
        unfold gdB
        rw [show decide (3 < P % M256) = true from ha, hb, hA, hB, hN, isOn_ha hA]
        show _ = !((x16 || F) || _)
        rw [e16]
        cases (slopesN (P % M256) (A % M256) (B % M256) == 0) <;> cases F <;> cases haB P A B X Y _ <;> rfl
      rw [g]
      refine ⟨⟨by decide, by decide⟩, n0, n0, rB_iff.1 hA, n0, by rw [show x12 = 4 % x1 from md _]; exact lt _, by rw [show x13 = x5 ^ 3 % x1 from md _]; exact lt _, ⟨by decide, by decide⟩, n0, n0, rB_iff.1 hB, n0, by rw [show x14 = 27 % x1 from md _]; exact lt _, by rw [show x15 = x8 ^ 2 % x1 from md _]; exact lt _, n0, id, id, fun k => by rw [k]; rfl, id, id, id, id, fun k => by rw [k]; rfl, fun k => ?_, fun k => ?_⟩
      · rw [k]; rfl
      · rw [k]; rfl
  · exact hc.1.elim
theorem card_refCF : FnOK Try.prog 16 cRCF :=
  FnOK_A (cx := cxRCF) (CxOK_cons card_refIsZ (CxOK_cons card_refOrd (CxOK_cons card_refPro (CxOK_cons card_refTot (CxOK_cons card_refBy (CxOK_cons card_refPower (CxOK_cons card_refIsOn CxOK_nil))))))) (iv := fun _ => []) (N := 10) Try.func16 (by kernel_rfl) (by kernel_rfl) (fun ls => by unfold ckG; split; exact bnd_one (bnd_I _ _); exact bnd_none) ok_refCF
theorem on_eq (P A B N X Y x y : Nat) (F f : Bool) : havT P A B x y f (ckE P A B N X Y F) = nt (gdB P A B N X Y F && isOnB P A B x y f) 0 := by
  rw [ckE_eq]
  cases g : gdB P A B N X Y F with
  | false => exact havT_16 _ _ _ _ _ _
  | true =>
    obtain ⟨_, _, hA, hB, _⟩ := gdB_A g
    show havT P A B x y f 0 = _
    rw [havT_eq hA hB, isOn_ha hA]
    rfl
theorem ck_ne (P A B N X Y : Nat) (F : Bool) : (ckE P A B N X Y F != 0) = !gdB P A B N X Y F := by
  rw [ckE_eq]; cases gdB P A B N X Y F <;> rfl
end Go.Proofs.Yteimeidpcgebkaa
end

section
namespace Go.Proofs.Yteimeidpcgebkaa
open Go Go.Sx Go.RowKit
def opp (m b : Nat) : Nat := if b = 0 then 0 else m - b
theorem add_case {a b m : Nat} (ha : a < m) (hb : b < m) : (a + b) % m = if a + b < m then a + b else a + b - m := by
  split
  · rename_i h; exact Nat.mod_eq_of_lt h
  · rw [Nat.mod_eq_sub_mod (by omega), Nat.mod_eq_of_lt (by omega)]
theorem sub_case {a b m : Nat} (ha : a < m) (hb : b < m) : (a + m - b) % m = if b ≤ a then a - b else a + m - b := by
  split
  · rw [show a + m - b = (a - b) + m by omega, Nat.add_mod_right, Nat.mod_eq_of_lt (by omega)]
  · exact Nat.mod_eq_of_lt (by omega)
theorem opp_sub {a b m : Nat} (ha : a < m) (hb : b < m) : (a + opp m b) % m = (a + m - b) % m := by
  rw [sub_case ha hb]
  unfold opp
  split
  · rw [Nat.add_zero, Nat.mod_eq_of_lt ha, if_pos (by omega), show b = 0 by assumption, Nat.sub_zero]
  · rw [add_case ha (by omega)]
    split <;> split <;> omega
theorem opp_two {t x z m : Nat} (ht : t < m) (hx : x < m) (hz : z < m) : (t + opp m ((x + z) % m)) % m = ((t + m - x) % m + m - z) % m := by
  have hp : 0 < m := by omega
  rw [opp_sub ht (Nat.mod_lt _ hp), sub_case ht (Nat.mod_lt _ hp), sub_case (Nat.mod_lt _ hp) hz, sub_case ht hx, add_case hx hz]
  split <;> split <;> split <;> split <;> omega
theorem opp_le {m b : Nat} (h : b < m) : opp m b < m := by unfold opp; split <;> omega
theorem okI_gcd {b m : Nat} (h : rB b m = true) : okI b m = decide (Nat.gcd (b % M256) (m % M256) = 1) := by
  have hp := rB_pos h
  unfold okI finvE
  rw [if_neg (by omega), if_pos (rB_iff.1 h), invE_gcd]
  split
  · rename_i g; rw [decide_eq_true g]; rfl
  · rename_i g; rw [decide_eq_false g]; rfl
theorem hIV_of {b m : Nat} (h : rB b m = true) : hIV m b = rivX b m := by
  have e := okI_gcd h
  unfold hIV rivX
  by_cases g : Nat.gcd (b % M256) (m % M256) = 1
  · rw [decide_eq_true g] at e
    rw [if_pos g, if_pos (by unfold okI at e; exact eq_of_beq e)]
  · rw [decide_eq_false g] at e
    rw [if_neg g, if_neg (by unfold okI at e; exact ne_of_beq_false e)]
theorem rB_hI {b m : Nat} (h : rB b m = true) : rB (hIV m b) m = true := by
  have hp := rB_pos h
  rw [hIV_of h]
  unfold rivX
  split
  · rename_i g
    obtain ⟨i1, _⟩ := invN_spec (rB_iff.1 h) g
    rw [rB_iff, mod_M i1]
    exact i1
  · exact rB_zero hp
theorem hDT_eq {m a b : Nat} (ha : rB a m = true) (hb : rB b m = true) (n : Int) : hDT m a b n = nt (okI b m) n := by
  unfold hDT
  rw [nt_nt, okF_b, ha, rB_hI hb, Bool.and_self, Bool.and_true]
def slD (m x y : Nat) (f : Bool) (z w : Nat) (g : Bool) : Nat := cond (samePt x y f z w g) (hAV m y y) (hSV m z x)
theorem rB_slD {m : Nat} (hp : 0 < m % M256) (x y : Nat) (f : Bool) (z w : Nat) (g : Bool) : rB (slD m x y f z w g) m = true := by
  unfold slD
  cases samePt x y f z w g
  · exact rB_hS hp _ _
  · exact rB_hA hp _ _
theorem slT_eq {m A x y z w : Nat} {f g : Bool} (hA : rB A m = true) (hx : rB x m = true) (hy : rB y m = true) (hz : rB z m = true) (hw : rB w m = true) (n : Int) : slT m A x y f z w g n = nt (okI (slD m x y f z w g) m) n := by
  have hp := rB_pos hA
  unfold slT slD
  cases samePt x y f z w g
  · show hDT _ _ _ _ = nt _ _
    rw [hDT_eq (rB_hS hp _ _) (rB_hS hp _ _)]
    simp only [nt_nt, okF_b, hx, hy, hz, hw, Bool.and_self, Bool.true_and]
    rfl
  · show hDT _ _ _ _ = nt _ _
    rw [hDT_eq (rB_hA hp _ _) (rB_hA hp _ _)]
    simp only [h3T_eq, nt_nt, okF_b, hx, hy, hA, rB_hM hp, rB_h3 hp, Bool.and_self, Bool.true_and]
    rfl
theorem rB_slV {m : Nat} (hp : 0 < m % M256) (A x y : Nat) (f : Bool) (z w : Nat) (g : Bool) : rB (slV m A x y f z w g) m = true := by
  unfold slV
  cases samePt x y f z w g
  · exact rB_hM hp _ _
  · exact rB_hM hp _ _
theorem thT_eq {m s x y z : Nat} (hs : rB s m = true) (hx : rB x m = true) (hy : rB y m = true) (hz : rB z m = true) (n : Int) : thT m s x y z n = n := by
  have hp := rB_pos hs
  have hX : rB (thX m s x z) m = true := rB_hS hp _ _
  unfold thT
  simp only [nt_nt, okF_b, hs, hx, hy, hz, hX, rB_hM hp, rB_hS hp, Bool.and_self]
  rfl
def smO (m x y : Nat) (f : Bool) (z w : Nat) (g : Bool) : Bool := cond f true (cond g true (cond (x % M256 == z % M256 && hAV m y w % M256 == 0) true (okI (slD m x y f z w g) m)))
theorem smT_eq {P A x y z w : Nat} {f g : Bool} (h : rtgP P A x y f z w g) (n : Int) : smT P A x y f z w g n = nt (smO P x y f z w g) n := by
  have hA := rB_iff.2 h.A0
  have hp := rB_pos hA
  unfold smT smO
  cases f with
  | true => rfl
  | false => cases g with
    | true => rfl
    | false =>
      have hx := rB_iff.2 (h.p0 rfl).1
      have hy := rB_iff.2 (h.p0 rfl).2
      have hz := rB_iff.2 (h.q0 rfl).1
      have hw := rB_iff.2 (h.q0 rfl).2
      have hs := rB_slV hp A x y false z w false
      rw [thT_eq hs hx hy hz, thT_eq hs hx hy hz, slT_eq hA hx hy hz hw, slT_eq hA hx hy hz hw, okF_b, hy, hw]
      cases (x % M256 == z % M256) <;> cases (hAV P y w % M256 == 0) <;> rfl
theorem smB_eq {P A x y z w : Nat} {f g : Bool} (h : rtgP P A x y f z w g) : smB P A x y f z w g = smO P x y f z w g := by
  unfold smB
  rw [smT_eq h, nt_zero]
theorem thX_of {m s x z : Nat} (hs : rB s m = true) (hx : rB x m = true) (hz : rB z m = true) : thX m s x z = ((s % M256 * (s % M256) % (m % M256) + m % M256 - x % M256) % (m % M256) + m % M256 - z % M256) % (m % M256) := by
  have hp := rB_pos hs
  unfold thX
  rw [hSV_of (rB_hS hp _ _) hz, hSV_of (rB_hM hp _ _) hx, hMV_of hs hs, mdM hp, mdM hp]
theorem thY_of {m s x y z : Nat} (hs : rB s m = true) (hx : rB x m = true) (hy : rB y m = true) : thY m s x y z = (s % M256 * ((x % M256 + m % M256 - thX m s x z % M256) % (m % M256)) % (m % M256) + m % M256 - y % M256) % (m % M256) := by
  have hp := rB_pos hs
  have hX : rB (thX m s x z) m = true := rB_hS hp _ _
  unfold thY
  rw [hSV_of (rB_hM hp _ _) hy, hMV_of hs (rB_hS hp _ _), hSV_of hx hX, mdM hp, mdM hp]
end Go.Proofs.Yteimeidpcgebkaa
end

section
namespace Go.Proofs.Yteimeidpcgebkaa
open Go Go.Sx Go.RowKit
theorem opp_M {m b : Nat} (hp : 0 < m % M256) (h : b < m % M256) : (if b = 0 then 0 else m % M256 - b) % M256 = opp (m % M256) b := by
  have : opp (m % M256) b < m % M256 := opp_le h
  exact mod_M this
theorem rTail {P x y z s a15 a16 a17 a18 a19 : Nat} (hs : rB s P = true) (hx : rB x P = true) (hy : rB y P = true) (hz : rB z P = true)
    (e15 : a15 = (x % M256 + z % M256) % (P % M256) % M256) (e16 : a16 = (if a15 = 0 then 0 else P % M256 - a15) % M256)
    (e17 : a17 = (s % M256 * (s % M256) % (P % M256) % M256 + a16) % (P % M256) % M256) (e18 : a18 = (x % M256 + (if a17 = 0 then 0 else P % M256 - a17) % M256) % (P % M256) % M256)
    (e19 : a19 = (if y % M256 = 0 then 0 else P % M256 - y % M256) % M256) :
    a15 < P % M256 ∧ a17 = thX P s x z % M256 ∧ a17 < P % M256 ∧ a18 < P % M256 ∧ (s % M256 * a18 % (P % M256) % M256 + a19) % (P % M256) % M256 = thY P s x y z % M256 := by
  have hp := rB_pos hs
  have md := mdM hp
  have lt := fun v => Nat.mod_lt v hp
  have lx := rB_iff.1 hx
  have ly := rB_iff.1 hy
  have lz := rB_iff.1 hz
  rw [md] at e15
  have l15 : a15 < P % M256 := by rw [e15]; exact lt _
  rw [opp_M hp l15, e15] at e16
  rw [md, e16, md] at e17
  rw [opp_two (lt _) lx lz] at e17
  have l17 : a17 < P % M256 := by rw [e17]; exact lt _
  have hX : thX P s x z = a17 := by rw [e17, thX_of hs hx hz]
  rw [opp_M hp l17, md, opp_sub lx l17] at e18
  rw [opp_M hp ly] at e19
  have l18 : a18 < P % M256 := by rw [e18]; exact lt _
  refine ⟨l15, ?_, l17, l18, ?_⟩
  · rw [hX, mod_M l17]
  · rw [thY_of hs hx hy, hX, mod_M l17, md, md, md, e19, opp_sub (lt _) ly, e18]
theorem tw3_ref (t P : Nat) : 3 % P * t % P = tw3 P t := by
  unfold tw3
  simp only [Nat.add_mod_mod, Nat.mod_add_mod, Nat.mul_mod_mod, Nat.mod_mul_mod]
  congr 1
  omega
theorem ok_refTg (P A B N X Y x y z w : Nat) (F f g : Bool) (h : rtgP P A x y f z w g) : Owes Try.prog cxTg [] 10 Try.f18 [sCv P A B N X Y F, sPt x y f, sPt z w g] (.tup [sPt (smR P A x y f z w g).1 (smR P A x y f z w g).2.1 (smR P A x y f z w g).2.2, sB (smB P A x y f z w g)]) := by
  rw [vc_refTg]
  have hA := rB_iff.2 h.A0
  have hp := rB_pos hA
  have md := mdM hp
  have lt := fun v => Nat.mod_lt v hp
  have eB := smB_eq h
  have eR : smR P A x y f z w g = cond (smB P A x y f z w g) (smV P A x y f z w g) (0, 0, false) := rfl
  have key : ∀ (p : Pt) (o : Bool), smR P A x y f z w g = p → smB P A x y f z w g = o → ∀ a b c d, a = p.1 % M256 → b = p.2.1 % M256 → c = p.2.2 → d = o →
      (a = (smR P A x y f z w g).1 % M256 ∧ b = (smR P A x y f z w g).2.1 % M256 ∧ c = (smR P A x y f z w g).2.2 ∧ True) ∧ d = smB P A x y f z w g := by
    intro p o e1 e2 a b c d h1 h2 h3 h4
    rw [e1, e2]
    exact ⟨⟨h1, h2, h3, trivial⟩, h4⟩
  intro x1 x2 x3 x4 x5 x6 x7 x8 x9 x10 x11 x12 x13 x14 x15 x16 x17 x18 x19 x20 x21 x22 x23 x24 x25
  refine ⟨fun hf => ?_, fun hf => ⟨fun hg => ?_, fun hg => ?_⟩⟩
  · subst hf
    have o1 : smB P A x y true z w g = true := eB
    exact key (z, w, g) true (by rw [eR, o1]; rfl) o1 _ _ _ _ rfl rfl rfl rfl
  · subst hf
    subst hg
    have o1 : smB P A x y false z w true = true := eB
    exact key (x, y, false) true (by rw [eR, o1]; rfl) o1 _ _ _ _ rfl rfl rfl rfl
  subst hf
  subst hg
  have hx := rB_iff.2 (h.p0 rfl).1
  have hy := rB_iff.2 (h.p0 rfl).2
  have hz := rB_iff.2 (h.q0 rfl).1
  have hw := rB_iff.2 (h.q0 rfl).2
  have n0 : x8 ≠ 0 := by show P % M256 ≠ 0; omega
  have e7 : x7 = (x % M256 == z % M256) := conj_one _
  have es : hAV P y w % M256 = (x6 + x3) % x8 % M256 := by rw [hAV_of hy hw]
  refine ⟨id, id, id, id, id, id, fun _ => n0, id, id, fun h2 => ?_, fun h2 => ?_⟩
  · rw [e7, ← es, Bool.and_eq_true] at h2
    have o1 : smB P A x y false z w false = true := by
      rw [eB]; unfold smO; rw [h2.1, h2.2]; rfl
    have v1 : smV P A x y false z w false = (0, 0, true) := by unfold smV; rw [h2.1, h2.2]; rfl
    exact key (0, 0, true) true (by rw [eR, o1, v1]; rfl) o1 _ _ _ _ rfl rfl rfl rfl
  rw [e7, ← es] at h2
  have o1 : smB P A x y false z w false = okI (slD P x y false z w false) P := by
    rw [eB]; unfold smO; rw [h2]; rfl
  have v1 : smV P A x y false z w false = (thX P (slV P A x y false z w false) x z, thY P (slV P A x y false z w false) x y z, false) := by
    unfold smV
    cases ha : (x % M256 == z % M256)
    · rfl
    · rw [ha, Bool.true_and] at h2
      rw [h2]; rfl
  have hs := rB_slV hp A x y false z w false
  have hd := rB_slD hp x y false z w false
  have ls := rB_iff.1 hs
  have e19 : x19 = opp x8 x6 := opp_M hp (rB_iff.1 hy)
  have fine : okI (slD P x y false z w false) P = true → smR P A x y false z w false = (thX P (slV P A x y false z w false) x z, thY P (slV P A x y false z w false) x y z, false) := fun k => by
    rw [eR, o1, k, v1]; rfl
  have none' : okI (slD P x y false z w false) P = false → smR P A x y false z w false = (0, 0, false) := fun k => by
    rw [eR, o1, k]; rfl
  refine ⟨Nat.le_of_lt (rB_iff.1 hy), n0, Nat.le_of_lt (rB_iff.1 hx), n0, fun hsame => ?_, fun hsame => ?_⟩
  · have hsame : samePt x y false z w false = true := hsame
    have dD : slD P x y false z w false = x11 := by unfold slD; rw [hsame]; exact hAV_of hy hy
    have dI : okI (slD P x y false z w false) P = rivB x11 P := by rw [dD, okI_gcd (dD ▸ hd)]; rfl
    have l12 : x12 < x8 := by show _ % x8 % M256 < _; rw [md]; exact lt _
    have dV : slV P A x y false z w false % M256 = x14 := by
      have e12 : hAV P (h3V P (hMV P x x)) A = x12 := by
        rw [hAV_of (rB_h3 hp _) hA, h3V_of (rB_hM hp _ _), hMV_of hx hx, md]
        show _ = (x9 * x10 % x8 % M256 + A % M256) % x8 % M256
        rw [md, md, show x9 = 3 % x8 from md _, show x10 = x5 * x5 % x8 from md _, tw3_ref]
        have : ∀ t, tw3 (P % M256) t % M256 = tw3 (P % M256) t := fun t => md _
        rw [this]
      have e13 : hIV P (hAV P y y) % M256 = x13 := by
        rw [hAV_of hy hy, hIV_of (rB_mod hp _)]
      unfold slV
      rw [hsame]
      show hMV P (hAV P (h3V P (hMV P x x)) A) (hIV P (hAV P y y)) % M256 = _
      rw [hMV_of (rB_hA hp _ _) (rB_hI (rB_hA hp _ _)), e12, e13, mod_M l12]
    have l13 : x13 < x8 := by
      have := rB_hI (m := P) (b := x11) (by rw [← dD]; exact hd)
      rw [hIV_of (by rw [← dD]; exact hd)] at this
      exact rB_iff.1 this
    have l14 : x14 < x8 := by rw [← dV]; exact ls
    obtain ⟨t1, t2, t3, t4, t5⟩ := rTail (a15 := x15) (a16 := x16) (a17 := x17) (a18 := x18) (a19 := x19) hs hx hy hz rfl rfl (by rw [dV]) rfl rfl
    refine ⟨⟨by decide, by decide⟩, n0, n0, rB_iff.1 hx, rB_iff.1 hx, n0, by rw [show x9 = 3 % x8 from md _]; exact lt _, by rw [show x10 = x5 * x5 % x8 from md _]; exact lt _, n0, n0, by rw [show x11 % M256 = x11 from md _]; exact lt _, fun k => ?_, fun k => ?_⟩
    · rw [← dI] at k
      have k : okI (slD P x y false z w false) P = false := by simpa using k
      exact key (0, 0, false) false (none' k) (o1.trans k) _ _ _ _ rfl rfl rfl rfl
    · rw [← dI] at k
      have k : okI (slD P x y false z w false) P = true := by simpa using k
      refine ⟨n0, l12, l13, n0, l14, l14, n0, Nat.le_of_lt t1, n0, Nat.le_of_lt t3, n0, n0, l14, t4, Nat.le_of_lt (rB_iff.1 hy), n0, ?_⟩
      rw [dV] at t5
      exact key _ true (fine k) (o1.trans k) _ _ _ _ t2 t5 rfl rfl
  · have hsame : samePt x y false z w false = false := hsame
    have e20 : x20 = hSV P z x := by
      show (x1 + (if x5 = 0 then 0 else x8 - x5) % M256) % x8 = _
      rw [opp_M hp (rB_iff.1 hx), opp_sub (rB_iff.1 hz) (rB_iff.1 hx), hSV_of hz hx]
    have e21 : x21 = hSV P w y := by
      show (x3 + x19) % x8 % M256 = _
      rw [e19, opp_sub (rB_iff.1 hw) (rB_iff.1 hy), md, hSV_of hw hy]
    have dD : slD P x y false z w false = x20 := by unfold slD; rw [hsame, e20]; rfl
    have dI : okI (slD P x y false z w false) P = rivB x20 P := by rw [dD, okI_gcd (dD ▸ hd)]; rfl
    have l20 : x20 < x8 := lt _
    have l21 : x21 < x8 := by show _ % x8 % M256 < _; rw [md]; exact lt _
    have l22 : x22 < x8 := by
      have := rB_hI (m := P) (b := x20) (by rw [← dD]; exact hd)
      rw [hIV_of (by rw [← dD]; exact hd)] at this
      exact rB_iff.1 this
    have dV : slV P A x y false z w false % M256 = x23 := by
      unfold slV
      rw [hsame]
      show hMV P (hSV P w y) (hIV P (hSV P z x)) % M256 = _
      rw [hMV_of (rB_hS hp _ _) (rB_hI (rB_hS hp _ _)), ← e21, ← e20, hIV_of (by rw [← dD]; exact hd), mod_M l21]
    have l23 : x23 < x8 := by rw [← dV]; exact ls
    obtain ⟨t1, t2, t3, t4, t5⟩ := rTail (a15 := x15) (a16 := x16) (a17 := x24) (a18 := x25) (a19 := x19) hs hx hy hz rfl rfl (by rw [dV]) rfl rfl
    refine ⟨by rw [mod_M l20]; exact l20, fun k => ?_, fun k => ?_⟩
    · rw [← dI] at k
      have k : okI (slD P x y false z w false) P = false := by simpa using k
      exact key (0, 0, false) false (none' k) (o1.trans k) _ _ _ _ rfl rfl rfl rfl
    · rw [← dI] at k
      have k : okI (slD P x y false z w false) P = true := by simpa using k
      refine ⟨n0, l21, l22, n0, l23, l23, n0, Nat.le_of_lt t1, n0, Nat.le_of_lt t3, n0, n0, l23, t4, Nat.le_of_lt (rB_iff.1 hy), n0, ?_⟩
      rw [dV] at t5
      exact key _ true (fine k) (o1.trans k) _ _ _ _ t2 t5 rfl rfl
end Go.Proofs.Yteimeidpcgebkaa
end

section
namespace Go.Proofs.Yteimeidpcgebkaa
open Go Go.Sx Go.RowKit
set_option maxRecDepth 100000
def shAd : List AP := [.str pCv, .str pPt, .str pPt]
def adC : List (List At) → List Prop
  | [[.u _, .u _, .u _, .u _, .u _, .u _, .b _], [.u _, .u _, .b _], [.u _, .u _, .b _]] => []
  | _ => [False]
def adB (P A B N X Y : Nat) (F : Bool) (x y : Nat) (f : Bool) (z w : Nat) (g : Bool) : Bool := gdB P A B N X Y F && isOnB P A B x y f && isOnB P A B z w g && smB P A x y f z w g
def adR (P A B N X Y : Nat) (F : Bool) (x y : Nat) (f : Bool) (z w : Nat) (g : Bool) : Pt := cond (adB P A B N X Y F x y f z w g) (smV P A x y f z w g) (0, 0, false)
def adG : List (List At) → SV
  | [[.u P, .u A, .u B, .u N, .u X, .u Y, .b F], [.u x, .u y, .b f], [.u z, .u w, .b g]] => .tup [ptS (adR P A B N X Y F x y f z w g), sI .i64 (nt (adB P A B N X Y F x y f z w g) 0)]
  | _ => .tup []
def cAd : FSpec := specA shAd adC adG
def cxCA : Cx := [(6, cAd), (7, cAd)]
theorem vc_CurveAdds (P A B N X Y x y z w : Nat) (F f g : Bool) :
    Owes Try.prog cxCA [] 10 Try.f3 [sCv P A B N X Y F, sPt x y f, sPt z w g] yes =
    (let x1 : Nat := (adR P A B N X Y F x y f z w g).fst % M256; let x2 : Nat := (adR P A B N X Y F x y f z w g).snd.fst % M256; let x3 : Bool := (adR P A B N X Y F x y f z w g).snd.snd; let x4 : Bool := conj [x1 == x1, x2 == x2, x3 == x3]; let x5 : Int := nt (adB P A B N X Y F x y f z w g) (0 : Int); (x4 = Bool.true → x4 = Bool.true) ∧ (x4 = Bool.true → x4 = Bool.true) ∧ (x4 = Bool.true → x4 = Bool.true) ∧ (x4 && x5 == x5) = Bool.true) := by kernel_rfl
end Go.Proofs.Yteimeidpcgebkaa
end

section
namespace Go.Proofs.Yteimeidpcgebkaa
open Go Go.Sx Go.RowKit
set_option maxRecDepth 100000
def ofnB (P A k x y : Nat) (f : Bool) : Bool := (mlS P A k (x, y, f) 0 256).2 == 0
def muB (P A B N X Y : Nat) (F : Bool) (k x y : Nat) (f : Bool) : Bool := gdB P A B N X Y F && isOnB P A B x y f && ofnB P A k x y f
def muR (P A B N X Y : Nat) (F : Bool) (k x y : Nat) (f : Bool) : Pt := cond (muB P A B N X Y F k x y f) (mlS P A k (x, y, f) 0 256).1 (0, 0, false)
def mulG : List (List At) → SV
  | [[.u P, .u A, .u B, .u N, .u X, .u Y, .b F], [.u k], [.u x, .u y, .b f]] => .tup [ptS (muR P A B N X Y F k x y f), sI .i64 (nt (muB P A B N X Y F k x y f) 0)]
  | _ => .tup []
end Go.Proofs.Yteimeidpcgebkaa
end

section
namespace Go.Proofs.Yteimeidpcgebkaa
open Go Go.Sx Go.RowKit
def Sta (h : Int → Int) : Prop := (∀ n, h n = n) ∨ ∀ n, h n = 16
theorem Sta.nt (b : Bool) : Sta (nt b) := by
  cases b
  · exact .inr fun _ => rfl
  · exact .inl fun _ => rfl
theorem Sta.id : Sta fun n => n := .inl fun _ => rfl
theorem Sta.comp {h g : Int → Int} (hh : Sta h) (hg : Sta g) : Sta fun n => h (g n) := by
  rcases hh with a | a
  · rcases hg with b | b
    · exact .inl fun n => by show h (g n) = n; rw [a, b]
    · exact .inr fun n => by show h (g n) = 16; rw [a, b]
  · exact .inr fun n => a _
theorem Sta.cond {h g : Int → Int} (b : Bool) (hh : Sta h) (hg : Sta g) : Sta fun n => cond b (h n) (g n) := by
  cases b
  · exact hg
  · exact hh
theorem sta_h3 (m a : Nat) : Sta (h3T m a) := (Sta.nt _).comp (Sta.nt _)
theorem sta_hD (m a b : Nat) : Sta (hDT m a b) := (Sta.nt _).comp (Sta.nt _)
theorem sta_sl (m A x y : Nat) (f : Bool) (z w : Nat) (g : Bool) : Sta (slT m A x y f z w g) :=
  Sta.cond (samePt x y f z w g) (g := fun n => hDT m (hSV m w y) (hSV m z x) (nt (okF z x m) (nt (okF w y m) n))) ((sta_hD _ _ _).comp ((Sta.nt _).comp ((Sta.nt _).comp ((sta_h3 _ _).comp (Sta.nt _))))) ((sta_hD _ _ _).comp ((Sta.nt _).comp (Sta.nt _)))
theorem sta_th (m s x y z : Nat) : Sta (thT m s x y z) := (Sta.nt _).comp ((Sta.nt _).comp ((Sta.nt _).comp ((Sta.nt _).comp ((Sta.nt _).comp (Sta.nt _)))))
theorem sta_sm (m A x y : Nat) (f : Bool) (z w : Nat) (g : Bool) : Sta (smT m A x y f z w g) :=
  Sta.cond f (h := fun n => n) Sta.id (Sta.cond g (h := fun n => n) Sta.id (Sta.cond _ (Sta.cond _ (Sta.nt _) ((sta_th _ _ _ _ _).comp ((sta_sl _ _ _ _ _ _ _ _).comp (Sta.nt _)))) ((sta_th _ _ _ _ _).comp (sta_sl _ _ _ _ _ _ _ _))))
theorem Sta.sixteen {h : Int → Int} (a : Sta h) : h 16 = 16 := by rcases a with a | a <;> exact a _
section
variable {P A k : Nat} {p : Pt}
theorem rtg_of {A x y z w : Nat} {f g : Bool} (hA : rB A P = true) (h1 : inB P x y f = true) (h2 : inB P z w g = true) : rtgP P A x y f z w g := by
  refine ⟨rB_iff.1 hA, fun h => ?_, fun h => ?_⟩
  · subst h
    have := Bool.and_eq_true _ _ ▸ (show (rB x P && rB y P) = true from h1)
    exact ⟨rB_iff.1 this.1, rB_iff.1 this.2⟩
  · subst h
    have := Bool.and_eq_true _ _ ▸ (show (rB z P && rB w P) = true from h2)
    exact ⟨rB_iff.1 this.1, rB_iff.1 this.2⟩
end
theorem card_refTg : FnOK Try.prog 18 cRtg :=
  FnOK_A (cx := cxTg) (CxOK_cons card_refIsZ (CxOK_cons card_refPro (CxOK_cons card_refTot (CxOK_cons card_refOpp (CxOK_cons card_refBy (CxOK_cons card_refInv CxOK_nil)))))) (iv := fun _ => []) (N := 10) Try.func18 (by kernel_rfl) (by kernel_rfl) (fun ls => by
    unfold rtgG
    split
    · exact bnd_two (bnd_pt _) (bnd_B _)
    · exact bnd_none) fun ls vs hc => by
    unfold rtgC at hc
    split at hc
    · rename_i P A B N X Y F x y f z w g
      exact ok_refTg P A B N X Y x y z w F f g hc.1
    · exact hc.1.elim
end Go.Proofs.Yteimeidpcgebkaa
end

section
namespace Go.Proofs.Yteimeidpcgebkaa
open Go Go.Sx Go.RowKit
theorem tdV_nt (b : Bool) (s : Pt) : tdV (nt b 0) s = cond b s (0, 0, false) := by cases b <;> rfl
theorem ad_note (P A B N X Y : Nat) (F : Bool) (x y : Nat) (f : Bool) (z w : Nat) (g : Bool) :
    smT P A x y f z w g (havT P A B z w g (havT P A B x y f (ckE P A B N X Y F))) = nt (adB P A B N X Y F x y f z w g) 0 := by
  rw [on_eq]
  unfold adB
  cases gd : gdB P A B N X Y F with
  | false =>
    show smT P A x y f z w g (havT P A B z w g 16) = 16
    rw [havT_16, (sta_sm ..).sixteen]
  | true =>
    obtain ⟨_, _, hA, hB, _⟩ := gdB_A gd
    rw [havT_eq hA hB, isOn_ha hA, isOn_ha hA]
    cases h1 : haB P A B x y f with
    | false =>
      have e : nt (haB P A B z w g) (nt (true && false) 0) = 16 := by cases haB P A B z w g <;> rfl
      rw [e, (sta_sm ..).sixteen]
      rfl
    | true =>
      cases h2 : haB P A B z w g with
      | false =>
        have e : nt false (nt (true && true) 0) = 16 := rfl
        rw [e, (sta_sm ..).sixteen]
        rfl
      | true =>
        have h := rtg_of hA (haB_in h1) (haB_in h2)
        have e : nt true (nt (true && true) 0) = 0 := rfl
        rw [e, smT_eq h, ← smB_eq h]
        rfl
theorem ok_cAd (ls : List (List At)) (vs : List (Option Addr)) (hc : Ok (adC ls)) : OwesU Try.prog cyAdd2 [] [] 10 Try.f6 (mkArgs shAd ls vs) (adG ls) := by
  unfold adC at hc
  split at hc
  · rename_i P A B N X Y F x y f z w g
    show OwesU Try.prog cyAdd2 [] [] 10 Try.f6 [sCv P A B N X Y F, sPt x y f, sPt z w g] (.tup [sPt (adR P A B N X Y F x y f z w g).1 (adR P A B N X Y F x y f z w g).2.1 (adR P A B N X Y F x y f z w g).2.2, sI .i64 (nt (adB P A B N X Y F x y f z w g) 0)])
    rw [wc_Add]
    have e := ad_note P A B N X Y F x y f z w g
    have e2 := tdV_nt (adB P A B N X Y F x y f z w g) (smV P A x y f z w g)
    intro x1
    have e1 : x1 = nt (adB P A B N X Y F x y f z w g) 0 := e
    rw [e1]
    show ((tdV (nt (adB P A B N X Y F x y f z w g) 0) (smV P A x y f z w g)).1 % M256 = _ ∧ (tdV (nt (adB P A B N X Y F x y f z w g) 0) (smV P A x y f z w g)).2.1 % M256 = _ ∧ (tdV (nt (adB P A B N X Y F x y f z w g) 0) (smV P A x y f z w g)).2.2 = _ ∧ True) ∧ _
    rw [e2]
    exact ⟨⟨rfl, rfl, rfl, trivial⟩, rfl⟩
  · exact hc.1.elim
theorem bnd_adG (ls : List (List At)) : (adG ls).bnd none0 := by
  unfold adG
  split
  · exact bnd_pte _ _
  · exact bnd_none
theorem xcard_Add : FnOK Try.prog 6 cAd :=
  FnOKU_A (cx := cyAdd2) (iv := fun _ => []) (CxOK_wcons wcard_be (CxOK_wcons wcard_have (CxOK_wcons wcard_sum (CxOK_wcons wcard_told CxOK_wnil)))) wNone Try.func6 (by kernel_rfl) (by kernel_rfl) bnd_adG ok_cAd
theorem ok_refAd (ls : List (List At)) (vs : List (Option Addr)) (hc : Ok (adC ls)) : Owes Try.prog cxRAd [] 10 Try.f7 (mkArgs shAd ls vs) (adG ls) := by
  unfold adC at hc
  split at hc
  · rename_i P A B N X Y F x y f z w g
    show Owes Try.prog cxRAd [] 10 Try.f7 [sCv P A B N X Y F, sPt x y f, sPt z w g] (.tup [sPt (adR P A B N X Y F x y f z w g).1 (adR P A B N X Y F x y f z w g).2.1 (adR P A B N X Y F x y f z w g).2.2, sI .i64 (nt (adB P A B N X Y F x y f z w g) 0)])
    rw [vc_refAdd, ck_ne]
    have hs : gdB P A B N X Y F = true → isOnB P A B x y f = true → isOnB P A B z w g = true → rtgP P A x y f z w g := fun gd h1 h2 => by
      obtain ⟨_, _, hA, hB, _⟩ := gdB_A gd
      rw [isOn_ha hA] at h1 h2
      exact rtg_of hA (haB_in h1) (haB_in h2)
    unfold adR adB smR
    revert hs
    cases gdB P A B N X Y F <;> cases isOnB P A B x y f <;> cases isOnB P A B z w g <;> cases smB P A x y f z w g <;> intro hs x1 x2 x3 x4 <;>
      refine ⟨id, id, id, fun h => ?_, id, id, id, fun h => ?_, fun h => ?_, fun h => ?_⟩ <;>
      first
      | rfl
      | exact absurd (show true = false from h) (by decide)
      | exact absurd (show false = true from h) (by decide)
      | exact ⟨⟨rfl, rfl, rfl, trivial⟩, rfl⟩
      | exact ⟨hs rfl rfl rfl, fun _ => ⟨⟨rfl, rfl, rfl, trivial⟩, rfl⟩, fun h => by cases h⟩
      | exact ⟨hs rfl rfl rfl, fun h => (by cases h), fun _ => ⟨⟨rfl, rfl, rfl, trivial⟩, rfl⟩⟩
  · exact hc.1.elim
theorem card_refAd : FnOK Try.prog 7 cAd :=
  FnOK_A (cx := cxRAd) (CxOK_cons card_refCF (CxOK_cons card_refIsOn (CxOK_cons card_refTg CxOK_nil))) (iv := fun _ => []) (N := 10) Try.func7 (by kernel_rfl) (by kernel_rfl) bnd_adG ok_refAd
theorem ok_CurveAdds (P A B N X Y : Nat) (F : Bool) (x y : Nat) (f : Bool) (z w : Nat) (g : Bool) : Owes Try.prog cxCA [] 10 Try.f3 [sCv P A B N X Y F, sPt x y f, sPt z w g] yes := by
  rw [vc_CurveAdds]
  intro x1 x2 x3 x4 x5
  have e : x4 = true := by
    show conj [x1 == x1, x2 == x2, x3 == x3] = true
    rw [conj_all]
    simp
  refine ⟨id, id, id, ?_⟩
  rw [e, beq_self_eq_true]; rfl
theorem cxok_CA : CxOK Try.prog cxCA := CxOK_cons xcard_Add (CxOK_cons card_refAd CxOK_nil)
end Go.Proofs.Yteimeidpcgebkaa
end
