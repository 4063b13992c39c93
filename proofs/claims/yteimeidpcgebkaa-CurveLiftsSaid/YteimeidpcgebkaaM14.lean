/-
  Texts: P121, P122, P123, P124, P125, V77, P126, P127, P128.
-/
import Derived.Test.YteimeidpcgebkaaM1
import Derived.Test.YteimeidpcgebkaaM2
import Derived.Test.YteimeidpcgebkaaM3
import Derived.Test.YteimeidpcgebkaaM4
import Derived.Test.YteimeidpcgebkaaM5
import Derived.Test.YteimeidpcgebkaaM6
import Derived.Test.YteimeidpcgebkaaM7
import Derived.Test.YteimeidpcgebkaaM8
import Derived.Test.YteimeidpcgebkaaM9
import Derived.Test.YteimeidpcgebkaaM10
import Derived.Test.YteimeidpcgebkaaM11
import Derived.Test.YteimeidpcgebkaaM12
import Derived.Test.YteimeidpcgebkaaM13
section
namespace Go.Proofs.Yteimeidpcgebkaa
open Go.Sx
def rB (a m : Nat) : Bool := decide (a % M256 < m % M256)
theorem rB_iff {a m : Nat} : rB a m = true ↔ a % M256 < m % M256 := decide_eq_true_iff
theorem nt_nt (a b : Bool) (n : Int) : nt a (nt b n) = nt (b && a) n := by cases a <;> cases b <;> rfl
theorem okF_b (a b m : Nat) : okF a b m = (rB a m && rB b m) := by
  unfold okF fE rB
  by_cases h0 : m % M256 = 0
  · rw [if_pos h0, decide_eq_false (by omega)]
    rfl
  · rw [if_neg h0]
    by_cases h1 : a % M256 < m % M256
    · by_cases h2 : b % M256 < m % M256
      · rw [if_pos ⟨h1, h2⟩, decide_eq_true h1, decide_eq_true h2]; rfl
      · rw [if_neg (fun h => h2 h.2), decide_eq_true h1, decide_eq_false h2]; rfl
    · rw [if_neg (fun h => h1 h.1), decide_eq_false h1]; rfl
theorem fE_b {a b m : Nat} (h1 : rB a m = true) (h2 : rB b m = true) : fE a b m = 0 := fE_zero (rB_iff.1 h1) (rB_iff.1 h2)
theorem rB_pos {a m : Nat} (h : rB a m = true) : 0 < m % M256 := Nat.lt_of_le_of_lt (Nat.zero_le _) (rB_iff.1 h)
theorem mdM {m : Nat} (h : 0 < m % M256) (v : Nat) : v % (m % M256) % M256 = v % (m % M256) := mod_M (Nat.mod_lt v h)
theorem rB_mod {m : Nat} (h : 0 < m % M256) (v : Nat) : rB (v % (m % M256)) m = true := by rw [rB_iff, mdM h]; exact Nat.mod_lt v h
theorem rB_zero {m : Nat} (h : 0 < m % M256) : rB 0 m = true := by rw [rB_iff, Nat.zero_mod]; exact h
theorem rB_no {a m : Nat} (h : ¬ 0 < m % M256) : rB a m = false := by unfold rB; exact decide_eq_false (by omega)
theorem rB_hM {m : Nat} (h : 0 < m % M256) (a b : Nat) : rB (hMV m a b) m = true := by
  unfold hMV; split
  · exact rB_mod h _
  · exact rB_zero h
theorem rB_hA {m : Nat} (h : 0 < m % M256) (a b : Nat) : rB (hAV m a b) m = true := by
  unfold hAV; split
  · exact rB_mod h _
  · exact rB_zero h
theorem rB_h3 {m : Nat} (h : 0 < m % M256) (a : Nat) : rB (h3V m a) m = true := rB_hA h _ _
theorem hMV_of {a b m : Nat} (h1 : rB a m = true) (h2 : rB b m = true) : hMV m a b = a % M256 * (b % M256) % (m % M256) := if_pos (fE_b h1 h2)
theorem hAV_of {a b m : Nat} (h1 : rB a m = true) (h2 : rB b m = true) : hAV m a b = (a % M256 + b % M256) % (m % M256) := if_pos (fE_b h1 h2)
theorem hSV_of {a b m : Nat} (h1 : rB a m = true) (h2 : rB b m = true) : hSV m a b = (a % M256 + m % M256 - b % M256) % (m % M256) := if_pos (fE_b h1 h2)
theorem h3V_of {a m : Nat} (h1 : rB a m = true) : h3V m a = tw3 (m % M256) (a % M256) := by
  have hp := rB_pos h1
  unfold h3V tw3
  rw [hAV_of h1 (rB_hA hp _ _), hAV_of h1 h1, mdM hp]
theorem h3T_eq (m a : Nat) (n : Int) : h3T m a n = nt (rB a m) n := by
  unfold h3T
  by_cases hp : 0 < m % M256
  · simp only [nt_nt, okF_b, rB_hA hp]
    cases rB a m <;> rfl
  · simp only [nt_nt, okF_b, rB_no hp, Bool.false_and]
theorem rgtT_eq (m A B x : Nat) (n : Int) : rgtT m A B x n = nt (rB x m && (rB A m && rB B m)) n := by
  unfold rgtT
  by_cases hp : 0 < m % M256
  · simp only [nt_nt, okF_b, rB_hA hp, rB_hM hp]
    cases rB x m <;> cases rB A m <;> cases rB B m <;> rfl
  · simp only [nt_nt, okF_b, rB_no hp, Bool.false_and]
theorem rgtV_of {m A B x : Nat} (hx : rB x m = true) (hA : rB A m = true) (hB : rB B m = true) : rgtV m A B x = rhsN (m % M256) (A % M256) (B % M256) (x % M256) := by
  have hp := rB_pos hx
  unfold rgtV rhsN
  rw [hAV_of (rB_hA hp _ _) hB, hAV_of (rB_hM hp _ _) (rB_hM hp _ _), hMV_of hx (rB_hM hp _ _), hMV_of hx hx, hMV_of hA hx]
  simp only [mdM hp]
theorem slpT_eq (m A B : Nat) (n : Int) : slpT m A B n = nt (rB A m && rB B m) n := by
  unfold slpT
  by_cases hp : 0 < m % M256
  · simp only [h3T_eq, nt_nt, okF_b, rB_hA hp, rB_hM hp, rB_h3 hp]
    cases rB A m <;> cases rB B m <;> rfl
  · simp only [h3T_eq, nt_nt, okF_b, rB_no hp, Bool.false_and]
theorem slpV_of {m A B : Nat} (hA : rB A m = true) (hB : rB B m = true) : slpV m A B = slopesN (m % M256) (A % M256) (B % M256) := by
  have hp := rB_pos hA
  unfold slpV slopesN
  rw [hAV_of (rB_hA hp _ _) (rB_h3 hp _), hAV_of (rB_hA hp _ _) (rB_hA hp _ _), hAV_of (rB_hM hp _ _) (rB_hM hp _ _), hMV_of hA (rB_hM hp _ _), hMV_of hA hA, h3V_of (rB_h3 hp _), h3V_of (rB_h3 hp _), h3V_of (rB_hM hp _ _), hMV_of hB hB]
  unfold tw3
  simp only [mdM hp]
def haB (m A B x y : Nat) (f : Bool) : Bool := cond f (x % M256 == 0 && y % M256 == 0) (rB x m && (rB y m && (y % M256 * (y % M256) % (m % M256) == rhsN (m % M256) (A % M256) (B % M256) (x % M256))))
theorem havT_eq {m A B : Nat} (hA : rB A m = true) (hB : rB B m = true) (x y : Nat) (f : Bool) (n : Int) : havT m A B x y f n = nt (haB m A B x y f) n := by
  have hp := rB_pos hA
  unfold havT haB
  cases f with
  | true => rfl
  | false =>
    show nt _ (rgtT m A B x (nt (okF y y m) n)) = _
    rw [rgtT_eq, nt_nt, nt_nt, okF_b, hA, hB]
    cases hx : rB x m
    · cases rB y m <;> rfl
    · cases hy : rB y m
      · rfl
      · rw [hMV_of hy hy, rgtV_of hx hA hB, mdM hp, show rhsN (m % M256) (A % M256) (B % M256) (x % M256) % M256 = rhsN (m % M256) (A % M256) (B % M256) (x % M256) from mdM hp _]
        rfl
def gdB (P A B N X Y : Nat) (F : Bool) : Bool :=
  decide (3 < P % M256) && (decide (P % M256 % 4 = 3) && (rB A P && (rB B P && (decide (1 < N % M256) && (!(slopesN (P % M256) (A % M256) (B % M256) == 0) && (!F && haB P A B X Y F))))))
theorem havT_16 (m A B x y : Nat) (f : Bool) : havT m A B x y f 16 = 16 := by
  have h16 : ∀ b, nt b 16 = 16 := fun b => by cases b <;> rfl
  unfold havT
  rw [h16, h16, rgtT_eq, h16, h16]
  cases f <;> rfl
theorem ckE_eq (P A B N X Y : Nat) (F : Bool) : ckE P A B N X Y F = nt (gdB P A B N X Y F) 0 := by
  unfold ckE mbeT gdB
  rw [slpT_eq]
  cases hA : rB A P with
  | false =>
    simp only [nt_nt, Bool.false_and, Bool.and_false]
    exact havT_16 _ _ _ _ _ _
  | true => cases hB : rB B P with
    | false =>
      simp only [nt_nt, Bool.false_and, Bool.and_false]
      exact havT_16 _ _ _ _ _ _
    | true =>
      have hp := rB_pos hA
      rw [havT_eq hA hB, slpV_of hA hB, show slopesN (P % M256) (A % M256) (B % M256) % M256 = slopesN (P % M256) (A % M256) (B % M256) from mdM hp _]
      simp only [nt_nt]
      congr 1
      cases decide (3 < P % M256) <;> cases decide (P % M256 % 4 = 3) <;> cases decide (1 < N % M256) <;> cases (slopesN (P % M256) (A % M256) (B % M256) == 0) <;> cases F <;> simp
theorem gdB_A {P A B N X Y : Nat} {F : Bool} (h : gdB P A B N X Y F = true) : 3 < P % M256 ∧ P % M256 % 4 = 3 ∧ rB A P = true ∧ rB B P = true ∧ 1 < N % M256 ∧ haB P A B X Y F = true ∧ F = false := by
  unfold gdB at h
  simp only [Bool.and_eq_true, decide_eq_true_eq, Bool.not_eq_true'] at h
  exact ⟨h.1, h.2.1, h.2.2.1, h.2.2.2.1, h.2.2.2.2.1, h.2.2.2.2.2.2.2, h.2.2.2.2.2.2.1⟩
end Go.Proofs.Yteimeidpcgebkaa
end

section
namespace Go.Proofs.Yteimeidpcgebkaa
open Go.Sx
theorem conj_one (a : Bool) : conj [a] = a := by rw [conj_all]; simp
theorem bnd_pt (p : Pt) : (ptS p).bnd none0 := by
  intro k hk
  simp only [List.mem_cons, List.not_mem_nil, or_false] at hk
  rcases hk with rfl | rfl | rfl <;> trivial
theorem bnd_pte (p : Pt) (e : Int) : SV.bnd none0 (.tup [ptS p, sI .i64 e]) := bnd_two (bnd_pt p) (bnd_I _ _)
theorem ok_Td (ls : List (List At)) (e : Int) (hc : Ok (tdC ls)) : OwesW Try.prog .none [] [] 10 Try.f14 (mkArgsW [.hand, .str pPt] ls) tErr .i64 e (tdG ls e) e := by
  unfold tdC at hc
  split at hc
  · rename_i m x y f
    show OwesW Try.prog .none [] [] 10 Try.f14 [sHd m, sPt x y f] tErr .i64 e (.tup [sPt (tdV e (x, y, f)).1 (tdV e (x, y, f)).2.1 (tdV e (x, y, f)).2.2, sI .i64 e]) e
    rw [wc_told]
    refine ⟨fun h => ?_, fun h => ?_⟩
    · have h : e ≠ 0 := by simpa using h
      unfold tdV
      rw [if_neg h]
      exact ⟨⟨⟨rfl, rfl, rfl, trivial⟩, rfl⟩, rfl⟩
    · have h : e = 0 := by simpa using h
      subst h
      exact ⟨⟨⟨rfl, rfl, rfl, trivial⟩, rfl⟩, rfl⟩
  · exact hc.1.elim
theorem wcard_told : FnOKw Try.prog [] 14 cTd :=
  FnOKw_N (cx := .none) (iv := fun _ => []) CxOK_wnil (fun p hp => by cases hp) Try.func14 (by kernel_rfl) (by kernel_rfl) (fun ls e => by unfold tdG; split; exact bnd_two (bnd_pt (_, _, _)) trivial; exact bnd_none) ok_Td
end Go.Proofs.Yteimeidpcgebkaa
end

section
namespace Go.Proofs.Yteimeidpcgebkaa
open Go Go.Sx Go.RowKit
theorem cmpI_lt' (a b : Nat) : decide (cmpI a b < 0) = decide (a < b) := by
  unfold cmpI
  split
  · rename_i h; rw [decide_eq_true h]; rfl
  · rename_i h
    rw [decide_eq_false h]
    split <;> rfl
theorem cmpI_gt' (a b : Nat) : decide (cmpI a b > 0) = decide (b < a) := by
  unfold cmpI
  split
  · rename_i h; rw [decide_eq_false (show ¬ b < a by omega)]; rfl
  · split
    · rename_i h; rw [decide_eq_true h]; rfl
    · rename_i h; rw [decide_eq_false h]; rfl
theorem limb_and (P : Nat) : (IntKind.u64.wrap ((BitVec.ofInt 64 (limb P 0) &&& BitVec.ofInt 64 3).toNat : Int) == (3 : Int)) = decide (P % M256 % 4 = 3) := by
  have e : limb P 0 = ((P / 2 ^ (64 * 0) % 2 ^ 64 : Nat) : Int) := rfl
  have e2 : (P / 2 ^ (64 * 0) % 2 ^ 64 : Nat) = P % 18446744073709551616 := by rw [Nat.mul_zero, Nat.pow_zero, Nat.div_one]
  have e3 : (BitVec.ofInt 64 ((P % 18446744073709551616 : Nat) : Int) &&& BitVec.ofInt 64 3).toNat = P % 18446744073709551616 % 4 := by
    rw [BitVec.toNat_and, BitVec.toNat_ofInt, BitVec.toNat_ofInt]
    have a : (((P % 18446744073709551616 : Nat) : Int) % ((2 ^ 64 : Nat) : Int)).toNat = P % 18446744073709551616 := by omega
    have b : ((3 : Int) % ((2 ^ 64 : Nat) : Int)).toNat = 2 ^ 2 - 1 := by decide
    rw [a, b, Nat.and_two_pow_sub_one_eq_mod]
  rw [e, e2, e3]
  have hM := M256_eq
  have w : IntKind.u64.wrap ((P % 18446744073709551616 % 4 : Nat) : Int) = ((P % 18446744073709551616 % 4 : Nat) : Int) := by
    rw [IntKind.wrap_u64]; omega
  rw [w, Bool.eq_iff_iff, beq_iff_eq, decide_eq_true_iff]
  have q : P % M256 % 4 = P % 18446744073709551616 % 4 := by rw [hM]; omega
  omega
theorem vn_two {g : Nat → Int} {n : Int} (h : 0 ≤ n ∧ n < 18446744073709551616) (h0 : g 0 = n % 4294967296) (h1 : g 1 = n / 4294967296) : vn 2 g = n.toNat ∧ dgs 2 g := by
  constructor
  · unfold vn
    simp only [vz, h0, h1]
    omega
  · refine ⟨fun i hi => ?_⟩
    rcases (show i = 0 ∨ i = 1 by omega) with rfl | rfl
    · rw [h0]; omega
    · rw [h1]; omega
theorem ok_refBy (n : Int) (m : Nat) (h : 0 ≤ n ∧ n < 18446744073709551616) (hm : m % M256 ≠ 0) : OwesV Try.prog .none slRest [] 4 Try.f42 [sI .u64 n, sU m] (rbyG n m) := by
  rw [vc_refBy]
  have e1 : n.tmod 4294967296 = n % 4294967296 := by rw [Int.tmod_eq_emod_of_nonneg h.1]
  have e2 : IntKind.u64.wrap (n.tdiv 4294967296) = n / 4294967296 := by
    rw [Int.tdiv_eq_ediv_of_nonneg h.1, IntKind.wrap_u64]; omega
  intro x1
  have hM := Nat.mod_lt m M_pos
  obtain ⟨v1, v2⟩ := vn_two (g := fun i => (intsL [SK.c (SC.val (.int .u64 (n.tmod 4294967296))), SK.c (SC.val (.int .u64 (IntKind.u64.wrap (n.tdiv 4294967296))))]).getD i 0) h e1 e2
  refine ⟨Nat.le_refl _, fun _ => ⟨fun _ => trivial, v2, by decide, hm, ?_, trivial⟩⟩
  have v1' : (vn 2 fun i => (intsL [SK.c (SC.val (.int .u64 (n.tmod 4294967296))), SK.c (SC.val (.int .u64 (IntKind.u64.wrap (n.tdiv 4294967296))))]).getD i 0) = n.toNat := v1
  rw [v1']
theorem FnOKV_WU {cx : Cx} {sl : List (Nat × SSpec)} {f : Nat} {fn : Func} (hcx : CxOK Try.prog cx) (hsl : ∀ p ∈ sl, FnOKs Try.prog cx.gl p.1 p.2) (hf : Try.prog.funcs[f]? = some fn) (hb : fn.body.isSome = true) (hn : (fn.name == "runtime.NumGoroutine") = false) {c : Int → Nat → List Prop} {g : Int → Nat → SV} {N : Nat} (hg : ∀ a b, (g a b).bnd none0)
    (h : ∀ a b, Ok (c a b) → OwesV Try.prog cx sl [] N fn [sI .u64 a, sU b] (g a b)) : FnOKg Try.prog cx.gl f (specWU c g) := by
  refine FnOK_owesV hcx hsl hf hb hn fun args ps sv hs hp => ?_
  unfold specWU at hs
  split at hs
  case h_2 => cases hs
  rename_i x y
  split at hs
  case h_2 => cases hs
  rename_i n p m hx hy
  simp only [Option.some.injEq, Prod.mk.injEq] at hs
  obtain ⟨rfl, rfl⟩ := hs
  obtain ⟨o1, o2⟩ := Ok.append.1 hp
  refine ⟨[], N, [sI .u64 n, sU m], fun ρ => by simp only [List.map_cons, List.map_nil, asI_canon hx ρ, asU_canon hy o1 ρ], fun fz _ z hz => ?_, hg n m, h n m o2⟩
  simp only [List.mem_cons, List.not_mem_nil, or_false] at hz
  rcases hz with rfl | rfl
  · exact trivial
  · exact bnd_Un _
theorem card_refBy : FnOK Try.prog 42 (specWU rbyC rbyG) :=
  FnOKV_WU cx_none sl_rest Try.func42 (by kernel_rfl) (by kernel_rfl) (fun _ _ => bnd_Un _) fun n m h => ok_refBy n m h.1 h.2.1
theorem card_refIsZ : FnOK Try.prog 43 (specU isZG) :=
  FnOK_U CxOK_nil (iv := []) (N := 10) Try.func43 (by kernel_rfl) (by kernel_rfl) (fun _ => bnd_one (bnd_B _)) fun a => by
    show Owes _ _ _ _ _ _ (isZG a)
    rw [vc_refIsZ]
    exact conj_one _
theorem ok_refRgt (ls : List (List At)) (vs : List (Option Addr)) (hc : Ok (rrgC ls)) : Owes Try.prog cxRrg [] 10 Try.f34 (mkArgs [.str pCv, .str [.u]] ls vs) (rrgG ls) := by
  unfold rrgC at hc
  split at hc
  · rename_i P A B N X Y F x
    show Owes Try.prog cxRrg [] 10 Try.f34 [sCv P A B N X Y F, sU x] (rrgG [[.u P, .u A, .u B, .u N, .u X, .u Y, .b F], [.u x]])
    rw [vc_refRgt]
    have h : x % M256 < P % M256 := hc.1
    have hp : 0 < P % M256 := Nat.lt_of_le_of_lt (Nat.zero_le _) h
    have lt := fun v => Nat.mod_lt v hp
    have md := mdM hp
    intro x1 x2 x3 x4 x5 x6
    have e3 : x3 % M256 = x3 := md _
    have e5 : x5 = (x3 + x4) % x1 := by show (x3 % M256 + x4) % x1 % M256 = _; rw [e3]; exact md _
    have e6 : x2 * x5 % x1 % M256 = x2 * x5 % x1 := md _
    refine ⟨by show P % M256 ≠ 0; omega, h, h, by show P % M256 ≠ 0; omega, by show P % M256 ≠ 0; omega, h, by rw [e5]; exact lt _, by show P % M256 ≠ 0; omega, ?_, trivial⟩
    rw [e6, e5]
  · exact hc.1.elim
theorem card_refRgt : FnOK Try.prog 34 cRrg :=
  FnOK_A (CxOK_cons card_refPro (CxOK_cons card_refTot CxOK_nil)) (iv := fun _ => []) (N := 10) Try.func34 (by kernel_rfl) (by kernel_rfl) (fun ls => by unfold rrgG; split; exact bnd_one (bnd_U _); exact bnd_none) ok_refRgt
theorem ok_refIsOn (ls : List (List At)) (vs : List (Option Addr)) (hc : Ok (isOC ls)) : Owes Try.prog cxIsOn [] 10 Try.f17 (mkArgs [.str pCv, .str pPt] ls vs) (isOnG ls) := by
  unfold isOC at hc
  split at hc
  · rename_i P A B N X Y F x y f
    show Owes Try.prog cxIsOn [] 10 Try.f17 [sCv P A B N X Y F, sPt x y f] (isOnG [[.u P, .u A, .u B, .u N, .u X, .u Y, .b F], [.u x, .u y, .b f]])
    rw [vc_refIsOn]
    intro x1 x2 x3 x4 x5 x6 x7 x8
    have e6 : x6 = decide (x1 < x4) := cmpI_lt' _ _
    have e8 : x8 = (decide (x1 < x4) && decide (x3 < x4)) := by
      show (x6 && decide (x7 < 0)) = _
      rw [e6, show decide (x7 < 0) = decide (x3 < x4) from cmpI_lt' _ _]
    have h8 : x8 = true → x1 < x4 ∧ x3 < x4 := fun h => by
      rw [e8, Bool.and_eq_true, decide_eq_true_eq, decide_eq_true_eq] at h; exact h
    refine ⟨fun h => ⟨id, id, id, ?_⟩, fun h => ⟨id, id, id, id, id, id, id, id, id, id, id, id, fun k => ?_, fun k => (h8 k).2, fun k => (h8 k).2, id, id, id, fun k => (h8 k).1, id, id, id, ?_⟩⟩
    · subst h; rfl
    · have := (h8 k).1; omega
    · subst h
      rw [e8, conj_one]
      show _ = (decide (x1 < x4) && (decide (x3 < x4) && (x3 * x3 % x4 == (x1 * ((x1 * x1 % x4 + A % M256) % x4) % x4 + B % M256) % x4)))
      cases h1 : decide (x1 < x4)
      · rfl
      · cases h3 : decide (x3 < x4)
        · rfl
        · have hp : 0 < P % M256 := Nat.lt_of_le_of_lt (Nat.zero_le _) (of_decide_eq_true h1)
          have m1 : x3 * x3 % x4 % M256 = x3 * x3 % x4 := mdM hp _
          have m2 : ∀ v, v % x4 % M256 = v % x4 := mdM hp
          rw [m1, m2]
          simp
  · exact hc.1.elim
theorem card_refIsOn : FnOK Try.prog 17 cIsOn :=
  FnOK_A (CxOK_cons card_refIsZ (CxOK_cons card_refOrd (CxOK_cons card_refPro (CxOK_cons card_refRgt CxOK_nil)))) (iv := fun _ => []) (N := 10) Try.func17 (by kernel_rfl) (by kernel_rfl) (fun ls => by unfold isOnG; split; exact bnd_one (bnd_B _); exact bnd_none) ok_refIsOn
theorem isOn_ha {P A B x y : Nat} {f : Bool} (hA : rB A P = true) : isOnB P A B x y f = haB P A B x y f := by
  unfold isOnB haB rB
  cases f with
  | true => rfl
  | false =>
    have e : (x % M256 * ((x % M256 * (x % M256) % (P % M256) + A % M256) % (P % M256)) % (P % M256) + B % M256) % (P % M256) = rhsN (P % M256) (A % M256) (B % M256) (x % M256) := by
      unfold rhsN
      generalize x % M256 = x'
      generalize A % M256 = A'
      generalize B % M256 = B'
      generalize P % M256 = P'
      simp only [Nat.add_mod_mod, Nat.mod_add_mod, Nat.mul_mod_mod, Nat.mod_mul_mod]
      rw [Nat.mul_add, Nat.mul_comm x' A']
    rw [e]
    rfl
theorem slopes_ref (A B P : Nat) : (4 % P * (A ^ 3 % P) % P + 27 % P * (B ^ 2 % P) % P) % P = slopesN P A B := by
  unfold slopesN tw3
  simp only [Nat.add_mod_mod, Nat.mod_add_mod, Nat.mul_mod_mod, Nat.mod_mul_mod]
  rw [show A ^ 3 = A * (A * A) by rw [Nat.pow_succ, Nat.pow_two, Nat.mul_assoc, Nat.mul_comm], Nat.pow_two]
  generalize A * (A * A) = a
  generalize B * B = b
  congr 1
  omega
theorem ok_refCF (ls : List (List At)) (vs : List (Option Addr)) (hc : Ok (ckC ls)) : Owes Try.prog cxRCF [] 10 Try.f16 (mkArgs [.str pCv] ls vs) (ckG ls) := by
  unfold ckC at hc
  split at hc
  · rename_i P A B N X Y F
    show Owes Try.prog cxRCF [] 10 Try.f16 [sCv P A B N X Y F] (.one (sI .i64 (ckE P A B N X Y F)))
    rw [vc_refCF]
    intro x1 x2 x3 x4 x5 x6 x7 x8 x9 x10 x11 x12 x13 x14 x15 x16 x17
    have e3 : x3 = decide (3 < x1) := cmpI_gt' _ _
    have e4 : x4 = (decide (3 < x1) && decide (P % M256 % 4 = 3)) := by show (x3 && _) = _; rw [e3, limb_and]
    have e7 : x7 = (x4 && rB A P) := by show (x4 && decide (x6 < 0)) = _; rw [show decide (x6 < 0) = decide (x5 < x1) from cmpI_lt' _ _]; rfl
    have e10 : x10 = (x7 && rB B P) := by show (x7 && decide (x9 < 0)) = _; rw [show decide (x9 < 0) = decide (x8 < x1) from cmpI_lt' _ _]; rfl
    have e11 : decide (x11 > 0) = decide (1 < N % M256) := cmpI_gt' _ _
    rw [ckE_eq]
    refine ⟨id, id, id, id, id, id, id, id, id, id, id, id, id, id, id, id, id, id, id, id, id, id, fun h => ?_, fun h => ?_⟩
    · have g : gdB P A B N X Y F = false := by
        rw [e11, e10, e7, e4] at h
        unfold gdB
        cases ha : decide (3 < P % M256) <;> cases hb : decide (P % M256 % 4 = 3) <;> cases hA : rB A P <;> cases hB : rB B P <;> cases hN : decide (1 < N % M256) <;> first | rfl | (rw [show decide (3 < x1) = true from ha, hb, hA, hB, hN] at h; cases h)
      rw [g]; rfl
    · have h : (x10 && decide (x11 > 0)) = true := by simpa using h
      rw [e11, e10, e7, e4] at h
      simp only [Bool.and_eq_true] at h
      obtain ⟨⟨⟨⟨ha, hb⟩, hA⟩, hB⟩, hN⟩ := h
      have hp := rB_pos hA
      have md : ∀ v, v % x1 % M256 = v % x1 := mdM hp
      have lt := fun v => Nat.mod_lt v hp
      have n0 : x1 ≠ 0 := by show P % M256 ≠ 0; omega
      have e16 : x16 = (slopesN (P % M256) (A % M256) (B % M256) == 0) := by
        show ((x12 * x13 % x1 % M256 + x14 * x15 % x1 % M256) % x1 % M256 == 0) = _
        rw [md, md, md, show x12 = 4 % x1 from md _, show x13 = x5 ^ 3 % x1 from md _, show x14 = 27 % x1 from md _, show x15 = x8 ^ 2 % x1 from md _, slopes_ref]
      have g : gdB P A B N X Y F = (!(x17 || !isOnB P A B X Y F)) := by
        unfold gdB
        rw [show decide (3 < P % M256) = true from ha, hb, hA, hB, hN, isOn_ha hA]
        show _ = !((x16 || F) || _)
        rw [e16]
        cases (slopesN (P % M256) (A % M256) (B % M256) == 0) <;> cases F <;> cases haB P A B X Y _ <;> rfl
      rw [g]
      refine ⟨⟨by decide, by decide⟩, n0, n0, rB_iff.1 hA, n0, by rw [show x12 = 4 % x1 from md _]; exact lt _, by rw [show x13 = x5 ^ 3 % x1 from md _]; exact lt _, ⟨by decide, by decide⟩, n0, n0, rB_iff.1 hB, n0, by rw [show x14 = 27 % x1 from md _]; exact lt _, by rw [show x15 = x8 ^ 2 % x1 from md _]; exact lt _, n0, id, id, fun k => by rw [k]; rfl, id, id, id, id, fun k => by rw [k]; rfl, fun k => ?_, fun k => ?_⟩
      · rw [k]; rfl
      · rw [k]; rfl
  · exact hc.1.elim
theorem card_refCF : FnOK Try.prog 16 cRCF :=
  FnOK_A (cx := cxRCF) (CxOK_cons card_refIsZ (CxOK_cons card_refOrd (CxOK_cons card_refPro (CxOK_cons card_refTot (CxOK_cons card_refBy (CxOK_cons card_refPower (CxOK_cons card_refIsOn CxOK_nil))))))) (iv := fun _ => []) (N := 10) Try.func16 (by kernel_rfl) (by kernel_rfl) (fun ls => by unfold ckG; split; exact bnd_one (bnd_I _ _); exact bnd_none) ok_refCF
theorem ck_ne (P A B N X Y : Nat) (F : Bool) : (ckE P A B N X Y F != 0) = !gdB P A B N X Y F := by
  rw [ckE_eq]; cases gdB P A B N X Y F <;> rfl
end Go.Proofs.Yteimeidpcgebkaa
end

section
namespace Go.Proofs.Yteimeidpcgebkaa
open Go Go.Sx Go.RowKit
def opp (m b : Nat) : Nat := if b = 0 then 0 else m - b
theorem add_case {a b m : Nat} (ha : a < m) (hb : b < m) : (a + b) % m = if a + b < m then a + b else a + b - m := by
  split
  · rename_i h; exact Nat.mod_eq_of_lt h
  · rw [Nat.mod_eq_sub_mod (by omega), Nat.mod_eq_of_lt (by omega)]
theorem sub_case {a b m : Nat} (ha : a < m) (hb : b < m) : (a + m - b) % m = if b ≤ a then a - b else a + m - b := by
  split
  · rw [show a + m - b = (a - b) + m by omega, Nat.add_mod_right, Nat.mod_eq_of_lt (by omega)]
  · exact Nat.mod_eq_of_lt (by omega)
theorem opp_sub {a b m : Nat} (ha : a < m) (hb : b < m) : (a + opp m b) % m = (a + m - b) % m := by
  rw [sub_case ha hb]
  unfold opp
  split
  · rw [Nat.add_zero, Nat.mod_eq_of_lt ha, if_pos (by omega), show b = 0 by assumption, Nat.sub_zero]
  · rw [add_case ha (by omega)]
    split <;> split <;> omega
theorem opp_le {m b : Nat} (h : b < m) : opp m b < m := by unfold opp; split <;> omega
end Go.Proofs.Yteimeidpcgebkaa
end

section
namespace Go.Proofs.Yteimeidpcgebkaa
open Go Go.Sx Go.RowKit
end Go.Proofs.Yteimeidpcgebkaa
end

section
namespace Go.Proofs.Yteimeidpcgebkaa
open Go Go.Sx Go.RowKit
set_option maxRecDepth 100000
def ofnB (P A k x y : Nat) (f : Bool) : Bool := (mlS P A k (x, y, f) 0 256).2 == 0
def muB (P A B N X Y : Nat) (F : Bool) (k x y : Nat) (f : Bool) : Bool := gdB P A B N X Y F && isOnB P A B x y f && ofnB P A k x y f
def muR (P A B N X Y : Nat) (F : Bool) (k x y : Nat) (f : Bool) : Pt := cond (muB P A B N X Y F k x y f) (mlS P A k (x, y, f) 0 256).1 (0, 0, false)
def mulG : List (List At) → SV
  | [[.u P, .u A, .u B, .u N, .u X, .u Y, .b F], [.u k], [.u x, .u y, .b f]] => .tup [ptS (muR P A B N X Y F k x y f), sI .i64 (nt (muB P A B N X Y F k x y f) 0)]
  | _ => .tup []
def shLif : List AP := [.str pCv, .str [.u], .bit]
def lifC : List (List At) → List Prop
  | [[.u _, .u _, .u _, .u _, .u _, .u _, .b _], [.u _], [.b _]] => []
  | _ => [False]
def liY0 (P A B x : Nat) : Nat := (rhsN (P % M256) (A % M256) (B % M256) (x % M256)) ^ (P % M256 / 4 + 1) % (P % M256)
def liY (P A B x : Nat) (o : Bool) : Nat := cond ((liY0 P A B x % 2 == 1) == o) (liY0 P A B x) (opp (P % M256) (liY0 P A B x))
def liK (P A B x : Nat) (o : Bool) : Bool := ((liY P A B x o % 2 == 1) == o) && isOnB P A B x (liY P A B x o) false
def liE (P A B N X Y : Nat) (F : Bool) (x : Nat) (o : Bool) : Int := cond (gdB P A B N X Y F) (cond (decide (x % M256 < P % M256)) (nt (liK P A B x o) 0) 6) 16
def liR (P A B N X Y : Nat) (F : Bool) (x : Nat) (o : Bool) : Pt := if liE P A B N X Y F x o = 0 then (x, liY P A B x o, false) else (0, 0, false)
def lifG : List (List At) → SV
  | [[.u P, .u A, .u B, .u N, .u X, .u Y, .b F], [.u x], [.b o]] => .tup [ptS (liR P A B N X Y F x o), sI .i64 (liE P A B N X Y F x o)]
  | _ => .tup []
def cLif : FSpec := specA shLif lifC lifG
def cxLif : Cx := [(16, cRCF), (28, specUU ordG), (32, specUU quoG), (33, specUUU rpoC rpoG), (34, cRrg), (17, cIsOn), (35, specUUC oppC oppG)]
def cxCL : Cx := [(10, cLif), (11, cLif)]
theorem vc_refLif (P A B N X Y x r1 r2 : Nat) (F o r3 : Bool) (e : Int) :
    OwesV Try.prog cxLif slAll [] 4 Try.f11 [sCv P A B N X Y F, sU x, sB o] (.tup [sPt r1 r2 r3, sI .i64 e]) =
    (let x1 : Nat := r1 % M256; let x2 : Nat := r2 % M256; let x3 : Nat := x % M256; let x4 : Nat := P % M256; let x5 : Int := cmpI x3 x4; let x6 : Nat := (vn 9 fun (i : Nat) => dg ((vn 8 fun (i : Nat) => dg x4 i) + 1) i) % M256 % M256; let x7 : Int := cmpI x6 x4; let x8 : Nat := (x3 * ((x3 * x3 % x4 + A % M256) % x4) % x4 + B % M256) % x4 % M256; let x9 : Nat := x8 ^ 28948022309329048855892746252171976963317496166410141009864396001978282409984 % x4; let x10 : Bool := (Go.IntKind.u64.wrap (↑(BitVec.ofInt 64 (limb x9 0) &&& BitVec.ofInt 64 (1 : Int)).toNat : Int) == (1 : Int)) == o; let x11 : Nat := x9 % M256; let x12 : Nat := if x11 = 0 then 0 else x4 - x11; let x13 : Bool := (Go.IntKind.u64.wrap (↑(BitVec.ofInt 64 (limb x12 0) &&& BitVec.ofInt 64 (1 : Int)).toNat : Int) == (1 : Int)) == o; let x14 : Nat := x12 % M256; let x15 : Nat := x8 ^ ((if 4 = 0 then 0 else x6 / 4) % M256) % x4; let x16 : Bool := (Go.IntKind.u64.wrap (↑(BitVec.ofInt 64 (limb x15 0) &&& BitVec.ofInt 64 (1 : Int)).toNat : Int) == (1 : Int)) == o; let x17 : Nat := x15 % M256; let x18 : Nat := if x17 = 0 then 0 else x4 - x17; let x19 : Bool := (Go.IntKind.u64.wrap (↑(BitVec.ofInt 64 (limb x18 0) &&& BitVec.ofInt 64 (1 : Int)).toNat : Int) == (1 : Int)) == o; let x20 : Nat := x18 % M256; ((ckE P A B N X Y F != (0 : Int)) = Bool.true → (0 = x1 ∧ 0 = x2 ∧ Bool.false = r3 ∧ True) ∧ ckE P A B N X Y F = e) ∧ ((ckE P A B N X Y F != (0 : Int)) = Bool.false → (Decidable.decide (x5 ≥ (0 : Int)) = Bool.true → (0 = x1 ∧ 0 = x2 ∧ Bool.false = r3 ∧ True) ∧ (6 : Int) = e) ∧ (Decidable.decide (x5 ≥ (0 : Int)) = Bool.false → ∀ (a : Option Go.Addr) (cap : Nat), (a = Option.none → 8 = 0 ∧ cap = 0) → 8 ≤ cap → 1 ≤ 1 ∧ ∀ (_ : Go.Addr), (∀ (_ : Nat), True) ∧ (∀ (_ : Nat), True) ∧ (dgs 8 fun (i : Nat) => intsC (SC.val (Go.Value.int Go.IntKind.u64 (dg x4 i)))) ∧ 8 ≤ 1000 ∧ (dgs 1 fun (i : Nat) => intsC (SC.val (Go.Value.int (Go.IntKind.u64, (1 : Int)).fst (selG [SK.c (SC.num Go.IntKind.u64 (1 : Int))] i)))) ∧ 1 ≤ 1000 ∧ ∀ (a : Option Go.Addr) (cap : Nat), (a = Option.none → 9 = 0 ∧ cap = 0) → 9 ≤ cap → (∀ (_ : Nat), True) ∧ (dgs 9 fun (i : Nat) => intsC (SC.val (Go.Value.int Go.IntKind.u64 (dg ((vn 8 fun (i : Nat) => intsC (SC.val (Go.Value.int Go.IntKind.u64 (dg x4 i)))) + 1) i)))) ∧ 9 ≤ 1000 ∧ (Decidable.decide (x7 < (0 : Int)) = Bool.true → x3 < x4 ∧ x4 ≠ 0 ∧ x8 < x4 ∧ (x10 = Bool.true → x10 = Bool.true) ∧ (x10 = Bool.true → x10 = Bool.true) ∧ (x10 = Bool.true → x10 = Bool.true) ∧ ((x10 && isOnB P A B x x9 Bool.false) = Bool.true → (x3 = x1 ∧ x11 = x2 ∧ Bool.false = r3 ∧ True) ∧ (0 : Int) = e) ∧ ((x10 && isOnB P A B x x9 Bool.false) = Bool.false → x11 ≤ x4 ∧ (x13 = Bool.true → x13 = Bool.true) ∧ (x13 = Bool.true → x13 = Bool.true) ∧ (x13 = Bool.true → x13 = Bool.true) ∧ ((x13 && isOnB P A B x x12 Bool.false) = Bool.true → (x3 = x1 ∧ x14 = x2 ∧ Bool.false = r3 ∧ True) ∧ (0 : Int) = e) ∧ ((x13 && isOnB P A B x x12 Bool.false) = Bool.false → x14 ≤ x4 ∧ (0 = x1 ∧ 0 = x2 ∧ Bool.false = r3 ∧ True) ∧ (16 : Int) = e))) ∧ (Decidable.decide (x7 < (0 : Int)) = Bool.false → x3 < x4 ∧ x4 ≠ 0 ∧ x8 < x4 ∧ (x16 = Bool.true → x16 = Bool.true) ∧ (x16 = Bool.true → x16 = Bool.true) ∧ (x16 = Bool.true → x16 = Bool.true) ∧ ((x16 && isOnB P A B x x15 Bool.false) = Bool.true → (x3 = x1 ∧ x17 = x2 ∧ Bool.false = r3 ∧ True) ∧ (0 : Int) = e) ∧ ((x16 && isOnB P A B x x15 Bool.false) = Bool.false → x17 ≤ x4 ∧ (x19 = Bool.true → x19 = Bool.true) ∧ (x19 = Bool.true → x19 = Bool.true) ∧ (x19 = Bool.true → x19 = Bool.true) ∧ ((x19 && isOnB P A B x x18 Bool.false) = Bool.true → (x3 = x1 ∧ x20 = x2 ∧ Bool.false = r3 ∧ True) ∧ (0 : Int) = e) ∧ ((x19 && isOnB P A B x x18 Bool.false) = Bool.false → x20 ≤ x4 ∧ (0 = x1 ∧ 0 = x2 ∧ Bool.false = r3 ∧ True) ∧ (16 : Int) = e)))))) := by kernel_rfl
theorem vc_CurveLifts (P A B N X Y x : Nat) (F o : Bool) :
    Owes Try.prog cxCL [] 10 Try.f5 [sCv P A B N X Y F, sU x, sB o] yes =
    (let x1 : Nat := (liR P A B N X Y F x o).fst % M256; let x2 : Nat := (liR P A B N X Y F x o).snd.fst % M256; let x3 : Bool := (liR P A B N X Y F x o).snd.snd; let x4 : Bool := conj [x1 == x1, x2 == x2, x3 == x3]; let x5 : Int := liE P A B N X Y F x o; (x4 = Bool.true → x4 = Bool.true) ∧ (x4 = Bool.true → x4 = Bool.true) ∧ (x4 = Bool.true → x4 = Bool.true) ∧ (x4 && x5 == x5) = Bool.true) := by kernel_rfl
end Go.Proofs.Yteimeidpcgebkaa
end

section
namespace Go.Proofs.Yteimeidpcgebkaa
open Go Go.Sx Go.RowKit
def Sta (h : Int → Int) : Prop := (∀ n, h n = n) ∨ ∀ n, h n = 16
theorem Sta.cond {h g : Int → Int} (b : Bool) (hh : Sta h) (hg : Sta g) : Sta fun n => cond b (h n) (g n) := by
  cases b
  · exact hg
  · exact hh
section
variable {P A k : Nat} {p : Pt}
end
end Go.Proofs.Yteimeidpcgebkaa
end

section
namespace Go.Proofs.Yteimeidpcgebkaa
open Go Go.Sx Go.RowKit
theorem nb_t {b : Bool} (h : (!b) = true) : b = false := by cases b <;> first | rfl | cases h
theorem nb_f {b : Bool} (h : (!b) = false) : b = true := by cases b <;> first | rfl | cases h
end Go.Proofs.Yteimeidpcgebkaa
end

section
namespace Go.Proofs.Yteimeidpcgebkaa
open Go Go.Sx Go.RowKit
theorem opp_sq {m y : Nat} (h : y < m) : opp m y * opp m y % m = y * y % m := by
  unfold opp
  split
  · rename_i e; subst e; rfl
  · obtain ⟨d, rfl⟩ : ∃ d, m = y + d := ⟨m - y, by omega⟩
    rw [show y + d - y = d by omega]
    have : ((d * d : Nat) : Int) % ((y + d : Nat) : Int) = ((y * y : Nat) : Int) % ((y + d : Nat) : Int) := by
      rw [Int.emod_eq_emod_iff_emod_sub_eq_zero]
      have e : ((d * d : Nat) : Int) - ((y * y : Nat) : Int) = ((y + d : Nat) : Int) * ((d : Int) - (y : Int)) := by
        push_cast
        grind
      rw [e]
      exact Int.mul_emod_right _ _
    omega
theorem isOn_opp {P A B x y : Nat} (h : y < P % M256) : isOnB P A B x (opp (P % M256) y) false = isOnB P A B x y false := by
  have l := opp_le h
  unfold isOnB
  rw [mod_M h, mod_M l, opp_sq h, decide_eq_true h, decide_eq_true l]
  rfl
theorem odd_and (a : Nat) : (IntKind.u64.wrap ((BitVec.ofInt 64 (limb a 0) &&& BitVec.ofInt 64 1).toNat : Int) == (1 : Int)) = (a % M256 % 2 == 1) := by
  have e : limb a 0 = ((a / 2 ^ (64 * 0) % 2 ^ 64 : Nat) : Int) := rfl
  have e2 : (a / 2 ^ (64 * 0) % 2 ^ 64 : Nat) = a % 18446744073709551616 := by rw [Nat.mul_zero, Nat.pow_zero, Nat.div_one]
  have e3 : (BitVec.ofInt 64 ((a % 18446744073709551616 : Nat) : Int) &&& BitVec.ofInt 64 1).toNat = a % 18446744073709551616 % 2 := by
    rw [BitVec.toNat_and, BitVec.toNat_ofInt, BitVec.toNat_ofInt]
    have a1 : (((a % 18446744073709551616 : Nat) : Int) % ((2 ^ 64 : Nat) : Int)).toNat = a % 18446744073709551616 := by omega
    have b1 : ((1 : Int) % ((2 ^ 64 : Nat) : Int)).toNat = 2 ^ 1 - 1 := by decide
    rw [a1, b1, Nat.and_two_pow_sub_one_eq_mod]
  rw [e, e2, e3]
  have w : IntKind.u64.wrap ((a % 18446744073709551616 % 2 : Nat) : Int) = ((a % 18446744073709551616 % 2 : Nat) : Int) := by
    rw [IntKind.wrap_u64]; omega
  have hM := M256_eq
  have q : a % M256 % 2 = a % 18446744073709551616 % 2 := by rw [hM]; omega
  rw [w, q, Bool.eq_iff_iff, beq_iff_eq, beq_iff_eq]
  omega
theorem li_val {P A B x : Nat} (hA : rB A P = true) (hB : rB B P = true) (hx : rB x P = true) : hPV P (rgtV P A B x) = liY0 P A B x ∧ pE (rgtV P A B x) P = 0 ∧ liY0 P A B x < P % M256 := by
  have hp := rB_pos hA
  have e := rgtV_of hx hA hB
  have lR : rhsN (P % M256) (A % M256) (B % M256) (x % M256) < P % M256 := Nat.mod_lt _ hp
  have e0 : pE (rgtV P A B x) P = 0 := by
    unfold pE
    rw [if_neg (by omega), if_pos (by rw [e, mod_M lR]; exact lR)]
  refine ⟨?_, e0, Nat.mod_lt _ hp⟩
  unfold hPV liY0
  rw [if_pos e0, e, mod_M lR]
theorem nt16 (b : Bool) : nt b 16 = 16 := by cases b <;> rfl
theorem ok_cLif (ls : List (List At)) (vs : List (Option Addr)) (hc : Ok (lifC ls)) : OwesU Try.prog cyLift [] [] 10 Try.f10 (mkArgs shLif ls vs) (lifG ls) := by
  unfold lifC at hc
  split at hc
  · rename_i P A B N X Y F x o
    show OwesU Try.prog cyLift [] [] 10 Try.f10 [sCv P A B N X Y F, sU x, sB o] (.tup [sPt (liR P A B N X Y F x o).1 (liR P A B N X Y F x o).2.1 (liR P A B N X Y F x o).2.2, sI .i64 (liE P A B N X Y F x o)])
    rw [wc_Lift]
    intro x1 x2 x3 x4 x5 x6 x7 x8 x9
    have e1 : x1 = nt (gdB P A B N X Y F) 0 := ckE_eq _ _ _ _ _ _ _
    have e7 : x7 = nt (pE (rgtV P A B x) P == 0) (rgtT P A B x x1) := rfl
    have e8 : x8 = havT P A B x x6 false (nt ((x6 % M256 % 2 == 1) == o) (nt (okF 0 (hPV P (rgtV P A B x)) P) x7)) := rfl
    have e9 : x9 = havT P A B x (hPV P (rgtV P A B x)) false (nt x5 x7) := rfl
    have done : ∀ (e : Int) (y : Nat), e = liE P A B N X Y F x o → (e = 0 → y % M256 = liY P A B x o % M256) → ((tdV e (x, y, false)).1 % M256 = x3 ∧ (tdV e (x, y, false)).2.1 % M256 = x4 ∧ (tdV e (x, y, false)).2.2 = (liR P A B N X Y F x o).2.2 ∧ True) ∧ e = liE P A B N X Y F x o := by
      intro e y h1 h2
      refine ⟨?_, h1⟩
      show (tdV e (x, y, false)).1 % M256 = (liR P A B N X Y F x o).1 % M256 ∧ (tdV e (x, y, false)).2.1 % M256 = (liR P A B N X Y F x o).2.1 % M256 ∧ _
      unfold liR tdV
      rw [← h1]
      by_cases h : e = 0
      · rw [if_pos h, if_pos h]; exact ⟨rfl, h2 h, rfl, trivial⟩
      · rw [if_neg h, if_neg h]; exact ⟨rfl, rfl, rfl, trivial⟩
    cases hg : gdB P A B N X Y F with
    | false =>
      rw [hg] at e1
      have e1 : x1 = 16 := e1
      have e2 : x2 = false := by show (x1 == 0) = false; rw [e1]; rfl
      have hE : liE P A B N X Y F x o = 16 := by unfold liE; rw [hg]; rfl
      have f7 : x7 = 16 := by rw [e7, e1, rgtT_eq, nt16, nt16]
      have f8 : x8 = 16 := by rw [e8, f7, nt16, nt16]; exact havT_16 _ _ _ _ _ _
      have f9 : x9 = 16 := by rw [e9, f7, nt16]; exact havT_16 _ _ _ _ _ _
      rw [e2]
      refine ⟨id, id, id, id, id, fun h => (by cases h), fun _ => ⟨fun _ => ?_, fun _ => ?_⟩⟩
      · exact done _ _ (by rw [f8, hE]) fun h => by rw [f8] at h; cases h
      · exact done _ _ (by rw [f9, hE]) fun h => by rw [f9] at h; cases h
    | true =>
      rw [hg] at e1
      have e1 : x1 = 0 := e1
      have e2 : x2 = true := by show (x1 == 0) = true; rw [e1]; rfl
      obtain ⟨_, _, hA, hB, _⟩ := gdB_A hg
      have hp := rB_pos hA
      have hc : decide (cmpN x P ≥ 0) = !rB x P := by
        unfold cmpN rB
        split
        · rename_i h; rw [decide_eq_true h]; rfl
        · rename_i h
          rw [decide_eq_false h]
          split <;> rfl
      rw [e2, hc]
      refine ⟨id, id, id, id, id, fun h => ?_, fun h => ?_⟩
      · have hx : rB x P = false := nb_t h
        have hE : liE P A B N X Y F x o = 6 := by unfold liE; rw [hg, show decide (x % M256 < P % M256) = false from hx]; rfl
        have hR : liR P A B N X Y F x o = (0, 0, false) := by unfold liR; rw [hE]; rfl
        rw [hE]
        refine ⟨⟨?_, ?_, ?_, trivial⟩, rfl⟩
        · show 0 = (liR P A B N X Y F x o).1 % M256; rw [hR]; rfl
        · show 0 = (liR P A B N X Y F x o).2.1 % M256; rw [hR]; rfl
        · rw [hR]
      · have hx : rB x P = true := nb_f h
        obtain ⟨v1, v2, v3⟩ := li_val hA hB hx
        have hE : liE P A B N X Y F x o = nt (liK P A B x o) 0 := by unfold liE; rw [hg, show decide (x % M256 < P % M256) = true from hx]; rfl
        have f7 : x7 = 0 := by rw [e7, v2, e1, rgtT_eq, hx, hA, hB]; rfl
        have rY : rB (hPV P (rgtV P A B x)) P = true := by rw [v1, rB_iff, mod_M v3]; exact v3
        have m3 : liY0 P A B x % M256 = liY0 P A B x := mod_M v3
        have e5 : x5 = ((liY0 P A B x % 2 == 1) == o) := by show ((hPV P (rgtV P A B x) % M256 % 2 == 1) == o) = _; rw [v1, m3]
        have e6 : x6 = opp (P % M256) (liY0 P A B x) := by
          show hSV P 0 (hPV P (rgtV P A B x)) = _
          rw [hSV_of (rB_zero hp) rY, v1, m3, Nat.zero_mod, ← opp_sub hp v3, Nat.zero_add, Nat.mod_eq_of_lt (opp_le v3)]
        have m6 : x6 % M256 = x6 := by rw [e6]; exact mod_M (opp_le v3)
        refine ⟨fun k => ?_, fun k => ?_⟩
        · have k : x5 = false := nb_t k
          rw [e5] at k
          have hY : liY P A B x o = x6 := by unfold liY; rw [k, e6]; rfl
          refine done _ _ ?_ fun _ => by rw [hY]
          rw [e8, f7, okF_b, rB_zero hp, rY, hE, havT_eq hA hB, m6]
          show nt (haB P A B x x6 false) (nt ((x6 % 2 == 1) == o) 0) = _
          rw [nt_nt]
          unfold liK
          rw [hY, isOn_ha hA]
        · have k : x5 = true := nb_f k
          have k' := k
          rw [e5] at k
          have hY : liY P A B x o = liY0 P A B x := by unfold liY; rw [k]; rfl
          refine done _ _ ?_ fun _ => by rw [hY, v1]
          rw [e9, f7, k', hE, havT_eq hA hB, v1]
          show nt (haB P A B x (liY0 P A B x) false) 0 = _
          unfold liK
          rw [hY, k, isOn_ha hA]
          rfl
  · exact hc.1.elim
theorem bnd_lifG (ls : List (List At)) : (lifG ls).bnd none0 := by
  unfold lifG
  split
  · exact bnd_pte _ _
  · exact bnd_none
theorem card_isOdd' : FnOK Try.prog 25 (specU oddG) :=
  FnOK_U CxOK_nil (iv := []) (N := 100) Try.func25 (by kernel_rfl) (by kernel_rfl) (fun _ => bnd_one (bnd_B _)) fun a => by
    rw [vc_isOdd]
    have e : limb a 0 = ((a / 2 ^ (64 * 0) % 2 ^ 64 : Nat) : Int) := rfl
    rw [e, limb_mod a 0 (by decide), Int.tmod_eq_emod_of_nonneg (Int.natCast_nonneg _), Bool.eq_iff_iff, beq_iff_eq, beq_iff_eq]
    generalize a % M256 = Q
    rw [Nat.mul_zero, Nat.pow_zero, Nat.div_one]
    omega
theorem xcard_Lift : FnOK Try.prog 10 cLif :=
  FnOKU_A (cx := cyLift) (iv := fun _ => []) (CxOK_cons card_Cmp (CxOK_cons card_isOdd' (CxOK_wcons wcard_be (CxOK_wcons wcard_have (CxOK_wcons wcard_right (CxOK_wcons wcard_root (CxOK_wcons wcard_sub (CxOK_wcons wcard_must (CxOK_wcons wcard_told CxOK_wnil))))))))) wNone Try.func10 (by kernel_rfl) (by kernel_rfl) bnd_lifG ok_cLif
theorem half_more {p : Nat} (h4 : p % 4 = 3) (hp : p < M256) : (p + 1) % M256 % M256 < p ↔ p + 1 = M256 := by
  have hM := M256_eq
  rw [Nat.mod_mod]
  constructor
  · intro h
    rcases Nat.lt_or_ge (p + 1) M256 with k | k
    · rw [Nat.mod_eq_of_lt k] at h; omega
    · omega
  · intro h
    rw [h, Nat.mod_self]
    omega
theorem ok_refLif (ls : List (List At)) (vs : List (Option Addr)) (hc : Ok (lifC ls)) : OwesV Try.prog cxLif slAll [] 4 Try.f11 (mkArgs shLif ls vs) (lifG ls) := by
  unfold lifC at hc
  split at hc
  · rename_i P A B N X Y F x o
    show OwesV Try.prog cxLif slAll [] 4 Try.f11 [sCv P A B N X Y F, sU x, sB o] (.tup [sPt (liR P A B N X Y F x o).1 (liR P A B N X Y F x o).2.1 (liR P A B N X Y F x o).2.2, sI .i64 (liE P A B N X Y F x o)])
    rw [vc_refLif]
    generalize hL : (28948022309329048855892746252171976963317496166410141009864396001978282409984 : Nat) = L
    intro x1 x2 x3 x4 x5 x6 x7 x8 x9 x10 x11 x12 x13 x14 x15 x16 x17 x18 x19 x20
    have bad : liE P A B N X Y F x o ≠ 0 → 0 = x1 ∧ 0 = x2 ∧ false = (liR P A B N X Y F x o).2.2 ∧ True := fun h => by
      have e : liR P A B N X Y F x o = (0, 0, false) := by unfold liR; rw [if_neg h]
      refine ⟨?_, ?_, by rw [e], trivial⟩
      · show 0 = (liR P A B N X Y F x o).1 % M256; rw [e]; rfl
      · show 0 = (liR P A B N X Y F x o).2.1 % M256; rw [e]; rfl
    refine ⟨fun h => ?_, fun h => ?_⟩
    · rw [ck_ne] at h
      have hE : liE P A B N X Y F x o = 16 := by unfold liE; rw [nb_t h]; rfl
      rw [hE] at bad ⊢
      refine ⟨bad (by decide), ?_⟩
      rw [ckE_eq, nb_t h]; rfl
    · rw [ck_ne] at h
      have hg := nb_f h
      obtain ⟨_, h4, hA, hB, _⟩ := gdB_A hg
      have hp := rB_pos hA
      have hPM : P % M256 < M256 := Nat.mod_lt _ M_pos
      have hc : decide (x5 ≥ 0) = !rB x P := by
        show decide (cmpI x3 x4 ≥ 0) = _
        unfold cmpI rB
        split
        · rename_i h; rw [decide_eq_true h]; rfl
        · rename_i h
          rw [decide_eq_false h]
          split <;> rfl
      rw [hc]
      refine ⟨fun h => ?_, fun h => ?_⟩
      · have hE : liE P A B N X Y F x o = 6 := by unfold liE; rw [hg, show decide (x % M256 < P % M256) = false from nb_t h]; rfl
        rw [hE] at bad ⊢
        exact ⟨bad (by decide), rfl⟩
      · have hx : rB x P = true := nb_f h
        have lx := rB_iff.1 hx
        have hE : liE P A B N X Y F x o = nt (liK P A B x o) 0 := by unfold liE; rw [hg, show decide (x % M256 < P % M256) = true from hx]; rfl
        have l32 : P % M256 < 4294967296 ^ 8 := hPM
        have v8 : (vn 8 fun i => dg x4 i) = x4 := vn_dg' l32
        have v9 : (vn 9 fun i => dg ((vn 8 fun i => dg x4 i) + 1) i) = x4 + 1 := by
          rw [v8]
          refine vn_dg' ?_
          have hM : M256 = 4294967296 ^ 8 := by decide
          have h9 : (4294967296 : Nat) ^ 9 = 4294967296 ^ 8 * 4294967296 := rfl
          rw [h9]
          omega
        have e6 : x6 = (x4 + 1) % M256 % M256 := by show (vn 9 fun i => dg ((vn 8 fun i => dg x4 i) + 1) i) % M256 % M256 = _; rw [v9]
        have e8 : x8 = rhsN x4 (A % M256) (B % M256) x3 := by
          have := isOn_ha (P := P) (A := A) (B := B) (x := x) (y := 0) (f := false) hA
          show (x3 * ((x3 * x3 % x4 + A % M256) % x4) % x4 + B % M256) % x4 % M256 = _
          rw [mdM hp]
          unfold rhsN
          show (x3 * ((x3 * x3 % (P % M256) + A % M256) % (P % M256)) % (P % M256) + B % M256) % (P % M256) = ((x3 * (x3 * x3 % (P % M256)) % (P % M256) + A % M256 * x3 % (P % M256)) % (P % M256) + B % M256) % (P % M256)
          generalize x3 = x'
          generalize A % M256 = A'
          generalize B % M256 = B'
          generalize P % M256 = P'
          simp only [Nat.add_mod_mod, Nat.mod_add_mod, Nat.mul_mod_mod, Nat.mod_mul_mod]
          rw [Nat.mul_add, Nat.mul_comm x' A']
        have l8 : x8 < x4 := by rw [e8]; exact Nat.mod_lt _ hp
        have n0 : x4 ≠ 0 := by show P % M256 ≠ 0; omega
        have pw : ∀ E, P % M256 / 4 + 1 = E → x8 ^ E % x4 = liY0 P A B x := by
          intro E hE
          subst hE
          rw [e8]
          rfl
        have key : ∀ (y : Nat) (b1 b2 : Bool), y = liY0 P A B x → b1 = ((IntKind.u64.wrap ((BitVec.ofInt 64 (limb y 0) &&& BitVec.ofInt 64 1).toNat : Int) == 1) == o) →
            b2 = ((IntKind.u64.wrap ((BitVec.ofInt 64 (limb (if y % M256 = 0 then 0 else x4 - y % M256) 0) &&& BitVec.ofInt 64 1).toNat : Int) == 1) == o) →
            ((b1 && isOnB P A B x y false) = true → (x3 = x1 ∧ y % M256 = x2 ∧ false = (liR P A B N X Y F x o).2.2 ∧ True) ∧ 0 = liE P A B N X Y F x o) ∧ ((b1 && isOnB P A B x y false) = false → y % M256 ≤ x4 ∧ (b2 = true → b2 = true) ∧ (b2 = true → b2 = true) ∧ (b2 = true → b2 = true) ∧
              ((b2 && isOnB P A B x (if y % M256 = 0 then 0 else x4 - y % M256) false) = true → (x3 = x1 ∧ (if y % M256 = 0 then 0 else x4 - y % M256) % M256 = x2 ∧ false = (liR P A B N X Y F x o).2.2 ∧ True) ∧ 0 = liE P A B N X Y F x o) ∧
              ((b2 && isOnB P A B x (if y % M256 = 0 then 0 else x4 - y % M256) false) = false → (if y % M256 = 0 then 0 else x4 - y % M256) % M256 ≤ x4 ∧ (0 = x1 ∧ 0 = x2 ∧ false = (liR P A B N X Y F x o).2.2 ∧ True) ∧ 16 = liE P A B N X Y F x o)) := by
          intro y b1 b2 hy hb1 hb2
          have ly : y < P % M256 := by rw [hy]; exact Nat.mod_lt _ hp
          have my : y % M256 = y := mod_M ly
          have eo : (if y % M256 = 0 then 0 else x4 - y % M256) = opp (P % M256) y := by rw [my]; rfl
          have lo := opp_le ly
          have mo : opp (P % M256) y % M256 = opp (P % M256) y := mod_M lo
          rw [eo] at hb2 ⊢
          rw [odd_and, my] at hb1
          rw [odd_and, mo] at hb2
          have good : ∀ z, z = liY P A B x o → liK P A B x o = true → (x3 = x1 ∧ z % M256 = x2 ∧ false = (liR P A B N X Y F x o).2.2 ∧ True) ∧ 0 = liE P A B N X Y F x o := by
            intro z hz hk
            have e0 : liE P A B N X Y F x o = 0 := by rw [hE, hk]; rfl
            have eR : liR P A B N X Y F x o = (x, liY P A B x o, false) := by unfold liR; rw [if_pos e0]
            refine ⟨⟨?_, ?_, by rw [eR], trivial⟩, e0.symm⟩
            · show x % M256 = (liR P A B N X Y F x o).1 % M256; rw [eR]
            · show z % M256 = (liR P A B N X Y F x o).2.1 % M256; rw [eR, hz]
          have none' : liK P A B x o = false → (0 = x1 ∧ 0 = x2 ∧ false = (liR P A B N X Y F x o).2.2 ∧ True) ∧ 16 = liE P A B N X Y F x o := by
            intro hk
            have e0 : liE P A B N X Y F x o = 16 := by rw [hE, hk]; rfl
            exact ⟨bad (by rw [e0]; decide), e0.symm⟩
          have hYo := isOn_opp (A := A) (B := B) (x := x) ly
          cases c1 : b1 with
          | true =>
            rw [c1] at hb1
            have hY : liY P A B x o = y := by unfold liY; rw [← hy, ← hb1]; rfl
            have hK : liK P A B x o = isOnB P A B x y false := by unfold liK; rw [hY, ← hb1]; rfl
            rw [hYo, Bool.true_and]
            refine ⟨fun k => good y hY.symm (hK.trans k), fun k => ⟨Nat.le_of_lt (by rw [my]; exact ly), id, id, id, fun k2 => ?_, fun k2 => ⟨Nat.le_of_lt (by rw [mo]; exact lo), none' (hK.trans k)⟩⟩⟩
            rw [k, Bool.and_false] at k2
            cases k2
          | false =>
            rw [c1] at hb1
            have hY : liY P A B x o = opp (P % M256) y := by unfold liY; rw [← hy, ← hb1]; rfl
            have hK : liK P A B x o = (b2 && isOnB P A B x (opp (P % M256) y) false) := by unfold liK; rw [hY, ← hb2]
            refine ⟨fun k => (by cases k), fun _ => ⟨Nat.le_of_lt (by rw [my]; exact ly), id, id, id, fun k2 => good _ hY.symm (hK.trans k2), fun k2 => ⟨Nat.le_of_lt (by rw [mo]; exact lo), none' (hK.trans k2)⟩⟩⟩
        intro _ _ _ _
        refine ⟨Nat.le_refl _, fun _ => ⟨fun _ => trivial, fun _ => trivial, dgs_dg 8 x4, by decide, ⟨fun i hi => ?_⟩, by decide, fun _ _ _ _ => ⟨fun _ => trivial, dgs_dg 9 _, by decide, fun h7 => ?_, fun h7 => ?_⟩⟩⟩
        · have : i = 0 := by omega
          subst this
          exact ⟨by decide, by decide⟩
        · rw [show decide (x7 < 0) = decide (x6 < x4) from cmpI_lt' _ _, e6] at h7
          have hm : x4 + 1 = M256 := (half_more h4 hPM).1 (of_decide_eq_true h7)
          have eq : P % M256 / 4 + 1 = L := by
            rw [← hL]
            have hm' : P % M256 + 1 = M256 := hm
            generalize P % M256 = p at hm' ⊢
            rw [M256_eq] at hm'
            omega
          have e9 : x9 = liY0 P A B x := pw _ eq
          obtain ⟨k1, k2⟩ := key x9 x10 x13 e9 rfl rfl
          exact ⟨lx, n0, l8, id, id, id, k1, k2⟩
        · rw [show decide (x7 < 0) = decide (x6 < x4) from cmpI_lt' _ _, e6] at h7
          have hm : ¬ x4 + 1 = M256 := fun e => of_decide_eq_false h7 ((half_more h4 hPM).2 e)
          have eq : P % M256 / 4 + 1 = (if (4 : Nat) = 0 then 0 else x6 / 4) % M256 := by
            have hm' : ¬ P % M256 + 1 = M256 := hm
            have hM := M256_eq
            rw [if_neg (by decide), e6]
            show _ = (P % M256 + 1) % M256 % M256 / 4 % M256
            generalize P % M256 = p at *
            rw [Nat.mod_eq_of_lt (show p + 1 < M256 by omega), Nat.mod_eq_of_lt (show p + 1 < M256 by omega), Nat.mod_eq_of_lt (show (p + 1) / 4 < M256 by omega)]
            omega
          have e15 : x15 = liY0 P A B x := pw _ eq
          obtain ⟨k1, k2⟩ := key x15 x16 x19 e15 rfl rfl
          exact ⟨lx, n0, l8, id, id, id, k1, k2⟩
  · exact hc.1.elim
theorem mkArg_v : ∀ {ap : AP} (_ : (match ap with | .hand => false | _ => true) = true) (l : List At) (v v' : Option Addr), mkArg ap l v = mkArg ap l v'
  | .str _, _, _, _, _ => rfl
  | .int _, _, l, _, _ => by
    cases l with
    | nil => rfl
    | cons a r => cases a <;> cases r <;> rfl
  | .bit, _, l, _, _ => by
    cases l with
    | nil => rfl
    | cons a r => cases a <;> cases r <;> rfl
theorem mkArgs_v : ∀ {sh : List AP} (_ : (sh.all fun ap => match ap with | .hand => false | _ => true) = true) (ls : List (List At)) (vs vs' : List (Option Addr)), mkArgs sh ls vs = mkArgs sh ls vs'
  | [], _, ls, _, _ => by cases ls <;> rfl
  | _ :: _, _, [], _, _ => rfl
  | ap :: sh, h, l :: ls, vs, vs' => by
    simp only [List.all_cons, Bool.and_eq_true] at h
    simp only [mkArgs, mkArg_v h.1 l _ (vs'.headD none), mkArgs_v h.2 ls _ vs'.tail]
theorem card_refLif : FnOK Try.prog 11 cLif := by
  refine FnOK_owesV (cx := cxLif) (CxOK_cons card_refCF (CxOK_cons card_refOrd (CxOK_cons card_refQuo (CxOK_cons card_refPower (CxOK_cons card_refRgt (CxOK_cons card_refIsOn (CxOK_cons card_refOpp CxOK_nil))))))) sl_all Try.func11 (by kernel_rfl) (by kernel_rfl) fun args ps sv hs hp => ?_
  unfold cLif specA at hs
  split at hs
  · rename_i p ls ha
    simp only [Option.some.injEq, Prod.mk.injEq] at hs
    obtain ⟨rfl, rfl⟩ := hs
    obtain ⟨o1, o2⟩ := Ok.append.1 hp
    have hsh : ∀ vs vs', mkArgs shLif ls vs = mkArgs shLif ls vs' := fun vs vs' => mkArgs_v (by decide) ls vs vs'
    refine ⟨[], 4, mkArgs shLif ls [], fun ρ => ?_, fun fz _ z hz => SA.bnd_mono none0_le (mkArgs_bnd shLif ls [] z hz), bnd_lifG ls, ok_refLif ls [] o2⟩
    obtain ⟨vs, hv⟩ := asArgs_sound ρ ha o1
    rw [hv, hsh vs []]
  · cases hs
theorem ok_CurveLifts (P A B N X Y : Nat) (F : Bool) (x : Nat) (o : Bool) : Owes Try.prog cxCL [] 10 Try.f5 [sCv P A B N X Y F, sU x, sB o] yes := by
  rw [vc_CurveLifts]
  intro x1 x2 x3 x4 x5
  have e : x4 = true := by
    show conj [x1 == x1, x2 == x2, x3 == x3] = true
    rw [conj_all]
    simp
  refine ⟨id, id, id, ?_⟩
  rw [e, beq_self_eq_true]; rfl
theorem cxok_CL : CxOK Try.prog cxCL := CxOK_cons xcard_Lift (CxOK_cons card_refLif CxOK_nil)
end Go.Proofs.Yteimeidpcgebkaa
end
