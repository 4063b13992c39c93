/-
  Texts: P188.
-/
import Derived.Test.YtajfifmlkgojnaaM1
import Derived.Test.YtajfifmlkgojnaaM2
import Derived.Test.YtajfifmlkgojnaaM3
import Derived.Test.YtajfifmlkgojnaaM4
import Derived.Test.YtajfifmlkgojnaaM5
import Derived.Test.YtajfifmlkgojnaaM6
import Derived.Test.YtajfifmlkgojnaaM7
import Derived.Test.YtajfifmlkgojnaaM8
import Derived.Test.YtajfifmlkgojnaaM9
import Derived.Test.YtajfifmlkgojnaaM10
import Derived.Test.YtajfifmlkgojnaaM11
import Derived.Test.YtajfifmlkgojnaaM12
import Derived.Test.YtajfifmlkgojnaaM13
import Derived.Test.YtajfifmlkgojnaaM14
section
namespace Go.Proofs.Ytajfifmlkgojnaa
open Go.Sx
set_option maxRecDepth 100000
theorem rd_ldE {n : Nat} {F : Nat → Int} (hb : ∀ i, i < n → 0 ≤ F i ∧ F i < 256) (h : rdE n F = 0) :
    ldE (rKd n F) (rAm n F) (rFe n F) (rTk n F) (rHm n F) (rTo n F) (rTc n F) (rDc n F) (rSy n F) (rM n F) (rIx n F) (rY n F) = 0 := by
  have hk : rKd n F = 1 ∨ rKd n F = 2 ∨ rKd n F = 3 ∨ rKd n F = 4 := by
    obtain ⟨hn, hk⟩ := rd_kind h
    rcases hk with ⟨k, e⟩ | ⟨k, e⟩ | ⟨k, e⟩ | ⟨k, e⟩
    · exact .inl (rf_1 k h).1
    · exact .inr (.inr (.inl (rf_3 k h).1))
    · exact .inr (.inl (rf_2 k h).1)
    · exact .inr (.inr (.inr (rf_4 k h).1))
  unfold ldE
  rw [if_pos hk, if_pos (rd_good hb h)]
theorem rd_ldQ {n : Nat} {F : Nat → Int} (hb : ∀ i, i < n → 0 ≤ F i ∧ F i < 256) (h : rdE n F = 0) {a b : Option Addr} (ha : a = none → rM n F = 0) (hb' : b = none → rY n F = 0) :
    ldQ (rSy n F) a (rM n F) (u8F (rDk F)) b (rY n F) (u8F (rKk n F)) := by
  have hg := rd_good hb h
  have hs : (rSy n F).size ≤ 32 := by
    unfold ldGood at hg
    rcases hg with g | g | g <;> omega
  have hy : rY n F ≤ 19 := by
    unfold ldGood at hg
    rcases hg with g | g | g <;> omega
  exact ⟨rfl, rfl, by omega, by omega, ha, hb'⟩
theorem ok_LoadFixed (a : Option Addr) (n cap : Nat) (k : Nat → Nat → Int) (hb : ∀ i, i < n → 0 ≤ k i 0 ∧ k i 0 < 256) (hn : (n : Int) ≤ 9223372036854775807) (ha : a = none → n = 0) :
    OwesV Try.prog Cx.none slLF [] 30 Try.f6 [.sc (.xs a n cap 1 (u8F k))] yes := by
  rw [vc_LoadFixed]
  have k1 : ∀ k : Nat → Nat → Int, kOf (u8F k) = k := fun _ => rfl
  simp only [k1]
  generalize hF : (fun i => k i 0) = F
  have hFk : ∀ i, k i 0 = F i := fun i => by rw [← hF]
  have hbF : ∀ i, i < n → 0 ≤ F i ∧ F i < 256 := fun i hi => by rw [← hFk]; exact hb i hi
  have d1 : rdP a n (u8F k) := ⟨rfl, hb, hn, ha⟩
  have d0 : rdP none 0 (u8F (kOf fun (x x_1 : Nat) => SC.bit false)) := ⟨rfl, fun i hi => by omega, by decide, fun _ => rfl⟩
  have t4 : ((4 : Int) == 4) = true := rfl
  simp only [eq_self, implies_true, and_self, true_and, and_true, id_eq, t4, imp_self, Bool.true_and, reduceCtorEq, false_imp_iff, Nat.not_lt_zero, forall_const, d0, d1]
  intro _ _ _ _ _ _ _ _ a1 c1 h1 l1 a2 c2 h2 l2
  refine ⟨fun hE => ?_, fun hE => ?_⟩
  · have hE : rdE n F ≠ 0 := bne_iff_ne.1 hE
    have e : rKd n F = 0 := if_neg hE
    rw [e]; rfl
  · have hE : rdE n F = 0 := by simpa using hE
    have hq := rd_ldQ hbF hE (a := a1) (b := a2) (fun e => (h1 e).1) (fun e => (h2 e).1)
    have hz := rd_ldE hbF hE
    simp only [hq, hz, rd_len hE, true_and, beq_self_eq_true, Bool.true_and, if_true, eq_self, forall_const, true_imp_iff, and_true, imp_self, implies_true]
    intro _ _ _ _
    rw [show List.map F (List.range n) = (List.range n).map (ldB (rKd n F) (rAm n F) (rFe n F) (rTk n F) (rHm n F) (rTo n F) (rTc n F) (rDc n F) (rSy n F) (rDk F) (rIx n F) (rY n F) (rKk n F)) from row_congr fun i hi => (rd_back hbF hE hi).symm]
    exact beq_self_eq_true _
theorem okl_LoadFixed {W : World} (a : Option Addr) (n cap : Nat) (k : Nat → Nat → Int) (g : n ≤ maxLen ∧ ∀ i, i < n → 0 ≤ k i 0 ∧ k i 0 < 256) (z : SC.bnd ⟨fun _ => False, (Rho.whole W).fz⟩ (.xs a n cap 1 (u8F k))) : OwesV Try.prog Cx.none slLF [] 30 Try.f6 [.sc (.xs a n cap 1 (u8F k))] yes :=
  ok_LoadFixed a n cap k g.2 (by have := g.1; have : maxLen = 9223372036854775807 := rfl; omega) (fun e => (z.1 e).1)
theorem sl_LF : ∀ p ∈ slLF, FnOKs Try.prog [] p.1 p.2 := oks_cons card_rd (oks_cons card_len (oks_cons card_lck oks_nil))
end Go.Proofs.Ytajfifmlkgojnaa
end
