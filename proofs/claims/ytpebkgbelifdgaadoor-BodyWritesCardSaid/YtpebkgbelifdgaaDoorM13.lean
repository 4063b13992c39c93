/-
  Texts: V41, P71, P70, V42, P72, V43, P73, V44, P74, P75, V45, P76, V47, V46, P77, P78.
-/
import Derived.Test.YtpebkgbelifdgaaDoorM1
import Derived.Test.YtpebkgbelifdgaaDoorM2
import Derived.Test.YtpebkgbelifdgaaDoorM3
import Derived.Test.YtpebkgbelifdgaaDoorM4
import Derived.Test.YtpebkgbelifdgaaDoorM5
import Derived.Test.YtpebkgbelifdgaaDoorM6
import Derived.Test.YtpebkgbelifdgaaDoorM7
import Derived.Test.YtpebkgbelifdgaaDoorM8
import Derived.Test.YtpebkgbelifdgaaDoorM9
import Derived.Test.YtpebkgbelifdgaaDoorM10
import Derived.Test.YtpebkgbelifdgaaDoorM11
import Derived.Test.YtpebkgbelifdgaaDoorM12
section
namespace Go.Proofs.YtpebkgbelifdgaaDoor
open Go Go.Sx Go.RowKit
def invRound (i : Int) (f : Nat → Int) (v : Nat → Int) : Inv where
  X := Nat × Option Addr × Nat
  tm y := slotsAt 34 [(0, .one (sI .i64 i)), (3, .one (sI .u64 (v y.1))), (13, .one (sXs y.2.1 16 y.2.2 f)), (14, .one (sI .i64 16)), (15, .one (sI .i64 (y.1 : Int)))]
  ob _ := []
  holds y := y.1 ≤ 16
  less y := 16 - y.1
def lit_137a4bc9 : ByteArray := { data := ((([(48 : UInt8), (48 : UInt8), (48 : UInt8), (48 : UInt8), (48 : UInt8), (48 : UInt8), (48 : UInt8), (48 : UInt8), (48 : UInt8), (48 : UInt8), (48 : UInt8), (48 : UInt8), (48 : UInt8), (48 : UInt8), (48 : UInt8), (49 : UInt8), (48 : UInt8), (48 : UInt8), (48 : UInt8), (48 : UInt8), (48 : UInt8), (48 : UInt8), (48 : UInt8), (48 : UInt8), (48 : UInt8), (48 : UInt8), (48 : UInt8), (48 : UInt8), (56 : UInt8), (48 : UInt8), (56 : UInt8), (50 : UInt8), (56 : UInt8), (48 : UInt8), (48 : UInt8), (48 : UInt8), (48 : UInt8), (48 : UInt8), (48 : UInt8), (48 : UInt8), (48 : UInt8), (48 : UInt8), (48 : UInt8), (48 : UInt8), (56 : UInt8), (48 : UInt8), (56 : UInt8), (97 : UInt8)].append [(56 : UInt8), (48 : UInt8), (48 : UInt8), (48 : UInt8), (48 : UInt8), (48 : UInt8), (48 : UInt8), (48 : UInt8), (56 : UInt8), (48 : UInt8), (48 : UInt8), (48 : UInt8), (56 : UInt8), (48 : UInt8), (48 : UInt8), (48 : UInt8), (48 : UInt8), (48 : UInt8), (48 : UInt8), (48 : UInt8), (48 : UInt8), (48 : UInt8), (48 : UInt8), (48 : UInt8), (48 : UInt8), (48 : UInt8), (48 : UInt8), (48 : UInt8), (56 : UInt8), (48 : UInt8), (56 : UInt8), (98 : UInt8), (48 : UInt8), (48 : UInt8), (48 : UInt8), (48 : UInt8), (48 : UInt8), (48 : UInt8), (48 : UInt8), (48 : UInt8), (56 : UInt8), (48 : UInt8), (48 : UInt8), (48 : UInt8), (48 : UInt8), (48 : UInt8), (48 : UInt8), (49 : UInt8)]).append ([(56 : UInt8), (48 : UInt8), (48 : UInt8), (48 : UInt8), (48 : UInt8), (48 : UInt8), (48 : UInt8), (48 : UInt8), (56 : UInt8), (48 : UInt8), (48 : UInt8), (48 : UInt8), (56 : UInt8), (48 : UInt8), (56 : UInt8), (49 : UInt8), (56 : UInt8), (48 : UInt8), (48 : UInt8), (48 : UInt8), (48 : UInt8), (48 : UInt8), (48 : UInt8), (48 : UInt8), (48 : UInt8), (48 : UInt8), (48 : UInt8), (48 : UInt8), (56 : UInt8), (48 : UInt8), (48 : UInt8), (57 : UInt8), (48 : UInt8), (48 : UInt8), (48 : UInt8), (48 : UInt8), (48 : UInt8), (48 : UInt8), (48 : UInt8), (48 : UInt8), (48 : UInt8), (48 : UInt8), (48 : UInt8), (48 : UInt8), (48 : UInt8), (48 : UInt8), (56 : UInt8), (97 : UInt8)].append [(48 : UInt8), (48 : UInt8), (48 : UInt8), (48 : UInt8), (48 : UInt8), (48 : UInt8), (48 : UInt8), (48 : UInt8), (48 : UInt8), (48 : UInt8), (48 : UInt8), (48 : UInt8), (48 : UInt8), (48 : UInt8), (56 : UInt8), (56 : UInt8), (48 : UInt8), (48 : UInt8), (48 : UInt8), (48 : UInt8), (48 : UInt8), (48 : UInt8), (48 : UInt8), (48 : UInt8), (56 : UInt8), (48 : UInt8), (48 : UInt8), (48 : UInt8), (56 : UInt8), (48 : UInt8), (48 : UInt8), (57 : UInt8), (48 : UInt8), (48 : UInt8), (48 : UInt8), (48 : UInt8), (48 : UInt8), (48 : UInt8), (48 : UInt8), (48 : UInt8), (56 : UInt8), (48 : UInt8), (48 : UInt8), (48 : UInt8), (48 : UInt8), (48 : UInt8), (48 : UInt8), (97 : UInt8)])).append (([(48 : UInt8), (48 : UInt8), (48 : UInt8), (48 : UInt8), (48 : UInt8), (48 : UInt8), (48 : UInt8), (48 : UInt8), (56 : UInt8), (48 : UInt8), (48 : UInt8), (48 : UInt8), (56 : UInt8), (48 : UInt8), (56 : UInt8), (98 : UInt8), (56 : UInt8), (48 : UInt8), (48 : UInt8), (48 : UInt8), (48 : UInt8), (48 : UInt8), (48 : UInt8), (48 : UInt8), (48 : UInt8), (48 : UInt8), (48 : UInt8), (48 : UInt8), (48 : UInt8), (48 : UInt8), (56 : UInt8), (98 : UInt8), (56 : UInt8), (48 : UInt8), (48 : UInt8), (48 : UInt8), (48 : UInt8), (48 : UInt8), (48 : UInt8), (48 : UInt8), (48 : UInt8), (48 : UInt8), (48 : UInt8), (48 : UInt8), (56 : UInt8), (48 : UInt8), (56 : UInt8), (57 : UInt8)].append [(56 : UInt8), (48 : UInt8), (48 : UInt8), (48 : UInt8), (48 : UInt8), (48 : UInt8), (48 : UInt8), (48 : UInt8), (48 : UInt8), (48 : UInt8), (48 : UInt8), (48 : UInt8), (56 : UInt8), (48 : UInt8), (48 : UInt8), (51 : UInt8), (56 : UInt8), (48 : UInt8), (48 : UInt8), (48 : UInt8), (48 : UInt8), (48 : UInt8), (48 : UInt8), (48 : UInt8), (48 : UInt8), (48 : UInt8), (48 : UInt8), (48 : UInt8), (56 : UInt8), (48 : UInt8), (48 : UInt8), (50 : UInt8), (56 : UInt8), (48 : UInt8), (48 : UInt8), (48 : UInt8), (48 : UInt8), (48 : UInt8), (48 : UInt8), (48 : UInt8), (48 : UInt8), (48 : UInt8), (48 : UInt8), (48 : UInt8), (48 : UInt8), (48 : UInt8), (56 : UInt8), (48 : UInt8)]).append ([(48 : UInt8), (48 : UInt8), (48 : UInt8), (48 : UInt8), (48 : UInt8), (48 : UInt8), (48 : UInt8), (48 : UInt8), (48 : UInt8), (48 : UInt8), (48 : UInt8), (48 : UInt8), (56 : UInt8), (48 : UInt8), (48 : UInt8), (97 : UInt8), (56 : UInt8), (48 : UInt8), (48 : UInt8), (48 : UInt8), (48 : UInt8), (48 : UInt8), (48 : UInt8), (48 : UInt8), (56 : UInt8), (48 : UInt8), (48 : UInt8), (48 : UInt8), (48 : UInt8), (48 : UInt8), (48 : UInt8), (97 : UInt8), (56 : UInt8), (48 : UInt8), (48 : UInt8), (48 : UInt8), (48 : UInt8), (48 : UInt8), (48 : UInt8), (48 : UInt8), (56 : UInt8), (48 : UInt8), (48 : UInt8), (48 : UInt8), (56 : UInt8), (48 : UInt8), (56 : UInt8), (49 : UInt8)].append [(56 : UInt8), (48 : UInt8), (48 : UInt8), (48 : UInt8), (48 : UInt8), (48 : UInt8), (48 : UInt8), (48 : UInt8), (48 : UInt8), (48 : UInt8), (48 : UInt8), (48 : UInt8), (56 : UInt8), (48 : UInt8), (56 : UInt8), (48 : UInt8), (48 : UInt8), (48 : UInt8), (48 : UInt8), (48 : UInt8), (48 : UInt8), (48 : UInt8), (48 : UInt8), (48 : UInt8), (56 : UInt8), (48 : UInt8), (48 : UInt8), (48 : UInt8), (48 : UInt8), (48 : UInt8), (48 : UInt8), (49 : UInt8), (56 : UInt8), (48 : UInt8), (48 : UInt8), (48 : UInt8), (48 : UInt8), (48 : UInt8), (48 : UInt8), (48 : UInt8), (56 : UInt8), (48 : UInt8), (48 : UInt8), (48 : UInt8), (56 : UInt8), (48 : UInt8), (48 : UInt8), (56 : UInt8)]))).toArray }
theorem vc_roundOf (i : Int) (f v : Nat → Int) :
    Owes Tryd.prog Cx.none [(3, .inv (invRound i f v))] 30 Tryd.f35 [sI .i64 i] (rcG i) =
    (let x1 : Int := Go.IntKind.i64.wrap ((16 : Int) * i); let x2 : Int := (Go.IntKind.i64, x1).snd; let x3 : Int := (Go.IntKind.i64, Go.IntKind.i64.wrap (x1 + (16 : Int))).snd; let x4 : Nat := (lit_137a4bc9.extract x2.toNat x3.toNat).size; ((0 : Int) ≤ x2 ∧ x2 ≤ x3 ∧ x3 ≤ (384 : Int)) ∧ ∀ (a : Go.Addr) (cap : Nat), x4 ≤ cap → (∀ (y : Nat × Option Go.Addr × Nat), closedB (slotsAt 34 [(0, SV.one (sI Go.IntKind.i64 i)), (3, SV.one (sI Go.IntKind.u64 (v y.fst))), (13, SV.one (sXs y.snd.fst 16 y.snd.snd f)), (14, SV.one (sI Go.IntKind.i64 (16 : Int))), (15, SV.one (sI Go.IntKind.i64 (↑y.fst : Int)))]) [] = Bool.true) ∧ ∃ (y : Nat × Option Go.Addr × Nat), y.fst ≤ 16 ∧ i = i ∧ (0 : Int) = v y.fst ∧ (Option.some a = y.snd.fst ∧ x4 = 16 ∧ cap = y.snd.snd ∧ ∀ (i : Nat), i < x4 → (↑((lit_137a4bc9.extract x2.toNat x3.toNat).data.getD i (0 : UInt8)).toNat : Int) = f i) ∧ (↑x4 : Int) = (16 : Int) ∧ (0 : Int) = (↑y.fst : Int) ∧ ∀ (y : Nat × Option Go.Addr × Nat), y.fst ≤ 16 → (Decidable.decide ((↑y.fst : Int) < (16 : Int)) = Bool.true → ((0 : Int) ≤ (↑y.fst : Int) ∧ (↑y.fst : Int) < (16 : Int)) ∧ (Decidable.decide (f (↑y.fst : Int).toNat ≥ (97 : Int)) = Bool.true → ∃ (y' : Nat × Option Go.Addr × Nat), y'.fst ≤ 16 ∧ i = i ∧ Go.IntKind.u64.wrap (Go.IntKind.u64.wrap (v y.fst * (16 : Int)) + Go.IntKind.u64.wrap (Go.IntKind.u64.wrap (Go.IntKind.u8.wrap (f (↑y.fst : Int).toNat - (97 : Int))) + (10 : Int))) = v y'.fst ∧ (y.snd.fst = y'.snd.fst ∧ 16 = 16 ∧ y.snd.snd = y'.snd.snd ∧ ∀ (i : Nat), i < 16 → f i = f i) ∧ (16 : Int) = (16 : Int) ∧ Go.IntKind.i64.wrap ((↑y.fst : Int) + (1 : Int)) = (↑y'.fst : Int) ∧ 16 - y'.fst < 16 - y.fst) ∧ (Decidable.decide (f (↑y.fst : Int).toNat ≥ (97 : Int)) = Bool.false → ∃ (y' : Nat × Option Go.Addr × Nat), y'.fst ≤ 16 ∧ i = i ∧ Go.IntKind.u64.wrap (Go.IntKind.u64.wrap (v y.fst * (16 : Int)) + Go.IntKind.u64.wrap (Go.IntKind.u8.wrap (f (↑y.fst : Int).toNat - (48 : Int)))) = v y'.fst ∧ (y.snd.fst = y'.snd.fst ∧ 16 = 16 ∧ y.snd.snd = y'.snd.snd ∧ ∀ (i : Nat), i < 16 → f i = f i) ∧ (16 : Int) = (16 : Int) ∧ Go.IntKind.i64.wrap ((↑y.fst : Int) + (1 : Int)) = (↑y'.fst : Int) ∧ 16 - y'.fst < 16 - y.fst)) ∧ (Decidable.decide ((↑y.fst : Int) < (16 : Int)) = Bool.false → v y.fst = lw (rcN.getD i.toNat (0 : BitVec 64)))) := by kernel_rfl
end Go.Proofs.YtpebkgbelifdgaaDoor
end

section
namespace Go.Proofs.YtpebkgbelifdgaaDoor
open Go Go.Sx Go.RowKit
def fR (k j : Nat) : Int := ((lit_137a4bc9.extract (16 * k) (16 * k + 16)).data.getD j 0).toNat
def valP (f : Nat → Int) : Nat → Int
  | 0 => 0
  | j + 1 => match decide (f j ≥ 97) with
    | true => IntKind.u64.wrap (IntKind.u64.wrap (valP f j * 16) + IntKind.u64.wrap (IntKind.u64.wrap (IntKind.u8.wrap (f j - 97)) + 10))
    | false => IntKind.u64.wrap (IntKind.u64.wrap (valP f j * 16) + IntKind.u64.wrap (IntKind.u8.wrap (f j - 48)))
theorem rc_val : ∀ k, k < 24 → valP (fR k) 16 = lw (rcN.getD k 0) ∧ (lit_137a4bc9.extract (16 * k) (16 * k + 16)).size = 16 := by decide +kernel
theorem ok_roundOf (i : Int) (h : 0 ≤ i ∧ i ≤ 23) : Owes Tryd.prog Cx.none [(3, .inv (invRound i (fR i.toNat) (valP (fR i.toNat))))] 30 Tryd.f35 [sI .i64 i] (rcG i) := by
  obtain ⟨k, rfl⟩ := Int.eq_ofNat_of_zero_le h.1
  rw [vc_roundOf]
  intro x1 x2 x3 x4
  have hk : k < 24 := by omega
  have e1 : x1 = 16 * (k : Int) := by
    show IntKind.i64.wrap _ = _
    rw [IntKind.wrap_i64]; omega
  have e2 : x2 = 16 * (k : Int) := e1
  have e3 : x3 = 16 * (k : Int) + 16 := by
    show IntKind.i64.wrap (x1 + 16) = _
    rw [e1, IntKind.wrap_i64]; omega
  have t2 : x2.toNat = 16 * k := by rw [e2]; omega
  have t3 : x3.toNat = 16 * k + 16 := by rw [e3]; omega
  have e4 : x4 = 16 := by
    show (lit_137a4bc9.extract x2.toNat x3.toNat).size = 16
    rw [t2, t3]
    exact (rc_val k hk).2
  have ek : ((k : Int)).toNat = k := Int.toNat_natCast k
  refine ⟨by omega, fun a cap _ => ⟨fun y => rfl, (0, some a, cap), Nat.zero_le _, rfl, rfl, ⟨rfl, e4, rfl, fun j _ => ?_⟩, by rw [e4]; rfl, rfl, ?_⟩⟩
  · rw [t2, t3, ek]; rfl
  rintro ⟨j, ad, cp⟩ hj
  have hj : j ≤ 16 := hj
  refine ⟨fun hlt => ?_, fun hge => ?_⟩
  · have hlt : (j : Int) < 16 := of_decide_eq_true hlt
    have w : IntKind.i64.wrap ((j : Int) + 1) = ((j + 1 : Nat) : Int) := by rw [IntKind.wrap_i64]; omega
    refine ⟨⟨by simp only; omega, hlt⟩, fun hc => ⟨(j + 1, ad, cp), by simp only; omega, rfl, ?_, ⟨rfl, rfl, rfl, fun _ _ => rfl⟩, rfl, w, by simp only; omega⟩, fun hc => ⟨(j + 1, ad, cp), by simp only; omega, rfl, ?_, ⟨rfl, rfl, rfl, fun _ _ => rfl⟩, rfl, w, by simp only; omega⟩⟩
    · simp only [Int.toNat_natCast] at hc ⊢
      rw [valP, hc]
    · simp only [Int.toNat_natCast] at hc ⊢
      rw [valP, hc]
  · have hge : ¬ (j : Int) < 16 := of_decide_eq_false hge
    have : j = 16 := by omega
    subst this
    show valP (fR ((k : Int)).toNat) 16 = _
    rw [ek]
    exact (rc_val k hk).1
theorem card_roundOf : FnOKg Tryd.prog [] 35 (specI (fun i => [0 ≤ i ∧ i ≤ 23]) rcG) :=
  FnOK_I (cx := Cx.none) ⟨fun p hp => (by cases hp), fun _ h => (by cases h)⟩ (iv := fun i => [(3, .inv (invRound i (fR i.toNat) (valP (fR i.toNat))))]) (N := 30) Tryd.func35 (by kernel_rfl) (by kernel_rfl) (fun _ => trivial) fun i h => ok_roundOf i h.1
end Go.Proofs.YtpebkgbelifdgaaDoor
end

section
namespace Go.Proofs.YtpebkgbelifdgaaDoor
open Go Go.Sx Go.RowKit
theorem and63N {k : Int} (h : 0 ≤ k ∧ k < 4096) : IntKind.u64.wrap (((BitVec.ofInt 64 (IntKind.u64.wrap k) &&& BitVec.ofInt 64 63).toNat : Nat) : Int) = k % 64 := by
  obtain ⟨n, rfl⟩ := Int.eq_ofNat_of_zero_le h.1
  have hn : n < 4096 := by omega
  have e1 : ∀ m : Nat, m < 4096 → IntKind.u64.wrap (m : Int) = ((m : Nat) : Int) := fun m hm => by rw [wrap_cast]; omega
  rw [e1 n hn]
  have e2 : (BitVec.ofInt 64 ((n : Nat) : Int) &&& BitVec.ofInt 64 63).toNat = n % 64 := by
    rw [BitVec.toNat_and, toNat_ofNat_cast, show (BitVec.ofInt 64 63).toNat = 2 ^ 6 - 1 by decide, Nat.and_two_pow_sub_one_eq_mod]
    omega
  rw [e2, e1 _ (by omega)]
  omega
theorem ok_rotlN (v : BitVec 64) (k : Int) (h : 0 ≤ k ∧ k < 4096) : Owes Tryd.prog Cx.none [] 10 Tryd.f34 [sI .u64 (lw v), sI .i64 k] (.one (sI .u64 (rotlM (lw v) k))) := by
  rw [vc_rotlN]
  intro x1 x2
  have e1 : x1 = k % 64 := and63N h
  have e2 : x2 = 64 - k % 64 := by
    show IntKind.u64.wrap (64 - x1) = _
    rw [e1]
    obtain ⟨n, hn⟩ := Int.eq_ofNat_of_zero_le (show 0 ≤ 64 - k % 64 by omega)
    rw [hn, wrap_cast]
    omega
  rw [e1, e2]
  refine ⟨by omega, by omega, ?_⟩
  have hk : ((k.toNat % 64 : Nat) : Int) = k % 64 := by omega
  rw [show rotlM (lw v) k = lw (v.rotateLeft (k.toNat % 64)) by unfold rotlM; rw [ofInt_lw], wrap_nat]
  have h1 : Min.min (k % 64).toNat 64 = k.toNat % 64 := by omega
  have h2 : Min.min (64 - k % 64).toNat 64 = 64 - k.toNat % 64 := by omega
  rw [h1, h2, rot_eq v (k.toNat % 64) (by omega)]
theorem card_rotlN : FnOKg Tryd.prog [] 34 specRotlN := by
  refine FnOK_owesG (cx := Cx.none) ⟨fun p hp => (by cases hp), fun _ h => (by cases h)⟩ Tryd.func34 (by kernel_rfl) (by kernel_rfl) fun args ps sv hs hp => ?_
  unfold specRotlN at hs
  split at hs
  · rename_i x y
    split at hs
    · rename_i x' k' hx hk
      simp only [Option.some.injEq, Prod.mk.injEq] at hs
      obtain ⟨rfl, rfl⟩ := hs
      obtain ⟨h1, h2, _⟩ := hp
      refine ⟨[], 10, [sI .u64 (lw (BitVec.ofInt 64 x')), sI .i64 k'], fun ρ => ?_, fun fz _ z hz => ?_, trivial, ?_⟩
      · rw [lw_of h1]
        simp only [List.map_cons, List.map_nil, asI_sound hx ρ, asI_sound hk ρ]
        rfl
      · simp only [List.mem_cons, List.not_mem_nil, or_false] at hz
        rcases hz with rfl | rfl <;> trivial
      · have := ok_rotlN (BitVec.ofInt 64 x') k' h2
        rw [lw_of h1] at this ⊢
        exact this
    · cases hs
  · cases hs
theorem rot_nought (v : BitVec 64) : v.rotateLeft 0 = v := by
  apply BitVec.eq_of_getLsbD_eq
  intro i hi
  simp [BitVec.getLsbD_rotateLeft, hi]
theorem row_of (t : Nat → BitVec 64) (y : Nat) : lw (((t 0 ^^^ ((t 4 ^^^ t 9 ^^^ t 14 ^^^ t 19 ^^^ t 24) ^^^ ((t 1 ^^^ t 6 ^^^ t 11 ^^^ t 16 ^^^ t 21)).rotateLeft 1)) ^^^ (~~~ ((t 6 ^^^ ((t 0 ^^^ t 5 ^^^ t 10 ^^^ t 15 ^^^ t 20) ^^^ ((t 2 ^^^ t 7 ^^^ t 12 ^^^ t 17 ^^^ t 22)).rotateLeft 1)).rotateLeft 44) &&& ((t 12 ^^^ ((t 1 ^^^ t 6 ^^^ t 11 ^^^ t 16 ^^^ t 21) ^^^ ((t 3 ^^^ t 8 ^^^ t 13 ^^^ t 18 ^^^ t 23)).rotateLeft 1)).rotateLeft 43))) ^^^ rcN.getD y 0) = lw (roundB t y 0) ∧
    lw (((t 6 ^^^ ((t 0 ^^^ t 5 ^^^ t 10 ^^^ t 15 ^^^ t 20) ^^^ ((t 2 ^^^ t 7 ^^^ t 12 ^^^ t 17 ^^^ t 22)).rotateLeft 1)).rotateLeft 44) ^^^ (~~~ ((t 12 ^^^ ((t 1 ^^^ t 6 ^^^ t 11 ^^^ t 16 ^^^ t 21) ^^^ ((t 3 ^^^ t 8 ^^^ t 13 ^^^ t 18 ^^^ t 23)).rotateLeft 1)).rotateLeft 43) &&& ((t 18 ^^^ ((t 2 ^^^ t 7 ^^^ t 12 ^^^ t 17 ^^^ t 22) ^^^ ((t 4 ^^^ t 9 ^^^ t 14 ^^^ t 19 ^^^ t 24)).rotateLeft 1)).rotateLeft 21))) = lw (roundB t y 1) ∧
    lw (((t 12 ^^^ ((t 1 ^^^ t 6 ^^^ t 11 ^^^ t 16 ^^^ t 21) ^^^ ((t 3 ^^^ t 8 ^^^ t 13 ^^^ t 18 ^^^ t 23)).rotateLeft 1)).rotateLeft 43) ^^^ (~~~ ((t 18 ^^^ ((t 2 ^^^ t 7 ^^^ t 12 ^^^ t 17 ^^^ t 22) ^^^ ((t 4 ^^^ t 9 ^^^ t 14 ^^^ t 19 ^^^ t 24)).rotateLeft 1)).rotateLeft 21) &&& ((t 24 ^^^ ((t 3 ^^^ t 8 ^^^ t 13 ^^^ t 18 ^^^ t 23) ^^^ ((t 0 ^^^ t 5 ^^^ t 10 ^^^ t 15 ^^^ t 20)).rotateLeft 1)).rotateLeft 14))) = lw (roundB t y 2) ∧
    lw (((t 18 ^^^ ((t 2 ^^^ t 7 ^^^ t 12 ^^^ t 17 ^^^ t 22) ^^^ ((t 4 ^^^ t 9 ^^^ t 14 ^^^ t 19 ^^^ t 24)).rotateLeft 1)).rotateLeft 21) ^^^ (~~~ ((t 24 ^^^ ((t 3 ^^^ t 8 ^^^ t 13 ^^^ t 18 ^^^ t 23) ^^^ ((t 0 ^^^ t 5 ^^^ t 10 ^^^ t 15 ^^^ t 20)).rotateLeft 1)).rotateLeft 14) &&& (t 0 ^^^ ((t 4 ^^^ t 9 ^^^ t 14 ^^^ t 19 ^^^ t 24) ^^^ ((t 1 ^^^ t 6 ^^^ t 11 ^^^ t 16 ^^^ t 21)).rotateLeft 1)))) = lw (roundB t y 3) ∧
    lw (((t 24 ^^^ ((t 3 ^^^ t 8 ^^^ t 13 ^^^ t 18 ^^^ t 23) ^^^ ((t 0 ^^^ t 5 ^^^ t 10 ^^^ t 15 ^^^ t 20)).rotateLeft 1)).rotateLeft 14) ^^^ (~~~ (t 0 ^^^ ((t 4 ^^^ t 9 ^^^ t 14 ^^^ t 19 ^^^ t 24) ^^^ ((t 1 ^^^ t 6 ^^^ t 11 ^^^ t 16 ^^^ t 21)).rotateLeft 1)) &&& ((t 6 ^^^ ((t 0 ^^^ t 5 ^^^ t 10 ^^^ t 15 ^^^ t 20) ^^^ ((t 2 ^^^ t 7 ^^^ t 12 ^^^ t 17 ^^^ t 22)).rotateLeft 1)).rotateLeft 44))) = lw (roundB t y 4) ∧
    lw (((t 3 ^^^ ((t 2 ^^^ t 7 ^^^ t 12 ^^^ t 17 ^^^ t 22) ^^^ ((t 4 ^^^ t 9 ^^^ t 14 ^^^ t 19 ^^^ t 24)).rotateLeft 1)).rotateLeft 28) ^^^ (~~~ ((t 9 ^^^ ((t 3 ^^^ t 8 ^^^ t 13 ^^^ t 18 ^^^ t 23) ^^^ ((t 0 ^^^ t 5 ^^^ t 10 ^^^ t 15 ^^^ t 20)).rotateLeft 1)).rotateLeft 20) &&& ((t 10 ^^^ ((t 4 ^^^ t 9 ^^^ t 14 ^^^ t 19 ^^^ t 24) ^^^ ((t 1 ^^^ t 6 ^^^ t 11 ^^^ t 16 ^^^ t 21)).rotateLeft 1)).rotateLeft 3))) = lw (roundB t y 5) ∧
    lw (((t 9 ^^^ ((t 3 ^^^ t 8 ^^^ t 13 ^^^ t 18 ^^^ t 23) ^^^ ((t 0 ^^^ t 5 ^^^ t 10 ^^^ t 15 ^^^ t 20)).rotateLeft 1)).rotateLeft 20) ^^^ (~~~ ((t 10 ^^^ ((t 4 ^^^ t 9 ^^^ t 14 ^^^ t 19 ^^^ t 24) ^^^ ((t 1 ^^^ t 6 ^^^ t 11 ^^^ t 16 ^^^ t 21)).rotateLeft 1)).rotateLeft 3) &&& ((t 16 ^^^ ((t 0 ^^^ t 5 ^^^ t 10 ^^^ t 15 ^^^ t 20) ^^^ ((t 2 ^^^ t 7 ^^^ t 12 ^^^ t 17 ^^^ t 22)).rotateLeft 1)).rotateLeft 45))) = lw (roundB t y 6) ∧
    lw (((t 10 ^^^ ((t 4 ^^^ t 9 ^^^ t 14 ^^^ t 19 ^^^ t 24) ^^^ ((t 1 ^^^ t 6 ^^^ t 11 ^^^ t 16 ^^^ t 21)).rotateLeft 1)).rotateLeft 3) ^^^ (~~~ ((t 16 ^^^ ((t 0 ^^^ t 5 ^^^ t 10 ^^^ t 15 ^^^ t 20) ^^^ ((t 2 ^^^ t 7 ^^^ t 12 ^^^ t 17 ^^^ t 22)).rotateLeft 1)).rotateLeft 45) &&& ((t 22 ^^^ ((t 1 ^^^ t 6 ^^^ t 11 ^^^ t 16 ^^^ t 21) ^^^ ((t 3 ^^^ t 8 ^^^ t 13 ^^^ t 18 ^^^ t 23)).rotateLeft 1)).rotateLeft 61))) = lw (roundB t y 7) ∧
    lw (((t 16 ^^^ ((t 0 ^^^ t 5 ^^^ t 10 ^^^ t 15 ^^^ t 20) ^^^ ((t 2 ^^^ t 7 ^^^ t 12 ^^^ t 17 ^^^ t 22)).rotateLeft 1)).rotateLeft 45) ^^^ (~~~ ((t 22 ^^^ ((t 1 ^^^ t 6 ^^^ t 11 ^^^ t 16 ^^^ t 21) ^^^ ((t 3 ^^^ t 8 ^^^ t 13 ^^^ t 18 ^^^ t 23)).rotateLeft 1)).rotateLeft 61) &&& ((t 3 ^^^ ((t 2 ^^^ t 7 ^^^ t 12 ^^^ t 17 ^^^ t 22) ^^^ ((t 4 ^^^ t 9 ^^^ t 14 ^^^ t 19 ^^^ t 24)).rotateLeft 1)).rotateLeft 28))) = lw (roundB t y 8) ∧
    lw (((t 22 ^^^ ((t 1 ^^^ t 6 ^^^ t 11 ^^^ t 16 ^^^ t 21) ^^^ ((t 3 ^^^ t 8 ^^^ t 13 ^^^ t 18 ^^^ t 23)).rotateLeft 1)).rotateLeft 61) ^^^ (~~~ ((t 3 ^^^ ((t 2 ^^^ t 7 ^^^ t 12 ^^^ t 17 ^^^ t 22) ^^^ ((t 4 ^^^ t 9 ^^^ t 14 ^^^ t 19 ^^^ t 24)).rotateLeft 1)).rotateLeft 28) &&& ((t 9 ^^^ ((t 3 ^^^ t 8 ^^^ t 13 ^^^ t 18 ^^^ t 23) ^^^ ((t 0 ^^^ t 5 ^^^ t 10 ^^^ t 15 ^^^ t 20)).rotateLeft 1)).rotateLeft 20))) = lw (roundB t y 9) ∧
    lw (((t 1 ^^^ ((t 0 ^^^ t 5 ^^^ t 10 ^^^ t 15 ^^^ t 20) ^^^ ((t 2 ^^^ t 7 ^^^ t 12 ^^^ t 17 ^^^ t 22)).rotateLeft 1)).rotateLeft 1) ^^^ (~~~ ((t 7 ^^^ ((t 1 ^^^ t 6 ^^^ t 11 ^^^ t 16 ^^^ t 21) ^^^ ((t 3 ^^^ t 8 ^^^ t 13 ^^^ t 18 ^^^ t 23)).rotateLeft 1)).rotateLeft 6) &&& ((t 13 ^^^ ((t 2 ^^^ t 7 ^^^ t 12 ^^^ t 17 ^^^ t 22) ^^^ ((t 4 ^^^ t 9 ^^^ t 14 ^^^ t 19 ^^^ t 24)).rotateLeft 1)).rotateLeft 25))) = lw (roundB t y 10) ∧
    lw (((t 7 ^^^ ((t 1 ^^^ t 6 ^^^ t 11 ^^^ t 16 ^^^ t 21) ^^^ ((t 3 ^^^ t 8 ^^^ t 13 ^^^ t 18 ^^^ t 23)).rotateLeft 1)).rotateLeft 6) ^^^ (~~~ ((t 13 ^^^ ((t 2 ^^^ t 7 ^^^ t 12 ^^^ t 17 ^^^ t 22) ^^^ ((t 4 ^^^ t 9 ^^^ t 14 ^^^ t 19 ^^^ t 24)).rotateLeft 1)).rotateLeft 25) &&& ((t 19 ^^^ ((t 3 ^^^ t 8 ^^^ t 13 ^^^ t 18 ^^^ t 23) ^^^ ((t 0 ^^^ t 5 ^^^ t 10 ^^^ t 15 ^^^ t 20)).rotateLeft 1)).rotateLeft 8))) = lw (roundB t y 11) ∧
    lw (((t 13 ^^^ ((t 2 ^^^ t 7 ^^^ t 12 ^^^ t 17 ^^^ t 22) ^^^ ((t 4 ^^^ t 9 ^^^ t 14 ^^^ t 19 ^^^ t 24)).rotateLeft 1)).rotateLeft 25) ^^^ (~~~ ((t 19 ^^^ ((t 3 ^^^ t 8 ^^^ t 13 ^^^ t 18 ^^^ t 23) ^^^ ((t 0 ^^^ t 5 ^^^ t 10 ^^^ t 15 ^^^ t 20)).rotateLeft 1)).rotateLeft 8) &&& ((t 20 ^^^ ((t 4 ^^^ t 9 ^^^ t 14 ^^^ t 19 ^^^ t 24) ^^^ ((t 1 ^^^ t 6 ^^^ t 11 ^^^ t 16 ^^^ t 21)).rotateLeft 1)).rotateLeft 18))) = lw (roundB t y 12) ∧
    lw (((t 19 ^^^ ((t 3 ^^^ t 8 ^^^ t 13 ^^^ t 18 ^^^ t 23) ^^^ ((t 0 ^^^ t 5 ^^^ t 10 ^^^ t 15 ^^^ t 20)).rotateLeft 1)).rotateLeft 8) ^^^ (~~~ ((t 20 ^^^ ((t 4 ^^^ t 9 ^^^ t 14 ^^^ t 19 ^^^ t 24) ^^^ ((t 1 ^^^ t 6 ^^^ t 11 ^^^ t 16 ^^^ t 21)).rotateLeft 1)).rotateLeft 18) &&& ((t 1 ^^^ ((t 0 ^^^ t 5 ^^^ t 10 ^^^ t 15 ^^^ t 20) ^^^ ((t 2 ^^^ t 7 ^^^ t 12 ^^^ t 17 ^^^ t 22)).rotateLeft 1)).rotateLeft 1))) = lw (roundB t y 13) ∧
    lw (((t 20 ^^^ ((t 4 ^^^ t 9 ^^^ t 14 ^^^ t 19 ^^^ t 24) ^^^ ((t 1 ^^^ t 6 ^^^ t 11 ^^^ t 16 ^^^ t 21)).rotateLeft 1)).rotateLeft 18) ^^^ (~~~ ((t 1 ^^^ ((t 0 ^^^ t 5 ^^^ t 10 ^^^ t 15 ^^^ t 20) ^^^ ((t 2 ^^^ t 7 ^^^ t 12 ^^^ t 17 ^^^ t 22)).rotateLeft 1)).rotateLeft 1) &&& ((t 7 ^^^ ((t 1 ^^^ t 6 ^^^ t 11 ^^^ t 16 ^^^ t 21) ^^^ ((t 3 ^^^ t 8 ^^^ t 13 ^^^ t 18 ^^^ t 23)).rotateLeft 1)).rotateLeft 6))) = lw (roundB t y 14) ∧
    lw (((t 4 ^^^ ((t 3 ^^^ t 8 ^^^ t 13 ^^^ t 18 ^^^ t 23) ^^^ ((t 0 ^^^ t 5 ^^^ t 10 ^^^ t 15 ^^^ t 20)).rotateLeft 1)).rotateLeft 27) ^^^ (~~~ ((t 5 ^^^ ((t 4 ^^^ t 9 ^^^ t 14 ^^^ t 19 ^^^ t 24) ^^^ ((t 1 ^^^ t 6 ^^^ t 11 ^^^ t 16 ^^^ t 21)).rotateLeft 1)).rotateLeft 36) &&& ((t 11 ^^^ ((t 0 ^^^ t 5 ^^^ t 10 ^^^ t 15 ^^^ t 20) ^^^ ((t 2 ^^^ t 7 ^^^ t 12 ^^^ t 17 ^^^ t 22)).rotateLeft 1)).rotateLeft 10))) = lw (roundB t y 15) ∧
    lw (((t 5 ^^^ ((t 4 ^^^ t 9 ^^^ t 14 ^^^ t 19 ^^^ t 24) ^^^ ((t 1 ^^^ t 6 ^^^ t 11 ^^^ t 16 ^^^ t 21)).rotateLeft 1)).rotateLeft 36) ^^^ (~~~ ((t 11 ^^^ ((t 0 ^^^ t 5 ^^^ t 10 ^^^ t 15 ^^^ t 20) ^^^ ((t 2 ^^^ t 7 ^^^ t 12 ^^^ t 17 ^^^ t 22)).rotateLeft 1)).rotateLeft 10) &&& ((t 17 ^^^ ((t 1 ^^^ t 6 ^^^ t 11 ^^^ t 16 ^^^ t 21) ^^^ ((t 3 ^^^ t 8 ^^^ t 13 ^^^ t 18 ^^^ t 23)).rotateLeft 1)).rotateLeft 15))) = lw (roundB t y 16) ∧
    lw (((t 11 ^^^ ((t 0 ^^^ t 5 ^^^ t 10 ^^^ t 15 ^^^ t 20) ^^^ ((t 2 ^^^ t 7 ^^^ t 12 ^^^ t 17 ^^^ t 22)).rotateLeft 1)).rotateLeft 10) ^^^ (~~~ ((t 17 ^^^ ((t 1 ^^^ t 6 ^^^ t 11 ^^^ t 16 ^^^ t 21) ^^^ ((t 3 ^^^ t 8 ^^^ t 13 ^^^ t 18 ^^^ t 23)).rotateLeft 1)).rotateLeft 15) &&& ((t 23 ^^^ ((t 2 ^^^ t 7 ^^^ t 12 ^^^ t 17 ^^^ t 22) ^^^ ((t 4 ^^^ t 9 ^^^ t 14 ^^^ t 19 ^^^ t 24)).rotateLeft 1)).rotateLeft 56))) = lw (roundB t y 17) ∧
    lw (((t 17 ^^^ ((t 1 ^^^ t 6 ^^^ t 11 ^^^ t 16 ^^^ t 21) ^^^ ((t 3 ^^^ t 8 ^^^ t 13 ^^^ t 18 ^^^ t 23)).rotateLeft 1)).rotateLeft 15) ^^^ (~~~ ((t 23 ^^^ ((t 2 ^^^ t 7 ^^^ t 12 ^^^ t 17 ^^^ t 22) ^^^ ((t 4 ^^^ t 9 ^^^ t 14 ^^^ t 19 ^^^ t 24)).rotateLeft 1)).rotateLeft 56) &&& ((t 4 ^^^ ((t 3 ^^^ t 8 ^^^ t 13 ^^^ t 18 ^^^ t 23) ^^^ ((t 0 ^^^ t 5 ^^^ t 10 ^^^ t 15 ^^^ t 20)).rotateLeft 1)).rotateLeft 27))) = lw (roundB t y 18) ∧
    lw (((t 23 ^^^ ((t 2 ^^^ t 7 ^^^ t 12 ^^^ t 17 ^^^ t 22) ^^^ ((t 4 ^^^ t 9 ^^^ t 14 ^^^ t 19 ^^^ t 24)).rotateLeft 1)).rotateLeft 56) ^^^ (~~~ ((t 4 ^^^ ((t 3 ^^^ t 8 ^^^ t 13 ^^^ t 18 ^^^ t 23) ^^^ ((t 0 ^^^ t 5 ^^^ t 10 ^^^ t 15 ^^^ t 20)).rotateLeft 1)).rotateLeft 27) &&& ((t 5 ^^^ ((t 4 ^^^ t 9 ^^^ t 14 ^^^ t 19 ^^^ t 24) ^^^ ((t 1 ^^^ t 6 ^^^ t 11 ^^^ t 16 ^^^ t 21)).rotateLeft 1)).rotateLeft 36))) = lw (roundB t y 19) ∧
    lw (((t 2 ^^^ ((t 1 ^^^ t 6 ^^^ t 11 ^^^ t 16 ^^^ t 21) ^^^ ((t 3 ^^^ t 8 ^^^ t 13 ^^^ t 18 ^^^ t 23)).rotateLeft 1)).rotateLeft 62) ^^^ (~~~ ((t 8 ^^^ ((t 2 ^^^ t 7 ^^^ t 12 ^^^ t 17 ^^^ t 22) ^^^ ((t 4 ^^^ t 9 ^^^ t 14 ^^^ t 19 ^^^ t 24)).rotateLeft 1)).rotateLeft 55) &&& ((t 14 ^^^ ((t 3 ^^^ t 8 ^^^ t 13 ^^^ t 18 ^^^ t 23) ^^^ ((t 0 ^^^ t 5 ^^^ t 10 ^^^ t 15 ^^^ t 20)).rotateLeft 1)).rotateLeft 39))) = lw (roundB t y 20) ∧
    lw (((t 8 ^^^ ((t 2 ^^^ t 7 ^^^ t 12 ^^^ t 17 ^^^ t 22) ^^^ ((t 4 ^^^ t 9 ^^^ t 14 ^^^ t 19 ^^^ t 24)).rotateLeft 1)).rotateLeft 55) ^^^ (~~~ ((t 14 ^^^ ((t 3 ^^^ t 8 ^^^ t 13 ^^^ t 18 ^^^ t 23) ^^^ ((t 0 ^^^ t 5 ^^^ t 10 ^^^ t 15 ^^^ t 20)).rotateLeft 1)).rotateLeft 39) &&& ((t 15 ^^^ ((t 4 ^^^ t 9 ^^^ t 14 ^^^ t 19 ^^^ t 24) ^^^ ((t 1 ^^^ t 6 ^^^ t 11 ^^^ t 16 ^^^ t 21)).rotateLeft 1)).rotateLeft 41))) = lw (roundB t y 21) ∧
    lw (((t 14 ^^^ ((t 3 ^^^ t 8 ^^^ t 13 ^^^ t 18 ^^^ t 23) ^^^ ((t 0 ^^^ t 5 ^^^ t 10 ^^^ t 15 ^^^ t 20)).rotateLeft 1)).rotateLeft 39) ^^^ (~~~ ((t 15 ^^^ ((t 4 ^^^ t 9 ^^^ t 14 ^^^ t 19 ^^^ t 24) ^^^ ((t 1 ^^^ t 6 ^^^ t 11 ^^^ t 16 ^^^ t 21)).rotateLeft 1)).rotateLeft 41) &&& ((t 21 ^^^ ((t 0 ^^^ t 5 ^^^ t 10 ^^^ t 15 ^^^ t 20) ^^^ ((t 2 ^^^ t 7 ^^^ t 12 ^^^ t 17 ^^^ t 22)).rotateLeft 1)).rotateLeft 2))) = lw (roundB t y 22) ∧
    lw (((t 15 ^^^ ((t 4 ^^^ t 9 ^^^ t 14 ^^^ t 19 ^^^ t 24) ^^^ ((t 1 ^^^ t 6 ^^^ t 11 ^^^ t 16 ^^^ t 21)).rotateLeft 1)).rotateLeft 41) ^^^ (~~~ ((t 21 ^^^ ((t 0 ^^^ t 5 ^^^ t 10 ^^^ t 15 ^^^ t 20) ^^^ ((t 2 ^^^ t 7 ^^^ t 12 ^^^ t 17 ^^^ t 22)).rotateLeft 1)).rotateLeft 2) &&& ((t 2 ^^^ ((t 1 ^^^ t 6 ^^^ t 11 ^^^ t 16 ^^^ t 21) ^^^ ((t 3 ^^^ t 8 ^^^ t 13 ^^^ t 18 ^^^ t 23)).rotateLeft 1)).rotateLeft 62))) = lw (roundB t y 23) ∧
    lw (((t 21 ^^^ ((t 0 ^^^ t 5 ^^^ t 10 ^^^ t 15 ^^^ t 20) ^^^ ((t 2 ^^^ t 7 ^^^ t 12 ^^^ t 17 ^^^ t 22)).rotateLeft 1)).rotateLeft 2) ^^^ (~~~ ((t 2 ^^^ ((t 1 ^^^ t 6 ^^^ t 11 ^^^ t 16 ^^^ t 21) ^^^ ((t 3 ^^^ t 8 ^^^ t 13 ^^^ t 18 ^^^ t 23)).rotateLeft 1)).rotateLeft 62) &&& ((t 8 ^^^ ((t 2 ^^^ t 7 ^^^ t 12 ^^^ t 17 ^^^ t 22) ^^^ ((t 4 ^^^ t 9 ^^^ t 14 ^^^ t 19 ^^^ t 24)).rotateLeft 1)).rotateLeft 55))) = lw (roundB t y 24) := by
  simp only [roundB, chiB, scatB, thetaB, colB, srcN, offN, List.getD_cons_succ, List.getD_cons_zero, rot_nought, Nat.reduceAdd, Nat.reduceMod, Nat.reduceDiv, Nat.reduceMul, if_true, Nat.reduceEqDiff, if_false, and_self]
theorem ok_Turned (a : Nat → BitVec 64) : Owes Tryd.prog cxTurned [(2, .inv (invTurned a))] 30 Tryd.f30 [sRow .u64 25 fun i => lw (a i)] (.one (sRow .u64 25 fun i => lw (turnB a i))) := by
  rw [vc_Turned]
  refine ⟨fun y => rfl, 0, by omega, rfl, ⟨fun j _ => rfl, trivial⟩, rfl, rfl, fun y hy => ⟨fun hlt => ?_, fun hge => ?_⟩⟩
  · have hlt : y < 24 := by have := of_decide_eq_true hlt; omega
    have ny : ((y : Int)).toNat = y := Int.toNat_natCast y
    have m1 : IntKind.i64.wrap ((y : Int) + 1) = ((y + 1 : Nat) : Int) := by rw [IntKind.wrap_i64]; omega
    simp only [wrap_nat, ofInt_lw, not_lane, rotlM, Int.reduceToNat, Nat.reduceMod, lane_lw, and_self, true_and, ny, m1, Int.reduceLE, Int.reduceLT]
    refine ⟨⟨by omega, by omega⟩, y + 1, by omega, rfl, ?_⟩
    have hr : roundsB (y + 1) a = roundB (roundsB y a) y := rfl
    rw [hr]
    generalize roundsB y a = t
    have e := row_of t y
    refine ⟨⟨e.1, e.2.1, e.2.2.1, e.2.2.2.1, e.2.2.2.2.1, e.2.2.2.2.2.1, e.2.2.2.2.2.2.1, e.2.2.2.2.2.2.2.1, e.2.2.2.2.2.2.2.2.1, e.2.2.2.2.2.2.2.2.2.1, e.2.2.2.2.2.2.2.2.2.2.1, e.2.2.2.2.2.2.2.2.2.2.2.1, e.2.2.2.2.2.2.2.2.2.2.2.2.1, e.2.2.2.2.2.2.2.2.2.2.2.2.2.1, e.2.2.2.2.2.2.2.2.2.2.2.2.2.2.1, e.2.2.2.2.2.2.2.2.2.2.2.2.2.2.2.1, e.2.2.2.2.2.2.2.2.2.2.2.2.2.2.2.2.1, e.2.2.2.2.2.2.2.2.2.2.2.2.2.2.2.2.2.1, e.2.2.2.2.2.2.2.2.2.2.2.2.2.2.2.2.2.2.1, e.2.2.2.2.2.2.2.2.2.2.2.2.2.2.2.2.2.2.2.1, e.2.2.2.2.2.2.2.2.2.2.2.2.2.2.2.2.2.2.2.2.1, e.2.2.2.2.2.2.2.2.2.2.2.2.2.2.2.2.2.2.2.2.2.1, e.2.2.2.2.2.2.2.2.2.2.2.2.2.2.2.2.2.2.2.2.2.2.1, e.2.2.2.2.2.2.2.2.2.2.2.2.2.2.2.2.2.2.2.2.2.2.2.1, e.2.2.2.2.2.2.2.2.2.2.2.2.2.2.2.2.2.2.2.2.2.2.2.2, trivial⟩, by omega⟩
  · have hge : ¬ y < 24 := by have := of_decide_eq_false hge; omega
    have : y = 24 := by omega
    subst this
    exact ⟨fun j _ => rfl, trivial⟩
theorem card_Turned : FnOKg Tryd.prog [] 30 (specLanes 25 25 turnB) :=
  FnOK_lanes (cx := cxTurned) (iv := fun a => [(2, .inv (invTurned a))]) (by
    refine ⟨fun p hp => ?_, fun _ h => (by cases h)⟩
    simp only [cxTurned, List.mem_cons, List.not_mem_nil, or_false] at hp
    rcases hp with rfl | rfl
    · exact card_rotlN
    · exact card_roundOf) Tryd.func30 (by kernel_rfl) (by kernel_rfl) ok_Turned
end Go.Proofs.YtpebkgbelifdgaaDoor
end

section
namespace Go.Proofs.YtpebkgbelifdgaaDoor
open Go Go.Sx Go.RowKit
end Go.Proofs.YtpebkgbelifdgaaDoor
end

section
namespace Go.Proofs.YtpebkgbelifdgaaDoor
open Go Go.Sx Go.RowKit
end Go.Proofs.YtpebkgbelifdgaaDoor
end

section
namespace Go.Proofs.YtpebkgbelifdgaaDoor
open Go Go.Sx Go.RowKit
def invBad (L H : Nat → Int) (N : Int) : Inv where
  X := Nat
  tm i := slotsAt 23 [(1, .one (.sc (.ptr 0 0))), (2, .one (sB false)), (3, .one (sI .i64 ((N.toNat + i : Nat) : Int)))]
  ob _ := [.cells 44 [.f .u64 25 L, .f .u8 136 H, .c (.val (.int .i64 N))] 0]
  holds i := 0 ≤ N ∧ N < 136 ∧ N.toNat + i ≤ 136 ∧ ∀ j, j < i → H (N.toNat + j) = 0
  less i := 136 - i
def strF (s : ByteArray) (j : Nat) : Int := ((s.data.getD j 0).toNat : Int)
def invSoaked (a : Nat → BitVec 64) (s : ByteArray) : Inv where
  X := Nat
  tm i := slotsAt 34 [(1, .one (.sc (.val (.string s)))), (2, .one (.sc (.ptr 0 0))), (4, .one (.sc (.ptr 1 0))), (5, .one (sI .i64 ((8 * i : Nat) : Int)))]
  ob i := [.cells 41 (kRow25 (absB a (strF s) (8 * i))) 0, .cells 41 (List.replicate 25 (.c (.num .u64 0))) 0]
  holds i := i ≤ 17
  less i := 17 - i
theorem vc_badSponge (L H : Nat → Int) (N : Int) :
    Owes Tryd.prog Cx.none [(4, .inv (invBad L H N))] 30 Tryd.f27 [sSp L H N] (.one (sB (!mayG H N))) =
    (let x1 : Bool := Decidable.decide (N < (0 : Int)); ((!x1) = Bool.true → (!x1) = Bool.true) ∧ ((!x1) = Bool.true → (!x1) = Bool.true) ∧ (x1 = Bool.false → (!x1) = Bool.true) ∧ ((x1 || Decidable.decide (N > (135 : Int))) = Bool.true → Bool.true = !mayG H N) ∧ ((x1 || Decidable.decide (N > (135 : Int))) = Bool.false → (∀ (y : Nat), closedB (slotsAt 23 [(1, SV.one (SA.sc (SC.ptr 0 0))), (2, SV.one (sB Bool.false)), (3, SV.one (sI Go.IntKind.i64 (↑(N.toNat + y) : Int)))]) [SO.cells (28 : Go.TypeId) [SK.f Go.IntKind.u64 25 L, SK.f Go.IntKind.u8 136 H, SK.c (SC.val (Go.Value.int Go.IntKind.i64 N))] 0] = Bool.true) ∧ ∃ (y : Nat), ((0 : Int) ≤ N ∧ N < (136 : Int) ∧ N.toNat + y ≤ 136 ∧ ∀ (j : Nat), j < y → H (N.toNat + j) = (0 : Int)) ∧ Bool.false = Bool.false ∧ N = (↑(N.toNat + y) : Int) ∧ ((∀ (j : Nat), j < 25 → L j = L j) ∧ (∀ (j : Nat), j < 136 → H j = H j) ∧ N = N ∧ True) ∧ 0 = 0 ∧ ∀ (y : Nat), ((0 : Int) ≤ N ∧ N < (136 : Int) ∧ N.toNat + y ≤ 136 ∧ ∀ (j : Nat), j < y → H (N.toNat + j) = (0 : Int)) → (Decidable.decide ((↑(N.toNat + y) : Int) < (136 : Int)) = Bool.true → ((0 : Int) ≤ (↑(N.toNat + y) : Int) ∧ (↑(N.toNat + y) : Int) < (136 : Int)) ∧ ((0 : Int) ≤ (↑(N.toNat + y) : Int) ∧ (↑(N.toNat + y) : Int) < (136 : Int)) ∧ ((H (↑(N.toNat + y) : Int).toNat != (0 : Int)) = Bool.true → Bool.true = !mayG H N) ∧ ((H (↑(N.toNat + y) : Int).toNat != (0 : Int)) = Bool.false → ∃ (y' : Nat), ((0 : Int) ≤ N ∧ N < (136 : Int) ∧ N.toNat + y' ≤ 136 ∧ ∀ (j : Nat), j < y' → H (N.toNat + j) = (0 : Int)) ∧ Bool.false = Bool.false ∧ Go.IntKind.i64.wrap ((↑(N.toNat + y) : Int) + (1 : Int)) = (↑(N.toNat + y') : Int) ∧ ((∀ (j : Nat), j < 25 → L j = L j) ∧ (∀ (j : Nat), j < 136 → H j = H j) ∧ N = N ∧ True) ∧ 0 = 0 ∧ 136 - y' < 136 - y)) ∧ (Decidable.decide ((↑(N.toNat + y) : Int) < (136 : Int)) = Bool.false → Bool.false = !mayG H N))) := by kernel_rfl
theorem vc_soaked (T : (Nat → BitVec 64) → Nat → BitVec 64) (a : Nat → BitVec 64) (s : ByteArray) :
    Owes Tryd.prog ⟨[(30, specLanes 25 25 T)], [], 0, []⟩ [(2, .inv (invSoaked a s))] 30 Tryd.f28 [sRow .u64 25 (fun i => lw (a i)), .sc (.val (.string s))] (.one (sRow .u64 25 fun i => lw (T (absB a (strF s) 136) i))) =
    ((∀ (y : Nat), closedB (slotsAt 34 [(1, SV.one (SA.sc (SC.val (Go.Value.string s)))), (2, SV.one (SA.sc (SC.ptr 0 0))), (4, SV.one (SA.sc (SC.ptr 1 0))), (5, SV.one (sI Go.IntKind.i64 (↑(8 * y) : Int)))]) [SO.cells (23 : Go.TypeId) (kRow25 (absB a (strF s) (8 * y))) 0, SO.cells (23 : Go.TypeId) (List.replicate 25 (SK.c (SC.num Go.IntKind.u64 (0 : Int)))) 0] = Bool.true) ∧ ∃ (y : Nat), y ≤ 17 ∧ s = s ∧ (0 : Int) = (↑(8 * y) : Int) ∧ ((∀ (j : Nat), j < 25 → lw (a j) = lw (absB a (strF s) (8 * y) j)) ∧ True) ∧ 0 = 0 ∧ 0 = 0 ∧ ∀ (y : Nat), y ≤ 17 → (Decidable.decide ((↑(8 * y) : Int) < (136 : Int)) = Bool.true → ((0 : Int) ≤ Go.IntKind.i64.wrap ((↑(8 * y) : Int) + (7 : Int)) ∧ (Go.IntKind.i64.wrap ((↑(8 * y) : Int) + (7 : Int))).toNat < s.size) ∧ ((0 : Int) ≤ Go.IntKind.i64.wrap ((↑(8 * y) : Int) + (6 : Int)) ∧ (Go.IntKind.i64.wrap ((↑(8 * y) : Int) + (6 : Int))).toNat < s.size) ∧ ((0 : Int) ≤ Go.IntKind.i64.wrap ((↑(8 * y) : Int) + (5 : Int)) ∧ (Go.IntKind.i64.wrap ((↑(8 * y) : Int) + (5 : Int))).toNat < s.size) ∧ ((0 : Int) ≤ Go.IntKind.i64.wrap ((↑(8 * y) : Int) + (4 : Int)) ∧ (Go.IntKind.i64.wrap ((↑(8 * y) : Int) + (4 : Int))).toNat < s.size) ∧ ((0 : Int) ≤ Go.IntKind.i64.wrap ((↑(8 * y) : Int) + (3 : Int)) ∧ (Go.IntKind.i64.wrap ((↑(8 * y) : Int) + (3 : Int))).toNat < s.size) ∧ ((0 : Int) ≤ Go.IntKind.i64.wrap ((↑(8 * y) : Int) + (2 : Int)) ∧ (Go.IntKind.i64.wrap ((↑(8 * y) : Int) + (2 : Int))).toNat < s.size) ∧ ((0 : Int) ≤ Go.IntKind.i64.wrap ((↑(8 * y) : Int) + (1 : Int)) ∧ (Go.IntKind.i64.wrap ((↑(8 * y) : Int) + (1 : Int))).toNat < s.size) ∧ ((0 : Int) ≤ Go.IntKind.i64.wrap ((↑(8 * y) : Int) + (0 : Int)) ∧ (Go.IntKind.i64.wrap ((↑(8 * y) : Int) + (0 : Int))).toNat < s.size) ∧ ((0 : Int) ≤ Go.IntKind.i64.wrap ((↑(8 * y) : Int).tdiv (8 : Int)) ∧ Go.IntKind.i64.wrap ((↑(8 * y) : Int).tdiv (8 : Int)) < (25 : Int)) ∧ ((0 : Int) ≤ Go.IntKind.i64.wrap ((↑(8 * y) : Int).tdiv (8 : Int)) ∧ Go.IntKind.i64.wrap ((↑(8 * y) : Int).tdiv (8 : Int)) < (25 : Int)) ∧ ((0 : Int) ≤ Go.IntKind.i64.wrap ((↑(8 * y) : Int).tdiv (8 : Int)) ∧ Go.IntKind.i64.wrap ((↑(8 * y) : Int).tdiv (8 : Int)) < (25 : Int)) ∧ ((0 : Int) ≤ Go.IntKind.i64.wrap ((↑(8 * y) : Int).tdiv (8 : Int)) ∧ Go.IntKind.i64.wrap ((↑(8 * y) : Int).tdiv (8 : Int)) < (25 : Int)) ∧ ∃ (y' : Nat), y' ≤ 17 ∧ s = s ∧ Go.IntKind.i64.wrap ((↑(8 * y) : Int) + (8 : Int)) = (↑(8 * y') : Int) ∧ ((∀ (j : Nat), j < 25 → (if j = (Go.IntKind.i64.wrap ((↑(8 * y) : Int).tdiv (8 : Int))).toNat then Go.IntKind.u64.wrap (↑(BitVec.ofInt 64 (lw (absB a (strF s) (8 * y) (Go.IntKind.i64.wrap ((↑(8 * y) : Int).tdiv (8 : Int))).toNat)) ^^^ BitVec.ofInt 64 (Go.IntKind.u64.wrap (Go.IntKind.u64.wrap (Go.IntKind.u64.wrap (Go.IntKind.u64.wrap (Go.IntKind.u64.wrap (Go.IntKind.u64.wrap (Go.IntKind.u64.wrap (Go.IntKind.u64.wrap (Go.IntKind.u64.wrap (Go.IntKind.u64.wrap (Go.IntKind.u64.wrap (Go.IntKind.u64.wrap (Go.IntKind.u64.wrap (Go.IntKind.u64.wrap (Go.IntKind.u64.wrap ((0 : Int) + Go.IntKind.u64.wrap (↑(s.data.getD (Go.IntKind.i64.wrap ((↑(8 * y) : Int) + (7 : Int))).toNat (0 : UInt8)).toNat : Int)) * (256 : Int)) + Go.IntKind.u64.wrap (↑(s.data.getD (Go.IntKind.i64.wrap ((↑(8 * y) : Int) + (6 : Int))).toNat (0 : UInt8)).toNat : Int)) * (256 : Int)) + Go.IntKind.u64.wrap (↑(s.data.getD (Go.IntKind.i64.wrap ((↑(8 * y) : Int) + (5 : Int))).toNat (0 : UInt8)).toNat : Int)) * (256 : Int)) + Go.IntKind.u64.wrap (↑(s.data.getD (Go.IntKind.i64.wrap ((↑(8 * y) : Int) + (4 : Int))).toNat (0 : UInt8)).toNat : Int)) * (256 : Int)) + Go.IntKind.u64.wrap (↑(s.data.getD (Go.IntKind.i64.wrap ((↑(8 * y) : Int) + (3 : Int))).toNat (0 : UInt8)).toNat : Int)) * (256 : Int)) + Go.IntKind.u64.wrap (↑(s.data.getD (Go.IntKind.i64.wrap ((↑(8 * y) : Int) + (2 : Int))).toNat (0 : UInt8)).toNat : Int)) * (256 : Int)) + Go.IntKind.u64.wrap (↑(s.data.getD (Go.IntKind.i64.wrap ((↑(8 * y) : Int) + (1 : Int))).toNat (0 : UInt8)).toNat : Int)) * (256 : Int)) + Go.IntKind.u64.wrap (↑(s.data.getD (Go.IntKind.i64.wrap ((↑(8 * y) : Int) + (0 : Int))).toNat (0 : UInt8)).toNat : Int)))).toNat : Int) else lw (absB a (strF s) (8 * y) j)) = lw (absB a (strF s) (8 * y') j)) ∧ True) ∧ 0 = 0 ∧ 0 = 0 ∧ 17 - y' < 17 - y) ∧ (Decidable.decide ((↑(8 * y) : Int) < (136 : Int)) = Bool.false → (∀ (i : Nat), i < 25 → (0 : Int) ≤ lw (absB a (strF s) (8 * y) i) ∧ lw (absB a (strF s) (8 * y) i) < (18446744073709551616 : Int)) ∧ (∀ (j : Nat), j < 25 → lw (T (ofRow fun (i : Nat) => lw (absB a (strF s) (8 * y) i)) j) = lw (T (absB a (strF s) 136) j)) ∧ True)) := by kernel_rfl
end Go.Proofs.YtpebkgbelifdgaaDoor
end

section
namespace Go.Proofs.YtpebkgbelifdgaaDoor
open Go Go.Sx Go.RowKit
theorem byte_hi (b : UInt8) {i : Nat} (hi : 8 ≤ i) : (BitVec.ofInt 64 (b.toNat : Int)).getLsbD i = false := by
  rw [show BitVec.ofInt 64 (b.toNat : Int) = BitVec.ofNat 64 b.toNat from BitVec.ofInt_natCast .., BitVec.getLsbD_ofNat]
  rw [Nat.testBit_lt_two_pow (Nat.lt_of_lt_of_le b.toNat_lt (Nat.pow_le_pow_right (by decide) hi)), Bool.and_false]
theorem byte_step (v : BitVec 64) (b : UInt8) : IntKind.u64.wrap (IntKind.u64.wrap (lw v * 256) + IntKind.u64.wrap (b.toNat : Int)) = lw ((v <<< 8) ^^^ BitVec.ofInt 64 (b.toNat : Int)) := by
  have hz : (v <<< 8) &&& BitVec.ofInt 64 (b.toNat : Int) = 0#64 := by
    apply BitVec.eq_of_getLsbD_eq
    intro i _
    rw [BitVec.getLsbD_and, BitVec.getLsbD_shiftLeft, BitVec.getLsbD_zero]
    by_cases c : 8 ≤ i
    · rw [byte_hi b c, Bool.and_false]
    · rw [decide_eq_true (show i < 8 by omega)]; simp
  have e : (v <<< 8) ^^^ BitVec.ofInt 64 (b.toNat : Int) = (v <<< 8) + BitVec.ofInt 64 (b.toNat : Int) := by
    rw [BitVec.add_eq_or_of_and_eq_zero _ _ hz]
    apply BitVec.eq_of_getLsbD_eq
    intro i _
    rw [BitVec.getLsbD_xor, BitVec.getLsbD_or, BitVec.getLsbD_shiftLeft]
    by_cases c : 8 ≤ i
    · rw [byte_hi b c, Bool.xor_false, Bool.or_false]
    · rw [decide_eq_true (show i < 8 by omega)]; simp
  rw [e]
  have hb := b.toNat_lt
  have hv := v.isLt
  simp only [lw, BitVec.toNat_add, BitVec.toNat_shiftLeft, Nat.shiftLeft_eq, toNat_ofNat_cast, IntKind.wrap_u64]
  omega
theorem byte_first (b : UInt8) : IntKind.u64.wrap (0 + IntKind.u64.wrap (b.toNat : Int)) = lw (BitVec.ofInt 64 (b.toNat : Int)) := by
  have hb := b.toNat_lt
  simp only [lw, toNat_ofNat_cast, IntKind.wrap_u64]
  omega
theorem shB_byte (b : UInt8) {k : Nat} (hk : k ≤ 56) : shB (b.toNat : Int) k = BitVec.ofInt 64 (b.toNat : Int) <<< k := by
  have hb := b.toNat_lt
  have hp : 2 ^ k ≤ 2 ^ 56 := Nat.pow_le_pow_right (by decide) hk
  have hm : b.toNat * 2 ^ k < 18446744073709551616 := Nat.lt_of_lt_of_le (Nat.mul_lt_mul_of_lt_of_le hb hp (by decide)) (by decide)
  apply BitVec.eq_of_toNat_eq
  unfold shB
  have e1 : IntKind.u64.wrap (b.toNat : Int) = (b.toNat : Int) := by rw [IntKind.wrap_u64]; omega
  have e2 : ((b.toNat : Int) * 2 ^ k) = ((b.toNat * 2 ^ k : Nat) : Int) := by push_cast; rfl
  have e3 : IntKind.u64.wrap ((b.toNat * 2 ^ k : Nat) : Int) = ((b.toNat * 2 ^ k : Nat) : Int) := by rw [IntKind.wrap_u64]; omega
  rw [e1, e2, e3, toNat_ofNat_cast, BitVec.toNat_shiftLeft, toNat_ofNat_cast, Nat.shiftLeft_eq, Nat.mod_eq_of_lt (show b.toNat < 2 ^ 64 by omega)]
theorem abs8 (a : Nat → BitVec 64) (F : Nat → Int) (y j : Nat) : absB a F (8 * y + 8) j = if j = y then absB a F (8 * y) j ^^^ shB (F (8 * y)) 0 ^^^ shB (F (8 * y + 1)) 8 ^^^ shB (F (8 * y + 2)) 16 ^^^ shB (F (8 * y + 3)) 24 ^^^ shB (F (8 * y + 4)) 32 ^^^ shB (F (8 * y + 5)) 40 ^^^ shB (F (8 * y + 6)) 48 ^^^ shB (F (8 * y + 7)) 56 else absB a F (8 * y) j := by
  have s : ∀ k, k < 8 → absB a F (8 * y + k + 1) j = if j = y then absB a F (8 * y + k) j ^^^ shB (F (8 * y + k)) (k * 8) else absB a F (8 * y + k) j := by
    intro k hk
    show (if j = (8 * y + k) / 8 then absB a F (8 * y + k) j ^^^ shB (F (8 * y + k)) ((8 * y + k) % 8 * 8) else absB a F (8 * y + k) j) = _
    rw [show (8 * y + k) / 8 = y by omega, show (8 * y + k) % 8 = k by omega]
  have s0 := s 0 (by decide)
  have s1 := s 1 (by decide)
  have s2 := s 2 (by decide)
  have s3 := s 3 (by decide)
  have s4 := s 4 (by decide)
  have s5 := s 5 (by decide)
  have s6 := s 6 (by decide)
  have s7 := s 7 (by decide)
  by_cases c : j = y
  · rw [if_pos c] at s0 s1 s2 s3 s4 s5 s6 s7 ⊢
    rw [s7, s6, s5, s4, s3, s2, s1, s0]
    rfl
  · rw [if_neg c] at s0 s1 s2 s3 s4 s5 s6 s7 ⊢
    rw [s7, s6, s5, s4, s3, s2, s1, s0]
    rfl
theorem shx (u w : BitVec 64) : (u ^^^ w) <<< 8 = u <<< 8 ^^^ w <<< 8 := BitVec.shiftLeft_xor_distrib ..
theorem shs (u : BitVec 64) (k m : Nat) (h : k + 8 = m) : (u <<< k) <<< 8 = u <<< m := by rw [← h, BitVec.shiftLeft_add]
theorem xor_bits : ∀ x c0 c1 c2 c3 c4 c5 c6 c7 : Bool, (x ^^ (((((((c7 ^^ c6) ^^ c5) ^^ c4) ^^ c3) ^^ c2) ^^ c1) ^^ c0)) = ((((((((x ^^ c0) ^^ c1) ^^ c2) ^^ c3) ^^ c4) ^^ c5) ^^ c6) ^^ c7) := by decide
theorem xor_turn (x c0 c1 c2 c3 c4 c5 c6 c7 : BitVec 64) : x ^^^ (c7 ^^^ c6 ^^^ c5 ^^^ c4 ^^^ c3 ^^^ c2 ^^^ c1 ^^^ c0) = x ^^^ c0 ^^^ c1 ^^^ c2 ^^^ c3 ^^^ c4 ^^^ c5 ^^^ c6 ^^^ c7 := by
  apply BitVec.eq_of_getLsbD_eq
  intro i _
  simp only [BitVec.getLsbD_xor]
  exact xor_bits ..
theorem nest8 (x b0 b1 b2 b3 b4 b5 b6 b7 : BitVec 64) : x ^^^ ((((((((b7 <<< 8 ^^^ b6) <<< 8 ^^^ b5) <<< 8 ^^^ b4) <<< 8 ^^^ b3) <<< 8 ^^^ b2) <<< 8 ^^^ b1) <<< 8) ^^^ b0) =
    x ^^^ b0 <<< 0 ^^^ b1 <<< 8 ^^^ b2 <<< 16 ^^^ b3 <<< 24 ^^^ b4 <<< 32 ^^^ b5 <<< 40 ^^^ b6 <<< 48 ^^^ b7 <<< 56 := by
  have z : b0 <<< 0 = b0 := BitVec.shiftLeft_zero ..
  rw [z]
  have e0 : (b7 <<< 8 ^^^ b6) <<< 8 = b7 <<< 16 ^^^ b6 <<< 8 := by rw [shx, shs b7 8 16 rfl]
  have e1 : (b7 <<< 16 ^^^ b6 <<< 8 ^^^ b5) <<< 8 = b7 <<< 24 ^^^ b6 <<< 16 ^^^ b5 <<< 8 := by rw [shx, shx, shs b7 16 24 rfl, shs b6 8 16 rfl]
  have e2 : (b7 <<< 24 ^^^ b6 <<< 16 ^^^ b5 <<< 8 ^^^ b4) <<< 8 = b7 <<< 32 ^^^ b6 <<< 24 ^^^ b5 <<< 16 ^^^ b4 <<< 8 := by rw [shx, shx, shx, shs b7 24 32 rfl, shs b6 16 24 rfl, shs b5 8 16 rfl]
  have e3 : (b7 <<< 32 ^^^ b6 <<< 24 ^^^ b5 <<< 16 ^^^ b4 <<< 8 ^^^ b3) <<< 8 = b7 <<< 40 ^^^ b6 <<< 32 ^^^ b5 <<< 24 ^^^ b4 <<< 16 ^^^ b3 <<< 8 := by rw [shx, shx, shx, shx, shs b7 32 40 rfl, shs b6 24 32 rfl, shs b5 16 24 rfl, shs b4 8 16 rfl]
  have e4 : (b7 <<< 40 ^^^ b6 <<< 32 ^^^ b5 <<< 24 ^^^ b4 <<< 16 ^^^ b3 <<< 8 ^^^ b2) <<< 8 = b7 <<< 48 ^^^ b6 <<< 40 ^^^ b5 <<< 32 ^^^ b4 <<< 24 ^^^ b3 <<< 16 ^^^ b2 <<< 8 := by rw [shx, shx, shx, shx, shx, shs b7 40 48 rfl, shs b6 32 40 rfl, shs b5 24 32 rfl, shs b4 16 24 rfl, shs b3 8 16 rfl]
  have e5 : (b7 <<< 48 ^^^ b6 <<< 40 ^^^ b5 <<< 32 ^^^ b4 <<< 24 ^^^ b3 <<< 16 ^^^ b2 <<< 8 ^^^ b1) <<< 8 = b7 <<< 56 ^^^ b6 <<< 48 ^^^ b5 <<< 40 ^^^ b4 <<< 32 ^^^ b3 <<< 24 ^^^ b2 <<< 16 ^^^ b1 <<< 8 := by rw [shx, shx, shx, shx, shx, shx, shs b7 48 56 rfl, shs b6 40 48 rfl, shs b5 32 40 rfl, shs b4 24 32 rfl, shs b3 16 24 rfl, shs b2 8 16 rfl]
  rw [e0, e1, e2, e3, e4, e5]
  exact xor_turn ..
theorem ok_badSponge (L H : Nat → Int) (N : Int) : Owes Tryd.prog Cx.none [(4, .inv (invBad L H N))] 30 Tryd.f27 [sSp L H N] (.one (sB (!mayG H N))) := by
  rw [vc_badSponge]
  intro x1
  have e1 : x1 = decide (N < 0) := rfl
  clear_value x1
  subst e1
  refine ⟨fun h => h, fun h => h, fun h => by rw [h]; rfl, fun h => ?_, fun h => ?_⟩
  · have hm : mayG H N = false := by
      rw [Bool.eq_false_iff]
      intro hm
      obtain ⟨⟨h1, h2⟩, _⟩ := (mayG_iff H N).1 hm
      simp only [Bool.or_eq_true, decide_eq_true_eq] at h
      omega
    rw [hm]; rfl
  · simp only [Bool.or_eq_false_iff, decide_eq_false_iff_not] at h
    have hN : 0 ≤ N ∧ N < 136 := by omega
    refine ⟨fun y => rfl, 0, ⟨hN.1, hN.2, by omega, fun j hj => absurd hj (Nat.not_lt_zero _)⟩, rfl, by omega, ⟨fun _ _ => rfl, fun _ _ => rfl, rfl, trivial⟩, rfl, fun y hy => ⟨fun hlt => ?_, fun hge => ?_⟩⟩
    · have hlt : ((N.toNat + y : Nat) : Int) < 136 := of_decide_eq_true hlt
      refine ⟨⟨by omega, hlt⟩, ⟨by omega, hlt⟩, fun hb => ?_, fun hb => ⟨y + 1, ⟨hN.1, hN.2, by omega, fun j hj => ?_⟩, rfl, ?_, ⟨fun _ _ => rfl, fun _ _ => rfl, rfl, trivial⟩, rfl, by omega⟩⟩
      · have hm : mayG H N = false := by
          rw [Bool.eq_false_iff]
          intro hm
          have := ((mayG_iff H N).1 hm).2 y (by omega)
          rw [Int.toNat_natCast, this] at hb
          exact absurd hb (by decide)
        rw [hm]; rfl
      · rcases Nat.lt_or_ge j y with c | c
        · exact hy.2.2.2 j c
        · have : j = y := by omega
          subst this
          rw [Int.toNat_natCast] at hb
          simpa using hb
      · rw [IntKind.wrap_i64]; omega
    · have hge : ¬ ((N.toNat + y : Nat) : Int) < 136 := of_decide_eq_false hge
      have hm : mayG H N = true := (mayG_iff H N).2 ⟨hN, fun j hj => hy.2.2.2 j (by omega)⟩
      rw [hm]; rfl
theorem card_badSponge : FnOKg Tryd.prog [] 27 (specSp (fun _ _ _ => []) fun L H N => .one (sB (!mayG H N))) :=
  FnOK_Sp (cx := Cx.none) ⟨fun _ h => (by cases h), fun _ h => (by cases h)⟩ (iv := fun L H N => [(4, .inv (invBad L H N))]) (N := 30) Tryd.func27 (by kernel_rfl) (by kernel_rfl) (fun _ _ _ => trivial) fun L H N _ => ok_badSponge L H N
theorem ok_soaked (a : Nat → BitVec 64) (s : ByteArray) (hs : s.size = 136) : Owes Tryd.prog ⟨[(30, specLanes 25 25 turnB)], [], 0, []⟩ [(2, .inv (invSoaked a s))] 30 Tryd.f28 [sRow .u64 25 (fun i => lw (a i)), .sc (.val (.string s))] (.one (sRow .u64 25 fun i => lw (turnB (absB a (strF s) 136) i))) := by
  rw [vc_soaked]
  refine ⟨fun y => rfl, 0, by omega, rfl, rfl, ⟨fun j _ => rfl, trivial⟩, rfl, rfl, fun y hy => ⟨fun hlt => ?_, fun hge => ?_⟩⟩
  · have hlt : ((8 * y : Nat) : Int) < 136 := of_decide_eq_true hlt
    have w : ∀ k : Int, 0 ≤ k → k < 9 → IntKind.i64.wrap (((8 * y : Nat) : Int) + k) = ((8 * y : Nat) : Int) + k := fun k h1 h2 => by rw [IntKind.wrap_i64]; omega
    have n : ∀ (k : Int) (m : Nat), 0 ≤ k → k < 9 → k = m → (IntKind.i64.wrap (((8 * y : Nat) : Int) + k)).toNat = 8 * y + m := fun k m h1 h2 h3 => by rw [w k h1 h2]; omega
    have hd : IntKind.i64.wrap (((8 * y : Nat) : Int).tdiv 8) = (y : Int) := by
      rw [Int.tdiv_eq_ediv_of_nonneg (by omega), IntKind.wrap_i64]; omega
    rw [n 7 7 (by decide) (by decide) rfl, n 6 6 (by decide) (by decide) rfl, n 5 5 (by decide) (by decide) rfl, n 4 4 (by decide) (by decide) rfl, n 3 3 (by decide) (by decide) rfl, n 2 2 (by decide) (by decide) rfl, n 1 1 (by decide) (by decide) rfl, n 0 0 (by decide) (by decide) rfl, hd, Int.toNat_natCast]
    refine ⟨⟨by rw [w 7 (by decide) (by decide)]; omega, by omega⟩, ⟨by rw [w 6 (by decide) (by decide)]; omega, by omega⟩, ⟨by rw [w 5 (by decide) (by decide)]; omega, by omega⟩, ⟨by rw [w 4 (by decide) (by decide)]; omega, by omega⟩, ⟨by rw [w 3 (by decide) (by decide)]; omega, by omega⟩, ⟨by rw [w 2 (by decide) (by decide)]; omega, by omega⟩, ⟨by rw [w 1 (by decide) (by decide)]; omega, by omega⟩, ⟨by rw [w 0 (by decide) (by decide)]; omega, by omega⟩, ⟨by omega, by omega⟩, ⟨by omega, by omega⟩, ⟨by omega, by omega⟩, ⟨by omega, by omega⟩, y + 1, by omega, rfl, by rw [w 8 (by decide) (by decide)]; omega, ⟨fun j _ => ?_, trivial⟩, rfl, rfl, by omega⟩
    rw [show 8 * (y + 1) = 8 * y + 8 by omega, abs8]
    by_cases c : j = y
    · subst c
      rw [if_pos rfl, if_pos rfl, byte_first, byte_step, byte_step, byte_step, byte_step, byte_step, byte_step, byte_step, ofInt_lw, ofInt_lw, wrap_nat, nest8]
      simp only [strF]
      rw [shB_byte _ (by decide), shB_byte _ (by decide), shB_byte _ (by decide), shB_byte _ (by decide), shB_byte _ (by decide), shB_byte _ (by decide), shB_byte _ (by decide), shB_byte _ (by decide)]
      rfl
    · rw [if_neg c, if_neg c]
  · have hge : ¬ ((8 * y : Nat) : Int) < 136 := of_decide_eq_false hge
    have : y = 17 := by omega
    subst this
    exact ⟨lanes_lw _ _, fun j _ => by rw [ofRow_lw], trivial⟩
end Go.Proofs.YtpebkgbelifdgaaDoor
end

section
namespace Go.Proofs.YtpebkgbelifdgaaDoor
open Go Go.Sx Go.RowKit
def specStr25 (F : (Nat → BitVec 64) → ByteArray → Nat → BitVec 64) : FSpec := fun args =>
  match args with
  | [x, .sc (.val (.string s))] => match asRow .u64 25 x with
    | some g => some ([lanes 25 g, s.size = 136], .one (sRow .u64 25 fun i => lw (F (ofRow g) s i)))
    | none => none
  | _ => none
def cxWrung (T : (Nat → BitVec 64) → Nat → BitVec 64) : Cx := ⟨[(27, specSp (fun _ _ _ => []) fun _ H N => .one (sB (!mayG H N))), (28, specStr25 fun a s => T (absB a (strF s) 136))], [], 0, []⟩
def endT (T : (Nat → BitVec 64) → Nat → BitVec 64) (L H : Nat → Int) (N : Int) : SV := .tup [sRow .u8 32 (fun j => if mayG H N then firstG (fun i => lw (T (absB (ofRow L) (padB H N.toNat) 136) i)) j else 0), sI .i64 (if mayG H N then 0 else 12)]
theorem vc_Wrung (T : (Nat → BitVec 64) → Nat → BitVec 64) (L H : Nat → Int) (N : Int) :
    Owes Tryd.prog (cxWrung T) [] 40 Tryd.f23 [sSp L H N] (endT T L H N) =
    (let x1 : Int := if mayG H N = Bool.true then firstG (fun (i : Nat) => lw (T (absB (ofRow L) (padB H N.toNat) 136) i)) 0 else (0 : Int); let x2 : Int := if mayG H N = Bool.true then firstG (fun (i : Nat) => lw (T (absB (ofRow L) (padB H N.toNat) 136) i)) 1 else (0 : Int); let x3 : Int := if mayG H N = Bool.true then firstG (fun (i : Nat) => lw (T (absB (ofRow L) (padB H N.toNat) 136) i)) 2 else (0 : Int); let x4 : Int := if mayG H N = Bool.true then firstG (fun (i : Nat) => lw (T (absB (ofRow L) (padB H N.toNat) 136) i)) 3 else (0 : Int); let x5 : Int := if mayG H N = Bool.true then firstG (fun (i : Nat) => lw (T (absB (ofRow L) (padB H N.toNat) 136) i)) 4 else (0 : Int); let x6 : Int := if mayG H N = Bool.true then firstG (fun (i : Nat) => lw (T (absB (ofRow L) (padB H N.toNat) 136) i)) 5 else (0 : Int); let x7 : Int := if mayG H N = Bool.true then firstG (fun (i : Nat) => lw (T (absB (ofRow L) (padB H N.toNat) 136) i)) 6 else (0 : Int); let x8 : Int := if mayG H N = Bool.true then firstG (fun (i : Nat) => lw (T (absB (ofRow L) (padB H N.toNat) 136) i)) 7 else (0 : Int); let x9 : Int := if mayG H N = Bool.true then firstG (fun (i : Nat) => lw (T (absB (ofRow L) (padB H N.toNat) 136) i)) 8 else (0 : Int); let x10 : Int := if mayG H N = Bool.true then firstG (fun (i : Nat) => lw (T (absB (ofRow L) (padB H N.toNat) 136) i)) 9 else (0 : Int); let x11 : Int := if mayG H N = Bool.true then firstG (fun (i : Nat) => lw (T (absB (ofRow L) (padB H N.toNat) 136) i)) 10 else (0 : Int); let x12 : Int := if mayG H N = Bool.true then firstG (fun (i : Nat) => lw (T (absB (ofRow L) (padB H N.toNat) 136) i)) 11 else (0 : Int); let x13 : Int := if mayG H N = Bool.true then firstG (fun (i : Nat) => lw (T (absB (ofRow L) (padB H N.toNat) 136) i)) 12 else (0 : Int); let x14 : Int := if mayG H N = Bool.true then firstG (fun (i : Nat) => lw (T (absB (ofRow L) (padB H N.toNat) 136) i)) 13 else (0 : Int); let x15 : Int := if mayG H N = Bool.true then firstG (fun (i : Nat) => lw (T (absB (ofRow L) (padB H N.toNat) 136) i)) 14 else (0 : Int); let x16 : Int := if mayG H N = Bool.true then firstG (fun (i : Nat) => lw (T (absB (ofRow L) (padB H N.toNat) 136) i)) 15 else (0 : Int); let x17 : Int := if mayG H N = Bool.true then firstG (fun (i : Nat) => lw (T (absB (ofRow L) (padB H N.toNat) 136) i)) 16 else (0 : Int); let x18 : Int := if mayG H N = Bool.true then firstG (fun (i : Nat) => lw (T (absB (ofRow L) (padB H N.toNat) 136) i)) 17 else (0 : Int); let x19 : Int := if mayG H N = Bool.true then firstG (fun (i : Nat) => lw (T (absB (ofRow L) (padB H N.toNat) 136) i)) 18 else (0 : Int); let x20 : Int := if mayG H N = Bool.true then firstG (fun (i : Nat) => lw (T (absB (ofRow L) (padB H N.toNat) 136) i)) 19 else (0 : Int); let x21 : Int := if mayG H N = Bool.true then firstG (fun (i : Nat) => lw (T (absB (ofRow L) (padB H N.toNat) 136) i)) 20 else (0 : Int); let x22 : Int := if mayG H N = Bool.true then firstG (fun (i : Nat) => lw (T (absB (ofRow L) (padB H N.toNat) 136) i)) 21 else (0 : Int); let x23 : Int := if mayG H N = Bool.true then firstG (fun (i : Nat) => lw (T (absB (ofRow L) (padB H N.toNat) 136) i)) 22 else (0 : Int); let x24 : Int := if mayG H N = Bool.true then firstG (fun (i : Nat) => lw (T (absB (ofRow L) (padB H N.toNat) 136) i)) 23 else (0 : Int); let x25 : Int := if mayG H N = Bool.true then firstG (fun (i : Nat) => lw (T (absB (ofRow L) (padB H N.toNat) 136) i)) 24 else (0 : Int); let x26 : Int := if mayG H N = Bool.true then firstG (fun (i : Nat) => lw (T (absB (ofRow L) (padB H N.toNat) 136) i)) 25 else (0 : Int); let x27 : Int := if mayG H N = Bool.true then firstG (fun (i : Nat) => lw (T (absB (ofRow L) (padB H N.toNat) 136) i)) 26 else (0 : Int); let x28 : Int := if mayG H N = Bool.true then firstG (fun (i : Nat) => lw (T (absB (ofRow L) (padB H N.toNat) 136) i)) 27 else (0 : Int); let x29 : Int := if mayG H N = Bool.true then firstG (fun (i : Nat) => lw (T (absB (ofRow L) (padB H N.toNat) 136) i)) 28 else (0 : Int); let x30 : Int := if mayG H N = Bool.true then firstG (fun (i : Nat) => lw (T (absB (ofRow L) (padB H N.toNat) 136) i)) 29 else (0 : Int); let x31 : Int := if mayG H N = Bool.true then firstG (fun (i : Nat) => lw (T (absB (ofRow L) (padB H N.toNat) 136) i)) 30 else (0 : Int); let x32 : Int := if mayG H N = Bool.true then firstG (fun (i : Nat) => lw (T (absB (ofRow L) (padB H N.toNat) 136) i)) 31 else (0 : Int); let x33 : Int := if mayG H N = Bool.true then (0 : Int) else (12 : Int); let x34 : Int := Go.IntKind.u8.wrap (↑(BitVec.ofInt 8 (H N.toNat) ^^^ BitVec.ofInt 8 (1 : Int)).toNat : Int); ((!mayG H N) = Bool.true → ((0 : Int) = x1 ∧ (0 : Int) = x2 ∧ (0 : Int) = x3 ∧ (0 : Int) = x4 ∧ (0 : Int) = x5 ∧ (0 : Int) = x6 ∧ (0 : Int) = x7 ∧ (0 : Int) = x8 ∧ (0 : Int) = x9 ∧ (0 : Int) = x10 ∧ (0 : Int) = x11 ∧ (0 : Int) = x12 ∧ (0 : Int) = x13 ∧ (0 : Int) = x14 ∧ (0 : Int) = x15 ∧ (0 : Int) = x16 ∧ (0 : Int) = x17 ∧ (0 : Int) = x18 ∧ (0 : Int) = x19 ∧ (0 : Int) = x20 ∧ (0 : Int) = x21 ∧ (0 : Int) = x22 ∧ (0 : Int) = x23 ∧ (0 : Int) = x24 ∧ (0 : Int) = x25 ∧ (0 : Int) = x26 ∧ (0 : Int) = x27 ∧ (0 : Int) = x28 ∧ (0 : Int) = x29 ∧ (0 : Int) = x30 ∧ (0 : Int) = x31 ∧ (0 : Int) = x32 ∧ True) ∧ (12 : Int) = x33) ∧ ((!mayG H N) = Bool.false → ((0 : Int) ≤ N ∧ N < (136 : Int)) ∧ ((0 : Int) ≤ N ∧ N < (136 : Int)) ∧ ((0 : Int) ≤ N ∧ N < (136 : Int)) ∧ ((0 : Int) ≤ N ∧ N < (136 : Int)) ∧ (∀ (i : Nat), i < 25 → (0 : Int) ≤ L i ∧ L i < (18446744073709551616 : Int)) ∧ (bytesI (intsL [SK.f Go.IntKind.u8 135 fun (j : Nat) => if j = N.toNat then x34 else H j, SK.c (SC.val (Go.Value.int Go.IntKind.u8 (Go.IntKind.u8.wrap (↑(BitVec.ofInt 8 (if 135 = N.toNat then x34 else H 135) ^^^ BitVec.ofInt 8 (128 : Int)).toNat : Int))))])).size = 136 ∧ (Go.IntKind.u8.wrap ((lw (T (absB (ofRow L) (strF (bytesI (intsL [SK.f Go.IntKind.u8 135 fun (j : Nat) => if j = N.toNat then x34 else H j, SK.c (SC.val (Go.Value.int Go.IntKind.u8 (Go.IntKind.u8.wrap (↑(BitVec.ofInt 8 (if 135 = N.toNat then x34 else H 135) ^^^ BitVec.ofInt 8 (128 : Int)).toNat : Int))))]))) 136) 0)).fdiv (1 : Int)) = x1 ∧ Go.IntKind.u8.wrap ((lw (T (absB (ofRow L) (strF (bytesI (intsL [SK.f Go.IntKind.u8 135 fun (j : Nat) => if j = N.toNat then x34 else H j, SK.c (SC.val (Go.Value.int Go.IntKind.u8 (Go.IntKind.u8.wrap (↑(BitVec.ofInt 8 (if 135 = N.toNat then x34 else H 135) ^^^ BitVec.ofInt 8 (128 : Int)).toNat : Int))))]))) 136) 0)).fdiv (256 : Int)) = x2 ∧ Go.IntKind.u8.wrap ((lw (T (absB (ofRow L) (strF (bytesI (intsL [SK.f Go.IntKind.u8 135 fun (j : Nat) => if j = N.toNat then x34 else H j, SK.c (SC.val (Go.Value.int Go.IntKind.u8 (Go.IntKind.u8.wrap (↑(BitVec.ofInt 8 (if 135 = N.toNat then x34 else H 135) ^^^ BitVec.ofInt 8 (128 : Int)).toNat : Int))))]))) 136) 0)).fdiv (65536 : Int)) = x3 ∧ Go.IntKind.u8.wrap ((lw (T (absB (ofRow L) (strF (bytesI (intsL [SK.f Go.IntKind.u8 135 fun (j : Nat) => if j = N.toNat then x34 else H j, SK.c (SC.val (Go.Value.int Go.IntKind.u8 (Go.IntKind.u8.wrap (↑(BitVec.ofInt 8 (if 135 = N.toNat then x34 else H 135) ^^^ BitVec.ofInt 8 (128 : Int)).toNat : Int))))]))) 136) 0)).fdiv (16777216 : Int)) = x4 ∧ Go.IntKind.u8.wrap ((lw (T (absB (ofRow L) (strF (bytesI (intsL [SK.f Go.IntKind.u8 135 fun (j : Nat) => if j = N.toNat then x34 else H j, SK.c (SC.val (Go.Value.int Go.IntKind.u8 (Go.IntKind.u8.wrap (↑(BitVec.ofInt 8 (if 135 = N.toNat then x34 else H 135) ^^^ BitVec.ofInt 8 (128 : Int)).toNat : Int))))]))) 136) 0)).fdiv (4294967296 : Int)) = x5 ∧ Go.IntKind.u8.wrap ((lw (T (absB (ofRow L) (strF (bytesI (intsL [SK.f Go.IntKind.u8 135 fun (j : Nat) => if j = N.toNat then x34 else H j, SK.c (SC.val (Go.Value.int Go.IntKind.u8 (Go.IntKind.u8.wrap (↑(BitVec.ofInt 8 (if 135 = N.toNat then x34 else H 135) ^^^ BitVec.ofInt 8 (128 : Int)).toNat : Int))))]))) 136) 0)).fdiv (1099511627776 : Int)) = x6 ∧ Go.IntKind.u8.wrap ((lw (T (absB (ofRow L) (strF (bytesI (intsL [SK.f Go.IntKind.u8 135 fun (j : Nat) => if j = N.toNat then x34 else H j, SK.c (SC.val (Go.Value.int Go.IntKind.u8 (Go.IntKind.u8.wrap (↑(BitVec.ofInt 8 (if 135 = N.toNat then x34 else H 135) ^^^ BitVec.ofInt 8 (128 : Int)).toNat : Int))))]))) 136) 0)).fdiv (281474976710656 : Int)) = x7 ∧ Go.IntKind.u8.wrap ((lw (T (absB (ofRow L) (strF (bytesI (intsL [SK.f Go.IntKind.u8 135 fun (j : Nat) => if j = N.toNat then x34 else H j, SK.c (SC.val (Go.Value.int Go.IntKind.u8 (Go.IntKind.u8.wrap (↑(BitVec.ofInt 8 (if 135 = N.toNat then x34 else H 135) ^^^ BitVec.ofInt 8 (128 : Int)).toNat : Int))))]))) 136) 0)).fdiv (72057594037927936 : Int)) = x8 ∧ Go.IntKind.u8.wrap ((lw (T (absB (ofRow L) (strF (bytesI (intsL [SK.f Go.IntKind.u8 135 fun (j : Nat) => if j = N.toNat then x34 else H j, SK.c (SC.val (Go.Value.int Go.IntKind.u8 (Go.IntKind.u8.wrap (↑(BitVec.ofInt 8 (if 135 = N.toNat then x34 else H 135) ^^^ BitVec.ofInt 8 (128 : Int)).toNat : Int))))]))) 136) 1)).fdiv (1 : Int)) = x9 ∧ Go.IntKind.u8.wrap ((lw (T (absB (ofRow L) (strF (bytesI (intsL [SK.f Go.IntKind.u8 135 fun (j : Nat) => if j = N.toNat then x34 else H j, SK.c (SC.val (Go.Value.int Go.IntKind.u8 (Go.IntKind.u8.wrap (↑(BitVec.ofInt 8 (if 135 = N.toNat then x34 else H 135) ^^^ BitVec.ofInt 8 (128 : Int)).toNat : Int))))]))) 136) 1)).fdiv (256 : Int)) = x10 ∧ Go.IntKind.u8.wrap ((lw (T (absB (ofRow L) (strF (bytesI (intsL [SK.f Go.IntKind.u8 135 fun (j : Nat) => if j = N.toNat then x34 else H j, SK.c (SC.val (Go.Value.int Go.IntKind.u8 (Go.IntKind.u8.wrap (↑(BitVec.ofInt 8 (if 135 = N.toNat then x34 else H 135) ^^^ BitVec.ofInt 8 (128 : Int)).toNat : Int))))]))) 136) 1)).fdiv (65536 : Int)) = x11 ∧ Go.IntKind.u8.wrap ((lw (T (absB (ofRow L) (strF (bytesI (intsL [SK.f Go.IntKind.u8 135 fun (j : Nat) => if j = N.toNat then x34 else H j, SK.c (SC.val (Go.Value.int Go.IntKind.u8 (Go.IntKind.u8.wrap (↑(BitVec.ofInt 8 (if 135 = N.toNat then x34 else H 135) ^^^ BitVec.ofInt 8 (128 : Int)).toNat : Int))))]))) 136) 1)).fdiv (16777216 : Int)) = x12 ∧ Go.IntKind.u8.wrap ((lw (T (absB (ofRow L) (strF (bytesI (intsL [SK.f Go.IntKind.u8 135 fun (j : Nat) => if j = N.toNat then x34 else H j, SK.c (SC.val (Go.Value.int Go.IntKind.u8 (Go.IntKind.u8.wrap (↑(BitVec.ofInt 8 (if 135 = N.toNat then x34 else H 135) ^^^ BitVec.ofInt 8 (128 : Int)).toNat : Int))))]))) 136) 1)).fdiv (4294967296 : Int)) = x13 ∧ Go.IntKind.u8.wrap ((lw (T (absB (ofRow L) (strF (bytesI (intsL [SK.f Go.IntKind.u8 135 fun (j : Nat) => if j = N.toNat then x34 else H j, SK.c (SC.val (Go.Value.int Go.IntKind.u8 (Go.IntKind.u8.wrap (↑(BitVec.ofInt 8 (if 135 = N.toNat then x34 else H 135) ^^^ BitVec.ofInt 8 (128 : Int)).toNat : Int))))]))) 136) 1)).fdiv (1099511627776 : Int)) = x14 ∧ Go.IntKind.u8.wrap ((lw (T (absB (ofRow L) (strF (bytesI (intsL [SK.f Go.IntKind.u8 135 fun (j : Nat) => if j = N.toNat then x34 else H j, SK.c (SC.val (Go.Value.int Go.IntKind.u8 (Go.IntKind.u8.wrap (↑(BitVec.ofInt 8 (if 135 = N.toNat then x34 else H 135) ^^^ BitVec.ofInt 8 (128 : Int)).toNat : Int))))]))) 136) 1)).fdiv (281474976710656 : Int)) = x15 ∧ Go.IntKind.u8.wrap ((lw (T (absB (ofRow L) (strF (bytesI (intsL [SK.f Go.IntKind.u8 135 fun (j : Nat) => if j = N.toNat then x34 else H j, SK.c (SC.val (Go.Value.int Go.IntKind.u8 (Go.IntKind.u8.wrap (↑(BitVec.ofInt 8 (if 135 = N.toNat then x34 else H 135) ^^^ BitVec.ofInt 8 (128 : Int)).toNat : Int))))]))) 136) 1)).fdiv (72057594037927936 : Int)) = x16 ∧ Go.IntKind.u8.wrap ((lw (T (absB (ofRow L) (strF (bytesI (intsL [SK.f Go.IntKind.u8 135 fun (j : Nat) => if j = N.toNat then x34 else H j, SK.c (SC.val (Go.Value.int Go.IntKind.u8 (Go.IntKind.u8.wrap (↑(BitVec.ofInt 8 (if 135 = N.toNat then x34 else H 135) ^^^ BitVec.ofInt 8 (128 : Int)).toNat : Int))))]))) 136) 2)).fdiv (1 : Int)) = x17 ∧ Go.IntKind.u8.wrap ((lw (T (absB (ofRow L) (strF (bytesI (intsL [SK.f Go.IntKind.u8 135 fun (j : Nat) => if j = N.toNat then x34 else H j, SK.c (SC.val (Go.Value.int Go.IntKind.u8 (Go.IntKind.u8.wrap (↑(BitVec.ofInt 8 (if 135 = N.toNat then x34 else H 135) ^^^ BitVec.ofInt 8 (128 : Int)).toNat : Int))))]))) 136) 2)).fdiv (256 : Int)) = x18 ∧ Go.IntKind.u8.wrap ((lw (T (absB (ofRow L) (strF (bytesI (intsL [SK.f Go.IntKind.u8 135 fun (j : Nat) => if j = N.toNat then x34 else H j, SK.c (SC.val (Go.Value.int Go.IntKind.u8 (Go.IntKind.u8.wrap (↑(BitVec.ofInt 8 (if 135 = N.toNat then x34 else H 135) ^^^ BitVec.ofInt 8 (128 : Int)).toNat : Int))))]))) 136) 2)).fdiv (65536 : Int)) = x19 ∧ Go.IntKind.u8.wrap ((lw (T (absB (ofRow L) (strF (bytesI (intsL [SK.f Go.IntKind.u8 135 fun (j : Nat) => if j = N.toNat then x34 else H j, SK.c (SC.val (Go.Value.int Go.IntKind.u8 (Go.IntKind.u8.wrap (↑(BitVec.ofInt 8 (if 135 = N.toNat then x34 else H 135) ^^^ BitVec.ofInt 8 (128 : Int)).toNat : Int))))]))) 136) 2)).fdiv (16777216 : Int)) = x20 ∧ Go.IntKind.u8.wrap ((lw (T (absB (ofRow L) (strF (bytesI (intsL [SK.f Go.IntKind.u8 135 fun (j : Nat) => if j = N.toNat then x34 else H j, SK.c (SC.val (Go.Value.int Go.IntKind.u8 (Go.IntKind.u8.wrap (↑(BitVec.ofInt 8 (if 135 = N.toNat then x34 else H 135) ^^^ BitVec.ofInt 8 (128 : Int)).toNat : Int))))]))) 136) 2)).fdiv (4294967296 : Int)) = x21 ∧ Go.IntKind.u8.wrap ((lw (T (absB (ofRow L) (strF (bytesI (intsL [SK.f Go.IntKind.u8 135 fun (j : Nat) => if j = N.toNat then x34 else H j, SK.c (SC.val (Go.Value.int Go.IntKind.u8 (Go.IntKind.u8.wrap (↑(BitVec.ofInt 8 (if 135 = N.toNat then x34 else H 135) ^^^ BitVec.ofInt 8 (128 : Int)).toNat : Int))))]))) 136) 2)).fdiv (1099511627776 : Int)) = x22 ∧ Go.IntKind.u8.wrap ((lw (T (absB (ofRow L) (strF (bytesI (intsL [SK.f Go.IntKind.u8 135 fun (j : Nat) => if j = N.toNat then x34 else H j, SK.c (SC.val (Go.Value.int Go.IntKind.u8 (Go.IntKind.u8.wrap (↑(BitVec.ofInt 8 (if 135 = N.toNat then x34 else H 135) ^^^ BitVec.ofInt 8 (128 : Int)).toNat : Int))))]))) 136) 2)).fdiv (281474976710656 : Int)) = x23 ∧ Go.IntKind.u8.wrap ((lw (T (absB (ofRow L) (strF (bytesI (intsL [SK.f Go.IntKind.u8 135 fun (j : Nat) => if j = N.toNat then x34 else H j, SK.c (SC.val (Go.Value.int Go.IntKind.u8 (Go.IntKind.u8.wrap (↑(BitVec.ofInt 8 (if 135 = N.toNat then x34 else H 135) ^^^ BitVec.ofInt 8 (128 : Int)).toNat : Int))))]))) 136) 2)).fdiv (72057594037927936 : Int)) = x24 ∧ Go.IntKind.u8.wrap ((lw (T (absB (ofRow L) (strF (bytesI (intsL [SK.f Go.IntKind.u8 135 fun (j : Nat) => if j = N.toNat then x34 else H j, SK.c (SC.val (Go.Value.int Go.IntKind.u8 (Go.IntKind.u8.wrap (↑(BitVec.ofInt 8 (if 135 = N.toNat then x34 else H 135) ^^^ BitVec.ofInt 8 (128 : Int)).toNat : Int))))]))) 136) 3)).fdiv (1 : Int)) = x25 ∧ Go.IntKind.u8.wrap ((lw (T (absB (ofRow L) (strF (bytesI (intsL [SK.f Go.IntKind.u8 135 fun (j : Nat) => if j = N.toNat then x34 else H j, SK.c (SC.val (Go.Value.int Go.IntKind.u8 (Go.IntKind.u8.wrap (↑(BitVec.ofInt 8 (if 135 = N.toNat then x34 else H 135) ^^^ BitVec.ofInt 8 (128 : Int)).toNat : Int))))]))) 136) 3)).fdiv (256 : Int)) = x26 ∧ Go.IntKind.u8.wrap ((lw (T (absB (ofRow L) (strF (bytesI (intsL [SK.f Go.IntKind.u8 135 fun (j : Nat) => if j = N.toNat then x34 else H j, SK.c (SC.val (Go.Value.int Go.IntKind.u8 (Go.IntKind.u8.wrap (↑(BitVec.ofInt 8 (if 135 = N.toNat then x34 else H 135) ^^^ BitVec.ofInt 8 (128 : Int)).toNat : Int))))]))) 136) 3)).fdiv (65536 : Int)) = x27 ∧ Go.IntKind.u8.wrap ((lw (T (absB (ofRow L) (strF (bytesI (intsL [SK.f Go.IntKind.u8 135 fun (j : Nat) => if j = N.toNat then x34 else H j, SK.c (SC.val (Go.Value.int Go.IntKind.u8 (Go.IntKind.u8.wrap (↑(BitVec.ofInt 8 (if 135 = N.toNat then x34 else H 135) ^^^ BitVec.ofInt 8 (128 : Int)).toNat : Int))))]))) 136) 3)).fdiv (16777216 : Int)) = x28 ∧ Go.IntKind.u8.wrap ((lw (T (absB (ofRow L) (strF (bytesI (intsL [SK.f Go.IntKind.u8 135 fun (j : Nat) => if j = N.toNat then x34 else H j, SK.c (SC.val (Go.Value.int Go.IntKind.u8 (Go.IntKind.u8.wrap (↑(BitVec.ofInt 8 (if 135 = N.toNat then x34 else H 135) ^^^ BitVec.ofInt 8 (128 : Int)).toNat : Int))))]))) 136) 3)).fdiv (4294967296 : Int)) = x29 ∧ Go.IntKind.u8.wrap ((lw (T (absB (ofRow L) (strF (bytesI (intsL [SK.f Go.IntKind.u8 135 fun (j : Nat) => if j = N.toNat then x34 else H j, SK.c (SC.val (Go.Value.int Go.IntKind.u8 (Go.IntKind.u8.wrap (↑(BitVec.ofInt 8 (if 135 = N.toNat then x34 else H 135) ^^^ BitVec.ofInt 8 (128 : Int)).toNat : Int))))]))) 136) 3)).fdiv (1099511627776 : Int)) = x30 ∧ Go.IntKind.u8.wrap ((lw (T (absB (ofRow L) (strF (bytesI (intsL [SK.f Go.IntKind.u8 135 fun (j : Nat) => if j = N.toNat then x34 else H j, SK.c (SC.val (Go.Value.int Go.IntKind.u8 (Go.IntKind.u8.wrap (↑(BitVec.ofInt 8 (if 135 = N.toNat then x34 else H 135) ^^^ BitVec.ofInt 8 (128 : Int)).toNat : Int))))]))) 136) 3)).fdiv (281474976710656 : Int)) = x31 ∧ Go.IntKind.u8.wrap ((lw (T (absB (ofRow L) (strF (bytesI (intsL [SK.f Go.IntKind.u8 135 fun (j : Nat) => if j = N.toNat then x34 else H j, SK.c (SC.val (Go.Value.int Go.IntKind.u8 (Go.IntKind.u8.wrap (↑(BitVec.ofInt 8 (if 135 = N.toNat then x34 else H 135) ^^^ BitVec.ofInt 8 (128 : Int)).toNat : Int))))]))) 136) 3)).fdiv (72057594037927936 : Int)) = x32 ∧ True) ∧ (0 : Int) = x33)) := by kernel_rfl
end Go.Proofs.YtpebkgbelifdgaaDoor
end

section
namespace Go.Proofs.YtpebkgbelifdgaaDoor
open Go Go.Sx Go.RowKit
theorem bytesI_list (l : List Int) : (bytesI l).data.toList = l.map fun n => UInt8.ofNat n.toNat := by
  have key : ∀ (l : List Int) (b : ByteArray), (l.foldl (fun r n => r.push (UInt8.ofNat n.toNat)) b).data.toList = b.data.toList ++ l.map fun n => UInt8.ofNat n.toNat := by
    intro l
    induction l with
    | nil => intro b; simp
    | cons n l ih => intro b; rw [List.foldl_cons, ih]; simp [ByteArray.push]
  have := key l ByteArray.empty
  rw [show (ByteArray.empty).data.toList = [] from rfl, List.nil_append] at this
  exact this
theorem bytesI_sz (l : List Int) : (bytesI l).size = l.length := by
  have := congrArg List.length (bytesI_list l)
  rw [List.length_map] at this
  exact this
theorem strF_bytes {l : List Int} {j : Nat} (h : 0 ≤ l.getD j 0 ∧ l.getD j 0 < 256) : strF (bytesI l) j = l.getD j 0 := by
  unfold strF
  have e : (bytesI l).data.getD j 0 = (l.map fun n => UInt8.ofNat n.toNat).getD j 0 := by
    rw [← bytesI_list, Array.getD_eq_getD_getElem?, List.getD_eq_getElem?_getD, Array.getElem?_toList]
  rw [e]
  rcases Nat.lt_or_ge j l.length with c | c
  · rw [List.getD_eq_getElem?_getD, List.getElem?_map] 
    rw [List.getD_eq_getElem?_getD] at h ⊢
    rw [List.getElem?_eq_getElem c] at h ⊢
    simp only [Option.map_some, Option.getD_some] at h ⊢
    rw [UInt8.toNat_ofNat', Nat.mod_eq_of_lt (by omega)]
    omega
  · rw [List.getD_eq_getElem?_getD, List.getElem?_eq_none (by simpa using c), List.getD_eq_getElem?_getD, List.getElem?_eq_none c]
    rfl
theorem absB_same {a : Nat → BitVec 64} {F G : Nat → Int} : ∀ {m : Nat}, (∀ i, i < m → F i = G i) → absB a F m = absB a G m
  | 0, _ => rfl
  | m + 1, h => by
    funext j
    show (if j = m / 8 then absB a F m j ^^^ shB (F m) (m % 8 * 8) else absB a F m j) = if j = m / 8 then absB a G m j ^^^ shB (G m) (m % 8 * 8) else absB a G m j
    rw [absB_same (fun i hi => h i (by omega)), h m (by omega)]
theorem pad_row (H : Nat → Int) (n : Nat) (hn : n < 136) (hH : ∀ j, j < 136 → 0 ≤ H j ∧ H j < 256) (hz : ∀ j, n ≤ j → j < 136 → H j = 0) (l : List Int) (x : Int)
    (hx : x = IntKind.u8.wrap (((BitVec.ofInt 8 (H n) ^^^ BitVec.ofInt 8 1).toNat : Nat) : Int))
    (hl : l = intsL [SK.f .u8 135 (fun j => if j = n then x else H j), SK.c (.val (.int .u8 (IntKind.u8.wrap (((BitVec.ofInt 8 (if 135 = n then x else H 135) ^^^ BitVec.ofInt 8 128).toNat : Nat) : Int))))]) :
    l.length = 136 ∧ ∀ j, j < 136 → strF (bytesI l) j = padB H n j := by
  have x1 : x = 1 := by
    rw [hx, hz n (Nat.le_refl _) hn]; decide
  have w1 : IntKind.u8.wrap (0 + 1) = 1 := by decide
  have l' : l = (List.range 135).map (fun j => if j = n then 1 else H j) ++ [if 135 = n then 129 else 128] := by
    rw [hl, x1]
    show _ ++ [_] = _
    refine congrArg (fun z => (List.range 135).map (fun j => if j = n then 1 else H j) ++ [z]) ?_
    by_cases c : 135 = n
    · rw [if_pos c, if_pos c]; decide
    · rw [if_neg c, if_neg c, hz 135 (by omega) (by decide)]; decide
  have gl : ∀ j, j < 136 → l.getD j 0 = padB H n j := by
    intro j hj
    rw [l', List.getD_eq_getElem?_getD]
    unfold padB
    by_cases c : j = 135
    · subst c
      rw [if_pos rfl, List.getElem?_append_right (by simp)]
      unfold pad1
      by_cases d : 135 = n
      · rw [if_pos d, hz 135 (by omega) (by decide)]; simp [d]; decide
      · rw [if_neg d, hz 135 (by omega) (by decide)]; simp [d]; decide
    · rw [if_neg c, List.getElem?_append_left (by simp; omega), List.getElem?_map, List.getElem?_range (by omega)]
      unfold pad1
      by_cases d : j = n
      · rw [if_pos d, d, hz n (Nat.le_refl _) hn, w1]; simp
      · rw [if_neg d]; simp [d]
  refine ⟨by rw [l']; simp, fun j hj => ?_⟩
  rw [← gl j hj]
  refine strF_bytes ?_
  rw [gl j hj]
  unfold padB pad1
  by_cases c : j = 135
  · rw [if_pos c]
    by_cases d : 135 = n
    · rw [if_pos d, hz 135 (by omega) (by decide)]; decide
    · rw [if_neg d, hz 135 (by omega) (by decide)]; decide
  · rw [if_neg c]
    by_cases d : j = n
    · rw [if_pos d, d, hz n (Nat.le_refl _) hn]; decide
    · rw [if_neg d]; exact hH j hj
end Go.Proofs.YtpebkgbelifdgaaDoor
end

section
namespace Go.Proofs.YtpebkgbelifdgaaDoor
open Go Go.Sx Go.RowKit
theorem card_soaked : FnOKg Tryd.prog [] 28 (specStr25 fun a s => turnB (absB a (strF s) 136)) := by
  refine FnOK_owesG (cx := ⟨[(30, specLanes 25 25 turnB)], [], 0, []⟩) (by
    refine ⟨fun p hp => ?_, fun _ h => (by cases h)⟩
    simp only [List.mem_singleton] at hp
    subst hp
    exact card_Turned) Tryd.func28 (by kernel_rfl) (by kernel_rfl) fun args ps sv hs hp => ?_
  unfold specStr25 at hs
  split at hs
  · rename_i x s
    split at hs
    · rename_i g hg
      simp only [Option.some.injEq, Prod.mk.injEq] at hs
      obtain ⟨rfl, rfl⟩ := hs
      obtain ⟨hl, hsz, _⟩ := hp
      refine ⟨[(2, .inv (invSoaked (ofRow g) s))], 30, [sRow .u64 25 (fun i => lw (ofRow g i)), .sc (.val (.string s))], fun ρ => ?_, fun fz _ z hz => ?_, bnd_row _ _ _ _, ok_soaked (ofRow g) s hsz⟩
      · rw [List.map_cons, List.map_cons, asRow_canon hg ρ]
        refine congrArg (fun z => z :: _) ?_
        simp only [SA.conc, concs_f]
        refine congrArg (fun z => Value.agg (List.toArray z)) ?_
        apply List.map_congr_left
        intro j hj
        rw [lw_ofRow hl (List.mem_range.1 hj)]
      · simp only [List.mem_cons, List.not_mem_nil, or_false] at hz
        rcases hz with rfl | rfl
        · exact bnd_row _ _ _ _
        · trivial
    · cases hs
  · cases hs
def bytesH (H : Nat → Int) : Prop := ∀ j, j < 136 → 0 ≤ H j ∧ H j < 256
theorem ok_Wrung (L H : Nat → Int) (N : Int) (hL : lanes 25 L) (hH : bytesH H) : Owes Tryd.prog (cxWrung turnB) [] 40 Tryd.f23 [sSp L H N] (endT turnB L H N) := by
  rw [vc_Wrung]
  generalize turnB = T
  intro x1 x2 x3 x4 x5 x6 x7 x8 x9 x10 x11 x12 x13 x14 x15 x16 x17 x18 x19 x20 x21 x22 x23 x24 x25 x26 x27 x28 x29 x30 x31 x32 x33 x34
  cases hm : mayG H N with
  | false =>
    refine ⟨fun _ => ?_, fun h => (by cases h)⟩
    simp only [x1, x2, x3, x4, x5, x6, x7, x8, x9, x10, x11, x12, x13, x14, x15, x16, x17, x18, x19, x20, x21, x22, x23, x24, x25, x26, x27, x28, x29, x30, x31, x32, x33, hm, Bool.false_eq_true, if_false, and_self]
  | true =>
    refine ⟨fun h => (by cases h), fun _ => ?_⟩
    obtain ⟨hN, hz⟩ := (mayG_iff H N).1 hm
    have p := pad_row H N.toNat (by omega) hH (fun j h1 h2 => by
      have := hz (j - N.toNat) (by omega)
      rwa [show N.toNat + (j - N.toNat) = j by omega] at this) _ x34 rfl rfl
    have hS := absB_same (a := ofRow L) (m := 136) p.2
    rw [hS]
    refine ⟨hN, hN, hN, hN, hL, (bytesI_sz _).trans p.1, ?_, ?_⟩
    · simp only [x1, x2, x3, x4, x5, x6, x7, x8, x9, x10, x11, x12, x13, x14, x15, x16, x17, x18, x19, x20, x21, x22, x23, x24, x25, x26, x27, x28, x29, x30, x31, x32, x33, hm, if_true, firstG, Nat.reduceDiv, Nat.reduceMod, Nat.reduceMul, Int.reducePow, Int.pow_zero, and_self]
    · simp only [x33, hm, if_true]
theorem card_Wrung : FnOKg Tryd.prog [] 23 (specSp (fun L H _ => [lanes 25 L, bytesH H]) endG) :=
  FnOK_Sp (cx := cxWrung turnB) (by
    refine ⟨fun p hp => ?_, fun _ h => (by cases h)⟩
    simp only [cxWrung, List.mem_cons, List.not_mem_nil, or_false] at hp
    rcases hp with rfl | rfl
    · exact card_badSponge
    · exact card_soaked) (iv := fun _ _ _ => []) (N := 40) Tryd.func23 (by kernel_rfl) (by kernel_rfl) (fun _ _ _ => by
      intro x hx
      simp only [List.mem_cons, List.not_mem_nil, or_false] at hx
      rcases hx with rfl | rfl
      · exact bnd_row _ _ _ _
      · trivial) fun L H N h => ok_Wrung L H N h.1 h.2.1
end Go.Proofs.YtpebkgbelifdgaaDoor
end

section
namespace Go.Proofs.YtpebkgbelifdgaaDoor
open Go Go.Sx Go.RowKit
end Go.Proofs.YtpebkgbelifdgaaDoor
end

section
namespace Go.Proofs.YtpebkgbelifdgaaDoor
open Go Go.Sx Go.RowKit
def eE (L H : Nat → Int) (N : Int) (j : Nat) : Int := if mayG H N then endB (spOf L H N) j else 0
def xE (H : Nat → Int) (N : Int) : Int := if mayG H N then 0 else 12
end Go.Proofs.YtpebkgbelifdgaaDoor
end

section
namespace Go.Proofs.YtpebkgbelifdgaaDoor
open Go Go.Sx Go.RowKit
def addGG (A G : (Nat → Int) → (Nat → Int) → Int → Nat → (Nat → Int) → Nat → Int) (m x : (Nat → Int) → (Nat → Int) → Int → Nat → (Nat → Int) → Int) (L H : Nat → Int) (N : Int) (n : Nat) (f : Nat → Int) : SV := .tup [sSp (A L H N n f) (G L H N n f) (m L H N n f), sI .i64 (x L H N n f)]
def soakC (L H : Nat → Int) (_ : Int) (n : Nat) (f : Nat → Int) : List Prop := [lanes 25 L, bytesH H, ∀ i, 0 ≤ f i ∧ f i < 256, n ≤ 140737488355327]
def cHash : FSpec := fun args =>
  match args with
  | [.sc (.val (.string s))] => some ([s.size ≤ 140737488355327], .one (sRow .u8 32 (sumB s.size fun j => ((s.data.getD j 0).toNat : Int))))
  | _ => none
def cxHash (A G : (Nat → Int) → (Nat → Int) → Int → Nat → (Nat → Int) → Nat → Int) (m x : (Nat → Int) → (Nat → Int) → Int → Nat → (Nat → Int) → Int) (e : (Nat → Int) → (Nat → Int) → Int → Nat → Int) (y : (Nat → Int) → Int → Int) : Cx := ⟨[(22, specSpB soakC (addGG A G m x)), (23, specSp (fun L H _ => [lanes 25 L, bytesH H]) fun L H N => .tup [sRow .u8 32 (e L H N), sI .i64 (y H N)])], [], 0, []⟩
theorem vc_Hash (A G : (Nat → Int) → (Nat → Int) → Int → Nat → (Nat → Int) → Nat → Int) (m x : (Nat → Int) → (Nat → Int) → Int → Nat → (Nat → Int) → Int) (e : (Nat → Int) → (Nat → Int) → Int → Nat → Int) (y : (Nat → Int) → Int → Int) (s : ByteArray) (r : Nat → Int) :
    Owes Tryd.prog (cxHash A G m x e y) [] 10 Tryd.f14 [.sc (.val (.string s))] (.one (sRow .u8 32 r)) =
    (∀ (a : Go.Addr) (cap : Nat), s.size ≤ cap → (∀ (j : Nat), True) ∧ (∀ (i : Nat), i < 25 → (0 : Int) ≤ (0 : Int) ∧ (0 : Int) < (18446744073709551616 : Int)) ∧ (∀ (j : Nat), j < 136 → (0 : Int) ≤ (0 : Int) ∧ (0 : Int) < (256 : Int)) ∧ (∀ (i : Nat), (0 : Int) ≤ (↑(s.data.getD i (0 : UInt8)).toNat : Int) ∧ (↑(s.data.getD i (0 : UInt8)).toNat : Int) < (256 : Int)) ∧ s.size ≤ 140737488355327 ∧ (∀ (i : Nat), i < 25 → (0 : Int) ≤ A (fun (x : Nat) => (0 : Int)) (fun (x : Nat) => (0 : Int)) (0 : Int) s.size (fun (j : Nat) => (↑(s.data.getD j (0 : UInt8)).toNat : Int)) i ∧ A (fun (x : Nat) => (0 : Int)) (fun (x : Nat) => (0 : Int)) (0 : Int) s.size (fun (j : Nat) => (↑(s.data.getD j (0 : UInt8)).toNat : Int)) i < (18446744073709551616 : Int)) ∧ (∀ (j : Nat), j < 136 → (0 : Int) ≤ G (fun (x : Nat) => (0 : Int)) (fun (x : Nat) => (0 : Int)) (0 : Int) s.size (fun (j : Nat) => (↑(s.data.getD j (0 : UInt8)).toNat : Int)) j ∧ G (fun (x : Nat) => (0 : Int)) (fun (x : Nat) => (0 : Int)) (0 : Int) s.size (fun (j : Nat) => (↑(s.data.getD j (0 : UInt8)).toNat : Int)) j < (256 : Int)) ∧ (∀ (j : Nat), j < 32 → e (A (fun (x : Nat) => (0 : Int)) (fun (x : Nat) => (0 : Int)) (0 : Int) s.size fun (j : Nat) => (↑(s.data.getD j (0 : UInt8)).toNat : Int)) (G (fun (x : Nat) => (0 : Int)) (fun (x : Nat) => (0 : Int)) (0 : Int) s.size fun (j : Nat) => (↑(s.data.getD j (0 : UInt8)).toNat : Int)) (m (fun (x : Nat) => (0 : Int)) (fun (x : Nat) => (0 : Int)) (0 : Int) s.size fun (j : Nat) => (↑(s.data.getD j (0 : UInt8)).toNat : Int)) j = r j) ∧ True) := by kernel_rfl
end Go.Proofs.YtpebkgbelifdgaaDoor
end

section
namespace Go.Proofs.YtpebkgbelifdgaaDoor
open Go Go.Sx Go.RowKit
def cxSoaked (T : (Nat → BitVec 64) → Nat → BitVec 64) : Cx := ⟨[(27, specSp (fun _ _ _ => []) fun _ H N => .one (sB (!mayG H N))), (28, specStr25 fun a s => T (absB a (strF s) 136))], [], 0, []⟩
def zSp : List SK := List.replicate 25 (.c (.num .u64 0)) ++ List.replicate 136 (.c (.num .u8 0)) ++ [.c (.num .i64 0)]
def invEat (L H : Nat → Int) (N : Int) (P : (Nat → BitVec 64) → ByteArray → Prop) : Inv where
  X := (Nat → BitVec 64) × ByteArray
  tm y := slotsAt 52 [(4, .one (.sc (.ptr 1 0))), (7, .one (.sc (.val (.string y.2)))), (8, .one (.sc (.ptr 3 0)))]
  ob y := [.cells 44 [.f .u64 25 L, .f .u8 136 H, .c (.val (.int .i64 N))] 0, .cells 44 zSp 0, .cells 42 [.f .u8 136 H] 0, .cells 41 (kRow25 y.1) 0]
  holds y := P y.1 y.2
  less y := y.2.size
def invLay (L H : Nat → Int) (N : Int) (P : (Nat → BitVec 64) → ByteArray → Prop) : Inv where
  X := Nat × (Nat → BitVec 64) × ByteArray
  tm y := slotsAt 52 [(4, .one (.sc (.ptr 1 0))), (7, .one (.sc (.val (.string y.2.2)))), (9, .one (.sc (.ptr 4 0))), (10, .one (sI .i64 (y.1 : Int)))]
  ob y := [.cells 44 [.f .u64 25 L, .f .u8 136 H, .c (.val (.int .i64 N))] 0, .cells 44 zSp 0, .cells 42 [.f .u8 136 H] 0, .cells 41 (kRow25 y.2.1) 0, .cells 44 [.f .u64 25 fun i => lw (y.2.1 i), .f .u8 136 (fun j => if j < y.1 then strF y.2.2 j else 0), .c (.val (.int .i64 (y.2.2.size : Int)))] 0]
  holds y := P y.2.1 y.2.2 ∧ y.2.2.size < 136 ∧ y.1 ≤ y.2.2.size
  less y := 136 - y.1
theorem vc_Soaked (T : (Nat → BitVec 64) → Nat → BitVec 64) (P : (Nat → BitVec 64) → ByteArray → Prop) (A G : Nat → Int) (n : Int) (L H : Nat → Int) (N : Int) (a : Option Addr) (m cap : Nat) (f : Nat → Int) :
    Owes Tryd.prog (cxSoaked T) [(6, .inv (invEat L H N P)), (10, .inv (invLay L H N P))] 200 Tryd.f22 [sSp L H N, sXs a m cap f] (.tup [sSp A G n, sI .i64 (if mayG H N then 0 else 12)]) =
    (let x1 : Int := if mayG H N = Bool.true then (0 : Int) else (12 : Int); ((!mayG H N) = Bool.true → ((0 : Int) = A 0 ∧ (0 : Int) = A 1 ∧ (0 : Int) = A 2 ∧ (0 : Int) = A 3 ∧ (0 : Int) = A 4 ∧ (0 : Int) = A 5 ∧ (0 : Int) = A 6 ∧ (0 : Int) = A 7 ∧ (0 : Int) = A 8 ∧ (0 : Int) = A 9 ∧ (0 : Int) = A 10 ∧ (0 : Int) = A 11 ∧ (0 : Int) = A 12 ∧ (0 : Int) = A 13 ∧ (0 : Int) = A 14 ∧ (0 : Int) = A 15 ∧ (0 : Int) = A 16 ∧ (0 : Int) = A 17 ∧ (0 : Int) = A 18 ∧ (0 : Int) = A 19 ∧ (0 : Int) = A 20 ∧ (0 : Int) = A 21 ∧ (0 : Int) = A 22 ∧ (0 : Int) = A 23 ∧ (0 : Int) = A 24 ∧ (0 : Int) = G 0 ∧ (0 : Int) = G 1 ∧ (0 : Int) = G 2 ∧ (0 : Int) = G 3 ∧ (0 : Int) = G 4 ∧ (0 : Int) = G 5 ∧ (0 : Int) = G 6 ∧ (0 : Int) = G 7 ∧ (0 : Int) = G 8 ∧ (0 : Int) = G 9 ∧ (0 : Int) = G 10 ∧ (0 : Int) = G 11 ∧ (0 : Int) = G 12 ∧ (0 : Int) = G 13 ∧ (0 : Int) = G 14 ∧ (0 : Int) = G 15 ∧ (0 : Int) = G 16 ∧ (0 : Int) = G 17 ∧ (0 : Int) = G 18 ∧ (0 : Int) = G 19 ∧ (0 : Int) = G 20 ∧ (0 : Int) = G 21 ∧ (0 : Int) = G 22 ∧ (0 : Int) = G 23 ∧ (0 : Int) = G 24 ∧ (0 : Int) = G 25 ∧ (0 : Int) = G 26 ∧ (0 : Int) = G 27 ∧ (0 : Int) = G 28 ∧ (0 : Int) = G 29 ∧ (0 : Int) = G 30 ∧ (0 : Int) = G 31 ∧ (0 : Int) = G 32 ∧ (0 : Int) = G 33 ∧ (0 : Int) = G 34 ∧ (0 : Int) = G 35 ∧ (0 : Int) = G 36 ∧ (0 : Int) = G 37 ∧ (0 : Int) = G 38 ∧ (0 : Int) = G 39 ∧ (0 : Int) = G 40 ∧ (0 : Int) = G 41 ∧ (0 : Int) = G 42 ∧ (0 : Int) = G 43 ∧ (0 : Int) = G 44 ∧ (0 : Int) = G 45 ∧ (0 : Int) = G 46 ∧ (0 : Int) = G 47 ∧ (0 : Int) = G 48 ∧ (0 : Int) = G 49 ∧ (0 : Int) = G 50 ∧ (0 : Int) = G 51 ∧ (0 : Int) = G 52 ∧ (0 : Int) = G 53 ∧ (0 : Int) = G 54 ∧ (0 : Int) = G 55 ∧ (0 : Int) = G 56 ∧ (0 : Int) = G 57 ∧ (0 : Int) = G 58 ∧ (0 : Int) = G 59 ∧ (0 : Int) = G 60 ∧ (0 : Int) = G 61 ∧ (0 : Int) = G 62 ∧ (0 : Int) = G 63 ∧ (0 : Int) = G 64 ∧ (0 : Int) = G 65 ∧ (0 : Int) = G 66 ∧ (0 : Int) = G 67 ∧ (0 : Int) = G 68 ∧ (0 : Int) = G 69 ∧ (0 : Int) = G 70 ∧ (0 : Int) = G 71 ∧ (0 : Int) = G 72 ∧ (0 : Int) = G 73 ∧ (0 : Int) = G 74 ∧ (0 : Int) = G 75 ∧ (0 : Int) = G 76 ∧ (0 : Int) = G 77 ∧ (0 : Int) = G 78 ∧ (0 : Int) = G 79 ∧ (0 : Int) = G 80 ∧ (0 : Int) = G 81 ∧ (0 : Int) = G 82 ∧ (0 : Int) = G 83 ∧ (0 : Int) = G 84 ∧ (0 : Int) = G 85 ∧ (0 : Int) = G 86 ∧ (0 : Int) = G 87 ∧ (0 : Int) = G 88 ∧ (0 : Int) = G 89 ∧ (0 : Int) = G 90 ∧ (0 : Int) = G 91 ∧ (0 : Int) = G 92 ∧ (0 : Int) = G 93 ∧ (0 : Int) = G 94 ∧ (0 : Int) = G 95 ∧ (0 : Int) = G 96 ∧ (0 : Int) = G 97 ∧ (0 : Int) = G 98 ∧ (0 : Int) = G 99 ∧ (0 : Int) = G 100 ∧ (0 : Int) = G 101 ∧ (0 : Int) = G 102 ∧ (0 : Int) = G 103 ∧ (0 : Int) = G 104 ∧ (0 : Int) = G 105 ∧ (0 : Int) = G 106 ∧ (0 : Int) = G 107 ∧ (0 : Int) = G 108 ∧ (0 : Int) = G 109 ∧ (0 : Int) = G 110 ∧ (0 : Int) = G 111 ∧ (0 : Int) = G 112 ∧ (0 : Int) = G 113 ∧ (0 : Int) = G 114 ∧ (0 : Int) = G 115 ∧ (0 : Int) = G 116 ∧ (0 : Int) = G 117 ∧ (0 : Int) = G 118 ∧ (0 : Int) = G 119 ∧ (0 : Int) = G 120 ∧ (0 : Int) = G 121 ∧ (0 : Int) = G 122 ∧ (0 : Int) = G 123 ∧ (0 : Int) = G 124 ∧ (0 : Int) = G 125 ∧ (0 : Int) = G 126 ∧ (0 : Int) = G 127 ∧ (0 : Int) = G 128 ∧ (0 : Int) = G 129 ∧ (0 : Int) = G 130 ∧ (0 : Int) = G 131 ∧ (0 : Int) = G 132 ∧ (0 : Int) = G 133 ∧ (0 : Int) = G 134 ∧ (0 : Int) = G 135 ∧ (0 : Int) = n ∧ True) ∧ (12 : Int) = x1) ∧ ((!mayG H N) = Bool.false → ((0 : Int) ≤ (0 : Int) ∧ (0 : Int) ≤ (Go.IntKind.i64, N).snd ∧ (Go.IntKind.i64, N).snd ≤ (↑(bytesI (intsL [SK.f Go.IntKind.u8 136 H])).size : Int)) ∧ (∀ (j : Nat), True) ∧ ((bytesI (intsL [SK.f Go.IntKind.u8 136 H])).extract 0 (Go.IntKind.i64, N).snd.toNat).size + (bytesI (List.map (fun (j : Nat) => f j) (List.range m))).size ≤ 9223372036854775807 ∧ (∀ (y : (Nat → BitVec 64) × ByteArray), closedB (slotsAt 52 [(4, SV.one (SA.sc (SC.ptr 1 0))), (7, SV.one (SA.sc (SC.val (Go.Value.string y.snd)))), (8, SV.one (SA.sc (SC.ptr 3 0)))]) [SO.cells (28 : Go.TypeId) [SK.f Go.IntKind.u64 25 L, SK.f Go.IntKind.u8 136 H, SK.c (SC.val (Go.Value.int Go.IntKind.i64 N))] 0, SO.cells (28 : Go.TypeId) zSp 0, SO.cells (26 : Go.TypeId) [SK.f Go.IntKind.u8 136 H] 0, SO.cells (23 : Go.TypeId) (kRow25 y.fst) 0] = Bool.true) ∧ ∃ (y : (Nat → BitVec 64) × ByteArray), P y.fst y.snd ∧ (bytesI (intsL [SK.f Go.IntKind.u8 136 H])).extract 0 (Go.IntKind.i64, N).snd.toNat ++ bytesI (List.map (fun (j : Nat) => f j) (List.range m)) = y.snd ∧ ((∀ (j : Nat), j < 25 → L j = L j) ∧ (∀ (j : Nat), j < 136 → H j = H j) ∧ N = N ∧ True) ∧ 0 = 0 ∧ 0 = 0 ∧ ((∀ (j : Nat), j < 136 → H j = H j) ∧ True) ∧ 0 = 0 ∧ ((∀ (j : Nat), j < 25 → L j = lw (y.fst j)) ∧ True) ∧ 0 = 0 ∧ ∀ (y : (Nat → BitVec 64) × ByteArray), P y.fst y.snd → (Decidable.decide ((↑y.snd.size : Int) ≥ (136 : Int)) = Bool.true → ((0 : Int) ≤ (0 : Int) ∧ (0 : Int) ≤ (136 : Int) ∧ (136 : Int) ≤ (↑y.snd.size : Int)) ∧ (∀ (i : Nat), i < 25 → (0 : Int) ≤ lw (y.fst i) ∧ lw (y.fst i) < (18446744073709551616 : Int)) ∧ (y.snd.extract 0 136).size = 136 ∧ ((0 : Int) ≤ (136 : Int) ∧ (136 : Int) ≤ (↑y.snd.size : Int) ∧ (↑y.snd.size : Int) ≤ (↑y.snd.size : Int)) ∧ ∃ (y' : (Nat → BitVec 64) × ByteArray), P y'.fst y'.snd ∧ y.snd.extract 136 (↑y.snd.size : Int).toNat = y'.snd ∧ ((∀ (j : Nat), j < 25 → L j = L j) ∧ (∀ (j : Nat), j < 136 → H j = H j) ∧ N = N ∧ True) ∧ 0 = 0 ∧ 0 = 0 ∧ ((∀ (j : Nat), j < 136 → H j = H j) ∧ True) ∧ 0 = 0 ∧ ((∀ (j : Nat), j < 25 → lw (T (absB (ofRow fun (i : Nat) => lw (y.fst i)) (strF (y.snd.extract 0 136)) 136) j) = lw (y'.fst j)) ∧ True) ∧ 0 = 0 ∧ y'.snd.size < y.snd.size) ∧ (Decidable.decide ((↑y.snd.size : Int) ≥ (136 : Int)) = Bool.false → (∀ (y : Nat × (Nat → BitVec 64) × ByteArray), closedB (slotsAt 52 [(4, SV.one (SA.sc (SC.ptr 1 0))), (7, SV.one (SA.sc (SC.val (Go.Value.string y.snd.snd)))), (9, SV.one (SA.sc (SC.ptr 4 0))), (10, SV.one (sI Go.IntKind.i64 (↑y.fst : Int)))]) [SO.cells (28 : Go.TypeId) [SK.f Go.IntKind.u64 25 L, SK.f Go.IntKind.u8 136 H, SK.c (SC.val (Go.Value.int Go.IntKind.i64 N))] 0, SO.cells (28 : Go.TypeId) zSp 0, SO.cells (26 : Go.TypeId) [SK.f Go.IntKind.u8 136 H] 0, SO.cells (23 : Go.TypeId) (kRow25 y.snd.fst) 0, SO.cells (28 : Go.TypeId) [SK.f Go.IntKind.u64 25 fun (i : Nat) => lw (y.snd.fst i), SK.f Go.IntKind.u8 136 fun (j : Nat) => if j < y.fst then strF y.snd.snd j else (0 : Int), SK.c (SC.val (Go.Value.int Go.IntKind.i64 (↑y.snd.snd.size : Int)))] 0] = Bool.true) ∧ ∃ (y_1 : Nat × (Nat → BitVec 64) × ByteArray), (P y_1.snd.fst y_1.snd.snd ∧ y_1.snd.snd.size < 136 ∧ y_1.fst ≤ y_1.snd.snd.size) ∧ y.snd = y_1.snd.snd ∧ (0 : Int) = (↑y_1.fst : Int) ∧ ((∀ (j : Nat), j < 25 → L j = L j) ∧ (∀ (j : Nat), j < 136 → H j = H j) ∧ N = N ∧ True) ∧ 0 = 0 ∧ 0 = 0 ∧ ((∀ (j : Nat), j < 136 → H j = H j) ∧ True) ∧ 0 = 0 ∧ ((∀ (j : Nat), j < 25 → lw (y.fst j) = lw (y_1.snd.fst j)) ∧ True) ∧ 0 = 0 ∧ ((∀ (j : Nat), j < 25 → lw (y.fst j) = lw (y_1.snd.fst j)) ∧ ((0 : Int) = if 0 < y_1.fst then strF y_1.snd.snd 0 else (0 : Int)) ∧ ((0 : Int) = if 1 < y_1.fst then strF y_1.snd.snd 1 else (0 : Int)) ∧ ((0 : Int) = if 2 < y_1.fst then strF y_1.snd.snd 2 else (0 : Int)) ∧ ((0 : Int) = if 3 < y_1.fst then strF y_1.snd.snd 3 else (0 : Int)) ∧ ((0 : Int) = if 4 < y_1.fst then strF y_1.snd.snd 4 else (0 : Int)) ∧ ((0 : Int) = if 5 < y_1.fst then strF y_1.snd.snd 5 else (0 : Int)) ∧ ((0 : Int) = if 6 < y_1.fst then strF y_1.snd.snd 6 else (0 : Int)) ∧ ((0 : Int) = if 7 < y_1.fst then strF y_1.snd.snd 7 else (0 : Int)) ∧ ((0 : Int) = if 8 < y_1.fst then strF y_1.snd.snd 8 else (0 : Int)) ∧ ((0 : Int) = if 9 < y_1.fst then strF y_1.snd.snd 9 else (0 : Int)) ∧ ((0 : Int) = if 10 < y_1.fst then strF y_1.snd.snd 10 else (0 : Int)) ∧ ((0 : Int) = if 11 < y_1.fst then strF y_1.snd.snd 11 else (0 : Int)) ∧ ((0 : Int) = if 12 < y_1.fst then strF y_1.snd.snd 12 else (0 : Int)) ∧ ((0 : Int) = if 13 < y_1.fst then strF y_1.snd.snd 13 else (0 : Int)) ∧ ((0 : Int) = if 14 < y_1.fst then strF y_1.snd.snd 14 else (0 : Int)) ∧ ((0 : Int) = if 15 < y_1.fst then strF y_1.snd.snd 15 else (0 : Int)) ∧ ((0 : Int) = if 16 < y_1.fst then strF y_1.snd.snd 16 else (0 : Int)) ∧ ((0 : Int) = if 17 < y_1.fst then strF y_1.snd.snd 17 else (0 : Int)) ∧ ((0 : Int) = if 18 < y_1.fst then strF y_1.snd.snd 18 else (0 : Int)) ∧ ((0 : Int) = if 19 < y_1.fst then strF y_1.snd.snd 19 else (0 : Int)) ∧ ((0 : Int) = if 20 < y_1.fst then strF y_1.snd.snd 20 else (0 : Int)) ∧ ((0 : Int) = if 21 < y_1.fst then strF y_1.snd.snd 21 else (0 : Int)) ∧ ((0 : Int) = if 22 < y_1.fst then strF y_1.snd.snd 22 else (0 : Int)) ∧ ((0 : Int) = if 23 < y_1.fst then strF y_1.snd.snd 23 else (0 : Int)) ∧ ((0 : Int) = if 24 < y_1.fst then strF y_1.snd.snd 24 else (0 : Int)) ∧ ((0 : Int) = if 25 < y_1.fst then strF y_1.snd.snd 25 else (0 : Int)) ∧ ((0 : Int) = if 26 < y_1.fst then strF y_1.snd.snd 26 else (0 : Int)) ∧ ((0 : Int) = if 27 < y_1.fst then strF y_1.snd.snd 27 else (0 : Int)) ∧ ((0 : Int) = if 28 < y_1.fst then strF y_1.snd.snd 28 else (0 : Int)) ∧ ((0 : Int) = if 29 < y_1.fst then strF y_1.snd.snd 29 else (0 : Int)) ∧ ((0 : Int) = if 30 < y_1.fst then strF y_1.snd.snd 30 else (0 : Int)) ∧ ((0 : Int) = if 31 < y_1.fst then strF y_1.snd.snd 31 else (0 : Int)) ∧ ((0 : Int) = if 32 < y_1.fst then strF y_1.snd.snd 32 else (0 : Int)) ∧ ((0 : Int) = if 33 < y_1.fst then strF y_1.snd.snd 33 else (0 : Int)) ∧ ((0 : Int) = if 34 < y_1.fst then strF y_1.snd.snd 34 else (0 : Int)) ∧ ((0 : Int) = if 35 < y_1.fst then strF y_1.snd.snd 35 else (0 : Int)) ∧ ((0 : Int) = if 36 < y_1.fst then strF y_1.snd.snd 36 else (0 : Int)) ∧ ((0 : Int) = if 37 < y_1.fst then strF y_1.snd.snd 37 else (0 : Int)) ∧ ((0 : Int) = if 38 < y_1.fst then strF y_1.snd.snd 38 else (0 : Int)) ∧ ((0 : Int) = if 39 < y_1.fst then strF y_1.snd.snd 39 else (0 : Int)) ∧ ((0 : Int) = if 40 < y_1.fst then strF y_1.snd.snd 40 else (0 : Int)) ∧ ((0 : Int) = if 41 < y_1.fst then strF y_1.snd.snd 41 else (0 : Int)) ∧ ((0 : Int) = if 42 < y_1.fst then strF y_1.snd.snd 42 else (0 : Int)) ∧ ((0 : Int) = if 43 < y_1.fst then strF y_1.snd.snd 43 else (0 : Int)) ∧ ((0 : Int) = if 44 < y_1.fst then strF y_1.snd.snd 44 else (0 : Int)) ∧ ((0 : Int) = if 45 < y_1.fst then strF y_1.snd.snd 45 else (0 : Int)) ∧ ((0 : Int) = if 46 < y_1.fst then strF y_1.snd.snd 46 else (0 : Int)) ∧ ((0 : Int) = if 47 < y_1.fst then strF y_1.snd.snd 47 else (0 : Int)) ∧ ((0 : Int) = if 48 < y_1.fst then strF y_1.snd.snd 48 else (0 : Int)) ∧ ((0 : Int) = if 49 < y_1.fst then strF y_1.snd.snd 49 else (0 : Int)) ∧ ((0 : Int) = if 50 < y_1.fst then strF y_1.snd.snd 50 else (0 : Int)) ∧ ((0 : Int) = if 51 < y_1.fst then strF y_1.snd.snd 51 else (0 : Int)) ∧ ((0 : Int) = if 52 < y_1.fst then strF y_1.snd.snd 52 else (0 : Int)) ∧ ((0 : Int) = if 53 < y_1.fst then strF y_1.snd.snd 53 else (0 : Int)) ∧ ((0 : Int) = if 54 < y_1.fst then strF y_1.snd.snd 54 else (0 : Int)) ∧ ((0 : Int) = if 55 < y_1.fst then strF y_1.snd.snd 55 else (0 : Int)) ∧ ((0 : Int) = if 56 < y_1.fst then strF y_1.snd.snd 56 else (0 : Int)) ∧ ((0 : Int) = if 57 < y_1.fst then strF y_1.snd.snd 57 else (0 : Int)) ∧ ((0 : Int) = if 58 < y_1.fst then strF y_1.snd.snd 58 else (0 : Int)) ∧ ((0 : Int) = if 59 < y_1.fst then strF y_1.snd.snd 59 else (0 : Int)) ∧ ((0 : Int) = if 60 < y_1.fst then strF y_1.snd.snd 60 else (0 : Int)) ∧ ((0 : Int) = if 61 < y_1.fst then strF y_1.snd.snd 61 else (0 : Int)) ∧ ((0 : Int) = if 62 < y_1.fst then strF y_1.snd.snd 62 else (0 : Int)) ∧ ((0 : Int) = if 63 < y_1.fst then strF y_1.snd.snd 63 else (0 : Int)) ∧ ((0 : Int) = if 64 < y_1.fst then strF y_1.snd.snd 64 else (0 : Int)) ∧ ((0 : Int) = if 65 < y_1.fst then strF y_1.snd.snd 65 else (0 : Int)) ∧ ((0 : Int) = if 66 < y_1.fst then strF y_1.snd.snd 66 else (0 : Int)) ∧ ((0 : Int) = if 67 < y_1.fst then strF y_1.snd.snd 67 else (0 : Int)) ∧ ((0 : Int) = if 68 < y_1.fst then strF y_1.snd.snd 68 else (0 : Int)) ∧ ((0 : Int) = if 69 < y_1.fst then strF y_1.snd.snd 69 else (0 : Int)) ∧ ((0 : Int) = if 70 < y_1.fst then strF y_1.snd.snd 70 else (0 : Int)) ∧ ((0 : Int) = if 71 < y_1.fst then strF y_1.snd.snd 71 else (0 : Int)) ∧ ((0 : Int) = if 72 < y_1.fst then strF y_1.snd.snd 72 else (0 : Int)) ∧ ((0 : Int) = if 73 < y_1.fst then strF y_1.snd.snd 73 else (0 : Int)) ∧ ((0 : Int) = if 74 < y_1.fst then strF y_1.snd.snd 74 else (0 : Int)) ∧ ((0 : Int) = if 75 < y_1.fst then strF y_1.snd.snd 75 else (0 : Int)) ∧ ((0 : Int) = if 76 < y_1.fst then strF y_1.snd.snd 76 else (0 : Int)) ∧ ((0 : Int) = if 77 < y_1.fst then strF y_1.snd.snd 77 else (0 : Int)) ∧ ((0 : Int) = if 78 < y_1.fst then strF y_1.snd.snd 78 else (0 : Int)) ∧ ((0 : Int) = if 79 < y_1.fst then strF y_1.snd.snd 79 else (0 : Int)) ∧ ((0 : Int) = if 80 < y_1.fst then strF y_1.snd.snd 80 else (0 : Int)) ∧ ((0 : Int) = if 81 < y_1.fst then strF y_1.snd.snd 81 else (0 : Int)) ∧ ((0 : Int) = if 82 < y_1.fst then strF y_1.snd.snd 82 else (0 : Int)) ∧ ((0 : Int) = if 83 < y_1.fst then strF y_1.snd.snd 83 else (0 : Int)) ∧ ((0 : Int) = if 84 < y_1.fst then strF y_1.snd.snd 84 else (0 : Int)) ∧ ((0 : Int) = if 85 < y_1.fst then strF y_1.snd.snd 85 else (0 : Int)) ∧ ((0 : Int) = if 86 < y_1.fst then strF y_1.snd.snd 86 else (0 : Int)) ∧ ((0 : Int) = if 87 < y_1.fst then strF y_1.snd.snd 87 else (0 : Int)) ∧ ((0 : Int) = if 88 < y_1.fst then strF y_1.snd.snd 88 else (0 : Int)) ∧ ((0 : Int) = if 89 < y_1.fst then strF y_1.snd.snd 89 else (0 : Int)) ∧ ((0 : Int) = if 90 < y_1.fst then strF y_1.snd.snd 90 else (0 : Int)) ∧ ((0 : Int) = if 91 < y_1.fst then strF y_1.snd.snd 91 else (0 : Int)) ∧ ((0 : Int) = if 92 < y_1.fst then strF y_1.snd.snd 92 else (0 : Int)) ∧ ((0 : Int) = if 93 < y_1.fst then strF y_1.snd.snd 93 else (0 : Int)) ∧ ((0 : Int) = if 94 < y_1.fst then strF y_1.snd.snd 94 else (0 : Int)) ∧ ((0 : Int) = if 95 < y_1.fst then strF y_1.snd.snd 95 else (0 : Int)) ∧ ((0 : Int) = if 96 < y_1.fst then strF y_1.snd.snd 96 else (0 : Int)) ∧ ((0 : Int) = if 97 < y_1.fst then strF y_1.snd.snd 97 else (0 : Int)) ∧ ((0 : Int) = if 98 < y_1.fst then strF y_1.snd.snd 98 else (0 : Int)) ∧ ((0 : Int) = if 99 < y_1.fst then strF y_1.snd.snd 99 else (0 : Int)) ∧ ((0 : Int) = if 100 < y_1.fst then strF y_1.snd.snd 100 else (0 : Int)) ∧ ((0 : Int) = if 101 < y_1.fst then strF y_1.snd.snd 101 else (0 : Int)) ∧ ((0 : Int) = if 102 < y_1.fst then strF y_1.snd.snd 102 else (0 : Int)) ∧ ((0 : Int) = if 103 < y_1.fst then strF y_1.snd.snd 103 else (0 : Int)) ∧ ((0 : Int) = if 104 < y_1.fst then strF y_1.snd.snd 104 else (0 : Int)) ∧ ((0 : Int) = if 105 < y_1.fst then strF y_1.snd.snd 105 else (0 : Int)) ∧ ((0 : Int) = if 106 < y_1.fst then strF y_1.snd.snd 106 else (0 : Int)) ∧ ((0 : Int) = if 107 < y_1.fst then strF y_1.snd.snd 107 else (0 : Int)) ∧ ((0 : Int) = if 108 < y_1.fst then strF y_1.snd.snd 108 else (0 : Int)) ∧ ((0 : Int) = if 109 < y_1.fst then strF y_1.snd.snd 109 else (0 : Int)) ∧ ((0 : Int) = if 110 < y_1.fst then strF y_1.snd.snd 110 else (0 : Int)) ∧ ((0 : Int) = if 111 < y_1.fst then strF y_1.snd.snd 111 else (0 : Int)) ∧ ((0 : Int) = if 112 < y_1.fst then strF y_1.snd.snd 112 else (0 : Int)) ∧ ((0 : Int) = if 113 < y_1.fst then strF y_1.snd.snd 113 else (0 : Int)) ∧ ((0 : Int) = if 114 < y_1.fst then strF y_1.snd.snd 114 else (0 : Int)) ∧ ((0 : Int) = if 115 < y_1.fst then strF y_1.snd.snd 115 else (0 : Int)) ∧ ((0 : Int) = if 116 < y_1.fst then strF y_1.snd.snd 116 else (0 : Int)) ∧ ((0 : Int) = if 117 < y_1.fst then strF y_1.snd.snd 117 else (0 : Int)) ∧ ((0 : Int) = if 118 < y_1.fst then strF y_1.snd.snd 118 else (0 : Int)) ∧ ((0 : Int) = if 119 < y_1.fst then strF y_1.snd.snd 119 else (0 : Int)) ∧ ((0 : Int) = if 120 < y_1.fst then strF y_1.snd.snd 120 else (0 : Int)) ∧ ((0 : Int) = if 121 < y_1.fst then strF y_1.snd.snd 121 else (0 : Int)) ∧ ((0 : Int) = if 122 < y_1.fst then strF y_1.snd.snd 122 else (0 : Int)) ∧ ((0 : Int) = if 123 < y_1.fst then strF y_1.snd.snd 123 else (0 : Int)) ∧ ((0 : Int) = if 124 < y_1.fst then strF y_1.snd.snd 124 else (0 : Int)) ∧ ((0 : Int) = if 125 < y_1.fst then strF y_1.snd.snd 125 else (0 : Int)) ∧ ((0 : Int) = if 126 < y_1.fst then strF y_1.snd.snd 126 else (0 : Int)) ∧ ((0 : Int) = if 127 < y_1.fst then strF y_1.snd.snd 127 else (0 : Int)) ∧ ((0 : Int) = if 128 < y_1.fst then strF y_1.snd.snd 128 else (0 : Int)) ∧ ((0 : Int) = if 129 < y_1.fst then strF y_1.snd.snd 129 else (0 : Int)) ∧ ((0 : Int) = if 130 < y_1.fst then strF y_1.snd.snd 130 else (0 : Int)) ∧ ((0 : Int) = if 131 < y_1.fst then strF y_1.snd.snd 131 else (0 : Int)) ∧ ((0 : Int) = if 132 < y_1.fst then strF y_1.snd.snd 132 else (0 : Int)) ∧ ((0 : Int) = if 133 < y_1.fst then strF y_1.snd.snd 133 else (0 : Int)) ∧ ((0 : Int) = if 134 < y_1.fst then strF y_1.snd.snd 134 else (0 : Int)) ∧ ((0 : Int) = if 135 < y_1.fst then strF y_1.snd.snd 135 else (0 : Int)) ∧ (↑y.snd.size : Int) = (↑y_1.snd.snd.size : Int) ∧ True) ∧ 0 = 0 ∧ ∀ (y : Nat × (Nat → BitVec 64) × ByteArray), P y.snd.fst y.snd.snd ∧ y.snd.snd.size < 136 ∧ y.fst ≤ y.snd.snd.size → (Decidable.decide ((↑y.fst : Int) < (↑y.snd.snd.size : Int)) = Bool.true → ((0 : Int) ≤ (↑y.fst : Int) ∧ (↑y.fst : Int).toNat < y.snd.snd.size) ∧ ((0 : Int) ≤ (↑y.fst : Int) ∧ (↑y.fst : Int) < (136 : Int)) ∧ ((0 : Int) ≤ (↑y.fst : Int) ∧ (↑y.fst : Int) < (136 : Int)) ∧ ∃ (y' : Nat × (Nat → BitVec 64) × ByteArray), (P y'.snd.fst y'.snd.snd ∧ y'.snd.snd.size < 136 ∧ y'.fst ≤ y'.snd.snd.size) ∧ y.snd.snd = y'.snd.snd ∧ Go.IntKind.i64.wrap ((↑y.fst : Int) + (1 : Int)) = (↑y'.fst : Int) ∧ ((∀ (j : Nat), j < 25 → L j = L j) ∧ (∀ (j : Nat), j < 136 → H j = H j) ∧ N = N ∧ True) ∧ 0 = 0 ∧ 0 = 0 ∧ ((∀ (j : Nat), j < 136 → H j = H j) ∧ True) ∧ 0 = 0 ∧ ((∀ (j : Nat), j < 25 → lw (y.snd.fst j) = lw (y'.snd.fst j)) ∧ True) ∧ 0 = 0 ∧ ((∀ (j : Nat), j < 25 → lw (y.snd.fst j) = lw (y'.snd.fst j)) ∧ (∀ (j : Nat), j < 136 → (if j = (↑y.fst : Int).toNat then (↑(y.snd.snd.data.getD (↑y.fst : Int).toNat (0 : UInt8)).toNat : Int) else if j < y.fst then strF y.snd.snd j else (0 : Int)) = if j < y'.fst then strF y'.snd.snd j else (0 : Int)) ∧ (↑y.snd.snd.size : Int) = (↑y'.snd.snd.size : Int) ∧ True) ∧ 0 = 0 ∧ 136 - y'.fst < 136 - y.fst) ∧ (Decidable.decide ((↑y.fst : Int) < (↑y.snd.snd.size : Int)) = Bool.false → ((∀ (j : Nat), j < 25 → lw (y.snd.fst j) = A j) ∧ (∀ (j : Nat), j < 136 → (if j < y.fst then strF y.snd.snd j else (0 : Int)) = G j) ∧ (↑y.snd.snd.size : Int) = n ∧ True) ∧ (0 : Int) = x1)))) := by kernel_rfl
end Go.Proofs.YtpebkgbelifdgaaDoor
end

section
namespace Go.Proofs.YtpebkgbelifdgaaDoor
open Go Go.Sx Go.RowKit
theorem strF_cut (s : ByteArray) (i j k : Nat) (hj : j ≤ s.size) (hk : i + k < j) : strF (s.extract i j) k = strF s (i + k) := by
  unfold strF
  have e : (s.extract i j).data = s.data.extract i j := by simp [ByteArray.data_extract]
  have hs : s.size = s.data.size := rfl
  rw [e, Array.getD_eq_getD_getElem?, Array.getD_eq_getD_getElem?, Array.getElem?_extract, if_pos (by omega)]
theorem size_cut (s : ByteArray) (i j : Nat) (hj : j ≤ s.size) : (s.extract i j).size = j - i := by
  rw [ByteArray.size_extract, Nat.min_eq_left hj]
theorem strF_app (s t : ByteArray) (k : Nat) : strF (s ++ t) k = if k < s.size then strF s k else strF t (k - s.size) := by
  unfold strF
  have e : (s ++ t).data = s.data ++ t.data := by simp
  have hs : s.size = s.data.size := rfl
  rw [e, Array.getD_eq_getD_getElem?, Array.getElem?_append]
  by_cases c : k < s.size
  · rw [if_pos (by omega), if_pos c, Array.getD_eq_getD_getElem?]
  · rw [if_neg (by omega), if_neg c, Array.getD_eq_getD_getElem?, hs]
theorem feed_step (a : Nat → BitVec 64) (s : ByteArray) (h : 136 ≤ s.size) :
    addB ⟨turnB (absB a (strF (s.extract 0 136)) 136), fun _ => 0, 0⟩ (strF (s.extract 136 s.size)) (s.extract 136 s.size).size = addB ⟨a, fun _ => 0, 0⟩ (strF s) s.size := by
  have e1 := addB_add ⟨a, fun _ => 0, 0⟩ (strF s) 136 (s.size - 136)
  rw [show 136 + (s.size - 136) = s.size by omega] at e1
  have e2 := addB_full ⟨a, fun _ => 0, 0⟩ (strF s) (m := 136) (show (0 : Nat) < 136 by decide) (show (0 : Nat) + 136 = 136 from rfl)
  have e3 : absB a (fun j => if (0 : Nat) ≤ j ∧ j < 0 + 136 then strF s (j - 0) else 0) 136 = absB a (strF (s.extract 0 136)) 136 := absB_same fun i hi => by
    rw [strF_cut s 0 136 i h (by omega), if_pos (by omega), Nat.zero_add, Nat.sub_zero]
  rw [← e1, e2]
  unfold soakB
  rw [show (Sp.a ⟨a, fun _ => 0, 0⟩) = a from rfl, ← e3, size_cut s 136 s.size (Nat.le_refl _)]
  exact addB_congr fun i hi => strF_cut s 136 s.size i (Nat.le_refl _) (by omega)
def Spq (t u : Sp) : Prop := t.a = u.a ∧ t.n = u.n ∧ ∀ j, j < 136 → t.H j = u.H j
theorem spq_push {t u : Sp} (h : Spq t u) (b : Int) : Spq (pushB t b) (pushB u b) := by
  obtain ⟨ta, tH, tn⟩ := t
  obtain ⟨ua, uH, un⟩ := u
  obtain ⟨h1, h2, h3⟩ := h
  have h1 : ta = ua := h1
  have h2 : tn = un := h2
  have h3 : ∀ j, j < 136 → tH j = uH j := h3
  subst h1 h2
  have e : ∀ j, j < 136 → (if j = tn then b else tH j) = if j = tn then b else uH j := fun j hj => by rw [show tH j = uH j from h3 j hj]
  unfold pushB
  by_cases c : tn + 1 = 136
  · rw [if_pos c, if_pos c]
    refine ⟨?_, rfl, fun _ _ => rfl⟩
    show turnB (absB ta _ 136) = turnB (absB ta _ 136)
    exact congrArg turnB (absB_same e)
  · rw [if_neg c, if_neg c]
    exact ⟨rfl, rfl, e⟩
theorem spq_add {t u : Sp} (h : Spq t u) {f g : Nat → Int} : ∀ {m : Nat}, (∀ i, i < m → f i = g i) → Spq (addB t f m) (addB u g m)
  | 0, _ => h
  | m + 1, hf => by
    show Spq (pushB _ _) (pushB _ _)
    rw [hf m (by omega)]
    exact spq_push (spq_add h fun i hi => hf i (by omega)) _
theorem feed_start {L H : Nat → Int} {N : Int} (hm : mayG H N = true) (hH : bytesH H) {f : Nat → Int} {m : Nat} (hf : ∀ i, 0 ≤ f i ∧ f i < 256) (l : List Int) (hl : l = (List.range 136).map H) :
    Spq (addB ⟨ofRow L, fun _ => 0, 0⟩ (strF ((bytesI l).extract 0 N.toNat ++ bytesI ((List.range m).map f))) (N.toNat + m)) (addB (spOf L H N) f m) := by
  obtain ⟨hN, hz⟩ := (mayG_iff H N).1 hm
  have hs : (bytesI l).size = 136 := by rw [bytesI_sz, hl]; simp
  have hc : ((bytesI l).extract 0 N.toNat).size = N.toNat := size_cut _ 0 N.toNat (by omega)
  have g1 : ∀ j, j < N.toNat → strF ((bytesI l).extract 0 N.toNat ++ bytesI ((List.range m).map f)) j = H j := fun j hj => by
    have e : l.getD j 0 = H j := by rw [hl, List.getD_eq_getElem?_getD, List.getElem?_map, List.getElem?_range (by omega)]; rfl
    rw [strF_app, if_pos (by omega), strF_cut _ 0 N.toNat j (by omega) (by omega), Nat.zero_add, strF_bytes (by rw [e]; exact hH j (by omega)), e]
  have g2 : ∀ i, i < m → strF ((bytesI l).extract 0 N.toNat ++ bytesI ((List.range m).map f)) (N.toNat + i) = f i := fun i hi => by
    have e : ((List.range m).map f).getD i 0 = f i := by rw [List.getD_eq_getElem?_getD, List.getElem?_map, List.getElem?_range hi]; rfl
    rw [strF_app, if_neg (by omega), hc, Nat.add_sub_cancel_left, strF_bytes (by rw [e]; exact hf i), e]
  rw [← addB_add]
  refine spq_add ?_ g2
  rw [addB_held ⟨ofRow L, fun _ => 0, 0⟩ _ N.toNat (show 0 + N.toNat < 136 by omega)]
  refine ⟨rfl, Nat.zero_add _, fun j hj => ?_⟩
  show (if 0 ≤ j ∧ j < 0 + N.toNat then strF _ (j - 0) else 0) = H j
  by_cases c : j < N.toNat
  · rw [if_pos (by omega), Nat.sub_zero, g1 j c]
  · rw [if_neg (by omega)]
    have := hz (j - N.toNat) (by omega)
    rw [show N.toNat + (j - N.toNat) = j by omega] at this
    exact this.symm
theorem feed_end (a : Nat → BitVec 64) (s : ByteArray) (h : s.size < 136) : addB ⟨a, fun _ => 0, 0⟩ (strF s) s.size = ⟨a, fun j => if j < s.size then strF s j else 0, s.size⟩ := by
  rw [addB_held ⟨a, fun _ => 0, 0⟩ _ s.size (show 0 + s.size < 136 by omega)]
  simp only [Nat.zero_le, true_and, Nat.zero_add, Nat.sub_zero]
end Go.Proofs.YtpebkgbelifdgaaDoor
end

section
namespace Go.Proofs.YtpebkgbelifdgaaDoor
open Go Go.Sx Go.RowKit
def PE (L H : Nat → Int) (N : Int) (f : Nat → Int) (m : Nat) (a : Nat → BitVec 64) (s : ByteArray) : Prop := Spq (addB ⟨a, fun _ => 0, 0⟩ (strF s) s.size) (addB (spOf L H N) f m)
theorem ok_Soaked (L H : Nat → Int) (N : Int) (a : Option Addr) (m cap : Nat) (f : Nat → Int) (hL : lanes 25 L) (hH : bytesH H) (hf : ∀ i, 0 ≤ f i ∧ f i < 256) (hm' : m ≤ 140737488355327) :
    Owes Tryd.prog (cxSoaked turnB) [(6, .inv (invEat L H N (PE L H N f m))), (10, .inv (invLay L H N (PE L H N f m)))] 200 Tryd.f22 [sSp L H N, sXs a m cap f] (kAddG L H N m f) := by
  show Owes _ _ _ _ _ _ (.tup [sSp (fun i => if mayG H N then lw ((addB (spOf L H N) f m).a i) else 0) (fun j => if mayG H N then (addB (spOf L H N) f m).H j else 0) (if mayG H N then ((addB (spOf L H N) f m).n : Int) else 0), sI .i64 (if mayG H N then 0 else 12)])
  rw [vc_Soaked]
  intro x1
  cases hm : mayG H N with
  | false =>
    refine ⟨fun _ => ?_, fun h => (by cases h)⟩
    simp only [x1, hm, Bool.false_eq_true, if_false, and_self]
  | true =>
    refine ⟨fun h => (by cases h), fun _ => ?_⟩
    have hx : x1 = 0 := by simp only [x1, hm, if_true]
    clear_value x1
    subst hx
    obtain ⟨hN, hz⟩ := (mayG_iff H N).1 hm
    have hs1 : (bytesI (intsL [SK.f .u8 136 H])).size = 136 := by rw [bytesI_sz]; rfl
    have hs2 : (bytesI ((List.range m).map f)).size = m := by rw [bytesI_sz]; simp
    have hs3 : ((bytesI (intsL [SK.f .u8 136 H])).extract 0 N.toNat).size = N.toNat := size_cut _ 0 N.toNat (by omega)
    refine ⟨⟨by omega, hN.1, by rw [hs1]; exact Int.le_of_lt hN.2⟩, fun _ => trivial, by rw [hs3, hs2]; omega, fun y => rfl, (ofRow L, _), ?_, rfl, ⟨fun _ _ => rfl, fun _ _ => rfl, rfl, trivial⟩, rfl, rfl, ⟨fun _ _ => rfl, trivial⟩, rfl, ⟨fun j hj => (lw_ofRow hL hj).symm, trivial⟩, rfl, ?_⟩
    · unfold PE
      rw [ByteArray.size_append, hs3, hs2]
      exact feed_start hm hH hf _ (by show _ ++ [] = _; rw [List.append_nil])
    rintro ⟨b, s⟩ hP
    have hP : PE L H N f m b s := hP
    refine ⟨fun h => ?_, fun h => ?_⟩
    · have h : (s.size : Int) ≥ 136 := of_decide_eq_true h
      refine ⟨⟨by omega, by omega, h⟩, lanes_lw _ _, by rw [size_cut s 0 136 (by omega)], ⟨by omega, h, Int.le_refl _⟩, (turnB (absB b (strF (s.extract 0 136)) 136), s.extract 136 s.size), ?_, by rw [Int.toNat_natCast], ⟨fun _ _ => rfl, fun _ _ => rfl, rfl, trivial⟩, rfl, rfl, ⟨fun _ _ => rfl, trivial⟩, rfl, ⟨fun j _ => by rw [ofRow_lw], trivial⟩, rfl, ?_⟩
      · unfold PE
        rw [feed_step b s (by omega)]
        exact hP
      · show (s.extract 136 s.size).size < s.size
        rw [size_cut s 136 s.size (Nat.le_refl _)]; omega
    · have h : ¬ (s.size : Int) ≥ 136 := of_decide_eq_false h
      refine ⟨fun y => rfl, (0, b, s), ⟨hP, by show s.size < 136; omega, Nat.zero_le _⟩, rfl, rfl, ⟨fun _ _ => rfl, fun _ _ => rfl, rfl, trivial⟩, rfl, rfl, ⟨fun _ _ => rfl, trivial⟩, rfl, ⟨fun _ _ => rfl, trivial⟩, rfl, by simp only [Nat.not_lt_zero, if_false, implies_true, and_self], rfl, ?_⟩
      rintro ⟨i, c, t⟩ ⟨hQ, ht, hi⟩
      have hQ : PE L H N f m c t := hQ
      have ht : t.size < 136 := ht
      have hi : i ≤ t.size := hi
      refine ⟨fun h => ?_, fun h => ?_⟩
      · have h : (i : Int) < (t.size : Int) := of_decide_eq_true h
        refine ⟨⟨by show (0 : Int) ≤ (i : Int); omega, by show ((i : Int)).toNat < t.size; omega⟩, ⟨by show (0 : Int) ≤ (i : Int); omega, by show (i : Int) < 136; omega⟩, ⟨by show (0 : Int) ≤ (i : Int); omega, by show (i : Int) < 136; omega⟩, (i + 1, c, t), ⟨hQ, ht, by show i + 1 ≤ t.size; omega⟩, rfl, ?_, ⟨fun _ _ => rfl, fun _ _ => rfl, rfl, trivial⟩, rfl, rfl, ⟨fun _ _ => rfl, trivial⟩, rfl, ⟨fun _ _ => rfl, trivial⟩, rfl, ⟨fun _ _ => rfl, fun j _ => ?_, rfl, trivial⟩, rfl, by show 136 - (i + 1) < 136 - i; omega⟩
        · show IntKind.i64.wrap ((i : Int) + 1) = ((i + 1 : Nat) : Int)
          rw [IntKind.wrap_i64]; omega
        · show (if j = ((i : Int)).toNat then ((t.data.getD ((i : Int)).toNat 0).toNat : Int) else if j < i then strF t j else 0) = if j < i + 1 then strF t j else 0
          rw [Int.toNat_natCast]
          by_cases e : j = i
          · subst e
            rw [if_pos rfl, if_pos (by omega)]; rfl
          · rw [if_neg e]
            by_cases g : j < i
            · rw [if_pos g, if_pos (by omega)]
            · rw [if_neg g, if_neg (by omega)]
      · have h : ¬ (i : Int) < (t.size : Int) := of_decide_eq_false h
        have : i = t.size := by omega
        subst this
        unfold PE at hQ
        rw [feed_end c t ht] at hQ
        obtain ⟨q1, q2, q3⟩ := hQ
        exact ⟨⟨fun j _ => by rw [if_pos rfl, ← q1], fun j hj => (q3 j hj).trans (if_pos rfl).symm, by rw [if_pos rfl, ← q2], trivial⟩, rfl⟩
end Go.Proofs.YtpebkgbelifdgaaDoor
end
