/-
  Texts: V41, P71, P70, V42, P72, V43, P73, V44, P74, P75, V45, P76, Kl, V47.
-/
import Derived.Test.YtfoklomipdkomaaDoorM1
import Derived.Test.YtfoklomipdkomaaDoorM2
import Derived.Test.YtfoklomipdkomaaDoorM3
import Derived.Test.YtfoklomipdkomaaDoorM4
import Derived.Test.YtfoklomipdkomaaDoorM5
import Derived.Test.YtfoklomipdkomaaDoorM6
import Derived.Test.YtfoklomipdkomaaDoorM7
import Derived.Test.YtfoklomipdkomaaDoorM8
import Derived.Test.YtfoklomipdkomaaDoorM9
import Derived.Test.YtfoklomipdkomaaDoorM10
section
/-
  The duty of the rounds' numbers.
-/
namespace Go.Proofs.YtfoklomipdkomaaDoor
open Go Go.Sx Go.RowKit
def invRound (i : Int) (f : Nat → Int) (v : Nat → Int) : Inv where
  X := Nat × Option Addr × Nat
  tm y := slotsAt 34 [(0, .one (sI .i64 i)), (3, .one (sI .u64 (v y.1))), (13, .one (sXs y.2.1 16 y.2.2 f)), (14, .one (sI .i64 16)), (15, .one (sI .i64 (y.1 : Int)))]
  ob _ := []
  holds y := y.1 ≤ 16
  less y := 16 - y.1
-- VC vc_roundOf HASH ef72fe84c4a0c1c6
def lit_137a4bc9 : ByteArray := { data := ((([(48 : UInt8), (48 : UInt8), (48 : UInt8), (48 : UInt8), (48 : UInt8), (48 : UInt8), (48 : UInt8), (48 : UInt8), (48 : UInt8), (48 : UInt8), (48 : UInt8), (48 : UInt8), (48 : UInt8), (48 : UInt8), (48 : UInt8), (49 : UInt8), (48 : UInt8), (48 : UInt8), (48 : UInt8), (48 : UInt8), (48 : UInt8), (48 : UInt8), (48 : UInt8), (48 : UInt8), (48 : UInt8), (48 : UInt8), (48 : UInt8), (48 : UInt8), (56 : UInt8), (48 : UInt8), (56 : UInt8), (50 : UInt8), (56 : UInt8), (48 : UInt8), (48 : UInt8), (48 : UInt8), (48 : UInt8), (48 : UInt8), (48 : UInt8), (48 : UInt8), (48 : UInt8), (48 : UInt8), (48 : UInt8), (48 : UInt8), (56 : UInt8), (48 : UInt8), (56 : UInt8), (97 : UInt8)].append [(56 : UInt8), (48 : UInt8), (48 : UInt8), (48 : UInt8), (48 : UInt8), (48 : UInt8), (48 : UInt8), (48 : UInt8), (56 : UInt8), (48 : UInt8), (48 : UInt8), (48 : UInt8), (56 : UInt8), (48 : UInt8), (48 : UInt8), (48 : UInt8), (48 : UInt8), (48 : UInt8), (48 : UInt8), (48 : UInt8), (48 : UInt8), (48 : UInt8), (48 : UInt8), (48 : UInt8), (48 : UInt8), (48 : UInt8), (48 : UInt8), (48 : UInt8), (56 : UInt8), (48 : UInt8), (56 : UInt8), (98 : UInt8), (48 : UInt8), (48 : UInt8), (48 : UInt8), (48 : UInt8), (48 : UInt8), (48 : UInt8), (48 : UInt8), (48 : UInt8), (56 : UInt8), (48 : UInt8), (48 : UInt8), (48 : UInt8), (48 : UInt8), (48 : UInt8), (48 : UInt8), (49 : UInt8)]).append ([(56 : UInt8), (48 : UInt8), (48 : UInt8), (48 : UInt8), (48 : UInt8), (48 : UInt8), (48 : UInt8), (48 : UInt8), (56 : UInt8), (48 : UInt8), (48 : UInt8), (48 : UInt8), (56 : UInt8), (48 : UInt8), (56 : UInt8), (49 : UInt8), (56 : UInt8), (48 : UInt8), (48 : UInt8), (48 : UInt8), (48 : UInt8), (48 : UInt8), (48 : UInt8), (48 : UInt8), (48 : UInt8), (48 : UInt8), (48 : UInt8), (48 : UInt8), (56 : UInt8), (48 : UInt8), (48 : UInt8), (57 : UInt8), (48 : UInt8), (48 : UInt8), (48 : UInt8), (48 : UInt8), (48 : UInt8), (48 : UInt8), (48 : UInt8), (48 : UInt8), (48 : UInt8), (48 : UInt8), (48 : UInt8), (48 : UInt8), (48 : UInt8), (48 : UInt8), (56 : UInt8), (97 : UInt8)].append [(48 : UInt8), (48 : UInt8), (48 : UInt8), (48 : UInt8), (48 : UInt8), (48 : UInt8), (48 : UInt8), (48 : UInt8), (48 : UInt8), (48 : UInt8), (48 : UInt8), (48 : UInt8), (48 : UInt8), (48 : UInt8), (56 : UInt8), (56 : UInt8), (48 : UInt8), (48 : UInt8), (48 : UInt8), (48 : UInt8), (48 : UInt8), (48 : UInt8), (48 : UInt8), (48 : UInt8), (56 : UInt8), (48 : UInt8), (48 : UInt8), (48 : UInt8), (56 : UInt8), (48 : UInt8), (48 : UInt8), (57 : UInt8), (48 : UInt8), (48 : UInt8), (48 : UInt8), (48 : UInt8), (48 : UInt8), (48 : UInt8), (48 : UInt8), (48 : UInt8), (56 : UInt8), (48 : UInt8), (48 : UInt8), (48 : UInt8), (48 : UInt8), (48 : UInt8), (48 : UInt8), (97 : UInt8)])).append (([(48 : UInt8), (48 : UInt8), (48 : UInt8), (48 : UInt8), (48 : UInt8), (48 : UInt8), (48 : UInt8), (48 : UInt8), (56 : UInt8), (48 : UInt8), (48 : UInt8), (48 : UInt8), (56 : UInt8), (48 : UInt8), (56 : UInt8), (98 : UInt8), (56 : UInt8), (48 : UInt8), (48 : UInt8), (48 : UInt8), (48 : UInt8), (48 : UInt8), (48 : UInt8), (48 : UInt8), (48 : UInt8), (48 : UInt8), (48 : UInt8), (48 : UInt8), (48 : UInt8), (48 : UInt8), (56 : UInt8), (98 : UInt8), (56 : UInt8), (48 : UInt8), (48 : UInt8), (48 : UInt8), (48 : UInt8), (48 : UInt8), (48 : UInt8), (48 : UInt8), (48 : UInt8), (48 : UInt8), (48 : UInt8), (48 : UInt8), (56 : UInt8), (48 : UInt8), (56 : UInt8), (57 : UInt8)].append [(56 : UInt8), (48 : UInt8), (48 : UInt8), (48 : UInt8), (48 : UInt8), (48 : UInt8), (48 : UInt8), (48 : UInt8), (48 : UInt8), (48 : UInt8), (48 : UInt8), (48 : UInt8), (56 : UInt8), (48 : UInt8), (48 : UInt8), (51 : UInt8), (56 : UInt8), (48 : UInt8), (48 : UInt8), (48 : UInt8), (48 : UInt8), (48 : UInt8), (48 : UInt8), (48 : UInt8), (48 : UInt8), (48 : UInt8), (48 : UInt8), (48 : UInt8), (56 : UInt8), (48 : UInt8), (48 : UInt8), (50 : UInt8), (56 : UInt8), (48 : UInt8), (48 : UInt8), (48 : UInt8), (48 : UInt8), (48 : UInt8), (48 : UInt8), (48 : UInt8), (48 : UInt8), (48 : UInt8), (48 : UInt8), (48 : UInt8), (48 : UInt8), (48 : UInt8), (56 : UInt8), (48 : UInt8)]).append ([(48 : UInt8), (48 : UInt8), (48 : UInt8), (48 : UInt8), (48 : UInt8), (48 : UInt8), (48 : UInt8), (48 : UInt8), (48 : UInt8), (48 : UInt8), (48 : UInt8), (48 : UInt8), (56 : UInt8), (48 : UInt8), (48 : UInt8), (97 : UInt8), (56 : UInt8), (48 : UInt8), (48 : UInt8), (48 : UInt8), (48 : UInt8), (48 : UInt8), (48 : UInt8), (48 : UInt8), (56 : UInt8), (48 : UInt8), (48 : UInt8), (48 : UInt8), (48 : UInt8), (48 : UInt8), (48 : UInt8), (97 : UInt8), (56 : UInt8), (48 : UInt8), (48 : UInt8), (48 : UInt8), (48 : UInt8), (48 : UInt8), (48 : UInt8), (48 : UInt8), (56 : UInt8), (48 : UInt8), (48 : UInt8), (48 : UInt8), (56 : UInt8), (48 : UInt8), (56 : UInt8), (49 : UInt8)].append [(56 : UInt8), (48 : UInt8), (48 : UInt8), (48 : UInt8), (48 : UInt8), (48 : UInt8), (48 : UInt8), (48 : UInt8), (48 : UInt8), (48 : UInt8), (48 : UInt8), (48 : UInt8), (56 : UInt8), (48 : UInt8), (56 : UInt8), (48 : UInt8), (48 : UInt8), (48 : UInt8), (48 : UInt8), (48 : UInt8), (48 : UInt8), (48 : UInt8), (48 : UInt8), (48 : UInt8), (56 : UInt8), (48 : UInt8), (48 : UInt8), (48 : UInt8), (48 : UInt8), (48 : UInt8), (48 : UInt8), (49 : UInt8), (56 : UInt8), (48 : UInt8), (48 : UInt8), (48 : UInt8), (48 : UInt8), (48 : UInt8), (48 : UInt8), (48 : UInt8), (56 : UInt8), (48 : UInt8), (48 : UInt8), (48 : UInt8), (56 : UInt8), (48 : UInt8), (48 : UInt8), (56 : UInt8)]))).toArray }
theorem vc_roundOf (i : Int) (f v : Nat → Int) :
    Owes Tryd.prog Cx.none [(3, .inv (invRound i f v))] 30 Tryd.f23 [sI .i64 i] (rcG i) =
    (let x1 : Int := Go.IntKind.i64.wrap ((16 : Int) * i); let x2 : Int := (Go.IntKind.i64, x1).snd; let x3 : Int := (Go.IntKind.i64, Go.IntKind.i64.wrap (x1 + (16 : Int))).snd; let x4 : Nat := (lit_137a4bc9.extract x2.toNat x3.toNat).size; ((0 : Int) ≤ x2 ∧ x2 ≤ x3 ∧ x3 ≤ (384 : Int)) ∧ ∀ (a : Go.Addr) (cap : Nat), x4 ≤ cap → (∀ (y : Nat × Option Go.Addr × Nat), Go.Sx.closedB (Go.Sx.slotsAt (34 : Nat) [((0 : Nat), Go.Sx.SV.one (Go.Sx.sI Go.IntKind.i64 i)), ((3 : Nat), Go.Sx.SV.one (Go.Sx.sI Go.IntKind.u64 (v y.fst))), ((13 : Nat), Go.Sx.SV.one (Go.Sx.sXs y.snd.fst (16 : Nat) y.snd.snd f)), ((14 : Nat), Go.Sx.SV.one (Go.Sx.sI Go.IntKind.i64 (16 : Int))), ((15 : Nat), Go.Sx.SV.one (Go.Sx.sI Go.IntKind.i64 (↑y.fst : Int)))]) [] = Bool.true) ∧ ∃ (y : Nat × Option Go.Addr × Nat), y.fst ≤ (16 : Nat) ∧ i = i ∧ (0 : Int) = v y.fst ∧ (Option.some a = y.snd.fst ∧ x4 = (16 : Nat) ∧ cap = y.snd.snd ∧ ∀ (i : Nat), i < x4 → (↑((lit_137a4bc9.extract x2.toNat x3.toNat).data.getD i (0 : UInt8)).toNat : Int) = f i) ∧ (↑x4 : Int) = (16 : Int) ∧ (0 : Int) = (↑y.fst : Int) ∧ ∀ (y : Nat × Option Go.Addr × Nat), y.fst ≤ (16 : Nat) → (Decidable.decide ((↑y.fst : Int) < (16 : Int)) = Bool.true → ((0 : Int) ≤ (↑y.fst : Int) ∧ (↑y.fst : Int) < (16 : Int)) ∧ (Decidable.decide (f (↑y.fst : Int).toNat ≥ (97 : Int)) = Bool.true → ∃ (y' : Nat × Option Go.Addr × Nat), y'.fst ≤ (16 : Nat) ∧ i = i ∧ Go.IntKind.u64.wrap (Go.IntKind.u64.wrap (v y.fst * (16 : Int)) + Go.IntKind.u64.wrap (Go.IntKind.u64.wrap (Go.IntKind.u8.wrap (f (↑y.fst : Int).toNat - (97 : Int))) + (10 : Int))) = v y'.fst ∧ (y.snd.fst = y'.snd.fst ∧ (16 : Nat) = (16 : Nat) ∧ y.snd.snd = y'.snd.snd ∧ ∀ (i : Nat), i < (16 : Nat) → f i = f i) ∧ (16 : Int) = (16 : Int) ∧ Go.IntKind.i64.wrap ((↑y.fst : Int) + (1 : Int)) = (↑y'.fst : Int) ∧ (16 : Nat) - y'.fst < (16 : Nat) - y.fst) ∧ (Decidable.decide (f (↑y.fst : Int).toNat ≥ (97 : Int)) = Bool.false → ∃ (y' : Nat × Option Go.Addr × Nat), y'.fst ≤ (16 : Nat) ∧ i = i ∧ Go.IntKind.u64.wrap (Go.IntKind.u64.wrap (v y.fst * (16 : Int)) + Go.IntKind.u64.wrap (Go.IntKind.u8.wrap (f (↑y.fst : Int).toNat - (48 : Int)))) = v y'.fst ∧ (y.snd.fst = y'.snd.fst ∧ (16 : Nat) = (16 : Nat) ∧ y.snd.snd = y'.snd.snd ∧ ∀ (i : Nat), i < (16 : Nat) → f i = f i) ∧ (16 : Int) = (16 : Int) ∧ Go.IntKind.i64.wrap ((↑y.fst : Int) + (1 : Int)) = (↑y'.fst : Int) ∧ (16 : Nat) - y'.fst < (16 : Nat) - y.fst)) ∧ (Decidable.decide ((↑y.fst : Int) < (16 : Int)) = Bool.false → v y.fst = Go.Sx.lw (Go.Sx.rcN.getD i.toNat (0 : BitVec (64 : Nat))))) := by kernel_rfl
-- END VC
end Go.Proofs.YtfoklomipdkomaaDoor
end

section
/-
  The rounds' numbers, read off their text.
-/
namespace Go.Proofs.YtfoklomipdkomaaDoor
open Go Go.Sx Go.RowKit

def fR (k j : Nat) : Int := ((lit_137a4bc9.extract (16 * k) (16 * k + 16)).data.getD j 0).toNat
def valP (f : Nat → Int) : Nat → Int
  | 0 => 0
  | j + 1 => match decide (f j ≥ 97) with
    | true => IntKind.u64.wrap (IntKind.u64.wrap (valP f j * 16) + IntKind.u64.wrap (IntKind.u64.wrap (IntKind.u8.wrap (f j - 97)) + 10))
    | false => IntKind.u64.wrap (IntKind.u64.wrap (valP f j * 16) + IntKind.u64.wrap (IntKind.u8.wrap (f j - 48)))
theorem rc_val : ∀ k, k < 24 → valP (fR k) 16 = lw (rcN.getD k 0) ∧ (lit_137a4bc9.extract (16 * k) (16 * k + 16)).size = 16 := by decide +kernel
theorem ok_roundOf (i : Int) (h : 0 ≤ i ∧ i ≤ 23) : Owes Tryd.prog Cx.none [(3, .inv (invRound i (fR i.toNat) (valP (fR i.toNat))))] 30 Tryd.f23 [sI .i64 i] (rcG i) := by
  obtain ⟨k, rfl⟩ := Int.eq_ofNat_of_zero_le h.1
  rw [vc_roundOf]
  intro x1 x2 x3 x4
  have hk : k < 24 := by omega
  have e1 : x1 = 16 * (k : Int) := by
    show IntKind.i64.wrap _ = _
    rw [IntKind.wrap_i64]; omega
  have e2 : x2 = 16 * (k : Int) := e1
  have e3 : x3 = 16 * (k : Int) + 16 := by
    show IntKind.i64.wrap (x1 + 16) = _
    rw [e1, IntKind.wrap_i64]; omega
  have t2 : x2.toNat = 16 * k := by rw [e2]; omega
  have t3 : x3.toNat = 16 * k + 16 := by rw [e3]; omega
  have e4 : x4 = 16 := by
    show (lit_137a4bc9.extract x2.toNat x3.toNat).size = 16
    rw [t2, t3]
    exact (rc_val k hk).2
  have ek : ((k : Int)).toNat = k := Int.toNat_natCast k
  refine ⟨by omega, fun a cap _ => ⟨fun y => rfl, (0, some a, cap), Nat.zero_le _, rfl, rfl, ⟨rfl, e4, rfl, fun j _ => ?_⟩, by rw [e4]; rfl, rfl, ?_⟩⟩
  · rw [t2, t3, ek]; rfl
  rintro ⟨j, ad, cp⟩ hj
  have hj : j ≤ 16 := hj
  refine ⟨fun hlt => ?_, fun hge => ?_⟩
  · have hlt : (j : Int) < 16 := of_decide_eq_true hlt
    have w : IntKind.i64.wrap ((j : Int) + 1) = ((j + 1 : Nat) : Int) := by rw [IntKind.wrap_i64]; omega
    refine ⟨⟨by simp only; omega, hlt⟩, fun hc => ⟨(j + 1, ad, cp), by simp only; omega, rfl, ?_, ⟨rfl, rfl, rfl, fun _ _ => rfl⟩, rfl, w, by simp only; omega⟩, fun hc => ⟨(j + 1, ad, cp), by simp only; omega, rfl, ?_, ⟨rfl, rfl, rfl, fun _ _ => rfl⟩, rfl, w, by simp only; omega⟩⟩
    · simp only [Int.toNat_natCast] at hc ⊢
      rw [valP, hc]
    · simp only [Int.toNat_natCast] at hc ⊢
      rw [valP, hc]
  · have hge : ¬ (j : Int) < 16 := of_decide_eq_false hge
    have : j = 16 := by omega
    subst this
    show valP (fR ((k : Int)).toNat) 16 = _
    rw [ek]
    exact (rc_val k hk).1
theorem card_roundOf : FnOKg Tryd.prog [] 23 (specI (fun i => [0 ≤ i ∧ i ≤ 23]) rcG) :=
  FnOK_I (cx := Cx.none) (by intro p hp; cases hp) (iv := fun i => [(3, .inv (invRound i (fR i.toNat) (valP (fR i.toNat))))]) (N := 30) Tryd.func23 (by kernel_rfl) (by kernel_rfl) (fun _ => trivial) fun i h => ok_roundOf i h.1
end Go.Proofs.YtfoklomipdkomaaDoor
end

section
/-
  The reference's sponge: turns, the rounds' numbers, all rounds.
-/
namespace Go.Proofs.YtfoklomipdkomaaDoor
open Go Go.Sx Go.RowKit

theorem and63N {k : Int} (h : 0 ≤ k ∧ k < 4096) : IntKind.u64.wrap (((BitVec.ofInt 64 (IntKind.u64.wrap k) &&& BitVec.ofInt 64 63).toNat : Nat) : Int) = k % 64 := by
  obtain ⟨n, rfl⟩ := Int.eq_ofNat_of_zero_le h.1
  have hn : n < 4096 := by omega
  have e1 : ∀ m : Nat, m < 4096 → IntKind.u64.wrap (m : Int) = ((m : Nat) : Int) := fun m hm => by rw [wrap_cast]; omega
  rw [e1 n hn]
  have e2 : (BitVec.ofInt 64 ((n : Nat) : Int) &&& BitVec.ofInt 64 63).toNat = n % 64 := by
    rw [BitVec.toNat_and, toNat_ofNat_cast, show (BitVec.ofInt 64 63).toNat = 2 ^ 6 - 1 by decide, Nat.and_two_pow_sub_one_eq_mod]
    omega
  rw [e2, e1 _ (by omega)]
  omega
theorem ok_rotlN (v : BitVec 64) (k : Int) (h : 0 ≤ k ∧ k < 4096) : Owes Tryd.prog Cx.none [] 10 Tryd.f22 [sI .u64 (lw v), sI .i64 k] (.one (sI .u64 (rotlM (lw v) k))) := by
  rw [vc_rotlN]
  intro x1 x2
  have e1 : x1 = k % 64 := and63N h
  have e2 : x2 = 64 - k % 64 := by
    show IntKind.u64.wrap (64 - x1) = _
    rw [e1]
    obtain ⟨n, hn⟩ := Int.eq_ofNat_of_zero_le (show 0 ≤ 64 - k % 64 by omega)
    rw [hn, wrap_cast]
    omega
  rw [e1, e2]
  refine ⟨by omega, by omega, ?_⟩
  have hk : ((k.toNat % 64 : Nat) : Int) = k % 64 := by omega
  rw [show rotlM (lw v) k = lw (v.rotateLeft (k.toNat % 64)) by unfold rotlM; rw [ofInt_lw], wrap_nat]
  have h1 : Min.min (k % 64).toNat 64 = k.toNat % 64 := by omega
  have h2 : Min.min (64 - k % 64).toNat 64 = 64 - k.toNat % 64 := by omega
  rw [h1, h2, rot_eq v (k.toNat % 64) (by omega)]
theorem card_rotlN : FnOKg Tryd.prog [] 22 specRotlN := by
  refine FnOK_owesG (cx := Cx.none) (fun p hp => by cases hp) Tryd.func22 (by kernel_rfl) (by kernel_rfl) fun args ps sv hs hp => ?_
  unfold specRotlN at hs
  split at hs
  · rename_i x y
    split at hs
    · rename_i x' k' hx hk
      simp only [Option.some.injEq, Prod.mk.injEq] at hs
      obtain ⟨rfl, rfl⟩ := hs
      obtain ⟨h1, h2, _⟩ := hp
      refine ⟨[], 10, [sI .u64 (lw (BitVec.ofInt 64 x')), sI .i64 k'], fun ρ => ?_, fun fz _ z hz => ?_, trivial, ?_⟩
      · rw [lw_of h1]
        simp only [List.map_cons, List.map_nil, asI_sound hx ρ, asI_sound hk ρ]
        rfl
      · simp only [List.mem_cons, List.not_mem_nil, or_false] at hz
        rcases hz with rfl | rfl <;> trivial
      · have := ok_rotlN (BitVec.ofInt 64 x') k' h2
        rw [lw_of h1] at this ⊢
        exact this
    · cases hs
  · cases hs
theorem rot_nought (v : BitVec 64) : v.rotateLeft 0 = v := by
  apply BitVec.eq_of_getLsbD_eq
  intro i hi
  simp [BitVec.getLsbD_rotateLeft, hi]
theorem row_of (t : Nat → BitVec 64) (y : Nat) : lw (((t 0 ^^^ ((t 4 ^^^ t 9 ^^^ t 14 ^^^ t 19 ^^^ t 24) ^^^ ((t 1 ^^^ t 6 ^^^ t 11 ^^^ t 16 ^^^ t 21)).rotateLeft 1)) ^^^ (~~~ ((t 6 ^^^ ((t 0 ^^^ t 5 ^^^ t 10 ^^^ t 15 ^^^ t 20) ^^^ ((t 2 ^^^ t 7 ^^^ t 12 ^^^ t 17 ^^^ t 22)).rotateLeft 1)).rotateLeft 44) &&& ((t 12 ^^^ ((t 1 ^^^ t 6 ^^^ t 11 ^^^ t 16 ^^^ t 21) ^^^ ((t 3 ^^^ t 8 ^^^ t 13 ^^^ t 18 ^^^ t 23)).rotateLeft 1)).rotateLeft 43))) ^^^ rcN.getD y 0) = lw (roundB t y 0) ∧
    lw (((t 6 ^^^ ((t 0 ^^^ t 5 ^^^ t 10 ^^^ t 15 ^^^ t 20) ^^^ ((t 2 ^^^ t 7 ^^^ t 12 ^^^ t 17 ^^^ t 22)).rotateLeft 1)).rotateLeft 44) ^^^ (~~~ ((t 12 ^^^ ((t 1 ^^^ t 6 ^^^ t 11 ^^^ t 16 ^^^ t 21) ^^^ ((t 3 ^^^ t 8 ^^^ t 13 ^^^ t 18 ^^^ t 23)).rotateLeft 1)).rotateLeft 43) &&& ((t 18 ^^^ ((t 2 ^^^ t 7 ^^^ t 12 ^^^ t 17 ^^^ t 22) ^^^ ((t 4 ^^^ t 9 ^^^ t 14 ^^^ t 19 ^^^ t 24)).rotateLeft 1)).rotateLeft 21))) = lw (roundB t y 1) ∧
    lw (((t 12 ^^^ ((t 1 ^^^ t 6 ^^^ t 11 ^^^ t 16 ^^^ t 21) ^^^ ((t 3 ^^^ t 8 ^^^ t 13 ^^^ t 18 ^^^ t 23)).rotateLeft 1)).rotateLeft 43) ^^^ (~~~ ((t 18 ^^^ ((t 2 ^^^ t 7 ^^^ t 12 ^^^ t 17 ^^^ t 22) ^^^ ((t 4 ^^^ t 9 ^^^ t 14 ^^^ t 19 ^^^ t 24)).rotateLeft 1)).rotateLeft 21) &&& ((t 24 ^^^ ((t 3 ^^^ t 8 ^^^ t 13 ^^^ t 18 ^^^ t 23) ^^^ ((t 0 ^^^ t 5 ^^^ t 10 ^^^ t 15 ^^^ t 20)).rotateLeft 1)).rotateLeft 14))) = lw (roundB t y 2) ∧
    lw (((t 18 ^^^ ((t 2 ^^^ t 7 ^^^ t 12 ^^^ t 17 ^^^ t 22) ^^^ ((t 4 ^^^ t 9 ^^^ t 14 ^^^ t 19 ^^^ t 24)).rotateLeft 1)).rotateLeft 21) ^^^ (~~~ ((t 24 ^^^ ((t 3 ^^^ t 8 ^^^ t 13 ^^^ t 18 ^^^ t 23) ^^^ ((t 0 ^^^ t 5 ^^^ t 10 ^^^ t 15 ^^^ t 20)).rotateLeft 1)).rotateLeft 14) &&& (t 0 ^^^ ((t 4 ^^^ t 9 ^^^ t 14 ^^^ t 19 ^^^ t 24) ^^^ ((t 1 ^^^ t 6 ^^^ t 11 ^^^ t 16 ^^^ t 21)).rotateLeft 1)))) = lw (roundB t y 3) ∧
    lw (((t 24 ^^^ ((t 3 ^^^ t 8 ^^^ t 13 ^^^ t 18 ^^^ t 23) ^^^ ((t 0 ^^^ t 5 ^^^ t 10 ^^^ t 15 ^^^ t 20)).rotateLeft 1)).rotateLeft 14) ^^^ (~~~ (t 0 ^^^ ((t 4 ^^^ t 9 ^^^ t 14 ^^^ t 19 ^^^ t 24) ^^^ ((t 1 ^^^ t 6 ^^^ t 11 ^^^ t 16 ^^^ t 21)).rotateLeft 1)) &&& ((t 6 ^^^ ((t 0 ^^^ t 5 ^^^ t 10 ^^^ t 15 ^^^ t 20) ^^^ ((t 2 ^^^ t 7 ^^^ t 12 ^^^ t 17 ^^^ t 22)).rotateLeft 1)).rotateLeft 44))) = lw (roundB t y 4) ∧
    lw (((t 3 ^^^ ((t 2 ^^^ t 7 ^^^ t 12 ^^^ t 17 ^^^ t 22) ^^^ ((t 4 ^^^ t 9 ^^^ t 14 ^^^ t 19 ^^^ t 24)).rotateLeft 1)).rotateLeft 28) ^^^ (~~~ ((t 9 ^^^ ((t 3 ^^^ t 8 ^^^ t 13 ^^^ t 18 ^^^ t 23) ^^^ ((t 0 ^^^ t 5 ^^^ t 10 ^^^ t 15 ^^^ t 20)).rotateLeft 1)).rotateLeft 20) &&& ((t 10 ^^^ ((t 4 ^^^ t 9 ^^^ t 14 ^^^ t 19 ^^^ t 24) ^^^ ((t 1 ^^^ t 6 ^^^ t 11 ^^^ t 16 ^^^ t 21)).rotateLeft 1)).rotateLeft 3))) = lw (roundB t y 5) ∧
    lw (((t 9 ^^^ ((t 3 ^^^ t 8 ^^^ t 13 ^^^ t 18 ^^^ t 23) ^^^ ((t 0 ^^^ t 5 ^^^ t 10 ^^^ t 15 ^^^ t 20)).rotateLeft 1)).rotateLeft 20) ^^^ (~~~ ((t 10 ^^^ ((t 4 ^^^ t 9 ^^^ t 14 ^^^ t 19 ^^^ t 24) ^^^ ((t 1 ^^^ t 6 ^^^ t 11 ^^^ t 16 ^^^ t 21)).rotateLeft 1)).rotateLeft 3) &&& ((t 16 ^^^ ((t 0 ^^^ t 5 ^^^ t 10 ^^^ t 15 ^^^ t 20) ^^^ ((t 2 ^^^ t 7 ^^^ t 12 ^^^ t 17 ^^^ t 22)).rotateLeft 1)).rotateLeft 45))) = lw (roundB t y 6) ∧
    lw (((t 10 ^^^ ((t 4 ^^^ t 9 ^^^ t 14 ^^^ t 19 ^^^ t 24) ^^^ ((t 1 ^^^ t 6 ^^^ t 11 ^^^ t 16 ^^^ t 21)).rotateLeft 1)).rotateLeft 3) ^^^ (~~~ ((t 16 ^^^ ((t 0 ^^^ t 5 ^^^ t 10 ^^^ t 15 ^^^ t 20) ^^^ ((t 2 ^^^ t 7 ^^^ t 12 ^^^ t 17 ^^^ t 22)).rotateLeft 1)).rotateLeft 45) &&& ((t 22 ^^^ ((t 1 ^^^ t 6 ^^^ t 11 ^^^ t 16 ^^^ t 21) ^^^ ((t 3 ^^^ t 8 ^^^ t 13 ^^^ t 18 ^^^ t 23)).rotateLeft 1)).rotateLeft 61))) = lw (roundB t y 7) ∧
    lw (((t 16 ^^^ ((t 0 ^^^ t 5 ^^^ t 10 ^^^ t 15 ^^^ t 20) ^^^ ((t 2 ^^^ t 7 ^^^ t 12 ^^^ t 17 ^^^ t 22)).rotateLeft 1)).rotateLeft 45) ^^^ (~~~ ((t 22 ^^^ ((t 1 ^^^ t 6 ^^^ t 11 ^^^ t 16 ^^^ t 21) ^^^ ((t 3 ^^^ t 8 ^^^ t 13 ^^^ t 18 ^^^ t 23)).rotateLeft 1)).rotateLeft 61) &&& ((t 3 ^^^ ((t 2 ^^^ t 7 ^^^ t 12 ^^^ t 17 ^^^ t 22) ^^^ ((t 4 ^^^ t 9 ^^^ t 14 ^^^ t 19 ^^^ t 24)).rotateLeft 1)).rotateLeft 28))) = lw (roundB t y 8) ∧
    lw (((t 22 ^^^ ((t 1 ^^^ t 6 ^^^ t 11 ^^^ t 16 ^^^ t 21) ^^^ ((t 3 ^^^ t 8 ^^^ t 13 ^^^ t 18 ^^^ t 23)).rotateLeft 1)).rotateLeft 61) ^^^ (~~~ ((t 3 ^^^ ((t 2 ^^^ t 7 ^^^ t 12 ^^^ t 17 ^^^ t 22) ^^^ ((t 4 ^^^ t 9 ^^^ t 14 ^^^ t 19 ^^^ t 24)).rotateLeft 1)).rotateLeft 28) &&& ((t 9 ^^^ ((t 3 ^^^ t 8 ^^^ t 13 ^^^ t 18 ^^^ t 23) ^^^ ((t 0 ^^^ t 5 ^^^ t 10 ^^^ t 15 ^^^ t 20)).rotateLeft 1)).rotateLeft 20))) = lw (roundB t y 9) ∧
    lw (((t 1 ^^^ ((t 0 ^^^ t 5 ^^^ t 10 ^^^ t 15 ^^^ t 20) ^^^ ((t 2 ^^^ t 7 ^^^ t 12 ^^^ t 17 ^^^ t 22)).rotateLeft 1)).rotateLeft 1) ^^^ (~~~ ((t 7 ^^^ ((t 1 ^^^ t 6 ^^^ t 11 ^^^ t 16 ^^^ t 21) ^^^ ((t 3 ^^^ t 8 ^^^ t 13 ^^^ t 18 ^^^ t 23)).rotateLeft 1)).rotateLeft 6) &&& ((t 13 ^^^ ((t 2 ^^^ t 7 ^^^ t 12 ^^^ t 17 ^^^ t 22) ^^^ ((t 4 ^^^ t 9 ^^^ t 14 ^^^ t 19 ^^^ t 24)).rotateLeft 1)).rotateLeft 25))) = lw (roundB t y 10) ∧
    lw (((t 7 ^^^ ((t 1 ^^^ t 6 ^^^ t 11 ^^^ t 16 ^^^ t 21) ^^^ ((t 3 ^^^ t 8 ^^^ t 13 ^^^ t 18 ^^^ t 23)).rotateLeft 1)).rotateLeft 6) ^^^ (~~~ ((t 13 ^^^ ((t 2 ^^^ t 7 ^^^ t 12 ^^^ t 17 ^^^ t 22) ^^^ ((t 4 ^^^ t 9 ^^^ t 14 ^^^ t 19 ^^^ t 24)).rotateLeft 1)).rotateLeft 25) &&& ((t 19 ^^^ ((t 3 ^^^ t 8 ^^^ t 13 ^^^ t 18 ^^^ t 23) ^^^ ((t 0 ^^^ t 5 ^^^ t 10 ^^^ t 15 ^^^ t 20)).rotateLeft 1)).rotateLeft 8))) = lw (roundB t y 11) ∧
    lw (((t 13 ^^^ ((t 2 ^^^ t 7 ^^^ t 12 ^^^ t 17 ^^^ t 22) ^^^ ((t 4 ^^^ t 9 ^^^ t 14 ^^^ t 19 ^^^ t 24)).rotateLeft 1)).rotateLeft 25) ^^^ (~~~ ((t 19 ^^^ ((t 3 ^^^ t 8 ^^^ t 13 ^^^ t 18 ^^^ t 23) ^^^ ((t 0 ^^^ t 5 ^^^ t 10 ^^^ t 15 ^^^ t 20)).rotateLeft 1)).rotateLeft 8) &&& ((t 20 ^^^ ((t 4 ^^^ t 9 ^^^ t 14 ^^^ t 19 ^^^ t 24) ^^^ ((t 1 ^^^ t 6 ^^^ t 11 ^^^ t 16 ^^^ t 21)).rotateLeft 1)).rotateLeft 18))) = lw (roundB t y 12) ∧
    lw (((t 19 ^^^ ((t 3 ^^^ t 8 ^^^ t 13 ^^^ t 18 ^^^ t 23) ^^^ ((t 0 ^^^ t 5 ^^^ t 10 ^^^ t 15 ^^^ t 20)).rotateLeft 1)).rotateLeft 8) ^^^ (~~~ ((t 20 ^^^ ((t 4 ^^^ t 9 ^^^ t 14 ^^^ t 19 ^^^ t 24) ^^^ ((t 1 ^^^ t 6 ^^^ t 11 ^^^ t 16 ^^^ t 21)).rotateLeft 1)).rotateLeft 18) &&& ((t 1 ^^^ ((t 0 ^^^ t 5 ^^^ t 10 ^^^ t 15 ^^^ t 20) ^^^ ((t 2 ^^^ t 7 ^^^ t 12 ^^^ t 17 ^^^ t 22)).rotateLeft 1)).rotateLeft 1))) = lw (roundB t y 13) ∧
    lw (((t 20 ^^^ ((t 4 ^^^ t 9 ^^^ t 14 ^^^ t 19 ^^^ t 24) ^^^ ((t 1 ^^^ t 6 ^^^ t 11 ^^^ t 16 ^^^ t 21)).rotateLeft 1)).rotateLeft 18) ^^^ (~~~ ((t 1 ^^^ ((t 0 ^^^ t 5 ^^^ t 10 ^^^ t 15 ^^^ t 20) ^^^ ((t 2 ^^^ t 7 ^^^ t 12 ^^^ t 17 ^^^ t 22)).rotateLeft 1)).rotateLeft 1) &&& ((t 7 ^^^ ((t 1 ^^^ t 6 ^^^ t 11 ^^^ t 16 ^^^ t 21) ^^^ ((t 3 ^^^ t 8 ^^^ t 13 ^^^ t 18 ^^^ t 23)).rotateLeft 1)).rotateLeft 6))) = lw (roundB t y 14) ∧
    lw (((t 4 ^^^ ((t 3 ^^^ t 8 ^^^ t 13 ^^^ t 18 ^^^ t 23) ^^^ ((t 0 ^^^ t 5 ^^^ t 10 ^^^ t 15 ^^^ t 20)).rotateLeft 1)).rotateLeft 27) ^^^ (~~~ ((t 5 ^^^ ((t 4 ^^^ t 9 ^^^ t 14 ^^^ t 19 ^^^ t 24) ^^^ ((t 1 ^^^ t 6 ^^^ t 11 ^^^ t 16 ^^^ t 21)).rotateLeft 1)).rotateLeft 36) &&& ((t 11 ^^^ ((t 0 ^^^ t 5 ^^^ t 10 ^^^ t 15 ^^^ t 20) ^^^ ((t 2 ^^^ t 7 ^^^ t 12 ^^^ t 17 ^^^ t 22)).rotateLeft 1)).rotateLeft 10))) = lw (roundB t y 15) ∧
    lw (((t 5 ^^^ ((t 4 ^^^ t 9 ^^^ t 14 ^^^ t 19 ^^^ t 24) ^^^ ((t 1 ^^^ t 6 ^^^ t 11 ^^^ t 16 ^^^ t 21)).rotateLeft 1)).rotateLeft 36) ^^^ (~~~ ((t 11 ^^^ ((t 0 ^^^ t 5 ^^^ t 10 ^^^ t 15 ^^^ t 20) ^^^ ((t 2 ^^^ t 7 ^^^ t 12 ^^^ t 17 ^^^ t 22)).rotateLeft 1)).rotateLeft 10) &&& ((t 17 ^^^ ((t 1 ^^^ t 6 ^^^ t 11 ^^^ t 16 ^^^ t 21) ^^^ ((t 3 ^^^ t 8 ^^^ t 13 ^^^ t 18 ^^^ t 23)).rotateLeft 1)).rotateLeft 15))) = lw (roundB t y 16) ∧
    lw (((t 11 ^^^ ((t 0 ^^^ t 5 ^^^ t 10 ^^^ t 15 ^^^ t 20) ^^^ ((t 2 ^^^ t 7 ^^^ t 12 ^^^ t 17 ^^^ t 22)).rotateLeft 1)).rotateLeft 10) ^^^ (~~~ ((t 17 ^^^ ((t 1 ^^^ t 6 ^^^ t 11 ^^^ t 16 ^^^ t 21) ^^^ ((t 3 ^^^ t 8 ^^^ t 13 ^^^ t 18 ^^^ t 23)).rotateLeft 1)).rotateLeft 15) &&& ((t 23 ^^^ ((t 2 ^^^ t 7 ^^^ t 12 ^^^ t 17 ^^^ t 22) ^^^ ((t 4 ^^^ t 9 ^^^ t 14 ^^^ t 19 ^^^ t 24)).rotateLeft 1)).rotateLeft 56))) = lw (roundB t y 17) ∧
    lw (((t 17 ^^^ ((t 1 ^^^ t 6 ^^^ t 11 ^^^ t 16 ^^^ t 21) ^^^ ((t 3 ^^^ t 8 ^^^ t 13 ^^^ t 18 ^^^ t 23)).rotateLeft 1)).rotateLeft 15) ^^^ (~~~ ((t 23 ^^^ ((t 2 ^^^ t 7 ^^^ t 12 ^^^ t 17 ^^^ t 22) ^^^ ((t 4 ^^^ t 9 ^^^ t 14 ^^^ t 19 ^^^ t 24)).rotateLeft 1)).rotateLeft 56) &&& ((t 4 ^^^ ((t 3 ^^^ t 8 ^^^ t 13 ^^^ t 18 ^^^ t 23) ^^^ ((t 0 ^^^ t 5 ^^^ t 10 ^^^ t 15 ^^^ t 20)).rotateLeft 1)).rotateLeft 27))) = lw (roundB t y 18) ∧
    lw (((t 23 ^^^ ((t 2 ^^^ t 7 ^^^ t 12 ^^^ t 17 ^^^ t 22) ^^^ ((t 4 ^^^ t 9 ^^^ t 14 ^^^ t 19 ^^^ t 24)).rotateLeft 1)).rotateLeft 56) ^^^ (~~~ ((t 4 ^^^ ((t 3 ^^^ t 8 ^^^ t 13 ^^^ t 18 ^^^ t 23) ^^^ ((t 0 ^^^ t 5 ^^^ t 10 ^^^ t 15 ^^^ t 20)).rotateLeft 1)).rotateLeft 27) &&& ((t 5 ^^^ ((t 4 ^^^ t 9 ^^^ t 14 ^^^ t 19 ^^^ t 24) ^^^ ((t 1 ^^^ t 6 ^^^ t 11 ^^^ t 16 ^^^ t 21)).rotateLeft 1)).rotateLeft 36))) = lw (roundB t y 19) ∧
    lw (((t 2 ^^^ ((t 1 ^^^ t 6 ^^^ t 11 ^^^ t 16 ^^^ t 21) ^^^ ((t 3 ^^^ t 8 ^^^ t 13 ^^^ t 18 ^^^ t 23)).rotateLeft 1)).rotateLeft 62) ^^^ (~~~ ((t 8 ^^^ ((t 2 ^^^ t 7 ^^^ t 12 ^^^ t 17 ^^^ t 22) ^^^ ((t 4 ^^^ t 9 ^^^ t 14 ^^^ t 19 ^^^ t 24)).rotateLeft 1)).rotateLeft 55) &&& ((t 14 ^^^ ((t 3 ^^^ t 8 ^^^ t 13 ^^^ t 18 ^^^ t 23) ^^^ ((t 0 ^^^ t 5 ^^^ t 10 ^^^ t 15 ^^^ t 20)).rotateLeft 1)).rotateLeft 39))) = lw (roundB t y 20) ∧
    lw (((t 8 ^^^ ((t 2 ^^^ t 7 ^^^ t 12 ^^^ t 17 ^^^ t 22) ^^^ ((t 4 ^^^ t 9 ^^^ t 14 ^^^ t 19 ^^^ t 24)).rotateLeft 1)).rotateLeft 55) ^^^ (~~~ ((t 14 ^^^ ((t 3 ^^^ t 8 ^^^ t 13 ^^^ t 18 ^^^ t 23) ^^^ ((t 0 ^^^ t 5 ^^^ t 10 ^^^ t 15 ^^^ t 20)).rotateLeft 1)).rotateLeft 39) &&& ((t 15 ^^^ ((t 4 ^^^ t 9 ^^^ t 14 ^^^ t 19 ^^^ t 24) ^^^ ((t 1 ^^^ t 6 ^^^ t 11 ^^^ t 16 ^^^ t 21)).rotateLeft 1)).rotateLeft 41))) = lw (roundB t y 21) ∧
    lw (((t 14 ^^^ ((t 3 ^^^ t 8 ^^^ t 13 ^^^ t 18 ^^^ t 23) ^^^ ((t 0 ^^^ t 5 ^^^ t 10 ^^^ t 15 ^^^ t 20)).rotateLeft 1)).rotateLeft 39) ^^^ (~~~ ((t 15 ^^^ ((t 4 ^^^ t 9 ^^^ t 14 ^^^ t 19 ^^^ t 24) ^^^ ((t 1 ^^^ t 6 ^^^ t 11 ^^^ t 16 ^^^ t 21)).rotateLeft 1)).rotateLeft 41) &&& ((t 21 ^^^ ((t 0 ^^^ t 5 ^^^ t 10 ^^^ t 15 ^^^ t 20) ^^^ ((t 2 ^^^ t 7 ^^^ t 12 ^^^ t 17 ^^^ t 22)).rotateLeft 1)).rotateLeft 2))) = lw (roundB t y 22) ∧
    lw (((t 15 ^^^ ((t 4 ^^^ t 9 ^^^ t 14 ^^^ t 19 ^^^ t 24) ^^^ ((t 1 ^^^ t 6 ^^^ t 11 ^^^ t 16 ^^^ t 21)).rotateLeft 1)).rotateLeft 41) ^^^ (~~~ ((t 21 ^^^ ((t 0 ^^^ t 5 ^^^ t 10 ^^^ t 15 ^^^ t 20) ^^^ ((t 2 ^^^ t 7 ^^^ t 12 ^^^ t 17 ^^^ t 22)).rotateLeft 1)).rotateLeft 2) &&& ((t 2 ^^^ ((t 1 ^^^ t 6 ^^^ t 11 ^^^ t 16 ^^^ t 21) ^^^ ((t 3 ^^^ t 8 ^^^ t 13 ^^^ t 18 ^^^ t 23)).rotateLeft 1)).rotateLeft 62))) = lw (roundB t y 23) ∧
    lw (((t 21 ^^^ ((t 0 ^^^ t 5 ^^^ t 10 ^^^ t 15 ^^^ t 20) ^^^ ((t 2 ^^^ t 7 ^^^ t 12 ^^^ t 17 ^^^ t 22)).rotateLeft 1)).rotateLeft 2) ^^^ (~~~ ((t 2 ^^^ ((t 1 ^^^ t 6 ^^^ t 11 ^^^ t 16 ^^^ t 21) ^^^ ((t 3 ^^^ t 8 ^^^ t 13 ^^^ t 18 ^^^ t 23)).rotateLeft 1)).rotateLeft 62) &&& ((t 8 ^^^ ((t 2 ^^^ t 7 ^^^ t 12 ^^^ t 17 ^^^ t 22) ^^^ ((t 4 ^^^ t 9 ^^^ t 14 ^^^ t 19 ^^^ t 24)).rotateLeft 1)).rotateLeft 55))) = lw (roundB t y 24) := by
  simp only [roundB, chiB, scatB, thetaB, colB, srcN, offN, List.getD_cons_succ, List.getD_cons_zero, rot_nought, Nat.reduceAdd, Nat.reduceMod, Nat.reduceDiv, Nat.reduceMul, if_true, Nat.reduceEqDiff, if_false, and_self]
theorem ok_Turned (a : Nat → BitVec 64) : Owes Tryd.prog cxTurned [(2, .inv (invTurned a))] 30 Tryd.f17 [sRow .u64 25 fun i => lw (a i)] (.one (sRow .u64 25 fun i => lw (turnB a i))) := by
  rw [vc_Turned]
  refine ⟨fun y => rfl, 0, by omega, rfl, ⟨fun j _ => rfl, trivial⟩, rfl, rfl, fun y hy => ⟨fun hlt => ?_, fun hge => ?_⟩⟩
  · have hlt : y < 24 := by have := of_decide_eq_true hlt; omega
    have ny : ((y : Int)).toNat = y := Int.toNat_natCast y
    have m1 : IntKind.i64.wrap ((y : Int) + 1) = ((y + 1 : Nat) : Int) := by rw [IntKind.wrap_i64]; omega
    simp only [wrap_nat, ofInt_lw, not_lane, rotlM, Int.reduceToNat, Nat.reduceMod, lane_lw, and_self, true_and, ny, m1, Int.reduceLE, Int.reduceLT]
    refine ⟨⟨by omega, by omega⟩, y + 1, by omega, rfl, ?_⟩
    have hr : roundsB (y + 1) a = roundB (roundsB y a) y := rfl
    rw [hr]
    generalize roundsB y a = t
    have e := row_of t y
    refine ⟨⟨e.1, e.2.1, e.2.2.1, e.2.2.2.1, e.2.2.2.2.1, e.2.2.2.2.2.1, e.2.2.2.2.2.2.1, e.2.2.2.2.2.2.2.1, e.2.2.2.2.2.2.2.2.1, e.2.2.2.2.2.2.2.2.2.1, e.2.2.2.2.2.2.2.2.2.2.1, e.2.2.2.2.2.2.2.2.2.2.2.1, e.2.2.2.2.2.2.2.2.2.2.2.2.1, e.2.2.2.2.2.2.2.2.2.2.2.2.2.1, e.2.2.2.2.2.2.2.2.2.2.2.2.2.2.1, e.2.2.2.2.2.2.2.2.2.2.2.2.2.2.2.1, e.2.2.2.2.2.2.2.2.2.2.2.2.2.2.2.2.1, e.2.2.2.2.2.2.2.2.2.2.2.2.2.2.2.2.2.1, e.2.2.2.2.2.2.2.2.2.2.2.2.2.2.2.2.2.2.1, e.2.2.2.2.2.2.2.2.2.2.2.2.2.2.2.2.2.2.2.1, e.2.2.2.2.2.2.2.2.2.2.2.2.2.2.2.2.2.2.2.2.1, e.2.2.2.2.2.2.2.2.2.2.2.2.2.2.2.2.2.2.2.2.2.1, e.2.2.2.2.2.2.2.2.2.2.2.2.2.2.2.2.2.2.2.2.2.2.1, e.2.2.2.2.2.2.2.2.2.2.2.2.2.2.2.2.2.2.2.2.2.2.2.1, e.2.2.2.2.2.2.2.2.2.2.2.2.2.2.2.2.2.2.2.2.2.2.2.2, trivial⟩, by omega⟩
  · have hge : ¬ y < 24 := by have := of_decide_eq_false hge; omega
    have : y = 24 := by omega
    subst this
    exact ⟨fun j _ => rfl, trivial⟩
theorem card_Turned : FnOKg Tryd.prog [] 17 (specLanes 25 25 turnB) :=
  FnOK_lanes (cx := cxTurned) (iv := fun a => [(2, .inv (invTurned a))]) (by
    intro p hp
    simp only [cxTurned, List.mem_cons, List.not_mem_nil, or_false] at hp
    rcases hp with rfl | rfl
    · exact card_rotlN
    · exact card_roundOf) Tryd.func17 (by kernel_rfl) (by kernel_rfl) ok_Turned
end Go.Proofs.YtfoklomipdkomaaDoor
end

section
/-
  The duty of KeccakTurns, whatever turns.
-/
namespace Go.Proofs.YtfoklomipdkomaaDoor
open Go Go.Sx Go.RowKit
end Go.Proofs.YtfoklomipdkomaaDoor
end

section
/-
  KeccakTurns: the code's rounds and the document's are the same.
-/
namespace Go.Proofs.YtfoklomipdkomaaDoor
open Go Go.Sx Go.RowKit

end Go.Proofs.YtfoklomipdkomaaDoor
end

section
/-
  Duties of the reference's sponge: what may not be, what soaks.
-/
namespace Go.Proofs.YtfoklomipdkomaaDoor
open Go Go.Sx Go.RowKit
def invBad (L H : Nat → Int) (N : Int) : Inv where
  X := Nat
  tm i := slotsAt 23 [(1, .one (.sc (.ptr 0 0))), (2, .one (sB false)), (3, .one (sI .i64 ((N.toNat + i : Nat) : Int)))]
  ob _ := [.cells 26 [.f .u64 25 L, .f .u8 136 H, .c (.val (.int .i64 N))] 0]
  holds i := 0 ≤ N ∧ N < 136 ∧ N.toNat + i ≤ 136 ∧ ∀ j, j < i → H (N.toNat + j) = 0
  less i := 136 - i
def strF (s : ByteArray) (j : Nat) : Int := ((s.data.getD j 0).toNat : Int)
def invSoaked (a : Nat → BitVec 64) (s : ByteArray) : Inv where
  X := Nat
  tm i := slotsAt 34 [(1, .one (.sc (.val (.string s)))), (2, .one (.sc (.ptr 0 0))), (4, .one (.sc (.ptr 1 0))), (5, .one (sI .i64 ((8 * i : Nat) : Int)))]
  ob i := [.cells 23 (kRow25 (absB a (strF s) (8 * i))) 0, .cells 23 (List.replicate 25 (.c (.num .u64 0))) 0]
  holds i := i ≤ 17
  less i := 17 - i
-- VC vc_badSponge HASH e2d8be36c88c69fc
theorem vc_badSponge (L H : Nat → Int) (N : Int) :
    Owes Tryd.prog Cx.none [(4, .inv (invBad L H N))] 30 Tryd.f12 [sSp L H N] (.one (sB (!mayG H N))) =
    (let x1 : Bool := Decidable.decide (N < (0 : Int)); ((!x1) = Bool.true → (!x1) = Bool.true) ∧ ((!x1) = Bool.true → (!x1) = Bool.true) ∧ (x1 = Bool.false → (!x1) = Bool.true) ∧ ((x1 || Decidable.decide (N > (135 : Int))) = Bool.true → Bool.true = !mayG H N) ∧ ((x1 || Decidable.decide (N > (135 : Int))) = Bool.false → (∀ (y : Nat), Go.Sx.closedB (Go.Sx.slotsAt (23 : Nat) [((1 : Nat), Go.Sx.SV.one (Go.Sx.SA.sc (Go.Sx.SC.ptr (0 : Nat) (0 : Nat)))), ((2 : Nat), Go.Sx.SV.one (Go.Sx.sB Bool.false)), ((3 : Nat), Go.Sx.SV.one (Go.Sx.sI Go.IntKind.i64 (↑(N.toNat + y) : Int)))]) [Go.Sx.SO.cells (28 : Go.TypeId) [Go.Sx.SK.f Go.IntKind.u64 (25 : Nat) L, Go.Sx.SK.f Go.IntKind.u8 (136 : Nat) H, Go.Sx.SK.c (Go.Sx.SC.val (Go.Value.int Go.IntKind.i64 N))] (0 : Nat)] = Bool.true) ∧ ∃ (y : Nat), ((0 : Int) ≤ N ∧ N < (136 : Int) ∧ N.toNat + y ≤ (136 : Nat) ∧ ∀ (j : Nat), j < y → H (N.toNat + j) = (0 : Int)) ∧ Bool.false = Bool.false ∧ N = (↑(N.toNat + y) : Int) ∧ ((∀ (j : Nat), j < (25 : Nat) → L j = L j) ∧ (∀ (j : Nat), j < (136 : Nat) → H j = H j) ∧ N = N ∧ True) ∧ (0 : Nat) = (0 : Nat) ∧ ∀ (y : Nat), ((0 : Int) ≤ N ∧ N < (136 : Int) ∧ N.toNat + y ≤ (136 : Nat) ∧ ∀ (j : Nat), j < y → H (N.toNat + j) = (0 : Int)) → (Decidable.decide ((↑(N.toNat + y) : Int) < (136 : Int)) = Bool.true → ((0 : Int) ≤ (↑(N.toNat + y) : Int) ∧ (↑(N.toNat + y) : Int) < (136 : Int)) ∧ ((0 : Int) ≤ (↑(N.toNat + y) : Int) ∧ (↑(N.toNat + y) : Int) < (136 : Int)) ∧ ((H (↑(N.toNat + y) : Int).toNat != (0 : Int)) = Bool.true → Bool.true = !mayG H N) ∧ ((H (↑(N.toNat + y) : Int).toNat != (0 : Int)) = Bool.false → ∃ (y' : Nat), ((0 : Int) ≤ N ∧ N < (136 : Int) ∧ N.toNat + y' ≤ (136 : Nat) ∧ ∀ (j : Nat), j < y' → H (N.toNat + j) = (0 : Int)) ∧ Bool.false = Bool.false ∧ Go.IntKind.i64.wrap ((↑(N.toNat + y) : Int) + (1 : Int)) = (↑(N.toNat + y') : Int) ∧ ((∀ (j : Nat), j < (25 : Nat) → L j = L j) ∧ (∀ (j : Nat), j < (136 : Nat) → H j = H j) ∧ N = N ∧ True) ∧ (0 : Nat) = (0 : Nat) ∧ (136 : Nat) - y' < (136 : Nat) - y)) ∧ (Decidable.decide ((↑(N.toNat + y) : Int) < (136 : Int)) = Bool.false → Bool.false = !mayG H N))) := by kernel_rfl
-- END VC
-- VC vc_soaked HASH 4026c7a1ba3f7d55
theorem vc_soaked (T : (Nat → BitVec 64) → Nat → BitVec 64) (a : Nat → BitVec 64) (s : ByteArray) :
    Owes Tryd.prog ⟨[(17, specLanes 25 25 T)], [], 0⟩ [(2, .inv (invSoaked a s))] 30 Tryd.f13 [sRow .u64 25 (fun i => lw (a i)), .sc (.val (.string s))] (.one (sRow .u64 25 fun i => lw (T (absB a (strF s) 136) i))) =
    ((∀ (y : Nat), Go.Sx.closedB (Go.Sx.slotsAt (34 : Nat) [((1 : Nat), Go.Sx.SV.one (Go.Sx.SA.sc (Go.Sx.SC.val (Go.Value.string s)))), ((2 : Nat), Go.Sx.SV.one (Go.Sx.SA.sc (Go.Sx.SC.ptr (0 : Nat) (0 : Nat)))), ((4 : Nat), Go.Sx.SV.one (Go.Sx.SA.sc (Go.Sx.SC.ptr (1 : Nat) (0 : Nat)))), ((5 : Nat), Go.Sx.SV.one (Go.Sx.sI Go.IntKind.i64 (↑((8 : Nat) * y) : Int)))]) [Go.Sx.SO.cells (23 : Go.TypeId) (kRow25 (Go.Sx.absB a (strF s) ((8 : Nat) * y))) (0 : Nat), Go.Sx.SO.cells (23 : Go.TypeId) (List.replicate (25 : Nat) (Go.Sx.SK.c (Go.Sx.SC.num Go.IntKind.u64 (0 : Int)))) (0 : Nat)] = Bool.true) ∧ ∃ (y : Nat), y ≤ (17 : Nat) ∧ s = s ∧ (0 : Int) = (↑((8 : Nat) * y) : Int) ∧ ((∀ (j : Nat), j < (25 : Nat) → Go.Sx.lw (a j) = Go.Sx.lw (Go.Sx.absB a (strF s) ((8 : Nat) * y) j)) ∧ True) ∧ (0 : Nat) = (0 : Nat) ∧ (0 : Nat) = (0 : Nat) ∧ ∀ (y : Nat), y ≤ (17 : Nat) → (Decidable.decide ((↑((8 : Nat) * y) : Int) < (136 : Int)) = Bool.true → ((0 : Int) ≤ Go.IntKind.i64.wrap ((↑((8 : Nat) * y) : Int) + (7 : Int)) ∧ (Go.IntKind.i64.wrap ((↑((8 : Nat) * y) : Int) + (7 : Int))).toNat < s.size) ∧ ((0 : Int) ≤ Go.IntKind.i64.wrap ((↑((8 : Nat) * y) : Int) + (6 : Int)) ∧ (Go.IntKind.i64.wrap ((↑((8 : Nat) * y) : Int) + (6 : Int))).toNat < s.size) ∧ ((0 : Int) ≤ Go.IntKind.i64.wrap ((↑((8 : Nat) * y) : Int) + (5 : Int)) ∧ (Go.IntKind.i64.wrap ((↑((8 : Nat) * y) : Int) + (5 : Int))).toNat < s.size) ∧ ((0 : Int) ≤ Go.IntKind.i64.wrap ((↑((8 : Nat) * y) : Int) + (4 : Int)) ∧ (Go.IntKind.i64.wrap ((↑((8 : Nat) * y) : Int) + (4 : Int))).toNat < s.size) ∧ ((0 : Int) ≤ Go.IntKind.i64.wrap ((↑((8 : Nat) * y) : Int) + (3 : Int)) ∧ (Go.IntKind.i64.wrap ((↑((8 : Nat) * y) : Int) + (3 : Int))).toNat < s.size) ∧ ((0 : Int) ≤ Go.IntKind.i64.wrap ((↑((8 : Nat) * y) : Int) + (2 : Int)) ∧ (Go.IntKind.i64.wrap ((↑((8 : Nat) * y) : Int) + (2 : Int))).toNat < s.size) ∧ ((0 : Int) ≤ Go.IntKind.i64.wrap ((↑((8 : Nat) * y) : Int) + (1 : Int)) ∧ (Go.IntKind.i64.wrap ((↑((8 : Nat) * y) : Int) + (1 : Int))).toNat < s.size) ∧ ((0 : Int) ≤ Go.IntKind.i64.wrap ((↑((8 : Nat) * y) : Int) + (0 : Int)) ∧ (Go.IntKind.i64.wrap ((↑((8 : Nat) * y) : Int) + (0 : Int))).toNat < s.size) ∧ ((0 : Int) ≤ Go.IntKind.i64.wrap ((↑((8 : Nat) * y) : Int).tdiv (8 : Int)) ∧ Go.IntKind.i64.wrap ((↑((8 : Nat) * y) : Int).tdiv (8 : Int)) < (25 : Int)) ∧ ((0 : Int) ≤ Go.IntKind.i64.wrap ((↑((8 : Nat) * y) : Int).tdiv (8 : Int)) ∧ Go.IntKind.i64.wrap ((↑((8 : Nat) * y) : Int).tdiv (8 : Int)) < (25 : Int)) ∧ ((0 : Int) ≤ Go.IntKind.i64.wrap ((↑((8 : Nat) * y) : Int).tdiv (8 : Int)) ∧ Go.IntKind.i64.wrap ((↑((8 : Nat) * y) : Int).tdiv (8 : Int)) < (25 : Int)) ∧ ((0 : Int) ≤ Go.IntKind.i64.wrap ((↑((8 : Nat) * y) : Int).tdiv (8 : Int)) ∧ Go.IntKind.i64.wrap ((↑((8 : Nat) * y) : Int).tdiv (8 : Int)) < (25 : Int)) ∧ ∃ (y' : Nat), y' ≤ (17 : Nat) ∧ s = s ∧ Go.IntKind.i64.wrap ((↑((8 : Nat) * y) : Int) + (8 : Int)) = (↑((8 : Nat) * y') : Int) ∧ ((∀ (j : Nat), j < (25 : Nat) → (if j = (Go.IntKind.i64.wrap ((↑((8 : Nat) * y) : Int).tdiv (8 : Int))).toNat then Go.IntKind.u64.wrap (↑(BitVec.ofInt (64 : Nat) (Go.Sx.lw (Go.Sx.absB a (strF s) ((8 : Nat) * y) (Go.IntKind.i64.wrap ((↑((8 : Nat) * y) : Int).tdiv (8 : Int))).toNat)) ^^^ BitVec.ofInt (64 : Nat) (Go.IntKind.u64.wrap (Go.IntKind.u64.wrap (Go.IntKind.u64.wrap (Go.IntKind.u64.wrap (Go.IntKind.u64.wrap (Go.IntKind.u64.wrap (Go.IntKind.u64.wrap (Go.IntKind.u64.wrap (Go.IntKind.u64.wrap (Go.IntKind.u64.wrap (Go.IntKind.u64.wrap (Go.IntKind.u64.wrap (Go.IntKind.u64.wrap (Go.IntKind.u64.wrap (Go.IntKind.u64.wrap ((0 : Int) + Go.IntKind.u64.wrap (↑(s.data.getD (Go.IntKind.i64.wrap ((↑((8 : Nat) * y) : Int) + (7 : Int))).toNat (0 : UInt8)).toNat : Int)) * (256 : Int)) + Go.IntKind.u64.wrap (↑(s.data.getD (Go.IntKind.i64.wrap ((↑((8 : Nat) * y) : Int) + (6 : Int))).toNat (0 : UInt8)).toNat : Int)) * (256 : Int)) + Go.IntKind.u64.wrap (↑(s.data.getD (Go.IntKind.i64.wrap ((↑((8 : Nat) * y) : Int) + (5 : Int))).toNat (0 : UInt8)).toNat : Int)) * (256 : Int)) + Go.IntKind.u64.wrap (↑(s.data.getD (Go.IntKind.i64.wrap ((↑((8 : Nat) * y) : Int) + (4 : Int))).toNat (0 : UInt8)).toNat : Int)) * (256 : Int)) + Go.IntKind.u64.wrap (↑(s.data.getD (Go.IntKind.i64.wrap ((↑((8 : Nat) * y) : Int) + (3 : Int))).toNat (0 : UInt8)).toNat : Int)) * (256 : Int)) + Go.IntKind.u64.wrap (↑(s.data.getD (Go.IntKind.i64.wrap ((↑((8 : Nat) * y) : Int) + (2 : Int))).toNat (0 : UInt8)).toNat : Int)) * (256 : Int)) + Go.IntKind.u64.wrap (↑(s.data.getD (Go.IntKind.i64.wrap ((↑((8 : Nat) * y) : Int) + (1 : Int))).toNat (0 : UInt8)).toNat : Int)) * (256 : Int)) + Go.IntKind.u64.wrap (↑(s.data.getD (Go.IntKind.i64.wrap ((↑((8 : Nat) * y) : Int) + (0 : Int))).toNat (0 : UInt8)).toNat : Int)))).toNat : Int) else Go.Sx.lw (Go.Sx.absB a (strF s) ((8 : Nat) * y) j)) = Go.Sx.lw (Go.Sx.absB a (strF s) ((8 : Nat) * y') j)) ∧ True) ∧ (0 : Nat) = (0 : Nat) ∧ (0 : Nat) = (0 : Nat) ∧ (17 : Nat) - y' < (17 : Nat) - y) ∧ (Decidable.decide ((↑((8 : Nat) * y) : Int) < (136 : Int)) = Bool.false → (∀ (i : Nat), i < (25 : Nat) → (0 : Int) ≤ Go.Sx.lw (Go.Sx.absB a (strF s) ((8 : Nat) * y) i) ∧ Go.Sx.lw (Go.Sx.absB a (strF s) ((8 : Nat) * y) i) < (18446744073709551616 : Int)) ∧ (∀ (j : Nat), j < (25 : Nat) → Go.Sx.lw (T (Go.Sx.ofRow fun (i : Nat) => Go.Sx.lw (Go.Sx.absB a (strF s) ((8 : Nat) * y) i)) j) = Go.Sx.lw (T (Go.Sx.absB a (strF s) (136 : Nat)) j)) ∧ True)) := by kernel_rfl
-- END VC
end Go.Proofs.YtfoklomipdkomaaDoor
end

section
/-
  The reference's sponge: what may not be, what soaks.
-/
namespace Go.Proofs.YtfoklomipdkomaaDoor
open Go Go.Sx Go.RowKit

theorem byte_hi (b : UInt8) {i : Nat} (hi : 8 ≤ i) : (BitVec.ofInt 64 (b.toNat : Int)).getLsbD i = false := by
  rw [show BitVec.ofInt 64 (b.toNat : Int) = BitVec.ofNat 64 b.toNat from BitVec.ofInt_natCast .., BitVec.getLsbD_ofNat]
  rw [Nat.testBit_lt_two_pow (Nat.lt_of_lt_of_le b.toNat_lt (Nat.pow_le_pow_right (by decide) hi)), Bool.and_false]
theorem byte_step (v : BitVec 64) (b : UInt8) : IntKind.u64.wrap (IntKind.u64.wrap (lw v * 256) + IntKind.u64.wrap (b.toNat : Int)) = lw ((v <<< 8) ^^^ BitVec.ofInt 64 (b.toNat : Int)) := by
  have hz : (v <<< 8) &&& BitVec.ofInt 64 (b.toNat : Int) = 0#64 := by
    apply BitVec.eq_of_getLsbD_eq
    intro i _
    rw [BitVec.getLsbD_and, BitVec.getLsbD_shiftLeft, BitVec.getLsbD_zero]
    by_cases c : 8 ≤ i
    · rw [byte_hi b c, Bool.and_false]
    · rw [decide_eq_true (show i < 8 by omega)]; simp
  have e : (v <<< 8) ^^^ BitVec.ofInt 64 (b.toNat : Int) = (v <<< 8) + BitVec.ofInt 64 (b.toNat : Int) := by
    rw [BitVec.add_eq_or_of_and_eq_zero _ _ hz]
    apply BitVec.eq_of_getLsbD_eq
    intro i _
    rw [BitVec.getLsbD_xor, BitVec.getLsbD_or, BitVec.getLsbD_shiftLeft]
    by_cases c : 8 ≤ i
    · rw [byte_hi b c, Bool.xor_false, Bool.or_false]
    · rw [decide_eq_true (show i < 8 by omega)]; simp
  rw [e]
  have hb := b.toNat_lt
  have hv := v.isLt
  simp only [lw, BitVec.toNat_add, BitVec.toNat_shiftLeft, Nat.shiftLeft_eq, toNat_ofNat_cast, IntKind.wrap_u64]
  omega
theorem byte_first (b : UInt8) : IntKind.u64.wrap (0 + IntKind.u64.wrap (b.toNat : Int)) = lw (BitVec.ofInt 64 (b.toNat : Int)) := by
  have hb := b.toNat_lt
  simp only [lw, toNat_ofNat_cast, IntKind.wrap_u64]
  omega
theorem shB_byte (b : UInt8) {k : Nat} (hk : k ≤ 56) : shB (b.toNat : Int) k = BitVec.ofInt 64 (b.toNat : Int) <<< k := by
  have hb := b.toNat_lt
  have hp : 2 ^ k ≤ 2 ^ 56 := Nat.pow_le_pow_right (by decide) hk
  have hm : b.toNat * 2 ^ k < 18446744073709551616 := Nat.lt_of_lt_of_le (Nat.mul_lt_mul_of_lt_of_le hb hp (by decide)) (by decide)
  apply BitVec.eq_of_toNat_eq
  unfold shB
  have e1 : IntKind.u64.wrap (b.toNat : Int) = (b.toNat : Int) := by rw [IntKind.wrap_u64]; omega
  have e2 : ((b.toNat : Int) * 2 ^ k) = ((b.toNat * 2 ^ k : Nat) : Int) := by push_cast; rfl
  have e3 : IntKind.u64.wrap ((b.toNat * 2 ^ k : Nat) : Int) = ((b.toNat * 2 ^ k : Nat) : Int) := by rw [IntKind.wrap_u64]; omega
  rw [e1, e2, e3, toNat_ofNat_cast, BitVec.toNat_shiftLeft, toNat_ofNat_cast, Nat.shiftLeft_eq, Nat.mod_eq_of_lt (show b.toNat < 2 ^ 64 by omega)]
theorem abs8 (a : Nat → BitVec 64) (F : Nat → Int) (y j : Nat) : absB a F (8 * y + 8) j = if j = y then absB a F (8 * y) j ^^^ shB (F (8 * y)) 0 ^^^ shB (F (8 * y + 1)) 8 ^^^ shB (F (8 * y + 2)) 16 ^^^ shB (F (8 * y + 3)) 24 ^^^ shB (F (8 * y + 4)) 32 ^^^ shB (F (8 * y + 5)) 40 ^^^ shB (F (8 * y + 6)) 48 ^^^ shB (F (8 * y + 7)) 56 else absB a F (8 * y) j := by
  have s : ∀ k, k < 8 → absB a F (8 * y + k + 1) j = if j = y then absB a F (8 * y + k) j ^^^ shB (F (8 * y + k)) (k * 8) else absB a F (8 * y + k) j := by
    intro k hk
    show (if j = (8 * y + k) / 8 then absB a F (8 * y + k) j ^^^ shB (F (8 * y + k)) ((8 * y + k) % 8 * 8) else absB a F (8 * y + k) j) = _
    rw [show (8 * y + k) / 8 = y by omega, show (8 * y + k) % 8 = k by omega]
  have s0 := s 0 (by decide)
  have s1 := s 1 (by decide)
  have s2 := s 2 (by decide)
  have s3 := s 3 (by decide)
  have s4 := s 4 (by decide)
  have s5 := s 5 (by decide)
  have s6 := s 6 (by decide)
  have s7 := s 7 (by decide)
  by_cases c : j = y
  · rw [if_pos c] at s0 s1 s2 s3 s4 s5 s6 s7 ⊢
    rw [s7, s6, s5, s4, s3, s2, s1, s0]
    rfl
  · rw [if_neg c] at s0 s1 s2 s3 s4 s5 s6 s7 ⊢
    rw [s7, s6, s5, s4, s3, s2, s1, s0]
    rfl
theorem shx (u w : BitVec 64) : (u ^^^ w) <<< 8 = u <<< 8 ^^^ w <<< 8 := BitVec.shiftLeft_xor_distrib ..
theorem shs (u : BitVec 64) (k m : Nat) (h : k + 8 = m) : (u <<< k) <<< 8 = u <<< m := by rw [← h, BitVec.shiftLeft_add]
theorem xor_bits : ∀ x c0 c1 c2 c3 c4 c5 c6 c7 : Bool, (x ^^ (((((((c7 ^^ c6) ^^ c5) ^^ c4) ^^ c3) ^^ c2) ^^ c1) ^^ c0)) = ((((((((x ^^ c0) ^^ c1) ^^ c2) ^^ c3) ^^ c4) ^^ c5) ^^ c6) ^^ c7) := by decide
theorem xor_turn (x c0 c1 c2 c3 c4 c5 c6 c7 : BitVec 64) : x ^^^ (c7 ^^^ c6 ^^^ c5 ^^^ c4 ^^^ c3 ^^^ c2 ^^^ c1 ^^^ c0) = x ^^^ c0 ^^^ c1 ^^^ c2 ^^^ c3 ^^^ c4 ^^^ c5 ^^^ c6 ^^^ c7 := by
  apply BitVec.eq_of_getLsbD_eq
  intro i _
  simp only [BitVec.getLsbD_xor]
  exact xor_bits ..
theorem nest8 (x b0 b1 b2 b3 b4 b5 b6 b7 : BitVec 64) : x ^^^ ((((((((b7 <<< 8 ^^^ b6) <<< 8 ^^^ b5) <<< 8 ^^^ b4) <<< 8 ^^^ b3) <<< 8 ^^^ b2) <<< 8 ^^^ b1) <<< 8) ^^^ b0) =
    x ^^^ b0 <<< 0 ^^^ b1 <<< 8 ^^^ b2 <<< 16 ^^^ b3 <<< 24 ^^^ b4 <<< 32 ^^^ b5 <<< 40 ^^^ b6 <<< 48 ^^^ b7 <<< 56 := by
  have z : b0 <<< 0 = b0 := BitVec.shiftLeft_zero ..
  rw [z]
  have e0 : (b7 <<< 8 ^^^ b6) <<< 8 = b7 <<< 16 ^^^ b6 <<< 8 := by rw [shx, shs b7 8 16 rfl]
  have e1 : (b7 <<< 16 ^^^ b6 <<< 8 ^^^ b5) <<< 8 = b7 <<< 24 ^^^ b6 <<< 16 ^^^ b5 <<< 8 := by rw [shx, shx, shs b7 16 24 rfl, shs b6 8 16 rfl]
  have e2 : (b7 <<< 24 ^^^ b6 <<< 16 ^^^ b5 <<< 8 ^^^ b4) <<< 8 = b7 <<< 32 ^^^ b6 <<< 24 ^^^ b5 <<< 16 ^^^ b4 <<< 8 := by rw [shx, shx, shx, shs b7 24 32 rfl, shs b6 16 24 rfl, shs b5 8 16 rfl]
  have e3 : (b7 <<< 32 ^^^ b6 <<< 24 ^^^ b5 <<< 16 ^^^ b4 <<< 8 ^^^ b3) <<< 8 = b7 <<< 40 ^^^ b6 <<< 32 ^^^ b5 <<< 24 ^^^ b4 <<< 16 ^^^ b3 <<< 8 := by rw [shx, shx, shx, shx, shs b7 32 40 rfl, shs b6 24 32 rfl, shs b5 16 24 rfl, shs b4 8 16 rfl]
  have e4 : (b7 <<< 40 ^^^ b6 <<< 32 ^^^ b5 <<< 24 ^^^ b4 <<< 16 ^^^ b3 <<< 8 ^^^ b2) <<< 8 = b7 <<< 48 ^^^ b6 <<< 40 ^^^ b5 <<< 32 ^^^ b4 <<< 24 ^^^ b3 <<< 16 ^^^ b2 <<< 8 := by rw [shx, shx, shx, shx, shx, shs b7 40 48 rfl, shs b6 32 40 rfl, shs b5 24 32 rfl, shs b4 16 24 rfl, shs b3 8 16 rfl]
  have e5 : (b7 <<< 48 ^^^ b6 <<< 40 ^^^ b5 <<< 32 ^^^ b4 <<< 24 ^^^ b3 <<< 16 ^^^ b2 <<< 8 ^^^ b1) <<< 8 = b7 <<< 56 ^^^ b6 <<< 48 ^^^ b5 <<< 40 ^^^ b4 <<< 32 ^^^ b3 <<< 24 ^^^ b2 <<< 16 ^^^ b1 <<< 8 := by rw [shx, shx, shx, shx, shx, shx, shs b7 48 56 rfl, shs b6 40 48 rfl, shs b5 32 40 rfl, shs b4 24 32 rfl, shs b3 16 24 rfl, shs b2 8 16 rfl]
  rw [e0, e1, e2, e3, e4, e5]
  exact xor_turn ..
theorem ok_badSponge (L H : Nat → Int) (N : Int) : Owes Tryd.prog Cx.none [(4, .inv (invBad L H N))] 30 Tryd.f12 [sSp L H N] (.one (sB (!mayG H N))) := by
  rw [vc_badSponge]
  intro x1
  have e1 : x1 = decide (N < 0) := rfl
  clear_value x1
  subst e1
  refine ⟨fun h => h, fun h => h, fun h => by rw [h]; rfl, fun h => ?_, fun h => ?_⟩
  · have hm : mayG H N = false := by
      rw [Bool.eq_false_iff]
      intro hm
      obtain ⟨⟨h1, h2⟩, _⟩ := (mayG_iff H N).1 hm
      simp only [Bool.or_eq_true, decide_eq_true_eq] at h
      omega
    rw [hm]; rfl
  · simp only [Bool.or_eq_false_iff, decide_eq_false_iff_not] at h
    have hN : 0 ≤ N ∧ N < 136 := by omega
    refine ⟨fun y => rfl, 0, ⟨hN.1, hN.2, by omega, fun j hj => absurd hj (Nat.not_lt_zero _)⟩, rfl, by omega, ⟨fun _ _ => rfl, fun _ _ => rfl, rfl, trivial⟩, rfl, fun y hy => ⟨fun hlt => ?_, fun hge => ?_⟩⟩
    · have hlt : ((N.toNat + y : Nat) : Int) < 136 := of_decide_eq_true hlt
      refine ⟨⟨by omega, hlt⟩, ⟨by omega, hlt⟩, fun hb => ?_, fun hb => ⟨y + 1, ⟨hN.1, hN.2, by omega, fun j hj => ?_⟩, rfl, ?_, ⟨fun _ _ => rfl, fun _ _ => rfl, rfl, trivial⟩, rfl, by omega⟩⟩
      · have hm : mayG H N = false := by
          rw [Bool.eq_false_iff]
          intro hm
          have := ((mayG_iff H N).1 hm).2 y (by omega)
          rw [Int.toNat_natCast, this] at hb
          exact absurd hb (by decide)
        rw [hm]; rfl
      · rcases Nat.lt_or_ge j y with c | c
        · exact hy.2.2.2 j c
        · have : j = y := by omega
          subst this
          rw [Int.toNat_natCast] at hb
          simpa using hb
      · rw [IntKind.wrap_i64]; omega
    · have hge : ¬ ((N.toNat + y : Nat) : Int) < 136 := of_decide_eq_false hge
      have hm : mayG H N = true := (mayG_iff H N).2 ⟨hN, fun j hj => hy.2.2.2 j (by omega)⟩
      rw [hm]; rfl
theorem card_badSponge : FnOKg Tryd.prog [] 12 (specSp (fun _ _ _ => []) fun L H N => .one (sB (!mayG H N))) :=
  FnOK_Sp (cx := Cx.none) (by intro p hp; cases hp) (iv := fun L H N => [(4, .inv (invBad L H N))]) (N := 30) Tryd.func12 (by kernel_rfl) (by kernel_rfl) (fun _ _ _ => trivial) fun L H N _ => ok_badSponge L H N
theorem ok_soaked (a : Nat → BitVec 64) (s : ByteArray) (hs : s.size = 136) : Owes Tryd.prog ⟨[(17, specLanes 25 25 turnB)], [], 0⟩ [(2, .inv (invSoaked a s))] 30 Tryd.f13 [sRow .u64 25 (fun i => lw (a i)), .sc (.val (.string s))] (.one (sRow .u64 25 fun i => lw (turnB (absB a (strF s) 136) i))) := by
  rw [vc_soaked]
  refine ⟨fun y => rfl, 0, by omega, rfl, rfl, ⟨fun j _ => rfl, trivial⟩, rfl, rfl, fun y hy => ⟨fun hlt => ?_, fun hge => ?_⟩⟩
  · have hlt : ((8 * y : Nat) : Int) < 136 := of_decide_eq_true hlt
    have w : ∀ k : Int, 0 ≤ k → k < 9 → IntKind.i64.wrap (((8 * y : Nat) : Int) + k) = ((8 * y : Nat) : Int) + k := fun k h1 h2 => by rw [IntKind.wrap_i64]; omega
    have n : ∀ (k : Int) (m : Nat), 0 ≤ k → k < 9 → k = m → (IntKind.i64.wrap (((8 * y : Nat) : Int) + k)).toNat = 8 * y + m := fun k m h1 h2 h3 => by rw [w k h1 h2]; omega
    have hd : IntKind.i64.wrap (((8 * y : Nat) : Int).tdiv 8) = (y : Int) := by
      rw [Int.tdiv_eq_ediv_of_nonneg (by omega), IntKind.wrap_i64]; omega
    rw [n 7 7 (by decide) (by decide) rfl, n 6 6 (by decide) (by decide) rfl, n 5 5 (by decide) (by decide) rfl, n 4 4 (by decide) (by decide) rfl, n 3 3 (by decide) (by decide) rfl, n 2 2 (by decide) (by decide) rfl, n 1 1 (by decide) (by decide) rfl, n 0 0 (by decide) (by decide) rfl, hd, Int.toNat_natCast]
    refine ⟨⟨by rw [w 7 (by decide) (by decide)]; omega, by omega⟩, ⟨by rw [w 6 (by decide) (by decide)]; omega, by omega⟩, ⟨by rw [w 5 (by decide) (by decide)]; omega, by omega⟩, ⟨by rw [w 4 (by decide) (by decide)]; omega, by omega⟩, ⟨by rw [w 3 (by decide) (by decide)]; omega, by omega⟩, ⟨by rw [w 2 (by decide) (by decide)]; omega, by omega⟩, ⟨by rw [w 1 (by decide) (by decide)]; omega, by omega⟩, ⟨by rw [w 0 (by decide) (by decide)]; omega, by omega⟩, ⟨by omega, by omega⟩, ⟨by omega, by omega⟩, ⟨by omega, by omega⟩, ⟨by omega, by omega⟩, y + 1, by omega, rfl, by rw [w 8 (by decide) (by decide)]; omega, ⟨fun j _ => ?_, trivial⟩, rfl, rfl, by omega⟩
    rw [show 8 * (y + 1) = 8 * y + 8 by omega, abs8]
    by_cases c : j = y
    · subst c
      rw [if_pos rfl, if_pos rfl, byte_first, byte_step, byte_step, byte_step, byte_step, byte_step, byte_step, byte_step, ofInt_lw, ofInt_lw, wrap_nat, nest8]
      simp only [strF]
      rw [shB_byte _ (by decide), shB_byte _ (by decide), shB_byte _ (by decide), shB_byte _ (by decide), shB_byte _ (by decide), shB_byte _ (by decide), shB_byte _ (by decide), shB_byte _ (by decide)]
      rfl
    · rw [if_neg c, if_neg c]
  · have hge : ¬ ((8 * y : Nat) : Int) < 136 := of_decide_eq_false hge
    have : y = 17 := by omega
    subst this
    exact ⟨lanes_lw _ _, fun j _ => by rw [ofRow_lw], trivial⟩
end Go.Proofs.YtfoklomipdkomaaDoor
end

section
/-
  The duty of the reference's end.
-/
namespace Go.Proofs.YtfoklomipdkomaaDoor
open Go Go.Sx Go.RowKit
def specStr25 (F : (Nat → BitVec 64) → ByteArray → Nat → BitVec 64) : FSpec := fun args =>
  match args with
  | [x, .sc (.val (.string s))] => match asRow .u64 25 x with
    | some g => some ([lanes 25 g, s.size = 136], .one (sRow .u64 25 fun i => lw (F (ofRow g) s i)))
    | none => none
  | _ => none
def cxWrung (T : (Nat → BitVec 64) → Nat → BitVec 64) : Cx := ⟨[(12, specSp (fun _ _ _ => []) fun _ H N => .one (sB (!mayG H N))), (13, specStr25 fun a s => T (absB a (strF s) 136))], [], 0⟩
def endT (T : (Nat → BitVec 64) → Nat → BitVec 64) (L H : Nat → Int) (N : Int) : SV := .tup [sRow .u8 32 (fun j => if mayG H N then firstG (fun i => lw (T (absB (ofRow L) (padB H N.toNat) 136) i)) j else 0), sI .i64 (if mayG H N then 0 else 12)]
-- VC vc_Wrung HASH 5a5058a1b64fc157
theorem vc_Wrung (T : (Nat → BitVec 64) → Nat → BitVec 64) (L H : Nat → Int) (N : Int) :
    Owes Tryd.prog (cxWrung T) [] 40 Tryd.f15 [sSp L H N] (endT T L H N) =
    (let x1 : Int := if mayG H N = Bool.true then Go.Sx.firstG (fun (i : Nat) => Go.Sx.lw (T (Go.Sx.absB (Go.Sx.ofRow L) (Go.Sx.padB H N.toNat) (136 : Nat)) i)) (0 : Nat) else (0 : Int); let x2 : Int := if mayG H N = Bool.true then Go.Sx.firstG (fun (i : Nat) => Go.Sx.lw (T (Go.Sx.absB (Go.Sx.ofRow L) (Go.Sx.padB H N.toNat) (136 : Nat)) i)) (1 : Nat) else (0 : Int); let x3 : Int := if mayG H N = Bool.true then Go.Sx.firstG (fun (i : Nat) => Go.Sx.lw (T (Go.Sx.absB (Go.Sx.ofRow L) (Go.Sx.padB H N.toNat) (136 : Nat)) i)) (2 : Nat) else (0 : Int); let x4 : Int := if mayG H N = Bool.true then Go.Sx.firstG (fun (i : Nat) => Go.Sx.lw (T (Go.Sx.absB (Go.Sx.ofRow L) (Go.Sx.padB H N.toNat) (136 : Nat)) i)) (3 : Nat) else (0 : Int); let x5 : Int := if mayG H N = Bool.true then Go.Sx.firstG (fun (i : Nat) => Go.Sx.lw (T (Go.Sx.absB (Go.Sx.ofRow L) (Go.Sx.padB H N.toNat) (136 : Nat)) i)) (4 : Nat) else (0 : Int); let x6 : Int := if mayG H N = Bool.true then Go.Sx.firstG (fun (i : Nat) => Go.Sx.lw (T (Go.Sx.absB (Go.Sx.ofRow L) (Go.Sx.padB H N.toNat) (136 : Nat)) i)) (5 : Nat) else (0 : Int); let x7 : Int := if mayG H N = Bool.true then Go.Sx.firstG (fun (i : Nat) => Go.Sx.lw (T (Go.Sx.absB (Go.Sx.ofRow L) (Go.Sx.padB H N.toNat) (136 : Nat)) i)) (6 : Nat) else (0 : Int); let x8 : Int := if mayG H N = Bool.true then Go.Sx.firstG (fun (i : Nat) => Go.Sx.lw (T (Go.Sx.absB (Go.Sx.ofRow L) (Go.Sx.padB H N.toNat) (136 : Nat)) i)) (7 : Nat) else (0 : Int); let x9 : Int := if mayG H N = Bool.true then Go.Sx.firstG (fun (i : Nat) => Go.Sx.lw (T (Go.Sx.absB (Go.Sx.ofRow L) (Go.Sx.padB H N.toNat) (136 : Nat)) i)) (8 : Nat) else (0 : Int); let x10 : Int := if mayG H N = Bool.true then Go.Sx.firstG (fun (i : Nat) => Go.Sx.lw (T (Go.Sx.absB (Go.Sx.ofRow L) (Go.Sx.padB H N.toNat) (136 : Nat)) i)) (9 : Nat) else (0 : Int); let x11 : Int := if mayG H N = Bool.true then Go.Sx.firstG (fun (i : Nat) => Go.Sx.lw (T (Go.Sx.absB (Go.Sx.ofRow L) (Go.Sx.padB H N.toNat) (136 : Nat)) i)) (10 : Nat) else (0 : Int); let x12 : Int := if mayG H N = Bool.true then Go.Sx.firstG (fun (i : Nat) => Go.Sx.lw (T (Go.Sx.absB (Go.Sx.ofRow L) (Go.Sx.padB H N.toNat) (136 : Nat)) i)) (11 : Nat) else (0 : Int); let x13 : Int := if mayG H N = Bool.true then Go.Sx.firstG (fun (i : Nat) => Go.Sx.lw (T (Go.Sx.absB (Go.Sx.ofRow L) (Go.Sx.padB H N.toNat) (136 : Nat)) i)) (12 : Nat) else (0 : Int); let x14 : Int := if mayG H N = Bool.true then Go.Sx.firstG (fun (i : Nat) => Go.Sx.lw (T (Go.Sx.absB (Go.Sx.ofRow L) (Go.Sx.padB H N.toNat) (136 : Nat)) i)) (13 : Nat) else (0 : Int); let x15 : Int := if mayG H N = Bool.true then Go.Sx.firstG (fun (i : Nat) => Go.Sx.lw (T (Go.Sx.absB (Go.Sx.ofRow L) (Go.Sx.padB H N.toNat) (136 : Nat)) i)) (14 : Nat) else (0 : Int); let x16 : Int := if mayG H N = Bool.true then Go.Sx.firstG (fun (i : Nat) => Go.Sx.lw (T (Go.Sx.absB (Go.Sx.ofRow L) (Go.Sx.padB H N.toNat) (136 : Nat)) i)) (15 : Nat) else (0 : Int); let x17 : Int := if mayG H N = Bool.true then Go.Sx.firstG (fun (i : Nat) => Go.Sx.lw (T (Go.Sx.absB (Go.Sx.ofRow L) (Go.Sx.padB H N.toNat) (136 : Nat)) i)) (16 : Nat) else (0 : Int); let x18 : Int := if mayG H N = Bool.true then Go.Sx.firstG (fun (i : Nat) => Go.Sx.lw (T (Go.Sx.absB (Go.Sx.ofRow L) (Go.Sx.padB H N.toNat) (136 : Nat)) i)) (17 : Nat) else (0 : Int); let x19 : Int := if mayG H N = Bool.true then Go.Sx.firstG (fun (i : Nat) => Go.Sx.lw (T (Go.Sx.absB (Go.Sx.ofRow L) (Go.Sx.padB H N.toNat) (136 : Nat)) i)) (18 : Nat) else (0 : Int); let x20 : Int := if mayG H N = Bool.true then Go.Sx.firstG (fun (i : Nat) => Go.Sx.lw (T (Go.Sx.absB (Go.Sx.ofRow L) (Go.Sx.padB H N.toNat) (136 : Nat)) i)) (19 : Nat) else (0 : Int); let x21 : Int := if mayG H N = Bool.true then Go.Sx.firstG (fun (i : Nat) => Go.Sx.lw (T (Go.Sx.absB (Go.Sx.ofRow L) (Go.Sx.padB H N.toNat) (136 : Nat)) i)) (20 : Nat) else (0 : Int); let x22 : Int := if mayG H N = Bool.true then Go.Sx.firstG (fun (i : Nat) => Go.Sx.lw (T (Go.Sx.absB (Go.Sx.ofRow L) (Go.Sx.padB H N.toNat) (136 : Nat)) i)) (21 : Nat) else (0 : Int); let x23 : Int := if mayG H N = Bool.true then Go.Sx.firstG (fun (i : Nat) => Go.Sx.lw (T (Go.Sx.absB (Go.Sx.ofRow L) (Go.Sx.padB H N.toNat) (136 : Nat)) i)) (22 : Nat) else (0 : Int); let x24 : Int := if mayG H N = Bool.true then Go.Sx.firstG (fun (i : Nat) => Go.Sx.lw (T (Go.Sx.absB (Go.Sx.ofRow L) (Go.Sx.padB H N.toNat) (136 : Nat)) i)) (23 : Nat) else (0 : Int); let x25 : Int := if mayG H N = Bool.true then Go.Sx.firstG (fun (i : Nat) => Go.Sx.lw (T (Go.Sx.absB (Go.Sx.ofRow L) (Go.Sx.padB H N.toNat) (136 : Nat)) i)) (24 : Nat) else (0 : Int); let x26 : Int := if mayG H N = Bool.true then Go.Sx.firstG (fun (i : Nat) => Go.Sx.lw (T (Go.Sx.absB (Go.Sx.ofRow L) (Go.Sx.padB H N.toNat) (136 : Nat)) i)) (25 : Nat) else (0 : Int); let x27 : Int := if mayG H N = Bool.true then Go.Sx.firstG (fun (i : Nat) => Go.Sx.lw (T (Go.Sx.absB (Go.Sx.ofRow L) (Go.Sx.padB H N.toNat) (136 : Nat)) i)) (26 : Nat) else (0 : Int); let x28 : Int := if mayG H N = Bool.true then Go.Sx.firstG (fun (i : Nat) => Go.Sx.lw (T (Go.Sx.absB (Go.Sx.ofRow L) (Go.Sx.padB H N.toNat) (136 : Nat)) i)) (27 : Nat) else (0 : Int); let x29 : Int := if mayG H N = Bool.true then Go.Sx.firstG (fun (i : Nat) => Go.Sx.lw (T (Go.Sx.absB (Go.Sx.ofRow L) (Go.Sx.padB H N.toNat) (136 : Nat)) i)) (28 : Nat) else (0 : Int); let x30 : Int := if mayG H N = Bool.true then Go.Sx.firstG (fun (i : Nat) => Go.Sx.lw (T (Go.Sx.absB (Go.Sx.ofRow L) (Go.Sx.padB H N.toNat) (136 : Nat)) i)) (29 : Nat) else (0 : Int); let x31 : Int := if mayG H N = Bool.true then Go.Sx.firstG (fun (i : Nat) => Go.Sx.lw (T (Go.Sx.absB (Go.Sx.ofRow L) (Go.Sx.padB H N.toNat) (136 : Nat)) i)) (30 : Nat) else (0 : Int); let x32 : Int := if mayG H N = Bool.true then Go.Sx.firstG (fun (i : Nat) => Go.Sx.lw (T (Go.Sx.absB (Go.Sx.ofRow L) (Go.Sx.padB H N.toNat) (136 : Nat)) i)) (31 : Nat) else (0 : Int); let x33 : Int := if mayG H N = Bool.true then (0 : Int) else (12 : Int); let x34 : Int := Go.IntKind.u8.wrap (↑(BitVec.ofInt (8 : Nat) (H N.toNat) ^^^ BitVec.ofInt (8 : Nat) (1 : Int)).toNat : Int); ((!mayG H N) = Bool.true → ((0 : Int) = x1 ∧ (0 : Int) = x2 ∧ (0 : Int) = x3 ∧ (0 : Int) = x4 ∧ (0 : Int) = x5 ∧ (0 : Int) = x6 ∧ (0 : Int) = x7 ∧ (0 : Int) = x8 ∧ (0 : Int) = x9 ∧ (0 : Int) = x10 ∧ (0 : Int) = x11 ∧ (0 : Int) = x12 ∧ (0 : Int) = x13 ∧ (0 : Int) = x14 ∧ (0 : Int) = x15 ∧ (0 : Int) = x16 ∧ (0 : Int) = x17 ∧ (0 : Int) = x18 ∧ (0 : Int) = x19 ∧ (0 : Int) = x20 ∧ (0 : Int) = x21 ∧ (0 : Int) = x22 ∧ (0 : Int) = x23 ∧ (0 : Int) = x24 ∧ (0 : Int) = x25 ∧ (0 : Int) = x26 ∧ (0 : Int) = x27 ∧ (0 : Int) = x28 ∧ (0 : Int) = x29 ∧ (0 : Int) = x30 ∧ (0 : Int) = x31 ∧ (0 : Int) = x32 ∧ True) ∧ (12 : Int) = x33) ∧ ((!mayG H N) = Bool.false → ((0 : Int) ≤ N ∧ N < (136 : Int)) ∧ ((0 : Int) ≤ N ∧ N < (136 : Int)) ∧ ((0 : Int) ≤ N ∧ N < (136 : Int)) ∧ ((0 : Int) ≤ N ∧ N < (136 : Int)) ∧ (∀ (i : Nat), i < (25 : Nat) → (0 : Int) ≤ L i ∧ L i < (18446744073709551616 : Int)) ∧ (Go.Sx.bytesI (Go.Sx.intsL [Go.Sx.SK.f Go.IntKind.u8 (135 : Nat) fun (j : Nat) => if j = N.toNat then x34 else H j, Go.Sx.SK.c (Go.Sx.SC.val (Go.Value.int Go.IntKind.u8 (Go.IntKind.u8.wrap (↑(BitVec.ofInt (8 : Nat) (if (135 : Nat) = N.toNat then x34 else H (135 : Nat)) ^^^ BitVec.ofInt (8 : Nat) (128 : Int)).toNat : Int))))])).size = (136 : Nat) ∧ (Go.IntKind.u8.wrap ((Go.Sx.lw (T (Go.Sx.absB (Go.Sx.ofRow L) (strF (Go.Sx.bytesI (Go.Sx.intsL [Go.Sx.SK.f Go.IntKind.u8 (135 : Nat) fun (j : Nat) => if j = N.toNat then x34 else H j, Go.Sx.SK.c (Go.Sx.SC.val (Go.Value.int Go.IntKind.u8 (Go.IntKind.u8.wrap (↑(BitVec.ofInt (8 : Nat) (if (135 : Nat) = N.toNat then x34 else H (135 : Nat)) ^^^ BitVec.ofInt (8 : Nat) (128 : Int)).toNat : Int))))]))) (136 : Nat)) (0 : Nat))).fdiv (1 : Int)) = x1 ∧ Go.IntKind.u8.wrap ((Go.Sx.lw (T (Go.Sx.absB (Go.Sx.ofRow L) (strF (Go.Sx.bytesI (Go.Sx.intsL [Go.Sx.SK.f Go.IntKind.u8 (135 : Nat) fun (j : Nat) => if j = N.toNat then x34 else H j, Go.Sx.SK.c (Go.Sx.SC.val (Go.Value.int Go.IntKind.u8 (Go.IntKind.u8.wrap (↑(BitVec.ofInt (8 : Nat) (if (135 : Nat) = N.toNat then x34 else H (135 : Nat)) ^^^ BitVec.ofInt (8 : Nat) (128 : Int)).toNat : Int))))]))) (136 : Nat)) (0 : Nat))).fdiv (256 : Int)) = x2 ∧ Go.IntKind.u8.wrap ((Go.Sx.lw (T (Go.Sx.absB (Go.Sx.ofRow L) (strF (Go.Sx.bytesI (Go.Sx.intsL [Go.Sx.SK.f Go.IntKind.u8 (135 : Nat) fun (j : Nat) => if j = N.toNat then x34 else H j, Go.Sx.SK.c (Go.Sx.SC.val (Go.Value.int Go.IntKind.u8 (Go.IntKind.u8.wrap (↑(BitVec.ofInt (8 : Nat) (if (135 : Nat) = N.toNat then x34 else H (135 : Nat)) ^^^ BitVec.ofInt (8 : Nat) (128 : Int)).toNat : Int))))]))) (136 : Nat)) (0 : Nat))).fdiv (65536 : Int)) = x3 ∧ Go.IntKind.u8.wrap ((Go.Sx.lw (T (Go.Sx.absB (Go.Sx.ofRow L) (strF (Go.Sx.bytesI (Go.Sx.intsL [Go.Sx.SK.f Go.IntKind.u8 (135 : Nat) fun (j : Nat) => if j = N.toNat then x34 else H j, Go.Sx.SK.c (Go.Sx.SC.val (Go.Value.int Go.IntKind.u8 (Go.IntKind.u8.wrap (↑(BitVec.ofInt (8 : Nat) (if (135 : Nat) = N.toNat then x34 else H (135 : Nat)) ^^^ BitVec.ofInt (8 : Nat) (128 : Int)).toNat : Int))))]))) (136 : Nat)) (0 : Nat))).fdiv (16777216 : Int)) = x4 ∧ Go.IntKind.u8.wrap ((Go.Sx.lw (T (Go.Sx.absB (Go.Sx.ofRow L) (strF (Go.Sx.bytesI (Go.Sx.intsL [Go.Sx.SK.f Go.IntKind.u8 (135 : Nat) fun (j : Nat) => if j = N.toNat then x34 else H j, Go.Sx.SK.c (Go.Sx.SC.val (Go.Value.int Go.IntKind.u8 (Go.IntKind.u8.wrap (↑(BitVec.ofInt (8 : Nat) (if (135 : Nat) = N.toNat then x34 else H (135 : Nat)) ^^^ BitVec.ofInt (8 : Nat) (128 : Int)).toNat : Int))))]))) (136 : Nat)) (0 : Nat))).fdiv (4294967296 : Int)) = x5 ∧ Go.IntKind.u8.wrap ((Go.Sx.lw (T (Go.Sx.absB (Go.Sx.ofRow L) (strF (Go.Sx.bytesI (Go.Sx.intsL [Go.Sx.SK.f Go.IntKind.u8 (135 : Nat) fun (j : Nat) => if j = N.toNat then x34 else H j, Go.Sx.SK.c (Go.Sx.SC.val (Go.Value.int Go.IntKind.u8 (Go.IntKind.u8.wrap (↑(BitVec.ofInt (8 : Nat) (if (135 : Nat) = N.toNat then x34 else H (135 : Nat)) ^^^ BitVec.ofInt (8 : Nat) (128 : Int)).toNat : Int))))]))) (136 : Nat)) (0 : Nat))).fdiv (1099511627776 : Int)) = x6 ∧ Go.IntKind.u8.wrap ((Go.Sx.lw (T (Go.Sx.absB (Go.Sx.ofRow L) (strF (Go.Sx.bytesI (Go.Sx.intsL [Go.Sx.SK.f Go.IntKind.u8 (135 : Nat) fun (j : Nat) => if j = N.toNat then x34 else H j, Go.Sx.SK.c (Go.Sx.SC.val (Go.Value.int Go.IntKind.u8 (Go.IntKind.u8.wrap (↑(BitVec.ofInt (8 : Nat) (if (135 : Nat) = N.toNat then x34 else H (135 : Nat)) ^^^ BitVec.ofInt (8 : Nat) (128 : Int)).toNat : Int))))]))) (136 : Nat)) (0 : Nat))).fdiv (281474976710656 : Int)) = x7 ∧ Go.IntKind.u8.wrap ((Go.Sx.lw (T (Go.Sx.absB (Go.Sx.ofRow L) (strF (Go.Sx.bytesI (Go.Sx.intsL [Go.Sx.SK.f Go.IntKind.u8 (135 : Nat) fun (j : Nat) => if j = N.toNat then x34 else H j, Go.Sx.SK.c (Go.Sx.SC.val (Go.Value.int Go.IntKind.u8 (Go.IntKind.u8.wrap (↑(BitVec.ofInt (8 : Nat) (if (135 : Nat) = N.toNat then x34 else H (135 : Nat)) ^^^ BitVec.ofInt (8 : Nat) (128 : Int)).toNat : Int))))]))) (136 : Nat)) (0 : Nat))).fdiv (72057594037927936 : Int)) = x8 ∧ Go.IntKind.u8.wrap ((Go.Sx.lw (T (Go.Sx.absB (Go.Sx.ofRow L) (strF (Go.Sx.bytesI (Go.Sx.intsL [Go.Sx.SK.f Go.IntKind.u8 (135 : Nat) fun (j : Nat) => if j = N.toNat then x34 else H j, Go.Sx.SK.c (Go.Sx.SC.val (Go.Value.int Go.IntKind.u8 (Go.IntKind.u8.wrap (↑(BitVec.ofInt (8 : Nat) (if (135 : Nat) = N.toNat then x34 else H (135 : Nat)) ^^^ BitVec.ofInt (8 : Nat) (128 : Int)).toNat : Int))))]))) (136 : Nat)) (1 : Nat))).fdiv (1 : Int)) = x9 ∧ Go.IntKind.u8.wrap ((Go.Sx.lw (T (Go.Sx.absB (Go.Sx.ofRow L) (strF (Go.Sx.bytesI (Go.Sx.intsL [Go.Sx.SK.f Go.IntKind.u8 (135 : Nat) fun (j : Nat) => if j = N.toNat then x34 else H j, Go.Sx.SK.c (Go.Sx.SC.val (Go.Value.int Go.IntKind.u8 (Go.IntKind.u8.wrap (↑(BitVec.ofInt (8 : Nat) (if (135 : Nat) = N.toNat then x34 else H (135 : Nat)) ^^^ BitVec.ofInt (8 : Nat) (128 : Int)).toNat : Int))))]))) (136 : Nat)) (1 : Nat))).fdiv (256 : Int)) = x10 ∧ Go.IntKind.u8.wrap ((Go.Sx.lw (T (Go.Sx.absB (Go.Sx.ofRow L) (strF (Go.Sx.bytesI (Go.Sx.intsL [Go.Sx.SK.f Go.IntKind.u8 (135 : Nat) fun (j : Nat) => if j = N.toNat then x34 else H j, Go.Sx.SK.c (Go.Sx.SC.val (Go.Value.int Go.IntKind.u8 (Go.IntKind.u8.wrap (↑(BitVec.ofInt (8 : Nat) (if (135 : Nat) = N.toNat then x34 else H (135 : Nat)) ^^^ BitVec.ofInt (8 : Nat) (128 : Int)).toNat : Int))))]))) (136 : Nat)) (1 : Nat))).fdiv (65536 : Int)) = x11 ∧ Go.IntKind.u8.wrap ((Go.Sx.lw (T (Go.Sx.absB (Go.Sx.ofRow L) (strF (Go.Sx.bytesI (Go.Sx.intsL [Go.Sx.SK.f Go.IntKind.u8 (135 : Nat) fun (j : Nat) => if j = N.toNat then x34 else H j, Go.Sx.SK.c (Go.Sx.SC.val (Go.Value.int Go.IntKind.u8 (Go.IntKind.u8.wrap (↑(BitVec.ofInt (8 : Nat) (if (135 : Nat) = N.toNat then x34 else H (135 : Nat)) ^^^ BitVec.ofInt (8 : Nat) (128 : Int)).toNat : Int))))]))) (136 : Nat)) (1 : Nat))).fdiv (16777216 : Int)) = x12 ∧ Go.IntKind.u8.wrap ((Go.Sx.lw (T (Go.Sx.absB (Go.Sx.ofRow L) (strF (Go.Sx.bytesI (Go.Sx.intsL [Go.Sx.SK.f Go.IntKind.u8 (135 : Nat) fun (j : Nat) => if j = N.toNat then x34 else H j, Go.Sx.SK.c (Go.Sx.SC.val (Go.Value.int Go.IntKind.u8 (Go.IntKind.u8.wrap (↑(BitVec.ofInt (8 : Nat) (if (135 : Nat) = N.toNat then x34 else H (135 : Nat)) ^^^ BitVec.ofInt (8 : Nat) (128 : Int)).toNat : Int))))]))) (136 : Nat)) (1 : Nat))).fdiv (4294967296 : Int)) = x13 ∧ Go.IntKind.u8.wrap ((Go.Sx.lw (T (Go.Sx.absB (Go.Sx.ofRow L) (strF (Go.Sx.bytesI (Go.Sx.intsL [Go.Sx.SK.f Go.IntKind.u8 (135 : Nat) fun (j : Nat) => if j = N.toNat then x34 else H j, Go.Sx.SK.c (Go.Sx.SC.val (Go.Value.int Go.IntKind.u8 (Go.IntKind.u8.wrap (↑(BitVec.ofInt (8 : Nat) (if (135 : Nat) = N.toNat then x34 else H (135 : Nat)) ^^^ BitVec.ofInt (8 : Nat) (128 : Int)).toNat : Int))))]))) (136 : Nat)) (1 : Nat))).fdiv (1099511627776 : Int)) = x14 ∧ Go.IntKind.u8.wrap ((Go.Sx.lw (T (Go.Sx.absB (Go.Sx.ofRow L) (strF (Go.Sx.bytesI (Go.Sx.intsL [Go.Sx.SK.f Go.IntKind.u8 (135 : Nat) fun (j : Nat) => if j = N.toNat then x34 else H j, Go.Sx.SK.c (Go.Sx.SC.val (Go.Value.int Go.IntKind.u8 (Go.IntKind.u8.wrap (↑(BitVec.ofInt (8 : Nat) (if (135 : Nat) = N.toNat then x34 else H (135 : Nat)) ^^^ BitVec.ofInt (8 : Nat) (128 : Int)).toNat : Int))))]))) (136 : Nat)) (1 : Nat))).fdiv (281474976710656 : Int)) = x15 ∧ Go.IntKind.u8.wrap ((Go.Sx.lw (T (Go.Sx.absB (Go.Sx.ofRow L) (strF (Go.Sx.bytesI (Go.Sx.intsL [Go.Sx.SK.f Go.IntKind.u8 (135 : Nat) fun (j : Nat) => if j = N.toNat then x34 else H j, Go.Sx.SK.c (Go.Sx.SC.val (Go.Value.int Go.IntKind.u8 (Go.IntKind.u8.wrap (↑(BitVec.ofInt (8 : Nat) (if (135 : Nat) = N.toNat then x34 else H (135 : Nat)) ^^^ BitVec.ofInt (8 : Nat) (128 : Int)).toNat : Int))))]))) (136 : Nat)) (1 : Nat))).fdiv (72057594037927936 : Int)) = x16 ∧ Go.IntKind.u8.wrap ((Go.Sx.lw (T (Go.Sx.absB (Go.Sx.ofRow L) (strF (Go.Sx.bytesI (Go.Sx.intsL [Go.Sx.SK.f Go.IntKind.u8 (135 : Nat) fun (j : Nat) => if j = N.toNat then x34 else H j, Go.Sx.SK.c (Go.Sx.SC.val (Go.Value.int Go.IntKind.u8 (Go.IntKind.u8.wrap (↑(BitVec.ofInt (8 : Nat) (if (135 : Nat) = N.toNat then x34 else H (135 : Nat)) ^^^ BitVec.ofInt (8 : Nat) (128 : Int)).toNat : Int))))]))) (136 : Nat)) (2 : Nat))).fdiv (1 : Int)) = x17 ∧ Go.IntKind.u8.wrap ((Go.Sx.lw (T (Go.Sx.absB (Go.Sx.ofRow L) (strF (Go.Sx.bytesI (Go.Sx.intsL [Go.Sx.SK.f Go.IntKind.u8 (135 : Nat) fun (j : Nat) => if j = N.toNat then x34 else H j, Go.Sx.SK.c (Go.Sx.SC.val (Go.Value.int Go.IntKind.u8 (Go.IntKind.u8.wrap (↑(BitVec.ofInt (8 : Nat) (if (135 : Nat) = N.toNat then x34 else H (135 : Nat)) ^^^ BitVec.ofInt (8 : Nat) (128 : Int)).toNat : Int))))]))) (136 : Nat)) (2 : Nat))).fdiv (256 : Int)) = x18 ∧ Go.IntKind.u8.wrap ((Go.Sx.lw (T (Go.Sx.absB (Go.Sx.ofRow L) (strF (Go.Sx.bytesI (Go.Sx.intsL [Go.Sx.SK.f Go.IntKind.u8 (135 : Nat) fun (j : Nat) => if j = N.toNat then x34 else H j, Go.Sx.SK.c (Go.Sx.SC.val (Go.Value.int Go.IntKind.u8 (Go.IntKind.u8.wrap (↑(BitVec.ofInt (8 : Nat) (if (135 : Nat) = N.toNat then x34 else H (135 : Nat)) ^^^ BitVec.ofInt (8 : Nat) (128 : Int)).toNat : Int))))]))) (136 : Nat)) (2 : Nat))).fdiv (65536 : Int)) = x19 ∧ Go.IntKind.u8.wrap ((Go.Sx.lw (T (Go.Sx.absB (Go.Sx.ofRow L) (strF (Go.Sx.bytesI (Go.Sx.intsL [Go.Sx.SK.f Go.IntKind.u8 (135 : Nat) fun (j : Nat) => if j = N.toNat then x34 else H j, Go.Sx.SK.c (Go.Sx.SC.val (Go.Value.int Go.IntKind.u8 (Go.IntKind.u8.wrap (↑(BitVec.ofInt (8 : Nat) (if (135 : Nat) = N.toNat then x34 else H (135 : Nat)) ^^^ BitVec.ofInt (8 : Nat) (128 : Int)).toNat : Int))))]))) (136 : Nat)) (2 : Nat))).fdiv (16777216 : Int)) = x20 ∧ Go.IntKind.u8.wrap ((Go.Sx.lw (T (Go.Sx.absB (Go.Sx.ofRow L) (strF (Go.Sx.bytesI (Go.Sx.intsL [Go.Sx.SK.f Go.IntKind.u8 (135 : Nat) fun (j : Nat) => if j = N.toNat then x34 else H j, Go.Sx.SK.c (Go.Sx.SC.val (Go.Value.int Go.IntKind.u8 (Go.IntKind.u8.wrap (↑(BitVec.ofInt (8 : Nat) (if (135 : Nat) = N.toNat then x34 else H (135 : Nat)) ^^^ BitVec.ofInt (8 : Nat) (128 : Int)).toNat : Int))))]))) (136 : Nat)) (2 : Nat))).fdiv (4294967296 : Int)) = x21 ∧ Go.IntKind.u8.wrap ((Go.Sx.lw (T (Go.Sx.absB (Go.Sx.ofRow L) (strF (Go.Sx.bytesI (Go.Sx.intsL [Go.Sx.SK.f Go.IntKind.u8 (135 : Nat) fun (j : Nat) => if j = N.toNat then x34 else H j, Go.Sx.SK.c (Go.Sx.SC.val (Go.Value.int Go.IntKind.u8 (Go.IntKind.u8.wrap (↑(BitVec.ofInt (8 : Nat) (if (135 : Nat) = N.toNat then x34 else H (135 : Nat)) ^^^ BitVec.ofInt (8 : Nat) (128 : Int)).toNat : Int))))]))) (136 : Nat)) (2 : Nat))).fdiv (1099511627776 : Int)) = x22 ∧ Go.IntKind.u8.wrap ((Go.Sx.lw (T (Go.Sx.absB (Go.Sx.ofRow L) (strF (Go.Sx.bytesI (Go.Sx.intsL [Go.Sx.SK.f Go.IntKind.u8 (135 : Nat) fun (j : Nat) => if j = N.toNat then x34 else H j, Go.Sx.SK.c (Go.Sx.SC.val (Go.Value.int Go.IntKind.u8 (Go.IntKind.u8.wrap (↑(BitVec.ofInt (8 : Nat) (if (135 : Nat) = N.toNat then x34 else H (135 : Nat)) ^^^ BitVec.ofInt (8 : Nat) (128 : Int)).toNat : Int))))]))) (136 : Nat)) (2 : Nat))).fdiv (281474976710656 : Int)) = x23 ∧ Go.IntKind.u8.wrap ((Go.Sx.lw (T (Go.Sx.absB (Go.Sx.ofRow L) (strF (Go.Sx.bytesI (Go.Sx.intsL [Go.Sx.SK.f Go.IntKind.u8 (135 : Nat) fun (j : Nat) => if j = N.toNat then x34 else H j, Go.Sx.SK.c (Go.Sx.SC.val (Go.Value.int Go.IntKind.u8 (Go.IntKind.u8.wrap (↑(BitVec.ofInt (8 : Nat) (if (135 : Nat) = N.toNat then x34 else H (135 : Nat)) ^^^ BitVec.ofInt (8 : Nat) (128 : Int)).toNat : Int))))]))) (136 : Nat)) (2 : Nat))).fdiv (72057594037927936 : Int)) = x24 ∧ Go.IntKind.u8.wrap ((Go.Sx.lw (T (Go.Sx.absB (Go.Sx.ofRow L) (strF (Go.Sx.bytesI (Go.Sx.intsL [Go.Sx.SK.f Go.IntKind.u8 (135 : Nat) fun (j : Nat) => if j = N.toNat then x34 else H j, Go.Sx.SK.c (Go.Sx.SC.val (Go.Value.int Go.IntKind.u8 (Go.IntKind.u8.wrap (↑(BitVec.ofInt (8 : Nat) (if (135 : Nat) = N.toNat then x34 else H (135 : Nat)) ^^^ BitVec.ofInt (8 : Nat) (128 : Int)).toNat : Int))))]))) (136 : Nat)) (3 : Nat))).fdiv (1 : Int)) = x25 ∧ Go.IntKind.u8.wrap ((Go.Sx.lw (T (Go.Sx.absB (Go.Sx.ofRow L) (strF (Go.Sx.bytesI (Go.Sx.intsL [Go.Sx.SK.f Go.IntKind.u8 (135 : Nat) fun (j : Nat) => if j = N.toNat then x34 else H j, Go.Sx.SK.c (Go.Sx.SC.val (Go.Value.int Go.IntKind.u8 (Go.IntKind.u8.wrap (↑(BitVec.ofInt (8 : Nat) (if (135 : Nat) = N.toNat then x34 else H (135 : Nat)) ^^^ BitVec.ofInt (8 : Nat) (128 : Int)).toNat : Int))))]))) (136 : Nat)) (3 : Nat))).fdiv (256 : Int)) = x26 ∧ Go.IntKind.u8.wrap ((Go.Sx.lw (T (Go.Sx.absB (Go.Sx.ofRow L) (strF (Go.Sx.bytesI (Go.Sx.intsL [Go.Sx.SK.f Go.IntKind.u8 (135 : Nat) fun (j : Nat) => if j = N.toNat then x34 else H j, Go.Sx.SK.c (Go.Sx.SC.val (Go.Value.int Go.IntKind.u8 (Go.IntKind.u8.wrap (↑(BitVec.ofInt (8 : Nat) (if (135 : Nat) = N.toNat then x34 else H (135 : Nat)) ^^^ BitVec.ofInt (8 : Nat) (128 : Int)).toNat : Int))))]))) (136 : Nat)) (3 : Nat))).fdiv (65536 : Int)) = x27 ∧ Go.IntKind.u8.wrap ((Go.Sx.lw (T (Go.Sx.absB (Go.Sx.ofRow L) (strF (Go.Sx.bytesI (Go.Sx.intsL [Go.Sx.SK.f Go.IntKind.u8 (135 : Nat) fun (j : Nat) => if j = N.toNat then x34 else H j, Go.Sx.SK.c (Go.Sx.SC.val (Go.Value.int Go.IntKind.u8 (Go.IntKind.u8.wrap (↑(BitVec.ofInt (8 : Nat) (if (135 : Nat) = N.toNat then x34 else H (135 : Nat)) ^^^ BitVec.ofInt (8 : Nat) (128 : Int)).toNat : Int))))]))) (136 : Nat)) (3 : Nat))).fdiv (16777216 : Int)) = x28 ∧ Go.IntKind.u8.wrap ((Go.Sx.lw (T (Go.Sx.absB (Go.Sx.ofRow L) (strF (Go.Sx.bytesI (Go.Sx.intsL [Go.Sx.SK.f Go.IntKind.u8 (135 : Nat) fun (j : Nat) => if j = N.toNat then x34 else H j, Go.Sx.SK.c (Go.Sx.SC.val (Go.Value.int Go.IntKind.u8 (Go.IntKind.u8.wrap (↑(BitVec.ofInt (8 : Nat) (if (135 : Nat) = N.toNat then x34 else H (135 : Nat)) ^^^ BitVec.ofInt (8 : Nat) (128 : Int)).toNat : Int))))]))) (136 : Nat)) (3 : Nat))).fdiv (4294967296 : Int)) = x29 ∧ Go.IntKind.u8.wrap ((Go.Sx.lw (T (Go.Sx.absB (Go.Sx.ofRow L) (strF (Go.Sx.bytesI (Go.Sx.intsL [Go.Sx.SK.f Go.IntKind.u8 (135 : Nat) fun (j : Nat) => if j = N.toNat then x34 else H j, Go.Sx.SK.c (Go.Sx.SC.val (Go.Value.int Go.IntKind.u8 (Go.IntKind.u8.wrap (↑(BitVec.ofInt (8 : Nat) (if (135 : Nat) = N.toNat then x34 else H (135 : Nat)) ^^^ BitVec.ofInt (8 : Nat) (128 : Int)).toNat : Int))))]))) (136 : Nat)) (3 : Nat))).fdiv (1099511627776 : Int)) = x30 ∧ Go.IntKind.u8.wrap ((Go.Sx.lw (T (Go.Sx.absB (Go.Sx.ofRow L) (strF (Go.Sx.bytesI (Go.Sx.intsL [Go.Sx.SK.f Go.IntKind.u8 (135 : Nat) fun (j : Nat) => if j = N.toNat then x34 else H j, Go.Sx.SK.c (Go.Sx.SC.val (Go.Value.int Go.IntKind.u8 (Go.IntKind.u8.wrap (↑(BitVec.ofInt (8 : Nat) (if (135 : Nat) = N.toNat then x34 else H (135 : Nat)) ^^^ BitVec.ofInt (8 : Nat) (128 : Int)).toNat : Int))))]))) (136 : Nat)) (3 : Nat))).fdiv (281474976710656 : Int)) = x31 ∧ Go.IntKind.u8.wrap ((Go.Sx.lw (T (Go.Sx.absB (Go.Sx.ofRow L) (strF (Go.Sx.bytesI (Go.Sx.intsL [Go.Sx.SK.f Go.IntKind.u8 (135 : Nat) fun (j : Nat) => if j = N.toNat then x34 else H j, Go.Sx.SK.c (Go.Sx.SC.val (Go.Value.int Go.IntKind.u8 (Go.IntKind.u8.wrap (↑(BitVec.ofInt (8 : Nat) (if (135 : Nat) = N.toNat then x34 else H (135 : Nat)) ^^^ BitVec.ofInt (8 : Nat) (128 : Int)).toNat : Int))))]))) (136 : Nat)) (3 : Nat))).fdiv (72057594037927936 : Int)) = x32 ∧ True) ∧ (0 : Int) = x33)) := by kernel_rfl
-- END VC
end Go.Proofs.YtfoklomipdkomaaDoor
end

section
/-
  The reference's sponge: how it ends.
-/
namespace Go.Proofs.YtfoklomipdkomaaDoor
open Go Go.Sx Go.RowKit

theorem bytesI_list (l : List Int) : (bytesI l).data.toList = l.map fun n => UInt8.ofNat n.toNat := by
  have key : ∀ (l : List Int) (b : ByteArray), (l.foldl (fun r n => r.push (UInt8.ofNat n.toNat)) b).data.toList = b.data.toList ++ l.map fun n => UInt8.ofNat n.toNat := by
    intro l
    induction l with
    | nil => intro b; simp
    | cons n l ih => intro b; rw [List.foldl_cons, ih]; simp [ByteArray.push]
  have := key l ByteArray.empty
  rw [show (ByteArray.empty).data.toList = [] from rfl, List.nil_append] at this
  exact this
theorem bytesI_sz (l : List Int) : (bytesI l).size = l.length := by
  have := congrArg List.length (bytesI_list l)
  rw [List.length_map] at this
  exact this
theorem strF_bytes {l : List Int} {j : Nat} (h : 0 ≤ l.getD j 0 ∧ l.getD j 0 < 256) : strF (bytesI l) j = l.getD j 0 := by
  unfold strF
  have e : (bytesI l).data.getD j 0 = (l.map fun n => UInt8.ofNat n.toNat).getD j 0 := by
    rw [← bytesI_list, Array.getD_eq_getD_getElem?, List.getD_eq_getElem?_getD, Array.getElem?_toList]
  rw [e]
  rcases Nat.lt_or_ge j l.length with c | c
  · rw [List.getD_eq_getElem?_getD, List.getElem?_map] 
    rw [List.getD_eq_getElem?_getD] at h ⊢
    rw [List.getElem?_eq_getElem c] at h ⊢
    simp only [Option.map_some, Option.getD_some] at h ⊢
    rw [UInt8.toNat_ofNat', Nat.mod_eq_of_lt (by omega)]
    omega
  · rw [List.getD_eq_getElem?_getD, List.getElem?_eq_none (by simpa using c), List.getD_eq_getElem?_getD, List.getElem?_eq_none c]
    rfl
theorem absB_same {a : Nat → BitVec 64} {F G : Nat → Int} : ∀ {m : Nat}, (∀ i, i < m → F i = G i) → absB a F m = absB a G m
  | 0, _ => rfl
  | m + 1, h => by
    funext j
    show (if j = m / 8 then absB a F m j ^^^ shB (F m) (m % 8 * 8) else absB a F m j) = if j = m / 8 then absB a G m j ^^^ shB (G m) (m % 8 * 8) else absB a G m j
    rw [absB_same (fun i hi => h i (by omega)), h m (by omega)]
theorem pad_row (H : Nat → Int) (n : Nat) (hn : n < 136) (hH : ∀ j, j < 136 → 0 ≤ H j ∧ H j < 256) (hz : ∀ j, n ≤ j → j < 136 → H j = 0) (l : List Int) (x : Int)
    (hx : x = IntKind.u8.wrap (((BitVec.ofInt 8 (H n) ^^^ BitVec.ofInt 8 1).toNat : Nat) : Int))
    (hl : l = intsL [SK.f .u8 135 (fun j => if j = n then x else H j), SK.c (.val (.int .u8 (IntKind.u8.wrap (((BitVec.ofInt 8 (if 135 = n then x else H 135) ^^^ BitVec.ofInt 8 128).toNat : Nat) : Int))))]) :
    l.length = 136 ∧ ∀ j, j < 136 → strF (bytesI l) j = padB H n j := by
  have x1 : x = 1 := by
    rw [hx, hz n (Nat.le_refl _) hn]; decide
  have w1 : IntKind.u8.wrap (0 + 1) = 1 := by decide
  have l' : l = (List.range 135).map (fun j => if j = n then 1 else H j) ++ [if 135 = n then 129 else 128] := by
    rw [hl, x1]
    show _ ++ [_] = _
    refine congrArg (fun z => (List.range 135).map (fun j => if j = n then 1 else H j) ++ [z]) ?_
    by_cases c : 135 = n
    · rw [if_pos c, if_pos c]; decide
    · rw [if_neg c, if_neg c, hz 135 (by omega) (by decide)]; decide
  have gl : ∀ j, j < 136 → l.getD j 0 = padB H n j := by
    intro j hj
    rw [l', List.getD_eq_getElem?_getD]
    unfold padB
    by_cases c : j = 135
    · subst c
      rw [if_pos rfl, List.getElem?_append_right (by simp)]
      unfold pad1
      by_cases d : 135 = n
      · rw [if_pos d, hz 135 (by omega) (by decide)]; simp [d]; decide
      · rw [if_neg d, hz 135 (by omega) (by decide)]; simp [d]; decide
    · rw [if_neg c, List.getElem?_append_left (by simp; omega), List.getElem?_map, List.getElem?_range (by omega)]
      unfold pad1
      by_cases d : j = n
      · rw [if_pos d, d, hz n (Nat.le_refl _) hn, w1]; simp
      · rw [if_neg d]; simp [d]
  refine ⟨by rw [l']; simp, fun j hj => ?_⟩
  rw [← gl j hj]
  refine strF_bytes ?_
  rw [gl j hj]
  unfold padB pad1
  by_cases c : j = 135
  · rw [if_pos c]
    by_cases d : 135 = n
    · rw [if_pos d, hz 135 (by omega) (by decide)]; decide
    · rw [if_neg d, hz 135 (by omega) (by decide)]; decide
  · rw [if_neg c]
    by_cases d : j = n
    · rw [if_pos d, d, hz n (Nat.le_refl _) hn]; decide
    · rw [if_neg d]; exact hH j hj
end Go.Proofs.YtfoklomipdkomaaDoor
end

section
/-
  The reference's sponge: how it ends is how the code ends.
-/
namespace Go.Proofs.YtfoklomipdkomaaDoor
open Go Go.Sx Go.RowKit

theorem card_soaked : FnOKg Tryd.prog [] 13 (specStr25 fun a s => turnB (absB a (strF s) 136)) := by
  refine FnOK_owesG (cx := ⟨[(17, specLanes 25 25 turnB)], [], 0⟩) (by
    intro p hp
    simp only [List.mem_singleton] at hp
    subst hp
    exact card_Turned) Tryd.func13 (by kernel_rfl) (by kernel_rfl) fun args ps sv hs hp => ?_
  unfold specStr25 at hs
  split at hs
  · rename_i x s
    split at hs
    · rename_i g hg
      simp only [Option.some.injEq, Prod.mk.injEq] at hs
      obtain ⟨rfl, rfl⟩ := hs
      obtain ⟨hl, hsz, _⟩ := hp
      refine ⟨[(2, .inv (invSoaked (ofRow g) s))], 30, [sRow .u64 25 (fun i => lw (ofRow g i)), .sc (.val (.string s))], fun ρ => ?_, fun fz _ z hz => ?_, bnd_row _ _ _ _, ok_soaked (ofRow g) s hsz⟩
      · rw [List.map_cons, List.map_cons, asRow_canon hg ρ]
        refine congrArg (fun z => z :: _) ?_
        simp only [SA.conc, concs_f]
        refine congrArg (fun z => Value.agg (List.toArray z)) ?_
        apply List.map_congr_left
        intro j hj
        rw [lw_ofRow hl (List.mem_range.1 hj)]
      · simp only [List.mem_cons, List.not_mem_nil, or_false] at hz
        rcases hz with rfl | rfl
        · exact bnd_row _ _ _ _
        · trivial
    · cases hs
  · cases hs
def bytesH (H : Nat → Int) : Prop := ∀ j, j < 136 → 0 ≤ H j ∧ H j < 256
theorem ok_Wrung (L H : Nat → Int) (N : Int) (hL : lanes 25 L) (hH : bytesH H) : Owes Tryd.prog (cxWrung turnB) [] 40 Tryd.f15 [sSp L H N] (endT turnB L H N) := by
  rw [vc_Wrung]
  generalize turnB = T
  intro x1 x2 x3 x4 x5 x6 x7 x8 x9 x10 x11 x12 x13 x14 x15 x16 x17 x18 x19 x20 x21 x22 x23 x24 x25 x26 x27 x28 x29 x30 x31 x32 x33 x34
  cases hm : mayG H N with
  | false =>
    refine ⟨fun _ => ?_, fun h => (by cases h)⟩
    simp only [x1, x2, x3, x4, x5, x6, x7, x8, x9, x10, x11, x12, x13, x14, x15, x16, x17, x18, x19, x20, x21, x22, x23, x24, x25, x26, x27, x28, x29, x30, x31, x32, x33, hm, Bool.false_eq_true, if_false, and_self]
  | true =>
    refine ⟨fun h => (by cases h), fun _ => ?_⟩
    obtain ⟨hN, hz⟩ := (mayG_iff H N).1 hm
    have p := pad_row H N.toNat (by omega) hH (fun j h1 h2 => by
      have := hz (j - N.toNat) (by omega)
      rwa [show N.toNat + (j - N.toNat) = j by omega] at this) _ x34 rfl rfl
    have hS := absB_same (a := ofRow L) (m := 136) p.2
    rw [hS]
    refine ⟨hN, hN, hN, hN, hL, (bytesI_sz _).trans p.1, ?_, ?_⟩
    · simp only [x1, x2, x3, x4, x5, x6, x7, x8, x9, x10, x11, x12, x13, x14, x15, x16, x17, x18, x19, x20, x21, x22, x23, x24, x25, x26, x27, x28, x29, x30, x31, x32, x33, hm, if_true, firstG, Nat.reduceDiv, Nat.reduceMod, Nat.reduceMul, Int.reducePow, Int.pow_zero, and_self]
    · simp only [x33, hm, if_true]
theorem card_Wrung : FnOKg Tryd.prog [] 15 (specSp (fun L H _ => [lanes 25 L, bytesH H]) endG) :=
  FnOK_Sp (cx := cxWrung turnB) (by
    intro p hp
    simp only [cxWrung, List.mem_cons, List.not_mem_nil, or_false] at hp
    rcases hp with rfl | rfl
    · exact card_badSponge
    · exact card_soaked) (iv := fun _ _ _ => []) (N := 40) Tryd.func15 (by kernel_rfl) (by kernel_rfl) (fun _ _ _ => by
      intro x hx
      simp only [List.mem_cons, List.not_mem_nil, or_false] at hx
      rcases hx with rfl | rfl
      · exact bnd_row _ _ _ _
      · trivial) fun L H N h => ok_Wrung L H N h.1 h.2.1
end Go.Proofs.YtfoklomipdkomaaDoor
end

section
/-
  The duty of KeccakEnds, whatever turns.
-/
namespace Go.Proofs.YtfoklomipdkomaaDoor
open Go Go.Sx Go.RowKit
end Go.Proofs.YtfoklomipdkomaaDoor
end

section
/-
  KeccakEnds: the code's end and the document's are the same; a sponge, opened.
-/
namespace Go.Proofs.YtfoklomipdkomaaDoor
open Go Go.Sx Go.RowKit

def eE (L H : Nat → Int) (N : Int) (j : Nat) : Int := if mayG H N then endB (spOf L H N) j else 0
def xE (H : Nat → Int) (N : Int) : Int := if mayG H N then 0 else 12
theorem fits_split : ∀ {a b : List LK} {cs : List Value}, fitsL (a ++ b) cs → ∃ u v, cs = u ++ v ∧ fitsL a u ∧ fitsL b v
  | [], _, cs, h => ⟨[], cs, rfl, trivial, h⟩
  | _ :: _, _, [], h => h.elim
  | k :: a, b, c :: cs, h => by
    obtain ⟨u, v, rfl, h1, h2⟩ := fits_split (a := a) (b := b) (cs := cs) h.2
    exact ⟨c :: u, v, rfl, ⟨h.1, h1⟩, h2⟩
theorem fits_ints {k : IntKind} : ∀ {n : Nat} {cs : List Value}, fitsL (List.replicate n (.int k)) cs → ∃ L : Nat → Int, cs = (List.range n).map (fun i => Value.int k (L i)) ∧ ∀ i, i < n → (Lit.int k (L i)).wf = true
  | 0, cs, h => by
    cases cs with
    | nil => exact ⟨fun _ => 0, rfl, fun _ h => absurd h (Nat.not_lt_zero _)⟩
    | cons c cs => exact h.elim
  | n + 1, cs, h => by
    cases cs with
    | nil => exact h.elim
    | cons c cs =>
      rw [List.replicate_succ] at h
      cases c <;> try exact h.1.elim
      rename_i k' x
      obtain ⟨⟨rfl, w⟩, hr⟩ := h
      obtain ⟨L, rfl, hL⟩ := fits_ints hr
      refine ⟨fun i => match i with | 0 => x | i + 1 => L i, ?_, fun i hi => ?_⟩
      · rw [List.range_succ_eq_map]; simp
      · cases i with
        | zero => exact w
        | succ i => exact hL i (by omega)
theorem lks_sp : lks Tryd.prog 4 26 = some (List.replicate 25 (.int .u64) ++ (List.replicate 136 (.int .u8) ++ [.int .i64])) := by kernel_rfl
theorem open_sp {H : Type} {enc : TypeId × Value → H} {W : World} {base b0 : Nat} {sp : Nat → Bool} {held : Bool} {v : Value} {d : DataW H} {ps : List MemPlace}
    (hval : Unit → Value.okWide Tryd.prog W .any b0 26 v) (h : Unit → DataW.Trod enc Tryd.prog W base sp held 26 v d ps) :
    ∃ (L H : Nat → Int) (N : Int), v = (sSp L H N).conc (Rho.whole W) ∧ lanes 25 L ∧ bytesH H ∧ i64ok N := by
  have hx : ∃ cs : List Value, v = .agg cs.toArray ∧ fitsL (List.replicate 25 (.int .u64) ++ (List.replicate 136 (.int .u8) ++ [.int .i64])) cs := by
    refine open_flat (H := H) (enc := enc) (P := Tryd.prog) (w := W) (base := base) (sp := sp) (held := held) (d := 4) (t := 26) (r := .any) (b0 := b0) (v := v) (x := d) (ps := ps) lks_sp ?_ ?_ ?_
    · kernel_rfl
    · with_reducible exact hval ()
    · with_reducible exact h ()
  obtain ⟨cs, rfl, hf⟩ := hx
  obtain ⟨u, r, rfl, h1, h2⟩ := fits_split hf
  obtain ⟨w, z, rfl, h3, h4⟩ := fits_split h2
  obtain ⟨L, rfl, hL⟩ := fits_ints h1
  obtain ⟨G, rfl, hG⟩ := fits_ints h3
  match z, h4 with
  | [.int k N], h4 =>
    obtain ⟨⟨rfl, hN⟩, _⟩ := h4
    refine ⟨L, G, N, ?_, fun i hi => ?_, fun j hj => ?_, bounds_i64 hN⟩
    · simp [SA.conc, concs, flat, SK.cells, SC.conc]
      rfl
    · have := bounds_u64 (hL i hi); exact ⟨this.1, by omega⟩
    · have := bounds_u8 (hG j hj); exact ⟨this.1, by omega⟩
end Go.Proofs.YtfoklomipdkomaaDoor
end

section
/-
  The rounds of Keccak on lists: so that the kernel can reckon them.
-/
namespace Go.Sx
open Go.RowKit

def sp0 : Sp := ⟨fun _ => 0, fun _ => 0, 0⟩
def sumB (n : Nat) (f : Nat → Int) (j : Nat) : Int := endB (addB sp0 f n) j
end Go.Sx
end

section
/-
  The duties of KeccakAdds and KeccakSums, whatever is answered.
-/
namespace Go.Proofs.YtfoklomipdkomaaDoor
open Go Go.Sx Go.RowKit
def addGG (A G : (Nat → Int) → (Nat → Int) → Int → Nat → (Nat → Int) → Nat → Int) (m x : (Nat → Int) → (Nat → Int) → Int → Nat → (Nat → Int) → Int) (L H : Nat → Int) (N : Int) (n : Nat) (f : Nat → Int) : SV := .tup [sSp (A L H N n f) (G L H N n f) (m L H N n f), sI .i64 (x L H N n f)]
def soakC (L H : Nat → Int) (_ : Int) (n : Nat) (f : Nat → Int) : List Prop := [lanes 25 L, bytesH H, ∀ i, 0 ≤ f i ∧ f i < 256, n ≤ 140737488355327]
def cxAdds (A G : (Nat → Int) → (Nat → Int) → Int → Nat → (Nat → Int) → Nat → Int) (m x : (Nat → Int) → (Nat → Int) → Int → Nat → (Nat → Int) → Int) : Cx := ⟨[(5, specSpB (fun L _ _ _ _ => [lanes 25 L]) (addGG A G m x)), (6, specSpB soakC (addGG A G m x))], glK, 0⟩
def sumG2 (n : Nat) (f : Nat → Int) : SV := .one (sRow .u8 32 (sumB n f))
def cHash : FSpec := fun args =>
  match args with
  | [.sc (.val (.string s))] => some ([s.size ≤ 140737488355327], .one (sRow .u8 32 (sumB s.size fun j => ((s.data.getD j 0).toNat : Int))))
  | _ => none
def cxHash (A G : (Nat → Int) → (Nat → Int) → Int → Nat → (Nat → Int) → Nat → Int) (m x : (Nat → Int) → (Nat → Int) → Int → Nat → (Nat → Int) → Int) (e : (Nat → Int) → (Nat → Int) → Int → Nat → Int) (y : (Nat → Int) → Int → Int) : Cx := ⟨[(6, specSpB soakC (addGG A G m x)), (15, specSp (fun L H _ => [lanes 25 L, bytesH H]) fun L H N => .tup [sRow .u8 32 (e L H N), sI .i64 (y H N)])], [], 0⟩
def cxSums : Cx := ⟨[(8, specBs (fun _ _ => []) sumG2), (9, cHash)], glK, 0⟩
-- VC vc_KeccakAdds HASH 13dd06cbe6aac4db
theorem vc_KeccakAdds (A G : (Nat → Int) → (Nat → Int) → Int → Nat → (Nat → Int) → Nat → Int) (m x : (Nat → Int) → (Nat → Int) → Int → Nat → (Nat → Int) → Int) (L H : Nat → Int) (N : Int) (a : Option Addr) (n cap : Nat) (f : Nat → Int) :
    Owes Tryd.prog (cxAdds A G m x) [] 10 Tryd.f3 [sSp L H N, sXs a n cap f] (.one (sB true)) =
    (let x1 : Int := A L H N n (fun (j : Nat) => f j) (0 : Nat); let x2 : Int := A L H N n (fun (j : Nat) => f j) (1 : Nat); let x3 : Int := A L H N n (fun (j : Nat) => f j) (2 : Nat); let x4 : Int := A L H N n (fun (j : Nat) => f j) (3 : Nat); let x5 : Int := A L H N n (fun (j : Nat) => f j) (4 : Nat); let x6 : Int := A L H N n (fun (j : Nat) => f j) (5 : Nat); let x7 : Int := A L H N n (fun (j : Nat) => f j) (6 : Nat); let x8 : Int := A L H N n (fun (j : Nat) => f j) (7 : Nat); let x9 : Int := A L H N n (fun (j : Nat) => f j) (8 : Nat); let x10 : Int := A L H N n (fun (j : Nat) => f j) (9 : Nat); let x11 : Int := A L H N n (fun (j : Nat) => f j) (10 : Nat); let x12 : Int := A L H N n (fun (j : Nat) => f j) (11 : Nat); let x13 : Int := A L H N n (fun (j : Nat) => f j) (12 : Nat); let x14 : Int := A L H N n (fun (j : Nat) => f j) (13 : Nat); let x15 : Int := A L H N n (fun (j : Nat) => f j) (14 : Nat); let x16 : Int := A L H N n (fun (j : Nat) => f j) (15 : Nat); let x17 : Int := A L H N n (fun (j : Nat) => f j) (16 : Nat); let x18 : Int := A L H N n (fun (j : Nat) => f j) (17 : Nat); let x19 : Int := A L H N n (fun (j : Nat) => f j) (18 : Nat); let x20 : Int := A L H N n (fun (j : Nat) => f j) (19 : Nat); let x21 : Int := A L H N n (fun (j : Nat) => f j) (20 : Nat); let x22 : Int := A L H N n (fun (j : Nat) => f j) (21 : Nat); let x23 : Int := A L H N n (fun (j : Nat) => f j) (22 : Nat); let x24 : Int := A L H N n (fun (j : Nat) => f j) (23 : Nat); let x25 : Int := A L H N n (fun (j : Nat) => f j) (24 : Nat); let x26 : Int := G L H N n (fun (j : Nat) => f j) (0 : Nat); let x27 : Int := G L H N n (fun (j : Nat) => f j) (1 : Nat); let x28 : Int := G L H N n (fun (j : Nat) => f j) (2 : Nat); let x29 : Int := G L H N n (fun (j : Nat) => f j) (3 : Nat); let x30 : Int := G L H N n (fun (j : Nat) => f j) (4 : Nat); let x31 : Int := G L H N n (fun (j : Nat) => f j) (5 : Nat); let x32 : Int := G L H N n (fun (j : Nat) => f j) (6 : Nat); let x33 : Int := G L H N n (fun (j : Nat) => f j) (7 : Nat); let x34 : Int := G L H N n (fun (j : Nat) => f j) (8 : Nat); let x35 : Int := G L H N n (fun (j : Nat) => f j) (9 : Nat); let x36 : Int := G L H N n (fun (j : Nat) => f j) (10 : Nat); let x37 : Int := G L H N n (fun (j : Nat) => f j) (11 : Nat); let x38 : Int := G L H N n (fun (j : Nat) => f j) (12 : Nat); let x39 : Int := G L H N n (fun (j : Nat) => f j) (13 : Nat); let x40 : Int := G L H N n (fun (j : Nat) => f j) (14 : Nat); let x41 : Int := G L H N n (fun (j : Nat) => f j) (15 : Nat); let x42 : Int := G L H N n (fun (j : Nat) => f j) (16 : Nat); let x43 : Int := G L H N n (fun (j : Nat) => f j) (17 : Nat); let x44 : Int := G L H N n (fun (j : Nat) => f j) (18 : Nat); let x45 : Int := G L H N n (fun (j : Nat) => f j) (19 : Nat); let x46 : Int := G L H N n (fun (j : Nat) => f j) (20 : Nat); let x47 : Int := G L H N n (fun (j : Nat) => f j) (21 : Nat); let x48 : Int := G L H N n (fun (j : Nat) => f j) (22 : Nat); let x49 : Int := G L H N n (fun (j : Nat) => f j) (23 : Nat); let x50 : Int := G L H N n (fun (j : Nat) => f j) (24 : Nat); let x51 : Int := G L H N n (fun (j : Nat) => f j) (25 : Nat); let x52 : Int := G L H N n (fun (j : Nat) => f j) (26 : Nat); let x53 : Int := G L H N n (fun (j : Nat) => f j) (27 : Nat); let x54 : Int := G L H N n (fun (j : Nat) => f j) (28 : Nat); let x55 : Int := G L H N n (fun (j : Nat) => f j) (29 : Nat); let x56 : Int := G L H N n (fun (j : Nat) => f j) (30 : Nat); let x57 : Int := G L H N n (fun (j : Nat) => f j) (31 : Nat); let x58 : Int := G L H N n (fun (j : Nat) => f j) (32 : Nat); let x59 : Int := G L H N n (fun (j : Nat) => f j) (33 : Nat); let x60 : Int := G L H N n (fun (j : Nat) => f j) (34 : Nat); let x61 : Int := G L H N n (fun (j : Nat) => f j) (35 : Nat); let x62 : Int := G L H N n (fun (j : Nat) => f j) (36 : Nat); let x63 : Int := G L H N n (fun (j : Nat) => f j) (37 : Nat); let x64 : Int := G L H N n (fun (j : Nat) => f j) (38 : Nat); let x65 : Int := G L H N n (fun (j : Nat) => f j) (39 : Nat); let x66 : Int := G L H N n (fun (j : Nat) => f j) (40 : Nat); let x67 : Int := G L H N n (fun (j : Nat) => f j) (41 : Nat); let x68 : Int := G L H N n (fun (j : Nat) => f j) (42 : Nat); let x69 : Int := G L H N n (fun (j : Nat) => f j) (43 : Nat); let x70 : Int := G L H N n (fun (j : Nat) => f j) (44 : Nat); let x71 : Int := G L H N n (fun (j : Nat) => f j) (45 : Nat); let x72 : Int := G L H N n (fun (j : Nat) => f j) (46 : Nat); let x73 : Int := G L H N n (fun (j : Nat) => f j) (47 : Nat); let x74 : Int := G L H N n (fun (j : Nat) => f j) (48 : Nat); let x75 : Int := G L H N n (fun (j : Nat) => f j) (49 : Nat); let x76 : Int := G L H N n (fun (j : Nat) => f j) (50 : Nat); let x77 : Int := G L H N n (fun (j : Nat) => f j) (51 : Nat); let x78 : Int := G L H N n (fun (j : Nat) => f j) (52 : Nat); let x79 : Int := G L H N n (fun (j : Nat) => f j) (53 : Nat); let x80 : Int := G L H N n (fun (j : Nat) => f j) (54 : Nat); let x81 : Int := G L H N n (fun (j : Nat) => f j) (55 : Nat); let x82 : Int := G L H N n (fun (j : Nat) => f j) (56 : Nat); let x83 : Int := G L H N n (fun (j : Nat) => f j) (57 : Nat); let x84 : Int := G L H N n (fun (j : Nat) => f j) (58 : Nat); let x85 : Int := G L H N n (fun (j : Nat) => f j) (59 : Nat); let x86 : Int := G L H N n (fun (j : Nat) => f j) (60 : Nat); let x87 : Int := G L H N n (fun (j : Nat) => f j) (61 : Nat); let x88 : Int := G L H N n (fun (j : Nat) => f j) (62 : Nat); let x89 : Int := G L H N n (fun (j : Nat) => f j) (63 : Nat); let x90 : Int := G L H N n (fun (j : Nat) => f j) (64 : Nat); let x91 : Int := G L H N n (fun (j : Nat) => f j) (65 : Nat); let x92 : Int := G L H N n (fun (j : Nat) => f j) (66 : Nat); let x93 : Int := G L H N n (fun (j : Nat) => f j) (67 : Nat); let x94 : Int := G L H N n (fun (j : Nat) => f j) (68 : Nat); let x95 : Int := G L H N n (fun (j : Nat) => f j) (69 : Nat); let x96 : Int := G L H N n (fun (j : Nat) => f j) (70 : Nat); let x97 : Int := G L H N n (fun (j : Nat) => f j) (71 : Nat); let x98 : Int := G L H N n (fun (j : Nat) => f j) (72 : Nat); let x99 : Int := G L H N n (fun (j : Nat) => f j) (73 : Nat); let x100 : Int := G L H N n (fun (j : Nat) => f j) (74 : Nat); let x101 : Int := G L H N n (fun (j : Nat) => f j) (75 : Nat); let x102 : Int := G L H N n (fun (j : Nat) => f j) (76 : Nat); let x103 : Int := G L H N n (fun (j : Nat) => f j) (77 : Nat); let x104 : Int := G L H N n (fun (j : Nat) => f j) (78 : Nat); let x105 : Int := G L H N n (fun (j : Nat) => f j) (79 : Nat); let x106 : Int := G L H N n (fun (j : Nat) => f j) (80 : Nat); let x107 : Int := G L H N n (fun (j : Nat) => f j) (81 : Nat); let x108 : Int := G L H N n (fun (j : Nat) => f j) (82 : Nat); let x109 : Int := G L H N n (fun (j : Nat) => f j) (83 : Nat); let x110 : Int := G L H N n (fun (j : Nat) => f j) (84 : Nat); let x111 : Int := G L H N n (fun (j : Nat) => f j) (85 : Nat); let x112 : Int := G L H N n (fun (j : Nat) => f j) (86 : Nat); let x113 : Int := G L H N n (fun (j : Nat) => f j) (87 : Nat); let x114 : Int := G L H N n (fun (j : Nat) => f j) (88 : Nat); let x115 : Int := G L H N n (fun (j : Nat) => f j) (89 : Nat); let x116 : Int := G L H N n (fun (j : Nat) => f j) (90 : Nat); let x117 : Int := G L H N n (fun (j : Nat) => f j) (91 : Nat); let x118 : Int := G L H N n (fun (j : Nat) => f j) (92 : Nat); let x119 : Int := G L H N n (fun (j : Nat) => f j) (93 : Nat); let x120 : Int := G L H N n (fun (j : Nat) => f j) (94 : Nat); let x121 : Int := G L H N n (fun (j : Nat) => f j) (95 : Nat); let x122 : Int := G L H N n (fun (j : Nat) => f j) (96 : Nat); let x123 : Int := G L H N n (fun (j : Nat) => f j) (97 : Nat); let x124 : Int := G L H N n (fun (j : Nat) => f j) (98 : Nat); let x125 : Int := G L H N n (fun (j : Nat) => f j) (99 : Nat); let x126 : Int := G L H N n (fun (j : Nat) => f j) (100 : Nat); let x127 : Int := G L H N n (fun (j : Nat) => f j) (101 : Nat); let x128 : Int := G L H N n (fun (j : Nat) => f j) (102 : Nat); let x129 : Int := G L H N n (fun (j : Nat) => f j) (103 : Nat); let x130 : Int := G L H N n (fun (j : Nat) => f j) (104 : Nat); let x131 : Int := G L H N n (fun (j : Nat) => f j) (105 : Nat); let x132 : Int := G L H N n (fun (j : Nat) => f j) (106 : Nat); let x133 : Int := G L H N n (fun (j : Nat) => f j) (107 : Nat); let x134 : Int := G L H N n (fun (j : Nat) => f j) (108 : Nat); let x135 : Int := G L H N n (fun (j : Nat) => f j) (109 : Nat); let x136 : Int := G L H N n (fun (j : Nat) => f j) (110 : Nat); let x137 : Int := G L H N n (fun (j : Nat) => f j) (111 : Nat); let x138 : Int := G L H N n (fun (j : Nat) => f j) (112 : Nat); let x139 : Int := G L H N n (fun (j : Nat) => f j) (113 : Nat); let x140 : Int := G L H N n (fun (j : Nat) => f j) (114 : Nat); let x141 : Int := G L H N n (fun (j : Nat) => f j) (115 : Nat); let x142 : Int := G L H N n (fun (j : Nat) => f j) (116 : Nat); let x143 : Int := G L H N n (fun (j : Nat) => f j) (117 : Nat); let x144 : Int := G L H N n (fun (j : Nat) => f j) (118 : Nat); let x145 : Int := G L H N n (fun (j : Nat) => f j) (119 : Nat); let x146 : Int := G L H N n (fun (j : Nat) => f j) (120 : Nat); let x147 : Int := G L H N n (fun (j : Nat) => f j) (121 : Nat); let x148 : Int := G L H N n (fun (j : Nat) => f j) (122 : Nat); let x149 : Int := G L H N n (fun (j : Nat) => f j) (123 : Nat); let x150 : Int := G L H N n (fun (j : Nat) => f j) (124 : Nat); let x151 : Int := G L H N n (fun (j : Nat) => f j) (125 : Nat); let x152 : Int := G L H N n (fun (j : Nat) => f j) (126 : Nat); let x153 : Int := G L H N n (fun (j : Nat) => f j) (127 : Nat); let x154 : Int := G L H N n (fun (j : Nat) => f j) (128 : Nat); let x155 : Int := G L H N n (fun (j : Nat) => f j) (129 : Nat); let x156 : Int := G L H N n (fun (j : Nat) => f j) (130 : Nat); let x157 : Int := G L H N n (fun (j : Nat) => f j) (131 : Nat); let x158 : Int := G L H N n (fun (j : Nat) => f j) (132 : Nat); let x159 : Int := G L H N n (fun (j : Nat) => f j) (133 : Nat); let x160 : Int := G L H N n (fun (j : Nat) => f j) (134 : Nat); let x161 : Int := G L H N n (fun (j : Nat) => f j) (135 : Nat); let x162 : Bool := Go.Sx.conj [x1 == x1, x2 == x2, x3 == x3, x4 == x4, x5 == x5, x6 == x6, x7 == x7, x8 == x8, x9 == x9, x10 == x10, x11 == x11, x12 == x12, x13 == x13, x14 == x14, x15 == x15, x16 == x16, x17 == x17, x18 == x18, x19 == x19, x20 == x20, x21 == x21, x22 == x22, x23 == x23, x24 == x24, x25 == x25, x26 == x26, x27 == x27, x28 == x28, x29 == x29, x30 == x30, x31 == x31, x32 == x32, x33 == x33, x34 == x34, x35 == x35, x36 == x36, x37 == x37, x38 == x38, x39 == x39, x40 == x40, x41 == x41, x42 == x42, x43 == x43, x44 == x44, x45 == x45, x46 == x46, x47 == x47, x48 == x48, x49 == x49, x50 == x50, x51 == x51, x52 == x52, x53 == x53, x54 == x54, x55 == x55, x56 == x56, x57 == x57, x58 == x58, x59 == x59, x60 == x60, x61 == x61, x62 == x62, x63 == x63, x64 == x64, x65 == x65, x66 == x66, x67 == x67, x68 == x68, x69 == x69, x70 == x70, x71 == x71, x72 == x72, x73 == x73, x74 == x74, x75 == x75, x76 == x76, x77 == x77, x78 == x78, x79 == x79, x80 == x80, x81 == x81, x82 == x82, x83 == x83, x84 == x84, x85 == x85, x86 == x86, x87 == x87, x88 == x88, x89 == x89, x90 == x90, x91 == x91, x92 == x92, x93 == x93, x94 == x94, x95 == x95, x96 == x96, x97 == x97, x98 == x98, x99 == x99, x100 == x100, x101 == x101, x102 == x102, x103 == x103, x104 == x104, x105 == x105, x106 == x106, x107 == x107, x108 == x108, x109 == x109, x110 == x110, x111 == x111, x112 == x112, x113 == x113, x114 == x114, x115 == x115, x116 == x116, x117 == x117, x118 == x118, x119 == x119, x120 == x120, x121 == x121, x122 == x122, x123 == x123, x124 == x124, x125 == x125, x126 == x126, x127 == x127, x128 == x128, x129 == x129, x130 == x130, x131 == x131, x132 == x132, x133 == x133, x134 == x134, x135 == x135, x136 == x136, x137 == x137, x138 == x138, x139 == x139, x140 == x140, x141 == x141, x142 == x142, x143 == x143, x144 == x144, x145 == x145, x146 == x146, x147 == x147, x148 == x148, x149 == x149, x150 == x150, x151 == x151, x152 == x152, x153 == x153, x154 == x154, x155 == x155, x156 == x156, x157 == x157, x158 == x158, x159 == x159, x160 == x160, x161 == x161, (m L H N n fun (j : Nat) => f j) == m L H N n fun (j : Nat) => f j]; let x163 : Bool := x162 && (x L H N n fun (j : Nat) => f j) == x L H N n fun (j : Nat) => f j; (∀ (j : Nat), True) ∧ (∀ (i : Nat), i < (25 : Nat) → (0 : Int) ≤ L i ∧ L i < (18446744073709551616 : Int)) ∧ (∀ (j : Nat), True) ∧ (∀ (i : Nat), i < (25 : Nat) → (0 : Int) ≤ L i ∧ L i < (18446744073709551616 : Int)) ∧ (∀ (j : Nat), j < (136 : Nat) → (0 : Int) ≤ H j ∧ H j < (256 : Int)) ∧ (∀ (i : Nat), (0 : Int) ≤ f i ∧ f i < (256 : Int)) ∧ n ≤ (140737488355327 : Nat) ∧ (x162 = Bool.true → x162 = Bool.true) ∧ (x162 = Bool.true → x162 = Bool.true) ∧ (x162 = Bool.true → x162 = Bool.true) ∧ (x163 = Bool.true → (x163 = Bool.true → x163 = Bool.true) ∧ (x163 = Bool.true → x163 = Bool.true) ∧ (x163 && Go.Sx.conj [(0 : Int) == (0 : Int), (0 : Int) == (0 : Int), (0 : Int) == (0 : Int), (0 : Int) == (0 : Int), (0 : Int) == (0 : Int), (0 : Int) == (0 : Int), (0 : Int) == (0 : Int), (0 : Int) == (0 : Int), (0 : Int) == (0 : Int), (0 : Int) == (0 : Int), (0 : Int) == (0 : Int), (0 : Int) == (0 : Int), (0 : Int) == (0 : Int), (0 : Int) == (0 : Int), (0 : Int) == (0 : Int), (0 : Int) == (0 : Int), (0 : Int) == (0 : Int), (0 : Int) == (0 : Int), (0 : Int) == (0 : Int), (0 : Int) == (0 : Int), (0 : Int) == (0 : Int), (0 : Int) == (0 : Int), (0 : Int) == (0 : Int), (0 : Int) == (0 : Int), (0 : Int) == (0 : Int), (0 : Int) == (0 : Int), (0 : Int) == (0 : Int), (0 : Int) == (0 : Int), (0 : Int) == (0 : Int), (0 : Int) == (0 : Int), (0 : Int) == (0 : Int), (0 : Int) == (0 : Int), (0 : Int) == (0 : Int), (0 : Int) == (0 : Int), (0 : Int) == (0 : Int), (0 : Int) == (0 : Int), (0 : Int) == (0 : Int), (0 : Int) == (0 : Int), (0 : Int) == (0 : Int), (0 : Int) == (0 : Int), (0 : Int) == (0 : Int), (0 : Int) == (0 : Int), (0 : Int) == (0 : Int), (0 : Int) == (0 : Int), (0 : Int) == (0 : Int), (0 : Int) == (0 : Int), (0 : Int) == (0 : Int), (0 : Int) == (0 : Int), (0 : Int) == (0 : Int), (0 : Int) == (0 : Int), (0 : Int) == (0 : Int), (0 : Int) == (0 : Int), (0 : Int) == (0 : Int), (0 : Int) == (0 : Int), (0 : Int) == (0 : Int), (0 : Int) == (0 : Int), (0 : Int) == (0 : Int), (0 : Int) == (0 : Int), (0 : Int) == (0 : Int), (0 : Int) == (0 : Int), (0 : Int) == (0 : Int), (0 : Int) == (0 : Int), (0 : Int) == (0 : Int), (0 : Int) == (0 : Int), (0 : Int) == (0 : Int), (0 : Int) == (0 : Int), (0 : Int) == (0 : Int), (0 : Int) == (0 : Int), (0 : Int) == (0 : Int), (0 : Int) == (0 : Int), (0 : Int) == (0 : Int), (0 : Int) == (0 : Int), (0 : Int) == (0 : Int), (0 : Int) == (0 : Int), (0 : Int) == (0 : Int), (0 : Int) == (0 : Int), (0 : Int) == (0 : Int), (0 : Int) == (0 : Int), (0 : Int) == (0 : Int), (0 : Int) == (0 : Int), (0 : Int) == (0 : Int), (0 : Int) == (0 : Int), (0 : Int) == (0 : Int), (0 : Int) == (0 : Int), (0 : Int) == (0 : Int), (0 : Int) == (0 : Int), (0 : Int) == (0 : Int), (0 : Int) == (0 : Int), (0 : Int) == (0 : Int), (0 : Int) == (0 : Int), (0 : Int) == (0 : Int), (0 : Int) == (0 : Int), (0 : Int) == (0 : Int), (0 : Int) == (0 : Int), (0 : Int) == (0 : Int), (0 : Int) == (0 : Int), (0 : Int) == (0 : Int), (0 : Int) == (0 : Int), (0 : Int) == (0 : Int), (0 : Int) == (0 : Int), (0 : Int) == (0 : Int), (0 : Int) == (0 : Int), (0 : Int) == (0 : Int), (0 : Int) == (0 : Int), (0 : Int) == (0 : Int), (0 : Int) == (0 : Int), (0 : Int) == (0 : Int), (0 : Int) == (0 : Int), (0 : Int) == (0 : Int), (0 : Int) == (0 : Int), (0 : Int) == (0 : Int), (0 : Int) == (0 : Int), (0 : Int) == (0 : Int), (0 : Int) == (0 : Int), (0 : Int) == (0 : Int), (0 : Int) == (0 : Int), (0 : Int) == (0 : Int), (0 : Int) == (0 : Int), (0 : Int) == (0 : Int), (0 : Int) == (0 : Int), (0 : Int) == (0 : Int), (0 : Int) == (0 : Int), (0 : Int) == (0 : Int), (0 : Int) == (0 : Int), (0 : Int) == (0 : Int), (0 : Int) == (0 : Int), (0 : Int) == (0 : Int), (0 : Int) == (0 : Int), (0 : Int) == (0 : Int), (0 : Int) == (0 : Int), (0 : Int) == (0 : Int), (0 : Int) == (0 : Int), (0 : Int) == (0 : Int), (0 : Int) == (0 : Int), (0 : Int) == (0 : Int), (0 : Int) == (0 : Int), (0 : Int) == (0 : Int), (0 : Int) == (0 : Int), (0 : Int) == (0 : Int), (0 : Int) == (0 : Int), (0 : Int) == (0 : Int), (0 : Int) == (0 : Int), (0 : Int) == (0 : Int), (0 : Int) == (0 : Int), (0 : Int) == (0 : Int), (0 : Int) == (0 : Int), (0 : Int) == (0 : Int), (0 : Int) == (0 : Int), (0 : Int) == (0 : Int), (0 : Int) == (0 : Int), (0 : Int) == (0 : Int), (0 : Int) == (0 : Int), (0 : Int) == (0 : Int), (0 : Int) == (0 : Int), (0 : Int) == (0 : Int), (0 : Int) == (0 : Int), (0 : Int) == (0 : Int), (0 : Int) == (0 : Int), (0 : Int) == (0 : Int), (0 : Int) == (0 : Int), (0 : Int) == (0 : Int), (0 : Int) == (0 : Int)]) = Bool.true) ∧ (x163 = Bool.false → Go.Sx.Stuck { dst := Option.some (32 : Nat), op := Go.Op.binOp Go.BinOp.eql (26 : Nat) (Go.Operand.tmp (30 : Nat)) (Go.Operand.tmp (31 : Nat)) (26 : Nat), type := (4 : Nat), pos := "low.go:140", after := #[{ on := (9 : Nat), ground := Go.Ground.data }, { on := (10 : Nat), ground := Go.Ground.data }, { on := (8 : Nat), ground := Go.Ground.guard }], guard := Option.some ((8 : Nat), Bool.true) })) := by kernel_rfl
-- END VC
-- VC vc_Hash HASH 26f86a0fbba6166c
theorem vc_Hash (A G : (Nat → Int) → (Nat → Int) → Int → Nat → (Nat → Int) → Nat → Int) (m x : (Nat → Int) → (Nat → Int) → Int → Nat → (Nat → Int) → Int) (e : (Nat → Int) → (Nat → Int) → Int → Nat → Int) (y : (Nat → Int) → Int → Int) (s : ByteArray) (r : Nat → Int) :
    Owes Tryd.prog (cxHash A G m x e y) [] 10 Tryd.f9 [.sc (.val (.string s))] (.one (sRow .u8 32 r)) =
    (∀ (a : Go.Addr) (cap : Nat), s.size ≤ cap → (∀ (j : Nat), True) ∧ (∀ (i : Nat), i < (25 : Nat) → (0 : Int) ≤ (0 : Int) ∧ (0 : Int) < (18446744073709551616 : Int)) ∧ (∀ (j : Nat), j < (136 : Nat) → (0 : Int) ≤ (0 : Int) ∧ (0 : Int) < (256 : Int)) ∧ (∀ (i : Nat), (0 : Int) ≤ (↑(s.data.getD i (0 : UInt8)).toNat : Int) ∧ (↑(s.data.getD i (0 : UInt8)).toNat : Int) < (256 : Int)) ∧ s.size ≤ (140737488355327 : Nat) ∧ (∀ (i : Nat), i < (25 : Nat) → (0 : Int) ≤ A (fun (x : Nat) => (0 : Int)) (fun (x : Nat) => (0 : Int)) (0 : Int) s.size (fun (j : Nat) => (↑(s.data.getD j (0 : UInt8)).toNat : Int)) i ∧ A (fun (x : Nat) => (0 : Int)) (fun (x : Nat) => (0 : Int)) (0 : Int) s.size (fun (j : Nat) => (↑(s.data.getD j (0 : UInt8)).toNat : Int)) i < (18446744073709551616 : Int)) ∧ (∀ (j : Nat), j < (136 : Nat) → (0 : Int) ≤ G (fun (x : Nat) => (0 : Int)) (fun (x : Nat) => (0 : Int)) (0 : Int) s.size (fun (j : Nat) => (↑(s.data.getD j (0 : UInt8)).toNat : Int)) j ∧ G (fun (x : Nat) => (0 : Int)) (fun (x : Nat) => (0 : Int)) (0 : Int) s.size (fun (j : Nat) => (↑(s.data.getD j (0 : UInt8)).toNat : Int)) j < (256 : Int)) ∧ (∀ (j : Nat), j < (32 : Nat) → e (A (fun (x : Nat) => (0 : Int)) (fun (x : Nat) => (0 : Int)) (0 : Int) s.size fun (j : Nat) => (↑(s.data.getD j (0 : UInt8)).toNat : Int)) (G (fun (x : Nat) => (0 : Int)) (fun (x : Nat) => (0 : Int)) (0 : Int) s.size fun (j : Nat) => (↑(s.data.getD j (0 : UInt8)).toNat : Int)) (m (fun (x : Nat) => (0 : Int)) (fun (x : Nat) => (0 : Int)) (0 : Int) s.size fun (j : Nat) => (↑(s.data.getD j (0 : UInt8)).toNat : Int)) j = r j) ∧ True) := by kernel_rfl
-- END VC
-- VC vc_KeccakSums HASH 62575f793b873a0b
theorem vc_KeccakSums (a : Option Addr) (n cap : Nat) (f : Nat → Int) :
    Owes Tryd.prog cxSums [] 10 Tryd.f4 [sXs a n cap f] (.one (sB true)) =
    (let x1 : Nat := (Go.Sx.bytesI (List.map (fun (j : Nat) => f j) (List.range n))).size; (∀ (j : Nat), True) ∧ (∀ (j : Nat), True) ∧ x1 ≤ (140737488355327 : Nat) ∧ Go.Sx.conj [(List.range (32 : Nat)).all fun (j : Nat) => Go.Sx.sumB n (fun (j : Nat) => f j) j == Go.Sx.sumB x1 (fun (j : Nat) => (↑((Go.Sx.bytesI (List.map (fun (j : Nat) => f j) (List.range n))).data.getD j (0 : UInt8)).toNat : Int)) j] = Bool.true) := by kernel_rfl
-- END VC
end Go.Proofs.YtfoklomipdkomaaDoor
end
