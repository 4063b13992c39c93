/-
  Texts: V41, P71, P70, V42, P72.
-/
import Derived.Test.YtnnlochmfggeaaaDoorM1
import Derived.Test.YtnnlochmfggeaaaDoorM2
import Derived.Test.YtnnlochmfggeaaaDoorM3
import Derived.Test.YtnnlochmfggeaaaDoorM4
import Derived.Test.YtnnlochmfggeaaaDoorM5
import Derived.Test.YtnnlochmfggeaaaDoorM6
import Derived.Test.YtnnlochmfggeaaaDoorM7
import Derived.Test.YtnnlochmfggeaaaDoorM8
import Derived.Test.YtnnlochmfggeaaaDoorM9
section
/-
  The duty of the rounds' numbers.
-/
namespace Go.Proofs.YtnnlochmfggeaaaDoor
open Go Go.Sx Go.RowKit
def invRound (i : Int) (f : Nat → Int) (v : Nat → Int) : Inv where
  X := Nat × Option Addr × Nat
  tm y := slotsAt 34 [(0, .one (sI .i64 i)), (3, .one (sI .u64 (v y.1))), (13, .one (sXs y.2.1 16 y.2.2 f)), (14, .one (sI .i64 16)), (15, .one (sI .i64 (y.1 : Int)))]
  ob _ := []
  holds y := y.1 ≤ 16
  less y := 16 - y.1
-- VC vc_roundOf HASH ef72fe84c4a0c1c6
def lit_137a4bc9 : ByteArray := { data := ((([(48 : UInt8), (48 : UInt8), (48 : UInt8), (48 : UInt8), (48 : UInt8), (48 : UInt8), (48 : UInt8), (48 : UInt8), (48 : UInt8), (48 : UInt8), (48 : UInt8), (48 : UInt8), (48 : UInt8), (48 : UInt8), (48 : UInt8), (49 : UInt8), (48 : UInt8), (48 : UInt8), (48 : UInt8), (48 : UInt8), (48 : UInt8), (48 : UInt8), (48 : UInt8), (48 : UInt8), (48 : UInt8), (48 : UInt8), (48 : UInt8), (48 : UInt8), (56 : UInt8), (48 : UInt8), (56 : UInt8), (50 : UInt8), (56 : UInt8), (48 : UInt8), (48 : UInt8), (48 : UInt8), (48 : UInt8), (48 : UInt8), (48 : UInt8), (48 : UInt8), (48 : UInt8), (48 : UInt8), (48 : UInt8), (48 : UInt8), (56 : UInt8), (48 : UInt8), (56 : UInt8), (97 : UInt8)].append [(56 : UInt8), (48 : UInt8), (48 : UInt8), (48 : UInt8), (48 : UInt8), (48 : UInt8), (48 : UInt8), (48 : UInt8), (56 : UInt8), (48 : UInt8), (48 : UInt8), (48 : UInt8), (56 : UInt8), (48 : UInt8), (48 : UInt8), (48 : UInt8), (48 : UInt8), (48 : UInt8), (48 : UInt8), (48 : UInt8), (48 : UInt8), (48 : UInt8), (48 : UInt8), (48 : UInt8), (48 : UInt8), (48 : UInt8), (48 : UInt8), (48 : UInt8), (56 : UInt8), (48 : UInt8), (56 : UInt8), (98 : UInt8), (48 : UInt8), (48 : UInt8), (48 : UInt8), (48 : UInt8), (48 : UInt8), (48 : UInt8), (48 : UInt8), (48 : UInt8), (56 : UInt8), (48 : UInt8), (48 : UInt8), (48 : UInt8), (48 : UInt8), (48 : UInt8), (48 : UInt8), (49 : UInt8)]).append ([(56 : UInt8), (48 : UInt8), (48 : UInt8), (48 : UInt8), (48 : UInt8), (48 : UInt8), (48 : UInt8), (48 : UInt8), (56 : UInt8), (48 : UInt8), (48 : UInt8), (48 : UInt8), (56 : UInt8), (48 : UInt8), (56 : UInt8), (49 : UInt8), (56 : UInt8), (48 : UInt8), (48 : UInt8), (48 : UInt8), (48 : UInt8), (48 : UInt8), (48 : UInt8), (48 : UInt8), (48 : UInt8), (48 : UInt8), (48 : UInt8), (48 : UInt8), (56 : UInt8), (48 : UInt8), (48 : UInt8), (57 : UInt8), (48 : UInt8), (48 : UInt8), (48 : UInt8), (48 : UInt8), (48 : UInt8), (48 : UInt8), (48 : UInt8), (48 : UInt8), (48 : UInt8), (48 : UInt8), (48 : UInt8), (48 : UInt8), (48 : UInt8), (48 : UInt8), (56 : UInt8), (97 : UInt8)].append [(48 : UInt8), (48 : UInt8), (48 : UInt8), (48 : UInt8), (48 : UInt8), (48 : UInt8), (48 : UInt8), (48 : UInt8), (48 : UInt8), (48 : UInt8), (48 : UInt8), (48 : UInt8), (48 : UInt8), (48 : UInt8), (56 : UInt8), (56 : UInt8), (48 : UInt8), (48 : UInt8), (48 : UInt8), (48 : UInt8), (48 : UInt8), (48 : UInt8), (48 : UInt8), (48 : UInt8), (56 : UInt8), (48 : UInt8), (48 : UInt8), (48 : UInt8), (56 : UInt8), (48 : UInt8), (48 : UInt8), (57 : UInt8), (48 : UInt8), (48 : UInt8), (48 : UInt8), (48 : UInt8), (48 : UInt8), (48 : UInt8), (48 : UInt8), (48 : UInt8), (56 : UInt8), (48 : UInt8), (48 : UInt8), (48 : UInt8), (48 : UInt8), (48 : UInt8), (48 : UInt8), (97 : UInt8)])).append (([(48 : UInt8), (48 : UInt8), (48 : UInt8), (48 : UInt8), (48 : UInt8), (48 : UInt8), (48 : UInt8), (48 : UInt8), (56 : UInt8), (48 : UInt8), (48 : UInt8), (48 : UInt8), (56 : UInt8), (48 : UInt8), (56 : UInt8), (98 : UInt8), (56 : UInt8), (48 : UInt8), (48 : UInt8), (48 : UInt8), (48 : UInt8), (48 : UInt8), (48 : UInt8), (48 : UInt8), (48 : UInt8), (48 : UInt8), (48 : UInt8), (48 : UInt8), (48 : UInt8), (48 : UInt8), (56 : UInt8), (98 : UInt8), (56 : UInt8), (48 : UInt8), (48 : UInt8), (48 : UInt8), (48 : UInt8), (48 : UInt8), (48 : UInt8), (48 : UInt8), (48 : UInt8), (48 : UInt8), (48 : UInt8), (48 : UInt8), (56 : UInt8), (48 : UInt8), (56 : UInt8), (57 : UInt8)].append [(56 : UInt8), (48 : UInt8), (48 : UInt8), (48 : UInt8), (48 : UInt8), (48 : UInt8), (48 : UInt8), (48 : UInt8), (48 : UInt8), (48 : UInt8), (48 : UInt8), (48 : UInt8), (56 : UInt8), (48 : UInt8), (48 : UInt8), (51 : UInt8), (56 : UInt8), (48 : UInt8), (48 : UInt8), (48 : UInt8), (48 : UInt8), (48 : UInt8), (48 : UInt8), (48 : UInt8), (48 : UInt8), (48 : UInt8), (48 : UInt8), (48 : UInt8), (56 : UInt8), (48 : UInt8), (48 : UInt8), (50 : UInt8), (56 : UInt8), (48 : UInt8), (48 : UInt8), (48 : UInt8), (48 : UInt8), (48 : UInt8), (48 : UInt8), (48 : UInt8), (48 : UInt8), (48 : UInt8), (48 : UInt8), (48 : UInt8), (48 : UInt8), (48 : UInt8), (56 : UInt8), (48 : UInt8)]).append ([(48 : UInt8), (48 : UInt8), (48 : UInt8), (48 : UInt8), (48 : UInt8), (48 : UInt8), (48 : UInt8), (48 : UInt8), (48 : UInt8), (48 : UInt8), (48 : UInt8), (48 : UInt8), (56 : UInt8), (48 : UInt8), (48 : UInt8), (97 : UInt8), (56 : UInt8), (48 : UInt8), (48 : UInt8), (48 : UInt8), (48 : UInt8), (48 : UInt8), (48 : UInt8), (48 : UInt8), (56 : UInt8), (48 : UInt8), (48 : UInt8), (48 : UInt8), (48 : UInt8), (48 : UInt8), (48 : UInt8), (97 : UInt8), (56 : UInt8), (48 : UInt8), (48 : UInt8), (48 : UInt8), (48 : UInt8), (48 : UInt8), (48 : UInt8), (48 : UInt8), (56 : UInt8), (48 : UInt8), (48 : UInt8), (48 : UInt8), (56 : UInt8), (48 : UInt8), (56 : UInt8), (49 : UInt8)].append [(56 : UInt8), (48 : UInt8), (48 : UInt8), (48 : UInt8), (48 : UInt8), (48 : UInt8), (48 : UInt8), (48 : UInt8), (48 : UInt8), (48 : UInt8), (48 : UInt8), (48 : UInt8), (56 : UInt8), (48 : UInt8), (56 : UInt8), (48 : UInt8), (48 : UInt8), (48 : UInt8), (48 : UInt8), (48 : UInt8), (48 : UInt8), (48 : UInt8), (48 : UInt8), (48 : UInt8), (56 : UInt8), (48 : UInt8), (48 : UInt8), (48 : UInt8), (48 : UInt8), (48 : UInt8), (48 : UInt8), (49 : UInt8), (56 : UInt8), (48 : UInt8), (48 : UInt8), (48 : UInt8), (48 : UInt8), (48 : UInt8), (48 : UInt8), (48 : UInt8), (56 : UInt8), (48 : UInt8), (48 : UInt8), (48 : UInt8), (56 : UInt8), (48 : UInt8), (48 : UInt8), (56 : UInt8)]))).toArray }
theorem vc_roundOf (i : Int) (f v : Nat → Int) :
    Owes Tryd.prog Cx.none [(3, .inv (invRound i f v))] 30 Tryd.f20 [sI .i64 i] (rcG i) =
    (let x1 : Int := Go.IntKind.i64.wrap ((16 : Int) * i); let x2 : Int := (Go.IntKind.i64, x1).snd; let x3 : Int := (Go.IntKind.i64, Go.IntKind.i64.wrap (x1 + (16 : Int))).snd; let x4 : Nat := (Go.Proofs.YtnnlochmfggeaaaDoor.lit_137a4bc9.extract x2.toNat x3.toNat).size; ((0 : Int) ≤ x2 ∧ x2 ≤ x3 ∧ x3 ≤ (384 : Int)) ∧ ∀ (a : Go.Addr) (cap : Nat), x4 ≤ cap → (∀ (y : Nat × Option Go.Addr × Nat), Go.Sx.closedB (Go.Sx.slotsAt (34 : Nat) [((0 : Nat), Go.Sx.SV.one (Go.Sx.sI Go.IntKind.i64 i)), ((3 : Nat), Go.Sx.SV.one (Go.Sx.sI Go.IntKind.u64 (v y.fst))), ((13 : Nat), Go.Sx.SV.one (Go.Sx.sXs y.snd.fst (16 : Nat) y.snd.snd f)), ((14 : Nat), Go.Sx.SV.one (Go.Sx.sI Go.IntKind.i64 (16 : Int))), ((15 : Nat), Go.Sx.SV.one (Go.Sx.sI Go.IntKind.i64 (↑y.fst : Int)))]) [] = Bool.true) ∧ ∃ (y : Nat × Option Go.Addr × Nat), y.fst ≤ (16 : Nat) ∧ i = i ∧ (0 : Int) = v y.fst ∧ (Option.some a = y.snd.fst ∧ x4 = (16 : Nat) ∧ cap = y.snd.snd ∧ ∀ (i : Nat), i < x4 → (↑((Go.Proofs.YtnnlochmfggeaaaDoor.lit_137a4bc9.extract x2.toNat x3.toNat).data.getD i (0 : UInt8)).toNat : Int) = f i) ∧ (↑x4 : Int) = (16 : Int) ∧ (0 : Int) = (↑y.fst : Int) ∧ ∀ (y : Nat × Option Go.Addr × Nat), y.fst ≤ (16 : Nat) → (Decidable.decide ((↑y.fst : Int) < (16 : Int)) = Bool.true → ((0 : Int) ≤ (↑y.fst : Int) ∧ (↑y.fst : Int) < (16 : Int)) ∧ (Decidable.decide (f (↑y.fst : Int).toNat ≥ (97 : Int)) = Bool.true → ∃ (y' : Nat × Option Go.Addr × Nat), y'.fst ≤ (16 : Nat) ∧ i = i ∧ Go.IntKind.u64.wrap (Go.IntKind.u64.wrap (v y.fst * (16 : Int)) + Go.IntKind.u64.wrap (Go.IntKind.u64.wrap (Go.IntKind.u8.wrap (f (↑y.fst : Int).toNat - (97 : Int))) + (10 : Int))) = v y'.fst ∧ (y.snd.fst = y'.snd.fst ∧ (16 : Nat) = (16 : Nat) ∧ y.snd.snd = y'.snd.snd ∧ ∀ (i : Nat), i < (16 : Nat) → f i = f i) ∧ (16 : Int) = (16 : Int) ∧ Go.IntKind.i64.wrap ((↑y.fst : Int) + (1 : Int)) = (↑y'.fst : Int) ∧ (16 : Nat) - y'.fst < (16 : Nat) - y.fst) ∧ (Decidable.decide (f (↑y.fst : Int).toNat ≥ (97 : Int)) = Bool.false → ∃ (y' : Nat × Option Go.Addr × Nat), y'.fst ≤ (16 : Nat) ∧ i = i ∧ Go.IntKind.u64.wrap (Go.IntKind.u64.wrap (v y.fst * (16 : Int)) + Go.IntKind.u64.wrap (Go.IntKind.u8.wrap (f (↑y.fst : Int).toNat - (48 : Int)))) = v y'.fst ∧ (y.snd.fst = y'.snd.fst ∧ (16 : Nat) = (16 : Nat) ∧ y.snd.snd = y'.snd.snd ∧ ∀ (i : Nat), i < (16 : Nat) → f i = f i) ∧ (16 : Int) = (16 : Int) ∧ Go.IntKind.i64.wrap ((↑y.fst : Int) + (1 : Int)) = (↑y'.fst : Int) ∧ (16 : Nat) - y'.fst < (16 : Nat) - y.fst)) ∧ (Decidable.decide ((↑y.fst : Int) < (16 : Int)) = Bool.false → v y.fst = Go.Sx.lw (Go.Sx.rcN.getD i.toNat (0 : BitVec (64 : Nat))))) := by kernel_rfl
-- END VC
end Go.Proofs.YtnnlochmfggeaaaDoor
end

section
/-
  The rounds' numbers, read off their text.
-/
namespace Go.Proofs.YtnnlochmfggeaaaDoor
open Go Go.Sx Go.RowKit

def fR (k j : Nat) : Int := ((lit_137a4bc9.extract (16 * k) (16 * k + 16)).data.getD j 0).toNat
def valP (f : Nat → Int) : Nat → Int
  | 0 => 0
  | j + 1 => match decide (f j ≥ 97) with
    | true => IntKind.u64.wrap (IntKind.u64.wrap (valP f j * 16) + IntKind.u64.wrap (IntKind.u64.wrap (IntKind.u8.wrap (f j - 97)) + 10))
    | false => IntKind.u64.wrap (IntKind.u64.wrap (valP f j * 16) + IntKind.u64.wrap (IntKind.u8.wrap (f j - 48)))
theorem rc_val : ∀ k, k < 24 → valP (fR k) 16 = lw (rcN.getD k 0) ∧ (lit_137a4bc9.extract (16 * k) (16 * k + 16)).size = 16 := by decide +kernel
theorem ok_roundOf (i : Int) (h : 0 ≤ i ∧ i ≤ 23) : Owes Tryd.prog Cx.none [(3, .inv (invRound i (fR i.toNat) (valP (fR i.toNat))))] 30 Tryd.f20 [sI .i64 i] (rcG i) := by
  obtain ⟨k, rfl⟩ := Int.eq_ofNat_of_zero_le h.1
  rw [vc_roundOf]
  intro x1 x2 x3 x4
  have hk : k < 24 := by omega
  have e1 : x1 = 16 * (k : Int) := by
    show IntKind.i64.wrap _ = _
    rw [IntKind.wrap_i64]; omega
  have e2 : x2 = 16 * (k : Int) := e1
  have e3 : x3 = 16 * (k : Int) + 16 := by
    show IntKind.i64.wrap (x1 + 16) = _
    rw [e1, IntKind.wrap_i64]; omega
  have t2 : x2.toNat = 16 * k := by rw [e2]; omega
  have t3 : x3.toNat = 16 * k + 16 := by rw [e3]; omega
  have e4 : x4 = 16 := by
    show (lit_137a4bc9.extract x2.toNat x3.toNat).size = 16
    rw [t2, t3]
    exact (rc_val k hk).2
  have ek : ((k : Int)).toNat = k := Int.toNat_natCast k
  refine ⟨by omega, fun a cap _ => ⟨fun y => rfl, (0, some a, cap), Nat.zero_le _, rfl, rfl, ⟨rfl, e4, rfl, fun j _ => ?_⟩, by rw [e4]; rfl, rfl, ?_⟩⟩
  · rw [t2, t3, ek]; rfl
  rintro ⟨j, ad, cp⟩ hj
  have hj : j ≤ 16 := hj
  refine ⟨fun hlt => ?_, fun hge => ?_⟩
  · have hlt : (j : Int) < 16 := of_decide_eq_true hlt
    have w : IntKind.i64.wrap ((j : Int) + 1) = ((j + 1 : Nat) : Int) := by rw [IntKind.wrap_i64]; omega
    refine ⟨⟨by simp only; omega, hlt⟩, fun hc => ⟨(j + 1, ad, cp), by simp only; omega, rfl, ?_, ⟨rfl, rfl, rfl, fun _ _ => rfl⟩, rfl, w, by simp only; omega⟩, fun hc => ⟨(j + 1, ad, cp), by simp only; omega, rfl, ?_, ⟨rfl, rfl, rfl, fun _ _ => rfl⟩, rfl, w, by simp only; omega⟩⟩
    · simp only [Int.toNat_natCast] at hc ⊢
      rw [valP, hc]
    · simp only [Int.toNat_natCast] at hc ⊢
      rw [valP, hc]
  · have hge : ¬ (j : Int) < 16 := of_decide_eq_false hge
    have : j = 16 := by omega
    subst this
    show valP (fR ((k : Int)).toNat) 16 = _
    rw [ek]
    exact (rc_val k hk).1
theorem card_roundOf : FnOKg Tryd.prog [] 20 (specI (fun i => [0 ≤ i ∧ i ≤ 23]) rcG) :=
  FnOK_I (cx := Cx.none) (by intro p hp; cases hp) (iv := fun i => [(3, .inv (invRound i (fR i.toNat) (valP (fR i.toNat))))]) (N := 30) Tryd.func20 (by kernel_rfl) (by kernel_rfl) (fun _ => trivial) fun i h => ok_roundOf i h.1
end Go.Proofs.YtnnlochmfggeaaaDoor
end

section
/-
  The reference's sponge: turns, the rounds' numbers, all rounds.
-/
namespace Go.Proofs.YtnnlochmfggeaaaDoor
open Go Go.Sx Go.RowKit

theorem and63N {k : Int} (h : 0 ≤ k ∧ k < 4096) : IntKind.u64.wrap (((BitVec.ofInt 64 (IntKind.u64.wrap k) &&& BitVec.ofInt 64 63).toNat : Nat) : Int) = k % 64 := by
  obtain ⟨n, rfl⟩ := Int.eq_ofNat_of_zero_le h.1
  have hn : n < 4096 := by omega
  have e1 : ∀ m : Nat, m < 4096 → IntKind.u64.wrap (m : Int) = ((m : Nat) : Int) := fun m hm => by rw [wrap_cast]; omega
  rw [e1 n hn]
  have e2 : (BitVec.ofInt 64 ((n : Nat) : Int) &&& BitVec.ofInt 64 63).toNat = n % 64 := by
    rw [BitVec.toNat_and, toNat_ofNat_cast, show (BitVec.ofInt 64 63).toNat = 2 ^ 6 - 1 by decide, Nat.and_two_pow_sub_one_eq_mod]
    omega
  rw [e2, e1 _ (by omega)]
  omega
theorem ok_rotlN (v : BitVec 64) (k : Int) (h : 0 ≤ k ∧ k < 4096) : Owes Tryd.prog Cx.none [] 10 Tryd.f19 [sI .u64 (lw v), sI .i64 k] (.one (sI .u64 (rotlM (lw v) k))) := by
  rw [vc_rotlN]
  intro x1 x2
  have e1 : x1 = k % 64 := and63N h
  have e2 : x2 = 64 - k % 64 := by
    show IntKind.u64.wrap (64 - x1) = _
    rw [e1]
    obtain ⟨n, hn⟩ := Int.eq_ofNat_of_zero_le (show 0 ≤ 64 - k % 64 by omega)
    rw [hn, wrap_cast]
    omega
  rw [e1, e2]
  refine ⟨by omega, by omega, ?_⟩
  have hk : ((k.toNat % 64 : Nat) : Int) = k % 64 := by omega
  rw [show rotlM (lw v) k = lw (v.rotateLeft (k.toNat % 64)) by unfold rotlM; rw [ofInt_lw], wrap_nat]
  have h1 : Min.min (k % 64).toNat 64 = k.toNat % 64 := by omega
  have h2 : Min.min (64 - k % 64).toNat 64 = 64 - k.toNat % 64 := by omega
  rw [h1, h2, rot_eq v (k.toNat % 64) (by omega)]
theorem card_rotlN : FnOKg Tryd.prog [] 19 specRotlN := by
  refine FnOK_owesG (cx := Cx.none) (fun p hp => by cases hp) Tryd.func19 (by kernel_rfl) (by kernel_rfl) fun args ps sv hs hp => ?_
  unfold specRotlN at hs
  split at hs
  · rename_i x y
    split at hs
    · rename_i x' k' hx hk
      simp only [Option.some.injEq, Prod.mk.injEq] at hs
      obtain ⟨rfl, rfl⟩ := hs
      obtain ⟨h1, h2, _⟩ := hp
      refine ⟨[], 10, [sI .u64 (lw (BitVec.ofInt 64 x')), sI .i64 k'], fun ρ => ?_, fun fz _ z hz => ?_, trivial, ?_⟩
      · rw [lw_of h1]
        simp only [List.map_cons, List.map_nil, asI_sound hx ρ, asI_sound hk ρ]
        rfl
      · simp only [List.mem_cons, List.not_mem_nil, or_false] at hz
        rcases hz with rfl | rfl <;> trivial
      · have := ok_rotlN (BitVec.ofInt 64 x') k' h2
        rw [lw_of h1] at this ⊢
        exact this
    · cases hs
  · cases hs
theorem rot_nought (v : BitVec 64) : v.rotateLeft 0 = v := by
  apply BitVec.eq_of_getLsbD_eq
  intro i hi
  simp [BitVec.getLsbD_rotateLeft, hi]
theorem row_of (t : Nat → BitVec 64) (y : Nat) : lw (((t 0 ^^^ ((t 4 ^^^ t 9 ^^^ t 14 ^^^ t 19 ^^^ t 24) ^^^ ((t 1 ^^^ t 6 ^^^ t 11 ^^^ t 16 ^^^ t 21)).rotateLeft 1)) ^^^ (~~~ ((t 6 ^^^ ((t 0 ^^^ t 5 ^^^ t 10 ^^^ t 15 ^^^ t 20) ^^^ ((t 2 ^^^ t 7 ^^^ t 12 ^^^ t 17 ^^^ t 22)).rotateLeft 1)).rotateLeft 44) &&& ((t 12 ^^^ ((t 1 ^^^ t 6 ^^^ t 11 ^^^ t 16 ^^^ t 21) ^^^ ((t 3 ^^^ t 8 ^^^ t 13 ^^^ t 18 ^^^ t 23)).rotateLeft 1)).rotateLeft 43))) ^^^ rcN.getD y 0) = lw (roundB t y 0) ∧
    lw (((t 6 ^^^ ((t 0 ^^^ t 5 ^^^ t 10 ^^^ t 15 ^^^ t 20) ^^^ ((t 2 ^^^ t 7 ^^^ t 12 ^^^ t 17 ^^^ t 22)).rotateLeft 1)).rotateLeft 44) ^^^ (~~~ ((t 12 ^^^ ((t 1 ^^^ t 6 ^^^ t 11 ^^^ t 16 ^^^ t 21) ^^^ ((t 3 ^^^ t 8 ^^^ t 13 ^^^ t 18 ^^^ t 23)).rotateLeft 1)).rotateLeft 43) &&& ((t 18 ^^^ ((t 2 ^^^ t 7 ^^^ t 12 ^^^ t 17 ^^^ t 22) ^^^ ((t 4 ^^^ t 9 ^^^ t 14 ^^^ t 19 ^^^ t 24)).rotateLeft 1)).rotateLeft 21))) = lw (roundB t y 1) ∧
    lw (((t 12 ^^^ ((t 1 ^^^ t 6 ^^^ t 11 ^^^ t 16 ^^^ t 21) ^^^ ((t 3 ^^^ t 8 ^^^ t 13 ^^^ t 18 ^^^ t 23)).rotateLeft 1)).rotateLeft 43) ^^^ (~~~ ((t 18 ^^^ ((t 2 ^^^ t 7 ^^^ t 12 ^^^ t 17 ^^^ t 22) ^^^ ((t 4 ^^^ t 9 ^^^ t 14 ^^^ t 19 ^^^ t 24)).rotateLeft 1)).rotateLeft 21) &&& ((t 24 ^^^ ((t 3 ^^^ t 8 ^^^ t 13 ^^^ t 18 ^^^ t 23) ^^^ ((t 0 ^^^ t 5 ^^^ t 10 ^^^ t 15 ^^^ t 20)).rotateLeft 1)).rotateLeft 14))) = lw (roundB t y 2) ∧
    lw (((t 18 ^^^ ((t 2 ^^^ t 7 ^^^ t 12 ^^^ t 17 ^^^ t 22) ^^^ ((t 4 ^^^ t 9 ^^^ t 14 ^^^ t 19 ^^^ t 24)).rotateLeft 1)).rotateLeft 21) ^^^ (~~~ ((t 24 ^^^ ((t 3 ^^^ t 8 ^^^ t 13 ^^^ t 18 ^^^ t 23) ^^^ ((t 0 ^^^ t 5 ^^^ t 10 ^^^ t 15 ^^^ t 20)).rotateLeft 1)).rotateLeft 14) &&& (t 0 ^^^ ((t 4 ^^^ t 9 ^^^ t 14 ^^^ t 19 ^^^ t 24) ^^^ ((t 1 ^^^ t 6 ^^^ t 11 ^^^ t 16 ^^^ t 21)).rotateLeft 1)))) = lw (roundB t y 3) ∧
    lw (((t 24 ^^^ ((t 3 ^^^ t 8 ^^^ t 13 ^^^ t 18 ^^^ t 23) ^^^ ((t 0 ^^^ t 5 ^^^ t 10 ^^^ t 15 ^^^ t 20)).rotateLeft 1)).rotateLeft 14) ^^^ (~~~ (t 0 ^^^ ((t 4 ^^^ t 9 ^^^ t 14 ^^^ t 19 ^^^ t 24) ^^^ ((t 1 ^^^ t 6 ^^^ t 11 ^^^ t 16 ^^^ t 21)).rotateLeft 1)) &&& ((t 6 ^^^ ((t 0 ^^^ t 5 ^^^ t 10 ^^^ t 15 ^^^ t 20) ^^^ ((t 2 ^^^ t 7 ^^^ t 12 ^^^ t 17 ^^^ t 22)).rotateLeft 1)).rotateLeft 44))) = lw (roundB t y 4) ∧
    lw (((t 3 ^^^ ((t 2 ^^^ t 7 ^^^ t 12 ^^^ t 17 ^^^ t 22) ^^^ ((t 4 ^^^ t 9 ^^^ t 14 ^^^ t 19 ^^^ t 24)).rotateLeft 1)).rotateLeft 28) ^^^ (~~~ ((t 9 ^^^ ((t 3 ^^^ t 8 ^^^ t 13 ^^^ t 18 ^^^ t 23) ^^^ ((t 0 ^^^ t 5 ^^^ t 10 ^^^ t 15 ^^^ t 20)).rotateLeft 1)).rotateLeft 20) &&& ((t 10 ^^^ ((t 4 ^^^ t 9 ^^^ t 14 ^^^ t 19 ^^^ t 24) ^^^ ((t 1 ^^^ t 6 ^^^ t 11 ^^^ t 16 ^^^ t 21)).rotateLeft 1)).rotateLeft 3))) = lw (roundB t y 5) ∧
    lw (((t 9 ^^^ ((t 3 ^^^ t 8 ^^^ t 13 ^^^ t 18 ^^^ t 23) ^^^ ((t 0 ^^^ t 5 ^^^ t 10 ^^^ t 15 ^^^ t 20)).rotateLeft 1)).rotateLeft 20) ^^^ (~~~ ((t 10 ^^^ ((t 4 ^^^ t 9 ^^^ t 14 ^^^ t 19 ^^^ t 24) ^^^ ((t 1 ^^^ t 6 ^^^ t 11 ^^^ t 16 ^^^ t 21)).rotateLeft 1)).rotateLeft 3) &&& ((t 16 ^^^ ((t 0 ^^^ t 5 ^^^ t 10 ^^^ t 15 ^^^ t 20) ^^^ ((t 2 ^^^ t 7 ^^^ t 12 ^^^ t 17 ^^^ t 22)).rotateLeft 1)).rotateLeft 45))) = lw (roundB t y 6) ∧
    lw (((t 10 ^^^ ((t 4 ^^^ t 9 ^^^ t 14 ^^^ t 19 ^^^ t 24) ^^^ ((t 1 ^^^ t 6 ^^^ t 11 ^^^ t 16 ^^^ t 21)).rotateLeft 1)).rotateLeft 3) ^^^ (~~~ ((t 16 ^^^ ((t 0 ^^^ t 5 ^^^ t 10 ^^^ t 15 ^^^ t 20) ^^^ ((t 2 ^^^ t 7 ^^^ t 12 ^^^ t 17 ^^^ t 22)).rotateLeft 1)).rotateLeft 45) &&& ((t 22 ^^^ ((t 1 ^^^ t 6 ^^^ t 11 ^^^ t 16 ^^^ t 21) ^^^ ((t 3 ^^^ t 8 ^^^ t 13 ^^^ t 18 ^^^ t 23)).rotateLeft 1)).rotateLeft 61))) = lw (roundB t y 7) ∧
    lw (((t 16 ^^^ ((t 0 ^^^ t 5 ^^^ t 10 ^^^ t 15 ^^^ t 20) ^^^ ((t 2 ^^^ t 7 ^^^ t 12 ^^^ t 17 ^^^ t 22)).rotateLeft 1)).rotateLeft 45) ^^^ (~~~ ((t 22 ^^^ ((t 1 ^^^ t 6 ^^^ t 11 ^^^ t 16 ^^^ t 21) ^^^ ((t 3 ^^^ t 8 ^^^ t 13 ^^^ t 18 ^^^ t 23)).rotateLeft 1)).rotateLeft 61) &&& ((t 3 ^^^ ((t 2 ^^^ t 7 ^^^ t 12 ^^^ t 17 ^^^ t 22) ^^^ ((t 4 ^^^ t 9 ^^^ t 14 ^^^ t 19 ^^^ t 24)).rotateLeft 1)).rotateLeft 28))) = lw (roundB t y 8) ∧
    lw (((t 22 ^^^ ((t 1 ^^^ t 6 ^^^ t 11 ^^^ t 16 ^^^ t 21) ^^^ ((t 3 ^^^ t 8 ^^^ t 13 ^^^ t 18 ^^^ t 23)).rotateLeft 1)).rotateLeft 61) ^^^ (~~~ ((t 3 ^^^ ((t 2 ^^^ t 7 ^^^ t 12 ^^^ t 17 ^^^ t 22) ^^^ ((t 4 ^^^ t 9 ^^^ t 14 ^^^ t 19 ^^^ t 24)).rotateLeft 1)).rotateLeft 28) &&& ((t 9 ^^^ ((t 3 ^^^ t 8 ^^^ t 13 ^^^ t 18 ^^^ t 23) ^^^ ((t 0 ^^^ t 5 ^^^ t 10 ^^^ t 15 ^^^ t 20)).rotateLeft 1)).rotateLeft 20))) = lw (roundB t y 9) ∧
    lw (((t 1 ^^^ ((t 0 ^^^ t 5 ^^^ t 10 ^^^ t 15 ^^^ t 20) ^^^ ((t 2 ^^^ t 7 ^^^ t 12 ^^^ t 17 ^^^ t 22)).rotateLeft 1)).rotateLeft 1) ^^^ (~~~ ((t 7 ^^^ ((t 1 ^^^ t 6 ^^^ t 11 ^^^ t 16 ^^^ t 21) ^^^ ((t 3 ^^^ t 8 ^^^ t 13 ^^^ t 18 ^^^ t 23)).rotateLeft 1)).rotateLeft 6) &&& ((t 13 ^^^ ((t 2 ^^^ t 7 ^^^ t 12 ^^^ t 17 ^^^ t 22) ^^^ ((t 4 ^^^ t 9 ^^^ t 14 ^^^ t 19 ^^^ t 24)).rotateLeft 1)).rotateLeft 25))) = lw (roundB t y 10) ∧
    lw (((t 7 ^^^ ((t 1 ^^^ t 6 ^^^ t 11 ^^^ t 16 ^^^ t 21) ^^^ ((t 3 ^^^ t 8 ^^^ t 13 ^^^ t 18 ^^^ t 23)).rotateLeft 1)).rotateLeft 6) ^^^ (~~~ ((t 13 ^^^ ((t 2 ^^^ t 7 ^^^ t 12 ^^^ t 17 ^^^ t 22) ^^^ ((t 4 ^^^ t 9 ^^^ t 14 ^^^ t 19 ^^^ t 24)).rotateLeft 1)).rotateLeft 25) &&& ((t 19 ^^^ ((t 3 ^^^ t 8 ^^^ t 13 ^^^ t 18 ^^^ t 23) ^^^ ((t 0 ^^^ t 5 ^^^ t 10 ^^^ t 15 ^^^ t 20)).rotateLeft 1)).rotateLeft 8))) = lw (roundB t y 11) ∧
    lw (((t 13 ^^^ ((t 2 ^^^ t 7 ^^^ t 12 ^^^ t 17 ^^^ t 22) ^^^ ((t 4 ^^^ t 9 ^^^ t 14 ^^^ t 19 ^^^ t 24)).rotateLeft 1)).rotateLeft 25) ^^^ (~~~ ((t 19 ^^^ ((t 3 ^^^ t 8 ^^^ t 13 ^^^ t 18 ^^^ t 23) ^^^ ((t 0 ^^^ t 5 ^^^ t 10 ^^^ t 15 ^^^ t 20)).rotateLeft 1)).rotateLeft 8) &&& ((t 20 ^^^ ((t 4 ^^^ t 9 ^^^ t 14 ^^^ t 19 ^^^ t 24) ^^^ ((t 1 ^^^ t 6 ^^^ t 11 ^^^ t 16 ^^^ t 21)).rotateLeft 1)).rotateLeft 18))) = lw (roundB t y 12) ∧
    lw (((t 19 ^^^ ((t 3 ^^^ t 8 ^^^ t 13 ^^^ t 18 ^^^ t 23) ^^^ ((t 0 ^^^ t 5 ^^^ t 10 ^^^ t 15 ^^^ t 20)).rotateLeft 1)).rotateLeft 8) ^^^ (~~~ ((t 20 ^^^ ((t 4 ^^^ t 9 ^^^ t 14 ^^^ t 19 ^^^ t 24) ^^^ ((t 1 ^^^ t 6 ^^^ t 11 ^^^ t 16 ^^^ t 21)).rotateLeft 1)).rotateLeft 18) &&& ((t 1 ^^^ ((t 0 ^^^ t 5 ^^^ t 10 ^^^ t 15 ^^^ t 20) ^^^ ((t 2 ^^^ t 7 ^^^ t 12 ^^^ t 17 ^^^ t 22)).rotateLeft 1)).rotateLeft 1))) = lw (roundB t y 13) ∧
    lw (((t 20 ^^^ ((t 4 ^^^ t 9 ^^^ t 14 ^^^ t 19 ^^^ t 24) ^^^ ((t 1 ^^^ t 6 ^^^ t 11 ^^^ t 16 ^^^ t 21)).rotateLeft 1)).rotateLeft 18) ^^^ (~~~ ((t 1 ^^^ ((t 0 ^^^ t 5 ^^^ t 10 ^^^ t 15 ^^^ t 20) ^^^ ((t 2 ^^^ t 7 ^^^ t 12 ^^^ t 17 ^^^ t 22)).rotateLeft 1)).rotateLeft 1) &&& ((t 7 ^^^ ((t 1 ^^^ t 6 ^^^ t 11 ^^^ t 16 ^^^ t 21) ^^^ ((t 3 ^^^ t 8 ^^^ t 13 ^^^ t 18 ^^^ t 23)).rotateLeft 1)).rotateLeft 6))) = lw (roundB t y 14) ∧
    lw (((t 4 ^^^ ((t 3 ^^^ t 8 ^^^ t 13 ^^^ t 18 ^^^ t 23) ^^^ ((t 0 ^^^ t 5 ^^^ t 10 ^^^ t 15 ^^^ t 20)).rotateLeft 1)).rotateLeft 27) ^^^ (~~~ ((t 5 ^^^ ((t 4 ^^^ t 9 ^^^ t 14 ^^^ t 19 ^^^ t 24) ^^^ ((t 1 ^^^ t 6 ^^^ t 11 ^^^ t 16 ^^^ t 21)).rotateLeft 1)).rotateLeft 36) &&& ((t 11 ^^^ ((t 0 ^^^ t 5 ^^^ t 10 ^^^ t 15 ^^^ t 20) ^^^ ((t 2 ^^^ t 7 ^^^ t 12 ^^^ t 17 ^^^ t 22)).rotateLeft 1)).rotateLeft 10))) = lw (roundB t y 15) ∧
    lw (((t 5 ^^^ ((t 4 ^^^ t 9 ^^^ t 14 ^^^ t 19 ^^^ t 24) ^^^ ((t 1 ^^^ t 6 ^^^ t 11 ^^^ t 16 ^^^ t 21)).rotateLeft 1)).rotateLeft 36) ^^^ (~~~ ((t 11 ^^^ ((t 0 ^^^ t 5 ^^^ t 10 ^^^ t 15 ^^^ t 20) ^^^ ((t 2 ^^^ t 7 ^^^ t 12 ^^^ t 17 ^^^ t 22)).rotateLeft 1)).rotateLeft 10) &&& ((t 17 ^^^ ((t 1 ^^^ t 6 ^^^ t 11 ^^^ t 16 ^^^ t 21) ^^^ ((t 3 ^^^ t 8 ^^^ t 13 ^^^ t 18 ^^^ t 23)).rotateLeft 1)).rotateLeft 15))) = lw (roundB t y 16) ∧
    lw (((t 11 ^^^ ((t 0 ^^^ t 5 ^^^ t 10 ^^^ t 15 ^^^ t 20) ^^^ ((t 2 ^^^ t 7 ^^^ t 12 ^^^ t 17 ^^^ t 22)).rotateLeft 1)).rotateLeft 10) ^^^ (~~~ ((t 17 ^^^ ((t 1 ^^^ t 6 ^^^ t 11 ^^^ t 16 ^^^ t 21) ^^^ ((t 3 ^^^ t 8 ^^^ t 13 ^^^ t 18 ^^^ t 23)).rotateLeft 1)).rotateLeft 15) &&& ((t 23 ^^^ ((t 2 ^^^ t 7 ^^^ t 12 ^^^ t 17 ^^^ t 22) ^^^ ((t 4 ^^^ t 9 ^^^ t 14 ^^^ t 19 ^^^ t 24)).rotateLeft 1)).rotateLeft 56))) = lw (roundB t y 17) ∧
    lw (((t 17 ^^^ ((t 1 ^^^ t 6 ^^^ t 11 ^^^ t 16 ^^^ t 21) ^^^ ((t 3 ^^^ t 8 ^^^ t 13 ^^^ t 18 ^^^ t 23)).rotateLeft 1)).rotateLeft 15) ^^^ (~~~ ((t 23 ^^^ ((t 2 ^^^ t 7 ^^^ t 12 ^^^ t 17 ^^^ t 22) ^^^ ((t 4 ^^^ t 9 ^^^ t 14 ^^^ t 19 ^^^ t 24)).rotateLeft 1)).rotateLeft 56) &&& ((t 4 ^^^ ((t 3 ^^^ t 8 ^^^ t 13 ^^^ t 18 ^^^ t 23) ^^^ ((t 0 ^^^ t 5 ^^^ t 10 ^^^ t 15 ^^^ t 20)).rotateLeft 1)).rotateLeft 27))) = lw (roundB t y 18) ∧
    lw (((t 23 ^^^ ((t 2 ^^^ t 7 ^^^ t 12 ^^^ t 17 ^^^ t 22) ^^^ ((t 4 ^^^ t 9 ^^^ t 14 ^^^ t 19 ^^^ t 24)).rotateLeft 1)).rotateLeft 56) ^^^ (~~~ ((t 4 ^^^ ((t 3 ^^^ t 8 ^^^ t 13 ^^^ t 18 ^^^ t 23) ^^^ ((t 0 ^^^ t 5 ^^^ t 10 ^^^ t 15 ^^^ t 20)).rotateLeft 1)).rotateLeft 27) &&& ((t 5 ^^^ ((t 4 ^^^ t 9 ^^^ t 14 ^^^ t 19 ^^^ t 24) ^^^ ((t 1 ^^^ t 6 ^^^ t 11 ^^^ t 16 ^^^ t 21)).rotateLeft 1)).rotateLeft 36))) = lw (roundB t y 19) ∧
    lw (((t 2 ^^^ ((t 1 ^^^ t 6 ^^^ t 11 ^^^ t 16 ^^^ t 21) ^^^ ((t 3 ^^^ t 8 ^^^ t 13 ^^^ t 18 ^^^ t 23)).rotateLeft 1)).rotateLeft 62) ^^^ (~~~ ((t 8 ^^^ ((t 2 ^^^ t 7 ^^^ t 12 ^^^ t 17 ^^^ t 22) ^^^ ((t 4 ^^^ t 9 ^^^ t 14 ^^^ t 19 ^^^ t 24)).rotateLeft 1)).rotateLeft 55) &&& ((t 14 ^^^ ((t 3 ^^^ t 8 ^^^ t 13 ^^^ t 18 ^^^ t 23) ^^^ ((t 0 ^^^ t 5 ^^^ t 10 ^^^ t 15 ^^^ t 20)).rotateLeft 1)).rotateLeft 39))) = lw (roundB t y 20) ∧
    lw (((t 8 ^^^ ((t 2 ^^^ t 7 ^^^ t 12 ^^^ t 17 ^^^ t 22) ^^^ ((t 4 ^^^ t 9 ^^^ t 14 ^^^ t 19 ^^^ t 24)).rotateLeft 1)).rotateLeft 55) ^^^ (~~~ ((t 14 ^^^ ((t 3 ^^^ t 8 ^^^ t 13 ^^^ t 18 ^^^ t 23) ^^^ ((t 0 ^^^ t 5 ^^^ t 10 ^^^ t 15 ^^^ t 20)).rotateLeft 1)).rotateLeft 39) &&& ((t 15 ^^^ ((t 4 ^^^ t 9 ^^^ t 14 ^^^ t 19 ^^^ t 24) ^^^ ((t 1 ^^^ t 6 ^^^ t 11 ^^^ t 16 ^^^ t 21)).rotateLeft 1)).rotateLeft 41))) = lw (roundB t y 21) ∧
    lw (((t 14 ^^^ ((t 3 ^^^ t 8 ^^^ t 13 ^^^ t 18 ^^^ t 23) ^^^ ((t 0 ^^^ t 5 ^^^ t 10 ^^^ t 15 ^^^ t 20)).rotateLeft 1)).rotateLeft 39) ^^^ (~~~ ((t 15 ^^^ ((t 4 ^^^ t 9 ^^^ t 14 ^^^ t 19 ^^^ t 24) ^^^ ((t 1 ^^^ t 6 ^^^ t 11 ^^^ t 16 ^^^ t 21)).rotateLeft 1)).rotateLeft 41) &&& ((t 21 ^^^ ((t 0 ^^^ t 5 ^^^ t 10 ^^^ t 15 ^^^ t 20) ^^^ ((t 2 ^^^ t 7 ^^^ t 12 ^^^ t 17 ^^^ t 22)).rotateLeft 1)).rotateLeft 2))) = lw (roundB t y 22) ∧
    lw (((t 15 ^^^ ((t 4 ^^^ t 9 ^^^ t 14 ^^^ t 19 ^^^ t 24) ^^^ ((t 1 ^^^ t 6 ^^^ t 11 ^^^ t 16 ^^^ t 21)).rotateLeft 1)).rotateLeft 41) ^^^ (~~~ ((t 21 ^^^ ((t 0 ^^^ t 5 ^^^ t 10 ^^^ t 15 ^^^ t 20) ^^^ ((t 2 ^^^ t 7 ^^^ t 12 ^^^ t 17 ^^^ t 22)).rotateLeft 1)).rotateLeft 2) &&& ((t 2 ^^^ ((t 1 ^^^ t 6 ^^^ t 11 ^^^ t 16 ^^^ t 21) ^^^ ((t 3 ^^^ t 8 ^^^ t 13 ^^^ t 18 ^^^ t 23)).rotateLeft 1)).rotateLeft 62))) = lw (roundB t y 23) ∧
    lw (((t 21 ^^^ ((t 0 ^^^ t 5 ^^^ t 10 ^^^ t 15 ^^^ t 20) ^^^ ((t 2 ^^^ t 7 ^^^ t 12 ^^^ t 17 ^^^ t 22)).rotateLeft 1)).rotateLeft 2) ^^^ (~~~ ((t 2 ^^^ ((t 1 ^^^ t 6 ^^^ t 11 ^^^ t 16 ^^^ t 21) ^^^ ((t 3 ^^^ t 8 ^^^ t 13 ^^^ t 18 ^^^ t 23)).rotateLeft 1)).rotateLeft 62) &&& ((t 8 ^^^ ((t 2 ^^^ t 7 ^^^ t 12 ^^^ t 17 ^^^ t 22) ^^^ ((t 4 ^^^ t 9 ^^^ t 14 ^^^ t 19 ^^^ t 24)).rotateLeft 1)).rotateLeft 55))) = lw (roundB t y 24) := by
  simp only [roundB, chiB, scatB, thetaB, colB, srcN, offN, List.getD_cons_succ, List.getD_cons_zero, rot_nought, Nat.reduceAdd, Nat.reduceMod, Nat.reduceDiv, Nat.reduceMul, if_true, Nat.reduceEqDiff, if_false, and_self]
theorem ok_Turned (a : Nat → BitVec 64) : Owes Tryd.prog cxTurned [(2, .inv (invTurned a))] 30 Tryd.f8 [sRow .u64 25 fun i => lw (a i)] (.one (sRow .u64 25 fun i => lw (turnB a i))) := by
  rw [vc_Turned]
  refine ⟨fun y => rfl, 0, by omega, rfl, ⟨fun j _ => rfl, trivial⟩, rfl, rfl, fun y hy => ⟨fun hlt => ?_, fun hge => ?_⟩⟩
  · have hlt : y < 24 := by have := of_decide_eq_true hlt; omega
    have ny : ((y : Int)).toNat = y := Int.toNat_natCast y
    have m1 : IntKind.i64.wrap ((y : Int) + 1) = ((y + 1 : Nat) : Int) := by rw [IntKind.wrap_i64]; omega
    simp only [wrap_nat, ofInt_lw, not_lane, rotlM, Int.reduceToNat, Nat.reduceMod, lane_lw, and_self, true_and, ny, m1, Int.reduceLE, Int.reduceLT]
    refine ⟨⟨by omega, by omega⟩, y + 1, by omega, rfl, ?_⟩
    have hr : roundsB (y + 1) a = roundB (roundsB y a) y := rfl
    rw [hr]
    generalize roundsB y a = t
    have e := row_of t y
    refine ⟨⟨e.1, e.2.1, e.2.2.1, e.2.2.2.1, e.2.2.2.2.1, e.2.2.2.2.2.1, e.2.2.2.2.2.2.1, e.2.2.2.2.2.2.2.1, e.2.2.2.2.2.2.2.2.1, e.2.2.2.2.2.2.2.2.2.1, e.2.2.2.2.2.2.2.2.2.2.1, e.2.2.2.2.2.2.2.2.2.2.2.1, e.2.2.2.2.2.2.2.2.2.2.2.2.1, e.2.2.2.2.2.2.2.2.2.2.2.2.2.1, e.2.2.2.2.2.2.2.2.2.2.2.2.2.2.1, e.2.2.2.2.2.2.2.2.2.2.2.2.2.2.2.1, e.2.2.2.2.2.2.2.2.2.2.2.2.2.2.2.2.1, e.2.2.2.2.2.2.2.2.2.2.2.2.2.2.2.2.2.1, e.2.2.2.2.2.2.2.2.2.2.2.2.2.2.2.2.2.2.1, e.2.2.2.2.2.2.2.2.2.2.2.2.2.2.2.2.2.2.2.1, e.2.2.2.2.2.2.2.2.2.2.2.2.2.2.2.2.2.2.2.2.1, e.2.2.2.2.2.2.2.2.2.2.2.2.2.2.2.2.2.2.2.2.2.1, e.2.2.2.2.2.2.2.2.2.2.2.2.2.2.2.2.2.2.2.2.2.2.1, e.2.2.2.2.2.2.2.2.2.2.2.2.2.2.2.2.2.2.2.2.2.2.2.1, e.2.2.2.2.2.2.2.2.2.2.2.2.2.2.2.2.2.2.2.2.2.2.2.2, trivial⟩, by omega⟩
  · have hge : ¬ y < 24 := by have := of_decide_eq_false hge; omega
    have : y = 24 := by omega
    subst this
    exact ⟨fun j _ => rfl, trivial⟩
theorem card_Turned : FnOKg Tryd.prog [] 8 (specLanes 25 25 turnB) :=
  FnOK_lanes (cx := cxTurned) (iv := fun a => [(2, .inv (invTurned a))]) (by
    intro p hp
    simp only [cxTurned, List.mem_cons, List.not_mem_nil, or_false] at hp
    rcases hp with rfl | rfl
    · exact card_rotlN
    · exact card_roundOf) Tryd.func8 (by kernel_rfl) (by kernel_rfl) ok_Turned
end Go.Proofs.YtnnlochmfggeaaaDoor
end

section
/-
  The duty of KeccakTurns, whatever turns.
-/
namespace Go.Proofs.YtnnlochmfggeaaaDoor
open Go Go.Sx Go.RowKit
def cxTurns (T : (Nat → BitVec 64) → Nat → BitVec 64) : Cx := ⟨[(7, specLanes 25 25 T), (8, specLanes 25 25 T)], glK, 0⟩
-- VC vc_KeccakTurns HASH 78139c9450235ce6
theorem vc_KeccakTurns (T : (Nat → BitVec 64) → Nat → BitVec 64) (L : Nat → Int) :
    Owes Tryd.prog (cxTurns T) [] 10 Tryd.f3 [sRow .u64 25 L] (.one (sB true)) =
    ((∀ (i : Nat), i < (25 : Nat) → (0 : Int) ≤ L i ∧ L i < (18446744073709551616 : Int)) ∧ (∀ (i : Nat), i < (25 : Nat) → (0 : Int) ≤ L i ∧ L i < (18446744073709551616 : Int)) ∧ Go.Sx.conj [(List.range (25 : Nat)).all fun (j : Nat) => Go.Sx.lw (T (Go.Sx.ofRow L) j) == Go.Sx.lw (T (Go.Sx.ofRow L) j)] = Bool.true) := by kernel_rfl
-- END VC
end Go.Proofs.YtnnlochmfggeaaaDoor
end

section
/-
  KeccakTurns: the code's rounds and the document's are the same.
-/
namespace Go.Proofs.YtnnlochmfggeaaaDoor
open Go Go.Sx Go.RowKit

theorem ok_KeccakTurns (L : Nat → Int) (hL : lanes 25 L) : Owes Tryd.prog (cxTurns turnB) [] 10 Tryd.f3 [sRow .u64 25 L] (.one (sB true)) := by
  rw [vc_KeccakTurns]
  refine ⟨hL, hL, ?_⟩
  simp only [conj, beq_self_eq_true, List.all_eq_true, implies_true]
theorem cxok_Turns : CxOK Tryd.prog (cxTurns turnB) := by
  intro p hp
  simp only [cxTurns, List.mem_cons, List.not_mem_nil, or_false] at hp
  rcases hp with rfl | rfl
  · exact card_Turn
  · exact card_Turned.up _
end Go.Proofs.YtnnlochmfggeaaaDoor
end
