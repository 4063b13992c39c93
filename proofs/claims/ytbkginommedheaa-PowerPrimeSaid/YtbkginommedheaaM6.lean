/-
  Texts: V10, Wsp5, Leh, V11, V12, V6, V4, P1, P2.
-/
import Derived.Test.YtbkginommedheaaM1
import Derived.Test.YtbkginommedheaaM2
import Derived.Test.YtbkginommedheaaM3
import Derived.Test.YtbkginommedheaaM4
import Derived.Test.YtbkginommedheaaM5
section
/-
  Package field: powers: reckoned by the kernel. (Laid by program.)
-/
namespace Go.Proofs.Ytbkginommedheaa
open Go.Sx
set_option maxRecDepth 100000
def powC (a _ m : Nat) : List Prop := [a % M256 < m % M256]
def powG (a x m : Nat) : SV := .one (sU ((a % M256) ^ (x % M256) % (m % M256)))
def cxPow : Cx := [(34, specUUU prodC prodG), (58, specU noughtsG)]
def zeroU : List SK := [.c (.num .u64 0), .c (.num .u64 0), .c (.num .u64 0), .c (.num .u64 0)]
def invPow (a x m : Nat) : Inv where
  X := Nat
  tm j := slotsAt 23 [(0, .one (sU x)), (1, .one (.sc (.fn 63 [.p 4 0, .p 2 0, .p 0 0]))), (2, .one (.sc (.ptr 5 0))), (4, .one (sI .i64 ((j : Int) - 1)))]
  ob j := [.cells 26 [.u a] 0, .cells 26 [.u x] 0, .cells 26 [.u m] 0, .cells 26 zeroU 0, .cells 26 [.u ((a % M256) ^ (x % M256 / 2 ^ j) % (m % M256))] 0, .cells 26 [.u x] 0]
  holds j := j ≤ 256
  less j := j
def pE (a m : Nat) : Int := if m % M256 = 0 then 7 else if a % M256 < m % M256 then 0 else 6
def fpowG (a x m : Nat) : SV := .tup [sU (if pE a m = 0 then (a % M256) ^ (x % M256) % (m % M256) else 0), sI .i64 (pE a m)]
def cxFpow : Cx := [(44, specUU cmpG), (36, specUUU powC powG)]
-- VC vc_power HASH b1eab28b9720fc76
theorem vc_power (a x m : Nat) :
    Owes Try.prog cxPow [((62 + 1) * 100000 + 2, .inv (invPow a x m))] 100 Try.f36 [sU a, sU x, sU m] (powG a x m) =
    (let x1 : Nat := m % Go.Sx.M256; let x2 : Nat := a % Go.Sx.M256; let x3 : Nat := x % Go.Sx.M256; let x4 : Nat := x2 ^ x3 % x1 % Go.Sx.M256; (Go.Sx.conj [(1 : Nat) == x1] = Bool.true → (0 : Nat) = x4 ∧ True) ∧ (Go.Sx.conj [(1 : Nat) == x1] = Bool.false → (∀ (y : Nat), Go.Sx.closedB (Go.Sx.slotsAt (23 : Nat) [((0 : Nat), Go.Sx.SV.one (Go.Sx.sU x)), ((1 : Nat), Go.Sx.SV.one (Go.Sx.SA.sc (Go.Sx.SC.fn (63 : Nat) [Go.Sx.PV.p (4 : Nat) (0 : Nat), Go.Sx.PV.p (2 : Nat) (0 : Nat), Go.Sx.PV.p (0 : Nat) (0 : Nat)]))), ((2 : Nat), Go.Sx.SV.one (Go.Sx.SA.sc (Go.Sx.SC.ptr (5 : Nat) (0 : Nat)))), ((4 : Nat), Go.Sx.SV.one (Go.Sx.sI Go.IntKind.i64 ((↑y : Int) - (1 : Int))))]) [Go.Sx.SO.cells (26 : Go.TypeId) [Go.Sx.SK.u a] (0 : Nat), Go.Sx.SO.cells (26 : Go.TypeId) [Go.Sx.SK.u x] (0 : Nat), Go.Sx.SO.cells (26 : Go.TypeId) [Go.Sx.SK.u m] (0 : Nat), Go.Sx.SO.cells (26 : Go.TypeId) Go.Proofs.Ytbkginommedheaa.zeroU (0 : Nat), Go.Sx.SO.cells (26 : Go.TypeId) [Go.Sx.SK.u (x2 ^ (x3 / (2 : Nat) ^ y) % x1)] (0 : Nat), Go.Sx.SO.cells (26 : Go.TypeId) [Go.Sx.SK.u x] (0 : Nat)] = Bool.true) ∧ ∃ (y : Nat), y ≤ (256 : Nat) ∧ x3 = x3 ∧ ((63 : Nat) = (63 : Nat) ∧ [Go.Sx.PV.p (match Bool.false with | Bool.true => (1 : Nat) | Bool.false => ([] ++ [Go.Sx.SO.cells (26 : Nat) (Go.Sx.toKs (Go.Sx.sU a)) (0 : Nat)] ++ [Go.Sx.SO.cells (26 : Nat) (Go.Sx.toKs (Go.Sx.sU x)) (0 : Nat)] ++ [Go.Sx.SO.cells (26 : Nat) (Go.Sx.toKs (Go.Sx.sU m)) (0 : Nat)] ++ [Go.Sx.SO.cells (26 : Nat) (List.map Go.Sx.litC (Go.Value.agg #[Go.Value.int Go.IntKind.u64 (0 : Int), Go.Value.int Go.IntKind.u64 (0 : Int), Go.Value.int Go.IntKind.u64 (0 : Int), Go.Value.int Go.IntKind.u64 (0 : Int)]).cells.toList) (0 : Nat)]).length) (0 : Nat), Go.Sx.PV.p (match Bool.false with | Bool.true => (2 : Nat) | Bool.false => ([] ++ [Go.Sx.SO.cells (26 : Nat) (Go.Sx.toKs (Go.Sx.sU a)) (0 : Nat)] ++ [Go.Sx.SO.cells (26 : Nat) (Go.Sx.toKs (Go.Sx.sU x)) (0 : Nat)]).length) (0 : Nat), Go.Sx.PV.p (0 : Nat) (0 : Nat)] = [Go.Sx.PV.p (4 : Nat) (0 : Nat), Go.Sx.PV.p (2 : Nat) (0 : Nat), Go.Sx.PV.p (0 : Nat) (0 : Nat)]) ∧ Go.IntKind.i64.wrap ((255 : Int) - (↑((256 : Nat) - Go.Proofs.Ytbkginommedheaa.bitsN x3) : Int)) = (↑y : Int) - (1 : Int) ∧ x2 = x2 ∧ (0 : Nat) = (0 : Nat) ∧ x3 = x3 ∧ (0 : Nat) = (0 : Nat) ∧ x1 = x1 ∧ (0 : Nat) = (0 : Nat) ∧ (0 : Nat) = (0 : Nat) ∧ ((1 : Nat) = x2 ^ (x3 / (2 : Nat) ^ y) % x1 % Go.Sx.M256 ∧ True) ∧ (0 : Nat) = (0 : Nat) ∧ x3 = x3 ∧ (0 : Nat) = (0 : Nat) ∧ ∀ (y : Nat), y ≤ (256 : Nat) → (Decidable.decide ((↑y : Int) - (1 : Int) ≥ (0 : Int)) = Bool.true → ((0 : Int) ≤ Go.IntKind.i64.wrap (((↑y : Int) - (1 : Int)).tdiv (64 : Int)) ∧ Go.IntKind.i64.wrap (((↑y : Int) - (1 : Int)).tdiv (64 : Int)) < (4 : Int)) ∧ ((0 : Int) ≤ Go.IntKind.i64.wrap (((↑y : Int) - (1 : Int)).tdiv (64 : Int)) ∧ Go.IntKind.i64.wrap (((↑y : Int) - (1 : Int)).tdiv (64 : Int)) < (4 : Int)) ∧ (0 : Int) ≤ ((↑y : Int) - (1 : Int)).tmod (64 : Int) ∧ x2 ^ (x3 / (2 : Nat) ^ y) % x1 % Go.Sx.M256 < x1 ∧ x2 ^ (x3 / (2 : Nat) ^ y) % x1 % Go.Sx.M256 < x1 ∧ ((Go.IntKind.u64.wrap (↑(BitVec.ofInt (64 : Nat) ((Go.Sx.limb x (Go.IntKind.i64.wrap (((↑y : Int) - (1 : Int)).tdiv (64 : Int))).toNat).fdiv ((2 : Int) ^ Min.min (((↑y : Int) - (1 : Int)).tmod (64 : Int)).toNat (64 : Nat))) &&& BitVec.ofInt (64 : Nat) (1 : Int)).toNat : Int) == (1 : Int)) = Bool.true → x2 ^ (x3 / (2 : Nat) ^ y) % x1 % Go.Sx.M256 * (x2 ^ (x3 / (2 : Nat) ^ y) % x1 % Go.Sx.M256) % x1 % Go.Sx.M256 < x1 ∧ x2 < x1 ∧ ∃ (y' : Nat), y' ≤ (256 : Nat) ∧ x3 = x3 ∧ ((63 : Nat) = (63 : Nat) ∧ [Go.Sx.PV.p (4 : Nat) (0 : Nat), Go.Sx.PV.p (2 : Nat) (0 : Nat), Go.Sx.PV.p (0 : Nat) (0 : Nat)] = [Go.Sx.PV.p (4 : Nat) (0 : Nat), Go.Sx.PV.p (2 : Nat) (0 : Nat), Go.Sx.PV.p (0 : Nat) (0 : Nat)]) ∧ Go.IntKind.i64.wrap ((↑y : Int) - (1 : Int) - (1 : Int)) = (↑y' : Int) - (1 : Int) ∧ x2 = x2 ∧ (0 : Nat) = (0 : Nat) ∧ x3 = x3 ∧ (0 : Nat) = (0 : Nat) ∧ x1 = x1 ∧ (0 : Nat) = (0 : Nat) ∧ (0 : Nat) = (0 : Nat) ∧ x2 ^ (x3 / (2 : Nat) ^ y) % x1 % Go.Sx.M256 * (x2 ^ (x3 / (2 : Nat) ^ y) % x1 % Go.Sx.M256) % x1 % Go.Sx.M256 * x2 % x1 % Go.Sx.M256 = x2 ^ (x3 / (2 : Nat) ^ y') % x1 % Go.Sx.M256 ∧ (0 : Nat) = (0 : Nat) ∧ x3 = x3 ∧ (0 : Nat) = (0 : Nat) ∧ y' < y) ∧ ((Go.IntKind.u64.wrap (↑(BitVec.ofInt (64 : Nat) ((Go.Sx.limb x (Go.IntKind.i64.wrap (((↑y : Int) - (1 : Int)).tdiv (64 : Int))).toNat).fdiv ((2 : Int) ^ Min.min (((↑y : Int) - (1 : Int)).tmod (64 : Int)).toNat (64 : Nat))) &&& BitVec.ofInt (64 : Nat) (1 : Int)).toNat : Int) == (1 : Int)) = Bool.false → ∃ (y' : Nat), y' ≤ (256 : Nat) ∧ x3 = x3 ∧ ((63 : Nat) = (63 : Nat) ∧ [Go.Sx.PV.p (4 : Nat) (0 : Nat), Go.Sx.PV.p (2 : Nat) (0 : Nat), Go.Sx.PV.p (0 : Nat) (0 : Nat)] = [Go.Sx.PV.p (4 : Nat) (0 : Nat), Go.Sx.PV.p (2 : Nat) (0 : Nat), Go.Sx.PV.p (0 : Nat) (0 : Nat)]) ∧ Go.IntKind.i64.wrap ((↑y : Int) - (1 : Int) - (1 : Int)) = (↑y' : Int) - (1 : Int) ∧ x2 = x2 ∧ (0 : Nat) = (0 : Nat) ∧ x3 = x3 ∧ (0 : Nat) = (0 : Nat) ∧ x1 = x1 ∧ (0 : Nat) = (0 : Nat) ∧ (0 : Nat) = (0 : Nat) ∧ x2 ^ (x3 / (2 : Nat) ^ y) % x1 % Go.Sx.M256 * (x2 ^ (x3 / (2 : Nat) ^ y) % x1 % Go.Sx.M256) % x1 % Go.Sx.M256 = x2 ^ (x3 / (2 : Nat) ^ y') % x1 % Go.Sx.M256 ∧ (0 : Nat) = (0 : Nat) ∧ x3 = x3 ∧ (0 : Nat) = (0 : Nat) ∧ y' < y)) ∧ (Decidable.decide ((↑y : Int) - (1 : Int) ≥ (0 : Int)) = Bool.false → x2 ^ (x3 / (2 : Nat) ^ y) % x1 % Go.Sx.M256 = x4 ∧ True))) := by kernel_rfl
-- END VC
-- VC vc_fPow HASH 63173778097e31b1
theorem vc_fPow (a x m : Nat) :
    Owes Try.prog cxFpow [] 100 Try.f18 [sU a, sU x, sU m] (fpowG a x m) =
    (let x1 : Nat := m % Go.Sx.M256; let x2 : Nat := a % Go.Sx.M256; let x3 : Nat := x2 ^ (x % Go.Sx.M256) % x1; let x4 : Nat := (if Go.Proofs.Ytbkginommedheaa.pE a m = (0 : Int) then x3 else (0 : Nat)) % Go.Sx.M256; (Go.Sx.conj [x1 == (0 : Nat)] = Bool.true → ((0 : Nat) = x4 ∧ True) ∧ (7 : Int) = Go.Proofs.Ytbkginommedheaa.pE a m) ∧ (Go.Sx.conj [x1 == (0 : Nat)] = Bool.false → (Decidable.decide (Go.Sx.cmpN a m ≥ (0 : Int)) = Bool.true → ((0 : Nat) = x4 ∧ True) ∧ (6 : Int) = Go.Proofs.Ytbkginommedheaa.pE a m) ∧ (Decidable.decide (Go.Sx.cmpN a m ≥ (0 : Int)) = Bool.false → x2 < x1 ∧ (x3 % Go.Sx.M256 = x4 ∧ True) ∧ (0 : Int) = Go.Proofs.Ytbkginommedheaa.pE a m))) := by kernel_rfl
-- END VC
end Go.Proofs.Ytbkginommedheaa
end

section
/-
  Cards for arguments of any shape: structs of numbers and bits, a struct with an address that nobody follows.
-/
namespace Go.Sx
open Go.RowKit

/-- What a part of an argument is: a number of 256 bits, a bit; and what it holds. -/
inductive PK where
  | u | b
inductive At where
  | u (n : Nat)
  | b (x : Bool)
  | i (n : Int)
/-- What an argument is: a number and an address; a struct; a whole number; a bit. -/
inductive AP where
  | hand
  | str (ps : List PK)
  | int (k : IntKind)
  | bit

def asBit : SC → Option Bool
  | .bit x => some x
  | .val (.bool x) => some x
  | _ => none
theorem asBit_sound {s : SC} {x : Bool} (h : asBit s = some x) (ρ : Nat → Nat) : s.conc ρ = .bool x := by
  unfold asBit at h
  split at h
  · cases h; rfl
  · cases h; rfl
  · cases h
def takeU : List SK → Option (List Prop × Nat × List SK)
  | .u n :: r => some ([], n, r)
  | .c a :: .c b :: .c c :: .c d :: r => match asU4 [a, b, c, d] with
    | some (ps, n) => some (ps, n, r)
    | none => none
  | _ => none
theorem takeU_sound {ks r : List SK} {ps : List Prop} {n : Nat} (h : takeU ks = some (ps, n, r)) (hp : Ok ps) (ρ : Nat → Nat) : concs ρ ks = concs ρ (.u n :: r) := by
  unfold takeU at h
  split at h
  · cases h; rfl
  · rename_i a b c d r'
    split at h
    · rename_i ps' n' h4
      simp only [Option.some.injEq, Prod.mk.injEq] at h
      obtain ⟨rfl, rfl, rfl⟩ := h
      have := asU4_sound h4 hp ρ
      simp only [U, List.map_cons, List.map_nil, Value.agg.injEq] at this
      have := congrArg Array.toList this
      simp only [List.cons.injEq, and_true] at this
      obtain ⟨e1, e2, e3, e4⟩ := this
      simp [concs, flat, SK.cells, e1, e2, e3, e4, show ∀ v, (SC.val v).conc ρ = v from fun _ => rfl]
    · cases h
  · cases h
def asKs : List PK → List SK → Option (List Prop × List At)
  | [], [] => some ([], [])
  | .u :: ps, ks => match takeU ks with
    | some (p, n, r) => match asKs ps r with
      | some (q, l) => some (p ++ q, .u n :: l)
      | none => none
    | none => none
  | .b :: ps, .c s :: r => match asBit s with
    | some x => match asKs ps r with
      | some (q, l) => some (q, .b x :: l)
      | none => none
    | none => none
  | _, _ => none
def At.sk : At → SK
  | .u n => .u n
  | .b x => .c (.val (.bool x))
  | .i n => .c (.val (.int .i64 n))
theorem concs_app (ρ : Nat → Nat) (k : SK) {xs ys : List SK} (h : concs ρ xs = concs ρ ys) : concs ρ (k :: xs) = concs ρ (k :: ys) := by
  rw [concs_cons ρ k xs, concs_cons ρ k ys, h]
theorem asKs_sound (ρ : Nat → Nat) : ∀ {ps : List PK} {ks : List SK} {q : List Prop} {l : List At}, asKs ps ks = some (q, l) → Ok q → concs ρ ks = concs ρ (l.map At.sk)
  | [], [], q, l, h, _ => by simp only [asKs, Option.some.injEq, Prod.mk.injEq] at h; obtain ⟨_, rfl⟩ := h; rfl
  | [], _ :: _, q, l, h, _ => by simp [asKs] at h
  | .u :: ps, ks, q, l, h, hq => by
    simp only [asKs] at h
    split at h
    · rename_i p n r hu
      split at h
      · rename_i q' l' hr
        simp only [Option.some.injEq, Prod.mk.injEq] at h
        obtain ⟨rfl, rfl⟩ := h
        obtain ⟨h1, h2⟩ := Ok.append.1 hq
        rw [takeU_sound hu h1 ρ]
        exact concs_app ρ _ (asKs_sound ρ hr h2)
      · cases h
    · cases h
  | .b :: ps, [], q, l, h, _ => by simp [asKs] at h
  | .b :: ps, .u _ :: _, q, l, h, _ => by simp [asKs] at h
  | .b :: ps, .f _ _ _ :: _, q, l, h, _ => by simp [asKs] at h
  | .b :: ps, .c s :: r, q, l, h, hq => by
    simp only [asKs] at h
    split at h
    · rename_i x hx
      split at h
      · rename_i q' l' hr
        simp only [Option.some.injEq, Prod.mk.injEq] at h
        obtain ⟨rfl, rfl⟩ := h
        have ih := asKs_sound ρ hr hq
        rw [List.map_cons, concs_cons, concs_cons ρ (At.sk (.b x)), ih]
        have e := asBit_sound hx ρ
        simp [concs, flat, SK.cells, At.sk, e, show ∀ v, (SC.val v).conc ρ = v from fun _ => rfl]
      · cases h
    · cases h

def asArg : AP → SA → Option (List Prop × List At)
  | .hand, .agg ks => match takeU ks with
    | some (p, n, [.c _]) => some (p, [.u n])
    | _ => none
  | .str ps, .agg ks => asKs ps ks
  | .int k, x => match asI x with
    | some (k', n) => if k' = k then some ([], [.i n]) else none
    | none => none
  | .bit, .sc s => match asBit s with
    | some x => some ([], [.b x])
    | none => none
  | _, _ => none
/-- An argument that stands for others of its shape; v: the address. -/
def mkArg : AP → List At → Value → SA
  | .hand, [.u n], v => .agg [.u n, .c (.val v)]
  | .str _, l, _ => .agg (l.map At.sk)
  | .int k, [.i n], _ => sI k n
  | .bit, [.b x], _ => sB x
  | _, _, _ => .agg []
theorem asArg_sound {ap : AP} {x : SA} {q : List Prop} {l : List At} (h : asArg ap x = some (q, l)) (hq : Ok q) (ρ : Nat → Nat) : ∃ v, x.conc ρ = (mkArg ap l v).conc ρ := by
  unfold asArg at h
  split at h
  · rename_i ks
    split at h
    · rename_i p n s hu
      simp only [Option.some.injEq, Prod.mk.injEq] at h
      obtain ⟨rfl, rfl⟩ := h
      refine ⟨s.conc ρ, ?_⟩
      simp only [SA.conc, mkArg, takeU_sound hu hq ρ]
      simp [concs, flat, SK.cells, show ∀ v, (SC.val v).conc ρ = v from fun _ => rfl]
    · cases h
  · rename_i ps ks
    exact ⟨.bool false, by simp only [SA.conc, mkArg, asKs_sound ρ h hq]⟩
  · rename_i k x'
    split at h
    · rename_i k' n hi
      split at h
      · rename_i hk
        subst hk
        simp only [Option.some.injEq, Prod.mk.injEq] at h
        obtain ⟨rfl, rfl⟩ := h
        exact ⟨.bool false, asI_canon hi ρ⟩
      · cases h
    · cases h
  · split at h
    · rename_i b hb
      simp only [Option.some.injEq, Prod.mk.injEq] at h
      obtain ⟨rfl, rfl⟩ := h
      exact ⟨.bool false, asBit_sound hb ρ⟩
    · cases h
  · cases h
theorem mkArg_bnd (ap : AP) (l : List At) (v : Value) : (mkArg ap l v).bnd none0 := by
  unfold mkArg
  split
  · intro k hk
    simp only [List.mem_cons, List.not_mem_nil, or_false] at hk
    rcases hk with rfl | rfl <;> trivial
  · intro k hk
    simp only [List.mem_map] at hk
    obtain ⟨a, _, rfl⟩ := hk
    cases a <;> trivial
  · trivial
  · trivial
  · intro k hk
    simp at hk
def asArgs : List AP → List SA → Option (List Prop × List (List At))
  | [], [] => some ([], [])
  | ap :: sh, x :: r => match asArg ap x with
    | some (p, l) => match asArgs sh r with
      | some (q, ls) => some (p ++ q, l :: ls)
      | none => none
    | none => none
  | _, _ => none
def mkArgs : List AP → List (List At) → List Value → List SA
  | ap :: sh, l :: ls, vs => mkArg ap l (vs.headD (.bool false)) :: mkArgs sh ls vs.tail
  | _, _, _ => []
theorem asArgs_sound (ρ : Nat → Nat) : ∀ {sh : List AP} {xs : List SA} {q : List Prop} {ls : List (List At)}, asArgs sh xs = some (q, ls) → Ok q → ∃ vs, xs.map (SA.conc ρ) = (mkArgs sh ls vs).map (SA.conc ρ)
  | [], [], q, ls, h, _ => ⟨[], by simp only [asArgs, Option.some.injEq, Prod.mk.injEq] at h; obtain ⟨_, rfl⟩ := h; rfl⟩
  | [], _ :: _, q, ls, h, _ => by simp [asArgs] at h
  | _ :: _, [], q, ls, h, _ => by simp [asArgs] at h
  | ap :: sh, x :: r, q, ls, h, hq => by
    simp only [asArgs] at h
    split at h
    · rename_i p l hx
      split at h
      · rename_i q' l' hr
        simp only [Option.some.injEq, Prod.mk.injEq] at h
        obtain ⟨rfl, rfl⟩ := h
        obtain ⟨h1, h2⟩ := Ok.append.1 hq
        obtain ⟨v, hv⟩ := asArg_sound hx h1 ρ
        obtain ⟨vs, hvs⟩ := asArgs_sound ρ hr h2
        exact ⟨v :: vs, by simp only [mkArgs, List.map_cons, List.headD_cons, List.tail_cons, hv, hvs]⟩
      · cases h
    · cases h
theorem mkArgs_bnd : ∀ (sh : List AP) (ls : List (List At)) (vs : List Value), ∀ x ∈ mkArgs sh ls vs, x.bnd none0
  | [], _, _, x, h => by simp [mkArgs] at h
  | _ :: _, [], _, x, h => by simp [mkArgs] at h
  | ap :: sh, l :: ls, vs, x, h => by
    simp only [mkArgs, List.mem_cons] at h
    rcases h with rfl | h
    · exact mkArg_bnd _ _ _
    · exact mkArgs_bnd sh ls _ x h

/-- A card for arguments of such shapes, under a condition. -/
def specA (sh : List AP) (c : List (List At) → List Prop) (g : List (List At) → SV) : FSpec := fun args =>
  match asArgs sh args with
  | some (p, ls) => some (p ++ c ls, g ls)
  | none => none
theorem FnOK_A {P : Program} {cx : Cx} (hcx : CxOK P cx) {sh : List AP} {c : List (List At) → List Prop} {g : List (List At) → SV} {iv : List (List At) → List (Nat × Hint)} {N : Nat} {f : Nat} {fn : Func} (hf : P.funcs[f]? = some fn) (hb : fn.body.isSome = true) (hn : (fn.name == "runtime.NumGoroutine") = false) (hg : ∀ ls, (g ls).bnd none0)
    (h : ∀ ls vs, Ok (c ls) → Owes P cx (iv ls) N fn (mkArgs sh ls vs) (g ls)) : FnOK P f (specA sh c g) := by
  refine FnOK_of hf hb hn fun args ps sv hs hp => ?_
  unfold specA at hs
  split at hs
  · rename_i p ls ha
    simp only [Option.some.injEq, Prod.mk.injEq] at hs
    obtain ⟨rfl, rfl⟩ := hs
    obtain ⟨o1, o2⟩ := Ok.append.1 hp
    refine ⟨hg ls, fun ρ w => ?_⟩
    obtain ⟨vs, hv⟩ := asArgs_sound ρ ha o1
    rw [hv]
    refine (calls_of_owes hcx hf hb (mkArgs_bnd sh ls vs) (h ls vs o2) ρ w).mono ?_
    rintro e w' ⟨v, rfl, ⟨ρ', hr⟩, hbl⟩
    exact ⟨v, rfl, rep_none0 (hg ls) hr, hbl⟩
  · cases hs
/-- The same, where the cards beneath are picked by the arguments. -/
theorem FnOK_AX {P : Program} {cx : List (List At) → Cx} {sh : List AP} {c : List (List At) → List Prop} (hcx : ∀ ls, Ok (c ls) → CxOK P (cx ls)) {g : List (List At) → SV} {iv : List (List At) → List (Nat × Hint)} {N : Nat} {f : Nat} {fn : Func} (hf : P.funcs[f]? = some fn) (hb : fn.body.isSome = true) (hn : (fn.name == "runtime.NumGoroutine") = false) (hg : ∀ ls, (g ls).bnd none0)
    (h : ∀ ls vs, Ok (c ls) → Owes P (cx ls) (iv ls) N fn (mkArgs sh ls vs) (g ls)) : FnOK P f (specA sh c g) := by
  refine FnOK_of hf hb hn fun args ps sv hs hp => ?_
  unfold specA at hs
  split at hs
  · rename_i p ls ha
    simp only [Option.some.injEq, Prod.mk.injEq] at hs
    obtain ⟨rfl, rfl⟩ := hs
    obtain ⟨o1, o2⟩ := Ok.append.1 hp
    refine ⟨hg ls, fun ρ w => ?_⟩
    obtain ⟨vs, hv⟩ := asArgs_sound ρ ha o1
    rw [hv]
    refine (calls_of_owes (hcx ls o2) hf hb (mkArgs_bnd sh ls vs) (h ls vs o2) ρ w).mono ?_
    rintro e w' ⟨v, rfl, ⟨ρ', hr⟩, hbl⟩
    exact ⟨v, rfl, rep_none0 (hg ls) hr, hbl⟩
  · cases hs
end Go.Sx
end

section
/-
  Euclid's way, and several of its steps told by the highest bits: numbers alone.
-/
namespace Go.Sx

/-- Euclid's steps: what is left, and how often a number goes into it. -/
def eu : Nat → Nat → Nat → Int → Int → Nat × Int
  | 0, r0, _, s0, _ => (r0, s0)
  | n + 1, r0, r1, s0, s1 => if r1 = 0 then (r0, s0) else eu n r1 (r0 % r1) s1 (s0 - ((r0 / r1 : Nat) : Int) * s1)
theorem eu_more : ∀ (n k r0 r1 : Nat) (s0 s1 : Int), r1 ≤ n → r1 ≤ k → eu n r0 r1 s0 s1 = eu k r0 r1 s0 s1
  | 0, 0, _, _, _, _, _, _ => rfl
  | 0, k + 1, r0, r1, s0, s1, h, _ => by
    have : r1 = 0 := by omega
    simp only [eu, if_pos this]
  | n + 1, 0, r0, r1, s0, s1, _, h => by
    have : r1 = 0 := by omega
    simp only [eu, if_pos this]
  | n + 1, k + 1, r0, r1, s0, s1, h, h' => by
    simp only [eu]
    by_cases e : r1 = 0
    · rw [if_pos e, if_pos e]
    · have := Nat.mod_lt r0 (Nat.pos_of_ne_zero e)
      rw [if_neg e, if_neg e, eu_more n k _ _ _ _ (by omega) (by omega)]
def euE (r0 r1 : Nat) (s0 s1 : Int) : Nat × Int := eu r1 r0 r1 s0 s1
theorem euE_zero (r0 : Nat) (s0 s1 : Int) : euE r0 0 s0 s1 = (r0, s0) := rfl
theorem euE_step {r0 r1 : Nat} (h : r1 ≠ 0) (s0 s1 : Int) : euE r0 r1 s0 s1 = euE r1 (r0 % r1) s1 (s0 - ((r0 / r1 : Nat) : Int) * s1) := by
  unfold euE
  obtain ⟨k, rfl⟩ : ∃ k, r1 = k + 1 := ⟨r1 - 1, by omega⟩
  rw [eu, if_neg h]
  have : r0 % (k + 1) < k + 1 := Nat.mod_lt r0 (Nat.succ_pos k)
  exact eu_more _ _ _ _ _ _ (by omega) (Nat.le_refl _)
theorem eu_gcd : ∀ (n r0 r1 : Nat) (s0 s1 : Int), r1 ≤ n → (eu n r0 r1 s0 s1).1 = Nat.gcd r1 r0
  | 0, r0, r1, s0, s1, h => by
    have : r1 = 0 := by omega
    subst this
    simp [eu]
  | n + 1, r0, r1, s0, s1, h => by
    simp only [eu]
    by_cases e : r1 = 0
    · subst e
      simp
    · have := Nat.mod_lt r0 (Nat.pos_of_ne_zero e)
      rw [if_neg e, eu_gcd n _ _ _ _ (by omega), Nat.gcd_rec r1 r0]
theorem euE_gcd (r0 r1 : Nat) (s0 s1 : Int) : (euE r0 r1 s0 s1).1 = Nat.gcd r1 r0 := eu_gcd _ _ _ _ _ (Nat.le_refl _)

/-- What holds at each of Euclid's steps. -/
structure EuK (m a r0 r1 : Nat) (s0 s1 : Int) : Prop where
  lt : r1 < r0
  d0 : (m : Int) ∣ (a : Int) * s0 - r0
  d1 : (m : Int) ∣ (a : Int) * s1 - r1
  sg : (s0 ≤ 0 ∧ 0 ≤ s1 ∧ (r0 : Int) * s1 - (r1 : Int) * s0 = m) ∨ (0 ≤ s0 ∧ s1 ≤ 0 ∧ (r1 : Int) * s0 - (r0 : Int) * s1 = m)
  le : s0.natAbs ≤ s1.natAbs
  tw : r1 = 0 → 2 * s0.natAbs ≤ s1.natAbs
theorem EuK.start {m a : Nat} (h : a < m) : EuK m a m a 0 1 where
  lt := h
  d0 := ⟨-1, by omega⟩
  d1 := ⟨0, by omega⟩
  sg := .inl ⟨by omega, by omega, by omega⟩
  le := by decide
  tw := fun _ => by decide
theorem EuK.step {m a r0 r1 : Nat} {s0 s1 : Int} (k : EuK m a r0 r1 s0 s1) (h : r1 ≠ 0) : EuK m a r1 (r0 % r1) s1 (s0 - ((r0 / r1 : Nat) : Int) * s1) := by
  have hr := Nat.div_add_mod r0 r1
  have hlt := Nat.mod_lt r0 (Nat.pos_of_ne_zero h)
  have hq : 1 ≤ r0 / r1 := by
    rw [Nat.le_div_iff_mul_le (Nat.pos_of_ne_zero h)]
    have := k.lt
    omega
  have hq2 : r0 % r1 = 0 → 2 ≤ r0 / r1 := by
    intro e
    have h1 := k.lt
    rcases Nat.lt_or_ge (r0 / r1) 2 with g | g
    · have : r0 / r1 = 1 := by omega
      rw [this, e] at hr
      omega
    · exact g
  have e0 : (r0 : Int) = (r1 : Int) * ((r0 / r1 : Nat) : Int) + ((r0 % r1 : Nat) : Int) := by exact_mod_cast hr.symm
  generalize r0 / r1 = q at *
  generalize r0 % r1 = r2 at *
  have hab : s0.natAbs ≤ s1.natAbs := k.le
  have hsg := k.sg
  have hz : ∀ t : Nat, t ≤ q → ∃ z : Int, (q : Int) * s1 = z ∧ (0 ≤ s1 → (t : Int) * s1 ≤ z) ∧ (s1 ≤ 0 → z ≤ (t : Int) * s1) := by
    intro t ht
    refine ⟨_, rfl, fun g => Int.mul_le_mul_of_nonneg_right (by omega) g, fun g => ?_⟩
    have := Int.mul_le_mul_of_nonneg_right (show (t : Int) ≤ q by omega) (show 0 ≤ -s1 by omega)
    rw [Int.mul_neg, Int.mul_neg] at this
    omega
  refine ⟨hlt, k.d1, ?_, ?_, ?_, ?_⟩
  · obtain ⟨u, hu⟩ := k.d0
    obtain ⟨v, hv⟩ := k.d1
    refine ⟨u - q * v, ?_⟩
    rw [Int.mul_sub (m : Int), ← Int.mul_assoc (m : Int), Int.mul_comm (m : Int) q, Int.mul_assoc (q : Int), ← hu, ← hv]
    grind
  · rcases hsg with ⟨g1, g2, g3⟩ | ⟨g1, g2, g3⟩
    · refine .inr ⟨g2, ?_, by grind⟩
      obtain ⟨z, hz1, hz2, _⟩ := hz 1 hq
      have := hz2 g2
      omega
    · refine .inl ⟨g2, ?_, by grind⟩
      obtain ⟨z, hz1, _, hz3⟩ := hz 1 hq
      have := hz3 g2
      omega
  · obtain ⟨z, hz1, hz2, hz3⟩ := hz 1 hq
    rw [hz1]
    rcases hsg with ⟨g1, g2, g3⟩ | ⟨g1, g2, g3⟩
    · have := hz2 g2; omega
    · have := hz3 g2; omega
  · intro e
    obtain ⟨z, hz1, hz2, hz3⟩ := hz 2 (hq2 e)
    rw [hz1]
    rcases hsg with ⟨g1, g2, g3⟩ | ⟨g1, g2, g3⟩
    · have := hz2 g2; omega
    · have := hz3 g2; omega
theorem EuK.half {m a r0 : Nat} {s0 s1 : Int} (k : EuK m a r0 0 s0 s1) : 2 * s0.natAbs ≤ m := by
  have h1 := k.tw rfl
  have h2 := k.lt
  have h3 : r0 * s1.natAbs = m := by
    rcases k.sg with ⟨_, g, e⟩ | ⟨_, g, e⟩
    · obtain ⟨n, rfl⟩ := Int.eq_ofNat_of_zero_le g
      simp only [Int.natAbs_natCast]
      have : ((r0 * n : Nat) : Int) = m := by rw [Int.natCast_mul]; simpa using e
      exact_mod_cast this
    · obtain ⟨n, hn⟩ := Int.eq_ofNat_of_zero_le (show 0 ≤ -s1 by omega)
      obtain rfl : s1 = -(n : Int) := by omega
      simp only [Int.natAbs_neg, Int.natAbs_natCast]
      have : ((r0 * n : Nat) : Int) = m := by rw [Int.natCast_mul]; rw [Int.mul_neg] at e; omega
      exact_mod_cast this
  have : 1 * s1.natAbs ≤ r0 * s1.natAbs := Nat.mul_le_mul_right _ h2
  omega

/-- Several steps at once. -/
structure Goes (r0 r1 R0 R1 : Nat) (a b c d : Int) : Prop where
  e0 : (R0 : Int) = a * r0 + b * r1
  e1 : (R1 : Int) = c * r0 + d * r1
  gE : ∀ s0 s1, euE r0 r1 s0 s1 = euE R0 R1 (a * s0 + b * s1) (c * s0 + d * s1)
  gK : ∀ (m x : Nat) (s0 s1 : Int), EuK m x r0 r1 s0 s1 → EuK m x R0 R1 (a * s0 + b * s1) (c * s0 + d * s1)
theorem Goes.id (r0 r1 : Nat) : Goes r0 r1 r0 r1 1 0 0 1 where
  e0 := by omega
  e1 := by omega
  gE s0 s1 := by rw [show (1 : Int) * s0 + 0 * s1 = s0 by omega, show (0 : Int) * s0 + 1 * s1 = s1 by omega]
  gK m x s0 s1 k := by rw [show (1 : Int) * s0 + 0 * s1 = s0 by omega, show (0 : Int) * s0 + 1 * s1 = s1 by omega]; exact k
theorem Goes.step {r0 r1 R0 R1 : Nat} {a b c d : Int} (g : Goes r0 r1 R0 R1 a b c d) (h : R1 ≠ 0) {q : Int} (hq : ((R0 / R1 : Nat) : Int) = q) : Goes r0 r1 R1 (R0 % R1) c d (a - q * c) (b - q * d) where
  e0 := g.e1
  e1 := by
    have h1 : (R0 : Int) = (R1 : Int) * ((R0 / R1 : Nat) : Int) + ((R0 % R1 : Nat) : Int) := by exact_mod_cast (Nat.div_add_mod R0 R1).symm
    have h2 := g.e0
    have h3 := g.e1
    rw [hq] at h1
    grind
  gE s0 s1 := by
    rw [g.gE, euE_step h, hq]
    congr 1
    grind
  gK m x s0 s1 k := by
    have := (g.gK m x s0 s1 k).step h
    rw [hq] at this
    rw [show (a - q * c) * s0 + (b - q * d) * s1 = a * s0 + b * s1 - q * (c * s0 + d * s1) by grind]
    exact this

/-- Steps as long as the highest bits tell them. -/
def fs : Nat → Int → Int → Int → Int → Int → Int → Int × Int × Int × Int
  | 0, _, _, a, b, c, d => (a, b, c, d)
  | n + 1, x, y, a, b, c, d => if y + c = 0 ∨ y + d = 0 then (a, b, c, d) else if (x + a) / (y + c) ≠ (x + b) / (y + d) then (a, b, c, d) else fs n y (x - (x + a) / (y + c) * y) c d (a - (x + a) / (y + c) * c) (b - (x + a) / (y + c) * d)

theorem low_side {y c d e0 e1 B t : Int} (hs : (c ≤ 0 ∧ 0 ≤ d) ∨ (0 ≤ c ∧ d ≤ 0)) (h0 : 0 ≤ e0) (h0' : e0 ≤ B) (h1 : 0 ≤ e1) (h1' : e1 ≤ B) (hc : t ≤ y + c) (hd : t ≤ y + d) : t * B ≤ y * B + c * e0 + d * e1 := by
  rcases hs with ⟨g1, g2⟩ | ⟨g1, g2⟩
  · have p1 := Int.mul_le_mul_of_nonpos_left g1 h0'
    have p2 := Int.mul_nonneg g2 h1
    have p3 := Int.mul_le_mul_of_nonneg_right hc (show 0 ≤ B by omega)
    rw [Int.add_mul] at p3
    omega
  · have p1 := Int.mul_le_mul_of_nonpos_left g2 h1'
    have p2 := Int.mul_nonneg g1 h0
    have p3 := Int.mul_le_mul_of_nonneg_right hd (show 0 ≤ B by omega)
    rw [Int.add_mul] at p3
    omega
theorem high_side {y c d e0 e1 B t : Int} (hs : (c ≤ 0 ∧ 0 ≤ d) ∨ (0 ≤ c ∧ d ≤ 0)) (h0 : 0 ≤ e0) (h0' : e0 ≤ B) (h1 : 0 ≤ e1) (h1' : e1 ≤ B) (hc : y + c ≤ t) (hd : y + d ≤ t) : y * B + c * e0 + d * e1 ≤ t * B := by
  have := low_side (y := -y) (c := -c) (d := -d) (t := -t) (by omega) h0 h0' h1 h1' (by omega) (by omega)
  rw [Int.neg_mul, Int.neg_mul, Int.neg_mul, Int.neg_mul] at this
  omega
theorem nn_of_mul {x n : Int} (hn : 0 < n) (h : 0 ≤ x * n) : 0 ≤ x := by
  rcases Int.lt_or_le x 0 with g | g
  · have := Int.mul_neg_of_neg_of_pos g hn
    omega
  · exact g
theorem pos_of_mul' {x n : Int} (hn : 0 < n) (h : 0 < x * n) : 0 < x := by
  rcases Int.lt_or_le 0 x with g | g
  · exact g
  · have := Int.mul_nonpos_of_nonpos_of_nonneg g (Int.le_of_lt hn)
    omega

theorem ring1 {r0 r1 N x0 y0 B e0 e1 c d : Int} (h0 : r0 * N = x0 * B + e0) (h1 : r1 * N = y0 * B + e1) : (c * r0 + d * r1) * N = (c * x0 + d * y0) * B + c * e0 + d * e1 := by grind
theorem ring2 {r0 r1 N x0 y0 B e0 e1 a b c d q : Int} (h0 : r0 * N = x0 * B + e0) (h1 : r1 * N = y0 * B + e1) : (a * r0 + b * r1 - q * (c * r0 + d * r1)) * N = (a * x0 + b * y0 - q * (c * x0 + d * y0)) * B + (a - q * c) * e0 + (b - q * d) * e1 := by grind
theorem ring3 {r0 r1 N x0 y0 B e0 e1 a b c d q : Int} (h0 : r0 * N = x0 * B + e0) (h1 : r1 * N = y0 * B + e1) : (a * r0 + b * r1 - q * (c * r0 + d * r1) - (c * r0 + d * r1)) * N = (a * x0 + b * y0 - q * (c * x0 + d * y0) - (c * x0 + d * y0)) * B + (a - q * c - c) * e0 + (b - q * d - d) * e1 := by grind
theorem ring4 {x y a c q u : Int} (h : (y + c) * q + u = x + a) : x - q * y + (a - q * c) = u := by grind
theorem ring5 {x0 y0 x y a b c d q : Int} (ex : x = a * x0 + b * y0) (ey : y = c * x0 + d * y0) : (c * (b - q * d) - d * (a - q * c)) * (x0 + 1) = (b - q * d) * (y + c) - d * (x - q * y + (a - q * c)) := by subst ex ey; grind
theorem ring6 {x0 y0 x y a b c d q : Int} (ex : x = a * x0 + b * y0) (ey : y = c * x0 + d * y0) : (c * (b - q * d) - d * (a - q * c)) * y0 = c * (x - q * y + (a - q * c)) - (a - q * c) * (y + c) := by subst ex ey; grind
theorem ring7 {a b c d q : Int} : c * (b - q * d) - d * (a - q * c) = -(a * d - b * c) := by grind
theorem ring8 {x0 y0 x y a b c d q : Int} (ex : x = a * x0 + b * y0) (ey : y = c * x0 + d * y0) : x - q * y = (a - q * c) * x0 + (b - q * d) * y0 := by subst ex ey; grind

/-- What holds where the highest bits tell the steps. W: what they are below. -/
structure FsK (r0 r1 : Nat) (N B x0 y0 e0 e1 W : Int) (x y a b c d : Int) : Prop where
  g : ∃ R0 R1 : Nat, Goes r0 r1 R0 R1 a b c d ∧ (R1 < r1 ∨ R1 = r1 ∧ b = 0)
  ex : x = a * x0 + b * y0
  ey : y = c * x0 + d * y0
  p1 : 1 ≤ x + a ∧ x + a ≤ W
  p2 : 1 ≤ x + b ∧ x + b ≤ W
  p3 : 0 ≤ y + c ∧ y + c ≤ W
  p4 : 0 ≤ y + d ∧ y + d ≤ W
  sg : (0 ≤ a ∧ b ≤ 0 ∧ c ≤ 0 ∧ 0 ≤ d ∧ a * d - b * c = 1) ∨ (a ≤ 0 ∧ 0 ≤ b ∧ 0 ≤ c ∧ d ≤ 0 ∧ a * d - b * c = -1)
  ba : a.natAbs ≤ W.toNat
  bb : b.natAbs ≤ W.toNat
  bc : c.natAbs ≤ W.toNat
  bd : d.natAbs ≤ W.toNat

structure FsC (r0 r1 : Nat) (N B x0 y0 e0 e1 W : Int) : Prop where
  N0 : 0 < N
  h0 : (r0 : Int) * N = x0 * B + e0
  h1 : (r1 : Int) * N = y0 * B + e1
  l0 : 0 ≤ e0 ∧ e0 < B
  l1 : 0 ≤ e1 ∧ e1 < B
  x1 : 1 ≤ x0 ∧ x0 < W
  y1 : 0 ≤ y0 ∧ y0 < W

theorem FsK.start {r0 r1 : Nat} {N B x0 y0 e0 e1 W : Int} (k : FsC r0 r1 N B x0 y0 e0 e1 W) : FsK r0 r1 N B x0 y0 e0 e1 W x0 y0 1 0 0 1 := by
  obtain ⟨_, _, _, _, _, x1, y1⟩ := k
  refine ⟨⟨r0, r1, Goes.id _ _, .inr ⟨rfl, rfl⟩⟩, by omega, by omega, by omega, by omega, by omega, by omega, .inl (by omega), ?_, ?_, ?_, ?_⟩ <;> omega

theorem sg_next {a b c d q : Int} (hq : 0 ≤ q) (sg : (0 ≤ a ∧ b ≤ 0 ∧ c ≤ 0 ∧ 0 ≤ d ∧ a * d - b * c = 1) ∨ (a ≤ 0 ∧ 0 ≤ b ∧ 0 ≤ c ∧ d ≤ 0 ∧ a * d - b * c = -1)) :
    (0 ≤ c ∧ d ≤ 0 ∧ a - q * c ≤ 0 ∧ 0 ≤ b - q * d ∧ c * (b - q * d) - d * (a - q * c) = 1) ∨ (c ≤ 0 ∧ 0 ≤ d ∧ 0 ≤ a - q * c ∧ b - q * d ≤ 0 ∧ c * (b - q * d) - d * (a - q * c) = -1) := by
  have sgc : (0 ≤ c → 0 ≤ q * c) ∧ (c ≤ 0 → q * c ≤ 0) := ⟨fun h => Int.mul_nonneg hq h, fun h => Int.mul_nonpos_of_nonneg_of_nonpos hq h⟩
  have sgd : (0 ≤ d → 0 ≤ q * d) ∧ (d ≤ 0 → q * d ≤ 0) := ⟨fun h => Int.mul_nonneg hq h, fun h => Int.mul_nonpos_of_nonneg_of_nonpos hq h⟩
  rw [ring7]
  generalize a * d - b * c = D at *
  generalize q * c = Z at *
  generalize q * d = Y at *
  rcases sg with ⟨i1, i2, i3, i4, i5⟩ | ⟨i1, i2, i3, i4, i5⟩
  · refine .inr ⟨i3, i4, ?_, ?_, ?_⟩ <;> omega
  · refine .inl ⟨i3, i4, ?_, ?_, ?_⟩ <;> omega
theorem quot_told {R0 R1 : Nat} {N B e0 e1 x' y c d c' d' q : Int} (N0 : 0 < N) (B0 : 0 < B) (l0 : 0 ≤ e0 ∧ e0 < B) (l1 : 0 ≤ e1 ∧ e1 < B)
    (s1 : (R1 : Int) * N = y * B + c * e0 + d * e1) (s2 : ((R0 : Int) - q * R1) * N = x' * B + c' * e0 + d' * e1) (s3 : ((R0 : Int) - q * R1 - R1) * N = (x' - y) * B + (c' - c) * e0 + (d' - d) * e1)
    (sg : (0 ≤ c ∧ d ≤ 0 ∧ c' ≤ 0 ∧ 0 ≤ d') ∨ (c ≤ 0 ∧ 0 ≤ d ∧ 0 ≤ c' ∧ d' ≤ 0)) (p1 : 1 ≤ y + c) (p2 : 1 ≤ y + d) (p3 : 0 ≤ x' + c') (p4 : 0 ≤ x' + d') (p5 : x' + c' < y + c) (p6 : x' + d' < y + d) :
    R1 ≠ 0 ∧ ((R0 / R1 : Nat) : Int) = q := by
  have g1 : (c ≤ 0 ∧ 0 ≤ d) ∨ (0 ≤ c ∧ d ≤ 0) := by rcases sg with h | h <;> omega
  have g2 : (c' ≤ 0 ∧ 0 ≤ d') ∨ (0 ≤ c' ∧ d' ≤ 0) := by rcases sg with h | h <;> omega
  have g3 : (c' - c ≤ 0 ∧ 0 ≤ d' - d) ∨ (0 ≤ c' - c ∧ d' - d ≤ 0) := by rcases sg with h | h <;> omega
  have z1 : 0 < (R1 : Int) := by
    refine pos_of_mul' N0 ?_
    rw [s1]
    have := low_side (y := y) (c := c) (d := d) (t := 1) g1 l0.1 (Int.le_of_lt l0.2) l1.1 (Int.le_of_lt l1.2) p1 p2
    rw [Int.one_mul] at this
    exact Int.lt_of_lt_of_le B0 this
  have z2 : 0 ≤ (R0 : Int) - q * R1 := by
    refine nn_of_mul N0 ?_
    rw [s2]
    have := low_side (y := x') (c := c') (d := d') (t := 0) g2 l0.1 (Int.le_of_lt l0.2) l1.1 (Int.le_of_lt l1.2) p3 p4
    rwa [Int.zero_mul] at this
  have z3 : (R0 : Int) - q * R1 - R1 < 0 := by
    have : 0 < -((R0 : Int) - q * R1 - R1) := by
      refine pos_of_mul' N0 ?_
      rw [Int.neg_mul, s3]
      have := high_side (y := x' - y) (c := c' - c) (d := d' - d) (t := -1) g3 l0.1 (Int.le_of_lt l0.2) l1.1 (Int.le_of_lt l1.2) (by omega) (by omega)
      rw [Int.neg_mul, Int.one_mul] at this
      omega
    omega
  refine ⟨by omega, ?_⟩
  rw [Int.natCast_ediv]
  refine Int.le_antisymm ?_ (Int.le_ediv_of_mul_le z1 (by omega))
  have := Int.ediv_lt_of_lt_mul z1 (show (R0 : Int) < (q + 1) * R1 by rw [Int.add_mul]; omega)
  omega
theorem ent_le {w u c d c' d' y0 x0 W : Int} (hw : 1 ≤ w) (hu : 0 ≤ u) (x1 : x0 + 1 ≤ W) (y1 : y0 ≤ W)
    (sg : (0 ≤ c ∧ d ≤ 0 ∧ c' ≤ 0 ∧ 0 ≤ d' ∧ c * d' - d * c' = 1) ∨ (c ≤ 0 ∧ 0 ≤ d ∧ 0 ≤ c' ∧ d' ≤ 0 ∧ c * d' - d * c' = -1))
    (f1 : (c * d' - d * c') * (x0 + 1) = d' * w - d * u) (f2 : (c * d' - d * c') * y0 = c * u - c' * w) : c'.natAbs ≤ W.toNat ∧ d'.natAbs ≤ W.toNat := by
  have big : ∀ A : Int, (0 ≤ A → A ≤ A * w) ∧ (A ≤ 0 → A * w ≤ A) := by
    intro A
    refine ⟨fun h => ?_, fun h => ?_⟩
    · have := Int.mul_le_mul_of_nonneg_left hw h
      omega
    · have := Int.mul_le_mul_of_nonpos_left h hw
      omega
  have bD := big d'
  have bC := big c'
  have sgu : ∀ A : Int, (0 ≤ A → 0 ≤ A * u) ∧ (A ≤ 0 → A * u ≤ 0) := fun A => ⟨fun h => Int.mul_nonneg h hu, fun h => Int.mul_nonpos_of_nonpos_of_nonneg h hu⟩
  have uD := sgu d
  have uC := sgu c
  clear big sgu
  rcases sg with ⟨i1, i2, i3, i4, i5⟩ | ⟨i1, i2, i3, i4, i5⟩
  · rw [i5] at f1 f2
    have a1 := uC.1 i1
    have a2 := bC.2 i3
    have a3 := uD.2 i2
    have a4 := bD.1 i4
    clear uD uC bD bC
    generalize c' * w = z1 at *
    generalize d' * w = z2 at *
    generalize c * u = z3 at *
    generalize d * u = z4 at *
    omega
  · rw [i5] at f1 f2
    have a1 := uC.2 i1
    have a2 := bC.1 i3
    have a3 := uD.1 i2
    have a4 := bD.2 i4
    clear uD uC bD bC
    generalize c' * w = z1 at *
    generalize d' * w = z2 at *
    generalize c * u = z3 at *
    generalize d * u = z4 at *
    omega
theorem FsK.step {r0 r1 : Nat} {N B x0 y0 e0 e1 W x y a b c d q : Int} (k : FsC r0 r1 N B x0 y0 e0 e1 W) (f : FsK r0 r1 N B x0 y0 e0 e1 W x y a b c d) (hc : y + c ≠ 0) (hd : y + d ≠ 0) (q1 : (x + a) / (y + c) = q) (q2 : (x + b) / (y + d) = q) :
    FsK r0 r1 N B x0 y0 e0 e1 W y (x - q * y) c d (a - q * c) (b - q * d) ∧ x - q * y + (a - q * c) < y + c := by
  obtain ⟨⟨R0, R1, g, hg⟩, ex, ey, p1, p2, p3, p4, sg, ba, bb, bc, bd⟩ := f
  obtain ⟨N0, h0, h1, l0, l1, x1, y1⟩ := k
  have hq : 0 ≤ q := by rw [← q1]; exact Int.ediv_nonneg (Int.le_trans (by decide) p1.1) p3.1
  have hw : 1 ≤ y + c := by clear sg; omega
  have hw' : 1 ≤ y + d := by clear sg; omega
  have u1 : (y + c) * q + (x + a) % (y + c) = x + a := by rw [← q1]; exact Int.mul_ediv_add_emod _ _
  have u2 : (y + d) * q + (x + b) % (y + d) = x + b := by rw [← q2]; exact Int.mul_ediv_add_emod _ _
  have v1 := Int.emod_nonneg (x + a) hc
  have v2 := Int.emod_nonneg (x + b) hd
  have w1 := Int.emod_lt_of_pos (x + a) hw
  have w2 := Int.emod_lt_of_pos (x + b) hw'
  have t1 : x - q * y + (a - q * c) = (x + a) % (y + c) := ring4 u1
  have t2 : x - q * y + (b - q * d) = (x + b) % (y + d) := ring4 u2
  rw [← t1] at v1 w1
  rw [← t2] at v2 w2
  have E0 := g.e0
  have E1 := g.e1
  have s1 : (R1 : Int) * N = y * B + c * e0 + d * e1 := by rw [E1, ey]; exact ring1 h0 h1
  have s2 : ((R0 : Int) - q * R1) * N = (x - q * y) * B + (a - q * c) * e0 + (b - q * d) * e1 := by rw [E0, E1, ex, ey]; exact ring2 h0 h1
  have s3 : ((R0 : Int) - q * R1 - R1) * N = (x - q * y - y) * B + (a - q * c - c) * e0 + (b - q * d - d) * e1 := by rw [E0, E1, ex, ey]; exact ring3 h0 h1
  have nsg := sg_next hq sg
  have nsg' : (0 ≤ c ∧ d ≤ 0 ∧ a - q * c ≤ 0 ∧ 0 ≤ b - q * d) ∨ (c ≤ 0 ∧ 0 ≤ d ∧ 0 ≤ a - q * c ∧ b - q * d ≤ 0) := nsg.imp (fun h => ⟨h.1, h.2.1, h.2.2.1, h.2.2.2.1⟩) (fun h => ⟨h.1, h.2.1, h.2.2.1, h.2.2.2.1⟩)
  obtain ⟨hR, hQ⟩ := quot_told N0 (Int.lt_of_le_of_lt l0.1 l0.2) l0 l1 s1 s2 s3 nsg' hw hw' v1 v2 w1 w2
  have hmod := Nat.mod_lt R0 (Nat.pos_of_ne_zero hR)
  obtain ⟨b1, b2⟩ := ent_le hw v1 (show x0 + 1 ≤ W by omega) (show y0 ≤ W by omega) nsg (ring5 ex ey) (ring6 ex ey)
  refine ⟨⟨⟨R1, R0 % R1, g.step hR hQ, .inl ?_⟩, ey, ring8 ex ey, ⟨hw, p3.2⟩, ⟨hw', p4.2⟩, ⟨v1, Int.le_of_lt (Int.lt_of_lt_of_le w1 p3.2)⟩, ⟨v2, Int.le_of_lt (Int.lt_of_lt_of_le w2 p4.2)⟩, ?_, bc, bd, b1, b2⟩, w1⟩
  · rcases hg with h | h
    · exact Nat.lt_trans hmod h
    · rw [← h.1]; exact hmod
  · rcases nsg with h | h
    · exact .inl h
    · exact .inr h
theorem FsK.run {r0 r1 : Nat} {N B x0 y0 e0 e1 W : Int} (k : FsC r0 r1 N B x0 y0 e0 e1 W) : ∀ (n : Nat) (x y a b c d : Int), FsK r0 r1 N B x0 y0 e0 e1 W x y a b c d →
    ∃ x' y' : Int, FsK r0 r1 N B x0 y0 e0 e1 W x' y' (fs n x y a b c d).1 (fs n x y a b c d).2.1 (fs n x y a b c d).2.2.1 (fs n x y a b c d).2.2.2
  | 0, x, y, a, b, c, d, f => ⟨x, y, f⟩
  | n + 1, x, y, a, b, c, d, f => by
    simp only [fs]
    by_cases e1 : y + c = 0 ∨ y + d = 0
    · rw [if_pos e1]; exact ⟨x, y, f⟩
    · rw [if_neg e1]
      by_cases e2 : (x + a) / (y + c) ≠ (x + b) / (y + d)
      · rw [if_pos e2]; exact ⟨x, y, f⟩
      · rw [if_neg e2]
        exact FsK.run k n _ _ _ _ _ _ (f.step k (by omega) (by omega) rfl (by omega)).1
end Go.Sx
end

section
/-
  Package field: inverses: reckoned by the kernel. (Laid by program.)
-/
namespace Go.Proofs.Ytbkginommedheaa
open Go.Sx
set_option maxRecDepth 100000
def wrN (z : Int) : Nat := (z % (M256 : Int)).toNat
def signedC (z : Int) : List Prop := [i64ok z]
def signedG (z : Int) : SV := .one (sU (wrN z))
def highN (a : Nat) (n : Int) : Nat := a % M256 * 2 ^ n.toNat / 2 ^ 194
def highC (a : Nat) (n : Int) : List Prop := [0 ≤ n ∧ n ≤ 255, a % M256 * 2 ^ n.toNat < M256]
def highG (a : Nat) (n : Int) : SV := .one (sI .i64 ((highN a n : Nat) : Int))
def foN (p : Nat) : Int := ((256 - bitsN (p % M256) : Nat) : Int)
def foR (p q : Nat) : Int × Int × Int × Int := fs (highN q (foN p) + 1) (highN p (foN p) : Nat) (highN q (foN p) : Nat) 1 0 0 1
def foC : List (List At) → List Prop
  | [[.u p, .u q]] => [q % M256 < p % M256]
  | _ => [False]
def foG : List (List At) → SV
  | [[.u p, .u q]] => .tup [.agg [.u (wrN (foR p q).1), .u (wrN (foR p q).2.1), .u (wrN (foR p q).2.2.1), .u (wrN (foR p q).2.2.2)], sB (!((foR p q).2.1 == 0))]
  | _ => .tup []
def turnC : List (List At) → List Prop
  | [[.u _, .u _, .u _, .u _], [.u _, .u _]] => []
  | _ => [False]
def turnG : List (List At) → SV
  | [[.u a, .u b, .u c, .u d], [.u p, .u q]] => .one (.agg [.u (a * p + b * q), .u (c * p + d * q)])
  | _ => .tup []
def aboveG (a m : Nat) : SV := .one (sU (if 2 ^ 255 ≤ a % M256 then a + m else a))
def invN (a m : Nat) : Nat := if (euE m a 0 1).1 = 1 then ((euE m a 0 1).2 % (m : Int)).toNat else 0
def invE (a m : Nat) : Int := if (euE m a 0 1).1 = 1 then 0 else 5
def inverseC (a m : Nat) : List Prop := [a % M256 < m % M256]
def inverseG (a m : Nat) : SV := .tup [sU (invN (a % M256) (m % M256)), sI .i64 (invE (a % M256) (m % M256))]
def finvE (a m : Nat) : Int := if m % M256 = 0 then 7 else if a % M256 < m % M256 then invE (a % M256) (m % M256) else 6
def finvG (a m : Nat) : SV := .tup [sU (if finvE a m = 0 then invN (a % M256) (m % M256) else 0), sI .i64 (finvE a m)]
def zeroT : List SK := zeroU ++ zeroU ++ zeroU ++ zeroU
def invFo (p q : Nat) : Inv where
  X := Int × Int × Int × Int × Int × Int × Nat
  tm j := slotsAt 80 [(2, .one (.sc (.ptr 1 0))), (5, .one (sI .i64 j.1)), (6, .one (sI .i64 j.2.1)), (7, .one (sI .i64 j.2.2.1)), (8, .one (sI .i64 j.2.2.2.1)), (9, .one (sI .i64 j.2.2.2.2.1)), (10, .one (sI .i64 j.2.2.2.2.2.1))]
  ob _ := [.cells 81 [.u p, .u q] 0, .cells 83 zeroT 0]
  holds j := fs j.2.2.2.2.2.2 j.1 j.2.1 j.2.2.1 j.2.2.2.1 j.2.2.2.2.1 j.2.2.2.2.2.1 = foR p q ∧ (j.2.1 + j.2.2.2.2.1).toNat < j.2.2.2.2.2.2 ∧
    ∃ N B e0 e1 : Int, FsC (p % M256) (q % M256) N B (highN p (foN p) : Nat) (highN q (foN p) : Nat) e0 e1 (2 ^ 62) ∧ FsK (p % M256) (q % M256) N B (highN p (foN p) : Nat) (highN q (foN p) : Nat) e0 e1 (2 ^ 62) j.1 j.2.1 j.2.2.1 j.2.2.2.1 j.2.2.2.2.1 j.2.2.2.2.2.1
  less j := j.2.2.2.2.2.2
def cxFo : Cx := [(58, specU noughtsG), (71, specUJ highC highG), (72, specI signedC signedG)]
def cxTurn : Cx := [(60, specUU mulG), (69, specUU addG)]
def cxAbove : Cx := [(69, specUU addG)]
def invInv (a m : Nat) : Inv where
  X := Nat × Nat × Int × Int
  tm _ := slotsAt 44 [(2, .one (.sc (.ptr 0 0))), (3, .one (.sc (.ptr 1 0))), (4, .one (.sc (.ptr 2 0))), (6, .one (.sc (.ptr 3 0))), (7, .one (.sc (.ptr 4 0)))]
  ob j := [.cells 26 [.u a] 0, .cells 26 [.u m] 0, .cells 26 zeroU 0, .cells 81 [.u j.1, .u j.2.1] 0, .cells 81 [.u (wrN j.2.2.1), .u (wrN j.2.2.2)] 0]
  holds j := EuK (m % M256) (a % M256) j.1 j.2.1 j.2.2.1 j.2.2.2 ∧ euE j.1 j.2.1 j.2.2.1 j.2.2.2 = euE (m % M256) (a % M256) 0 1 ∧ j.1 ≤ m % M256
  less j := j.2.1
def cxInverse : Cx := [(50, specA [.str [.u, .u]] foC foG), (52, specA [.str [.u, .u, .u, .u], .str [.u, .u]] turnC turnG), (53, specUU aboveG), (14, specUU dmG), (68, specUU subG)]
def cxInv : Cx := [(44, specUU cmpG), (31, specUUC inverseC inverseG)]
-- VC vc_signed HASH 97ecdb12a6f5edcc
theorem vc_signed (z : Int) :
    Owes Try.prog [] [] 100 Try.f72 [sI .i64 z] (signedG z) =
    (let x1 : Int := Go.IntKind.u64.wrap (z.fdiv (9223372036854775808 : Int)); ((0 : Int) ≤ Go.IntKind.u64.wrap z ∧ Go.IntKind.u64.wrap z < (18446744073709551616 : Int)) ∧ ((0 : Int) ≤ x1 ∧ x1 < (18446744073709551616 : Int)) ∧ ((0 : Int) ≤ x1 ∧ x1 < (18446744073709551616 : Int)) ∧ ((0 : Int) ≤ x1 ∧ x1 < (18446744073709551616 : Int)) ∧ Go.Sx.join (Go.IntKind.u64.wrap z) x1 x1 x1 % Go.Sx.M256 = Go.Proofs.Ytbkginommedheaa.wrN z % Go.Sx.M256 ∧ True) := by kernel_rfl
-- END VC
-- VC vc_highest HASH 952929a65c6e93d6
theorem vc_highest (a : Nat) (n : Int) :
    Owes Try.prog [] [] 100 Try.f71 [sU a, sI .i64 n] (highG a n) =
    (let x1 : Int := Go.IntKind.i64.wrap ((3 : Int) - Go.IntKind.i64.wrap (n.tdiv (64 : Int))); let x2 : Int := Go.IntKind.i64.wrap (x1 - (1 : Int)); let x3 : Int := Go.IntKind.i64.wrap ((64 : Int) - n.tmod (64 : Int)); let x4 : Int := Go.IntKind.u64.wrap (Go.Sx.limb a x1.toNat * (2 : Int) ^ Min.min (n.tmod (64 : Int)).toNat (64 : Nat)); ((0 : Int) ≤ x1 ∧ x1 < (4 : Int)) ∧ ((0 : Int) ≤ x1 ∧ x1 < (4 : Int)) ∧ (0 : Int) ≤ n.tmod (64 : Int) ∧ (Decidable.decide (x1 > (0 : Int)) = Bool.true → ((0 : Int) ≤ x2 ∧ x2 < (4 : Int)) ∧ ((0 : Int) ≤ x2 ∧ x2 < (4 : Int)) ∧ (0 : Int) ≤ x3 ∧ Go.IntKind.i64.wrap ((Go.IntKind.u64.wrap (↑(BitVec.ofInt (64 : Nat) x4 ||| BitVec.ofInt (64 : Nat) ((Go.Sx.limb a x2.toNat).fdiv ((2 : Int) ^ Min.min x3.toNat (64 : Nat)))).toNat : Int)).fdiv (4 : Int)) = (↑(Go.Proofs.Ytbkginommedheaa.highN a n) : Int)) ∧ (Decidable.decide (x1 > (0 : Int)) = Bool.false → Go.IntKind.i64.wrap (x4.fdiv (4 : Int)) = (↑(Go.Proofs.Ytbkginommedheaa.highN a n) : Int))) := by kernel_rfl
-- END VC
-- VC vc_foresee HASH 7882f32bd018081d
theorem vc_foresee (p q : Nat) :
    Owes Try.prog cxFo [(4, .inv (invFo p q))] 100 Try.f50 [.agg [.u p, .u q]] (foG [[.u p, .u q]]) =
    (let x1 : Nat := p % Go.Sx.M256; let x2 : Int := (↑((256 : Nat) - Go.Proofs.Ytbkginommedheaa.bitsN x1) : Int); let x3 : Nat := (2 : Nat) ^ x2.toNat; let x4 : Nat := q % Go.Sx.M256; let x5 : Nat := Go.Proofs.Ytbkginommedheaa.wrN (Go.Proofs.Ytbkginommedheaa.foR p q).fst % Go.Sx.M256; let x6 : Int := (Go.Proofs.Ytbkginommedheaa.foR p q).snd.fst; let x7 : Nat := Go.Proofs.Ytbkginommedheaa.wrN x6 % Go.Sx.M256; let x8 : Nat := Go.Proofs.Ytbkginommedheaa.wrN (Go.Proofs.Ytbkginommedheaa.foR p q).snd.snd.fst % Go.Sx.M256; let x9 : Nat := Go.Proofs.Ytbkginommedheaa.wrN (Go.Proofs.Ytbkginommedheaa.foR p q).snd.snd.snd % Go.Sx.M256; let x10 : Bool := !x6 == (0 : Int); ((0 : Int) ≤ x2 ∧ x2 ≤ (255 : Int)) ∧ x1 * x3 < Go.Sx.M256 ∧ ((0 : Int) ≤ x2 ∧ x2 ≤ (255 : Int)) ∧ x4 * x3 < Go.Sx.M256 ∧ (∀ (y : Int × Int × Int × Int × Int × Int × Nat), Go.Sx.closedB (Go.Sx.slotsAt (80 : Nat) [((2 : Nat), Go.Sx.SV.one (Go.Sx.SA.sc (Go.Sx.SC.ptr (1 : Nat) (0 : Nat)))), ((5 : Nat), Go.Sx.SV.one (Go.Sx.sI Go.IntKind.i64 y.fst)), ((6 : Nat), Go.Sx.SV.one (Go.Sx.sI Go.IntKind.i64 y.snd.fst)), ((7 : Nat), Go.Sx.SV.one (Go.Sx.sI Go.IntKind.i64 y.snd.snd.fst)), ((8 : Nat), Go.Sx.SV.one (Go.Sx.sI Go.IntKind.i64 y.snd.snd.snd.fst)), ((9 : Nat), Go.Sx.SV.one (Go.Sx.sI Go.IntKind.i64 y.snd.snd.snd.snd.fst)), ((10 : Nat), Go.Sx.SV.one (Go.Sx.sI Go.IntKind.i64 y.snd.snd.snd.snd.snd.fst))]) [Go.Sx.SO.cells (81 : Go.TypeId) [Go.Sx.SK.u p, Go.Sx.SK.u q] (0 : Nat), Go.Sx.SO.cells (83 : Go.TypeId) Go.Proofs.Ytbkginommedheaa.zeroT (0 : Nat)] = Bool.true) ∧ ∃ (y : Int × Int × Int × Int × Int × Int × Nat), (Go.Sx.fs y.snd.snd.snd.snd.snd.snd y.fst y.snd.fst y.snd.snd.fst y.snd.snd.snd.fst y.snd.snd.snd.snd.fst y.snd.snd.snd.snd.snd.fst = Go.Proofs.Ytbkginommedheaa.foR p q ∧ (y.snd.fst + y.snd.snd.snd.snd.fst).toNat < y.snd.snd.snd.snd.snd.snd ∧ ∃ (N : Int), ∃ (B : Int), ∃ (e0 : Int), ∃ (e1 : Int), Go.Sx.FsC x1 x4 N B (↑(Go.Proofs.Ytbkginommedheaa.highN p (Go.Proofs.Ytbkginommedheaa.foN p)) : Int) (↑(Go.Proofs.Ytbkginommedheaa.highN q (Go.Proofs.Ytbkginommedheaa.foN p)) : Int) e0 e1 (4611686018427387904 : Int) ∧ Go.Sx.FsK x1 x4 N B (↑(Go.Proofs.Ytbkginommedheaa.highN p (Go.Proofs.Ytbkginommedheaa.foN p)) : Int) (↑(Go.Proofs.Ytbkginommedheaa.highN q (Go.Proofs.Ytbkginommedheaa.foN p)) : Int) e0 e1 (4611686018427387904 : Int) y.fst y.snd.fst y.snd.snd.fst y.snd.snd.snd.fst y.snd.snd.snd.snd.fst y.snd.snd.snd.snd.snd.fst) ∧ (↑(Go.Proofs.Ytbkginommedheaa.highN p x2) : Int) = y.fst ∧ (↑(Go.Proofs.Ytbkginommedheaa.highN q x2) : Int) = y.snd.fst ∧ (1 : Int) = y.snd.snd.fst ∧ (0 : Int) = y.snd.snd.snd.fst ∧ (0 : Int) = y.snd.snd.snd.snd.fst ∧ (1 : Int) = y.snd.snd.snd.snd.snd.fst ∧ x1 = x1 ∧ x4 = x4 ∧ (0 : Nat) = (0 : Nat) ∧ (0 : Nat) = (0 : Nat) ∧ ∀ (y : Int × Int × Int × Int × Int × Int × Nat), (Go.Sx.fs y.snd.snd.snd.snd.snd.snd y.fst y.snd.fst y.snd.snd.fst y.snd.snd.snd.fst y.snd.snd.snd.snd.fst y.snd.snd.snd.snd.snd.fst = Go.Proofs.Ytbkginommedheaa.foR p q ∧ (y.snd.fst + y.snd.snd.snd.snd.fst).toNat < y.snd.snd.snd.snd.snd.snd ∧ ∃ (N : Int), ∃ (B : Int), ∃ (e0 : Int), ∃ (e1 : Int), Go.Sx.FsC x1 x4 N B (↑(Go.Proofs.Ytbkginommedheaa.highN p (Go.Proofs.Ytbkginommedheaa.foN p)) : Int) (↑(Go.Proofs.Ytbkginommedheaa.highN q (Go.Proofs.Ytbkginommedheaa.foN p)) : Int) e0 e1 (4611686018427387904 : Int) ∧ Go.Sx.FsK x1 x4 N B (↑(Go.Proofs.Ytbkginommedheaa.highN p (Go.Proofs.Ytbkginommedheaa.foN p)) : Int) (↑(Go.Proofs.Ytbkginommedheaa.highN q (Go.Proofs.Ytbkginommedheaa.foN p)) : Int) e0 e1 (4611686018427387904 : Int) y.fst y.snd.fst y.snd.snd.fst y.snd.snd.snd.fst y.snd.snd.snd.snd.fst y.snd.snd.snd.snd.snd.fst) → ((Go.IntKind.i64.wrap (y.snd.fst + y.snd.snd.snd.snd.fst) != (0 : Int)) = Bool.true → (Go.IntKind.i64.wrap (y.snd.fst + y.snd.snd.snd.snd.fst) != (0 : Int)) = Bool.true) ∧ ((Go.IntKind.i64.wrap (y.snd.fst + y.snd.snd.snd.snd.fst) != (0 : Int)) = Bool.true → (Go.IntKind.i64.wrap (y.snd.fst + y.snd.snd.snd.snd.fst) != (0 : Int)) = Bool.true) ∧ ((Go.IntKind.i64.wrap (y.snd.fst + y.snd.snd.snd.snd.fst) != (0 : Int)) = Bool.true → (Go.IntKind.i64.wrap (y.snd.fst + y.snd.snd.snd.snd.fst) != (0 : Int)) = Bool.true) ∧ ((Go.IntKind.i64.wrap (y.snd.fst + y.snd.snd.snd.snd.fst) != (0 : Int)) = Bool.true → (Go.IntKind.i64.wrap (y.snd.fst + y.snd.snd.snd.snd.fst) != (0 : Int)) = Bool.true) ∧ ((Go.IntKind.i64.wrap (y.snd.fst + y.snd.snd.snd.snd.fst) != (0 : Int) && Go.IntKind.i64.wrap (y.snd.fst + y.snd.snd.snd.snd.snd.fst) != (0 : Int)) = Bool.true → Go.IntKind.i64.wrap (y.snd.fst + y.snd.snd.snd.snd.fst) ≠ (0 : Int) ∧ Go.IntKind.i64.wrap (y.snd.fst + y.snd.snd.snd.snd.snd.fst) ≠ (0 : Int) ∧ ((Go.IntKind.i64.wrap ((Go.IntKind.i64.wrap (y.fst + y.snd.snd.fst)).tdiv (Go.IntKind.i64.wrap (y.snd.fst + y.snd.snd.snd.snd.fst))) != Go.IntKind.i64.wrap ((Go.IntKind.i64.wrap (y.fst + y.snd.snd.snd.fst)).tdiv (Go.IntKind.i64.wrap (y.snd.fst + y.snd.snd.snd.snd.snd.fst)))) = Bool.true → ((-9223372036854775808 : Int) ≤ y.snd.snd.fst ∧ y.snd.snd.fst ≤ (9223372036854775807 : Int)) ∧ ((-9223372036854775808 : Int) ≤ y.snd.snd.snd.fst ∧ y.snd.snd.snd.fst ≤ (9223372036854775807 : Int)) ∧ ((-9223372036854775808 : Int) ≤ y.snd.snd.snd.snd.fst ∧ y.snd.snd.snd.snd.fst ≤ (9223372036854775807 : Int)) ∧ ((-9223372036854775808 : Int) ≤ y.snd.snd.snd.snd.snd.fst ∧ y.snd.snd.snd.snd.snd.fst ≤ (9223372036854775807 : Int)) ∧ (Go.Proofs.Ytbkginommedheaa.wrN y.snd.snd.fst % Go.Sx.M256 = x5 ∧ Go.Proofs.Ytbkginommedheaa.wrN y.snd.snd.snd.fst % Go.Sx.M256 = x7 ∧ Go.Proofs.Ytbkginommedheaa.wrN y.snd.snd.snd.snd.fst % Go.Sx.M256 = x8 ∧ Go.Proofs.Ytbkginommedheaa.wrN y.snd.snd.snd.snd.snd.fst % Go.Sx.M256 = x9 ∧ True) ∧ (y.snd.snd.snd.fst != (0 : Int)) = x10) ∧ ((Go.IntKind.i64.wrap ((Go.IntKind.i64.wrap (y.fst + y.snd.snd.fst)).tdiv (Go.IntKind.i64.wrap (y.snd.fst + y.snd.snd.snd.snd.fst))) != Go.IntKind.i64.wrap ((Go.IntKind.i64.wrap (y.fst + y.snd.snd.snd.fst)).tdiv (Go.IntKind.i64.wrap (y.snd.fst + y.snd.snd.snd.snd.snd.fst)))) = Bool.false → ∃ (y' : Int × Int × Int × Int × Int × Int × Nat), (Go.Sx.fs y'.snd.snd.snd.snd.snd.snd y'.fst y'.snd.fst y'.snd.snd.fst y'.snd.snd.snd.fst y'.snd.snd.snd.snd.fst y'.snd.snd.snd.snd.snd.fst = Go.Proofs.Ytbkginommedheaa.foR p q ∧ (y'.snd.fst + y'.snd.snd.snd.snd.fst).toNat < y'.snd.snd.snd.snd.snd.snd ∧ ∃ (N : Int), ∃ (B : Int), ∃ (e0 : Int), ∃ (e1 : Int), Go.Sx.FsC x1 x4 N B (↑(Go.Proofs.Ytbkginommedheaa.highN p (Go.Proofs.Ytbkginommedheaa.foN p)) : Int) (↑(Go.Proofs.Ytbkginommedheaa.highN q (Go.Proofs.Ytbkginommedheaa.foN p)) : Int) e0 e1 (4611686018427387904 : Int) ∧ Go.Sx.FsK x1 x4 N B (↑(Go.Proofs.Ytbkginommedheaa.highN p (Go.Proofs.Ytbkginommedheaa.foN p)) : Int) (↑(Go.Proofs.Ytbkginommedheaa.highN q (Go.Proofs.Ytbkginommedheaa.foN p)) : Int) e0 e1 (4611686018427387904 : Int) y'.fst y'.snd.fst y'.snd.snd.fst y'.snd.snd.snd.fst y'.snd.snd.snd.snd.fst y'.snd.snd.snd.snd.snd.fst) ∧ y.snd.fst = y'.fst ∧ Go.IntKind.i64.wrap (y.fst - Go.IntKind.i64.wrap (Go.IntKind.i64.wrap ((Go.IntKind.i64.wrap (y.fst + y.snd.snd.fst)).tdiv (Go.IntKind.i64.wrap (y.snd.fst + y.snd.snd.snd.snd.fst))) * y.snd.fst)) = y'.snd.fst ∧ y.snd.snd.snd.snd.fst = y'.snd.snd.fst ∧ y.snd.snd.snd.snd.snd.fst = y'.snd.snd.snd.fst ∧ Go.IntKind.i64.wrap (y.snd.snd.fst - Go.IntKind.i64.wrap (Go.IntKind.i64.wrap ((Go.IntKind.i64.wrap (y.fst + y.snd.snd.fst)).tdiv (Go.IntKind.i64.wrap (y.snd.fst + y.snd.snd.snd.snd.fst))) * y.snd.snd.snd.snd.fst)) = y'.snd.snd.snd.snd.fst ∧ Go.IntKind.i64.wrap (y.snd.snd.snd.fst - Go.IntKind.i64.wrap (Go.IntKind.i64.wrap ((Go.IntKind.i64.wrap (y.fst + y.snd.snd.fst)).tdiv (Go.IntKind.i64.wrap (y.snd.fst + y.snd.snd.snd.snd.fst))) * y.snd.snd.snd.snd.snd.fst)) = y'.snd.snd.snd.snd.snd.fst ∧ x1 = x1 ∧ x4 = x4 ∧ (0 : Nat) = (0 : Nat) ∧ (0 : Nat) = (0 : Nat) ∧ y'.snd.snd.snd.snd.snd.snd < y.snd.snd.snd.snd.snd.snd)) ∧ ((Go.IntKind.i64.wrap (y.snd.fst + y.snd.snd.snd.snd.fst) != (0 : Int) && Go.IntKind.i64.wrap (y.snd.fst + y.snd.snd.snd.snd.snd.fst) != (0 : Int)) = Bool.false → ((-9223372036854775808 : Int) ≤ y.snd.snd.fst ∧ y.snd.snd.fst ≤ (9223372036854775807 : Int)) ∧ ((-9223372036854775808 : Int) ≤ y.snd.snd.snd.fst ∧ y.snd.snd.snd.fst ≤ (9223372036854775807 : Int)) ∧ ((-9223372036854775808 : Int) ≤ y.snd.snd.snd.snd.fst ∧ y.snd.snd.snd.snd.fst ≤ (9223372036854775807 : Int)) ∧ ((-9223372036854775808 : Int) ≤ y.snd.snd.snd.snd.snd.fst ∧ y.snd.snd.snd.snd.snd.fst ≤ (9223372036854775807 : Int)) ∧ (Go.Proofs.Ytbkginommedheaa.wrN y.snd.snd.fst % Go.Sx.M256 = x5 ∧ Go.Proofs.Ytbkginommedheaa.wrN y.snd.snd.snd.fst % Go.Sx.M256 = x7 ∧ Go.Proofs.Ytbkginommedheaa.wrN y.snd.snd.snd.snd.fst % Go.Sx.M256 = x8 ∧ Go.Proofs.Ytbkginommedheaa.wrN y.snd.snd.snd.snd.snd.fst % Go.Sx.M256 = x9 ∧ True) ∧ (y.snd.snd.snd.fst != (0 : Int)) = x10)) := by kernel_rfl
-- END VC
-- VC vc_of HASH d3233c265dbc61d8
theorem vc_of (a b c d p q : Nat) :
    Owes Try.prog cxTurn [] 100 Try.f52 [.agg [.u a, .u b, .u c, .u d], .agg [.u p, .u q]] (turnG [[.u a, .u b, .u c, .u d], [.u p, .u q]]) =
    (let x1 : Nat := (a * p + b * q) % Go.Sx.M256; let x2 : Nat := (c * p + d * q) % Go.Sx.M256; x1 = x1 ∧ x2 = x2 ∧ True) := by kernel_rfl
-- END VC
-- VC vc_above HASH 1eb1242aee8dd8e7
theorem vc_above (a m : Nat) :
    Owes Try.prog cxAbove [] 100 Try.f53 [sU a, sU m] (aboveG a m) =
    (let x1 : Nat := a + m; let x2 : Nat := a % Go.Sx.M256; let x3 : Nat := (if (57896044618658097711785492504343953926634992332820282019728792003956564819968 : Nat) ≤ x2 then x1 else a) % Go.Sx.M256; (((Go.Sx.limb a (3 : Nat)).fdiv (9223372036854775808 : Int) == (1 : Int)) = Bool.true → x1 % Go.Sx.M256 = x3 ∧ True) ∧ (((Go.Sx.limb a (3 : Nat)).fdiv (9223372036854775808 : Int) == (1 : Int)) = Bool.false → x2 = x3 ∧ True)) := by kernel_rfl
-- END VC
-- VC vc_inverse HASH 825a42b1a85797b6
theorem vc_inverse (a m : Nat) :
    Owes Try.prog cxInverse [(2, .inv (invInv a m))] 100 Try.f31 [sU a, sU m] (inverseG a m) =
    (let x1 : Nat := m % Go.Sx.M256; let x2 : Nat := a % Go.Sx.M256; let x3 : Nat := Go.Proofs.Ytbkginommedheaa.invN x2 x1 % Go.Sx.M256; let x4 : Int := Go.Proofs.Ytbkginommedheaa.invE x2 x1; (∀ (y : Nat × Nat × Int × Int), Go.Sx.closedB (Go.Sx.slotsAt (44 : Nat) [((2 : Nat), Go.Sx.SV.one (Go.Sx.SA.sc (Go.Sx.SC.ptr (0 : Nat) (0 : Nat)))), ((3 : Nat), Go.Sx.SV.one (Go.Sx.SA.sc (Go.Sx.SC.ptr (1 : Nat) (0 : Nat)))), ((4 : Nat), Go.Sx.SV.one (Go.Sx.SA.sc (Go.Sx.SC.ptr (2 : Nat) (0 : Nat)))), ((6 : Nat), Go.Sx.SV.one (Go.Sx.SA.sc (Go.Sx.SC.ptr (3 : Nat) (0 : Nat)))), ((7 : Nat), Go.Sx.SV.one (Go.Sx.SA.sc (Go.Sx.SC.ptr (4 : Nat) (0 : Nat))))]) [Go.Sx.SO.cells (26 : Go.TypeId) [Go.Sx.SK.u a] (0 : Nat), Go.Sx.SO.cells (26 : Go.TypeId) [Go.Sx.SK.u m] (0 : Nat), Go.Sx.SO.cells (26 : Go.TypeId) Go.Proofs.Ytbkginommedheaa.zeroU (0 : Nat), Go.Sx.SO.cells (81 : Go.TypeId) [Go.Sx.SK.u y.fst, Go.Sx.SK.u y.snd.fst] (0 : Nat), Go.Sx.SO.cells (81 : Go.TypeId) [Go.Sx.SK.u (Go.Proofs.Ytbkginommedheaa.wrN y.snd.snd.fst), Go.Sx.SK.u (Go.Proofs.Ytbkginommedheaa.wrN y.snd.snd.snd)] (0 : Nat)] = Bool.true) ∧ ∃ (y : Nat × Nat × Int × Int), (Go.Sx.EuK x1 x2 y.fst y.snd.fst y.snd.snd.fst y.snd.snd.snd ∧ Go.Sx.euE y.fst y.snd.fst y.snd.snd.fst y.snd.snd.snd = Go.Sx.euE x1 x2 (0 : Int) (1 : Int) ∧ y.fst ≤ x1) ∧ x2 = x2 ∧ (0 : Nat) = (0 : Nat) ∧ x1 = x1 ∧ (0 : Nat) = (0 : Nat) ∧ (0 : Nat) = (0 : Nat) ∧ x1 = y.fst % Go.Sx.M256 ∧ x2 = y.snd.fst % Go.Sx.M256 ∧ (0 : Nat) = (0 : Nat) ∧ ((0 : Nat) = Go.Proofs.Ytbkginommedheaa.wrN y.snd.snd.fst % Go.Sx.M256 ∧ (1 : Nat) = Go.Proofs.Ytbkginommedheaa.wrN y.snd.snd.snd % Go.Sx.M256 ∧ True) ∧ (0 : Nat) = (0 : Nat) ∧ ∀ (y : Nat × Nat × Int × Int), Go.Sx.EuK x1 x2 y.fst y.snd.fst y.snd.snd.fst y.snd.snd.snd ∧ Go.Sx.euE y.fst y.snd.fst y.snd.snd.fst y.snd.snd.snd = Go.Sx.euE x1 x2 (0 : Int) (1 : Int) ∧ y.fst ≤ x1 → ((!Go.Sx.conj [y.snd.fst % Go.Sx.M256 == (0 : Nat)]) = Bool.true → y.snd.fst % Go.Sx.M256 < y.fst % Go.Sx.M256 ∧ ((!!(Go.Proofs.Ytbkginommedheaa.foR y.fst y.snd.fst).snd.fst == (0 : Int)) = Bool.true → ∃ (y' : Nat × Nat × Int × Int), (Go.Sx.EuK x1 x2 y'.fst y'.snd.fst y'.snd.snd.fst y'.snd.snd.snd ∧ Go.Sx.euE y'.fst y'.snd.fst y'.snd.snd.fst y'.snd.snd.snd = Go.Sx.euE x1 x2 (0 : Int) (1 : Int) ∧ y'.fst ≤ x1) ∧ x2 = x2 ∧ (0 : Nat) = (0 : Nat) ∧ x1 = x1 ∧ (0 : Nat) = (0 : Nat) ∧ (0 : Nat) = (0 : Nat) ∧ ((0 : Nat) * y.fst + (1 : Nat) * y.snd.fst) % Go.Sx.M256 = y'.fst % Go.Sx.M256 ∧ ((1 : Nat) * y.fst + ((115792089237316195423570985008687907853269984665640564039457584007913129639936 : Nat) - (if y.snd.fst % Go.Sx.M256 = (0 : Nat) then (0 : Nat) else y.fst % Go.Sx.M256 / (y.snd.fst % Go.Sx.M256)) % Go.Sx.M256) * y.snd.fst) % Go.Sx.M256 = y'.snd.fst % Go.Sx.M256 ∧ (0 : Nat) = (0 : Nat) ∧ ((0 : Nat) * Go.Proofs.Ytbkginommedheaa.wrN y.snd.snd.fst + (1 : Nat) * Go.Proofs.Ytbkginommedheaa.wrN y.snd.snd.snd) % Go.Sx.M256 = Go.Proofs.Ytbkginommedheaa.wrN y'.snd.snd.fst % Go.Sx.M256 ∧ ((1 : Nat) * Go.Proofs.Ytbkginommedheaa.wrN y.snd.snd.fst + ((115792089237316195423570985008687907853269984665640564039457584007913129639936 : Nat) - (if y.snd.fst % Go.Sx.M256 = (0 : Nat) then (0 : Nat) else y.fst % Go.Sx.M256 / (y.snd.fst % Go.Sx.M256)) % Go.Sx.M256) * Go.Proofs.Ytbkginommedheaa.wrN y.snd.snd.snd) % Go.Sx.M256 = Go.Proofs.Ytbkginommedheaa.wrN y'.snd.snd.snd % Go.Sx.M256 ∧ (0 : Nat) = (0 : Nat) ∧ y'.snd.fst < y.snd.fst) ∧ ((!!(Go.Proofs.Ytbkginommedheaa.foR y.fst y.snd.fst).snd.fst == (0 : Int)) = Bool.false → ∃ (y' : Nat × Nat × Int × Int), (Go.Sx.EuK x1 x2 y'.fst y'.snd.fst y'.snd.snd.fst y'.snd.snd.snd ∧ Go.Sx.euE y'.fst y'.snd.fst y'.snd.snd.fst y'.snd.snd.snd = Go.Sx.euE x1 x2 (0 : Int) (1 : Int) ∧ y'.fst ≤ x1) ∧ x2 = x2 ∧ (0 : Nat) = (0 : Nat) ∧ x1 = x1 ∧ (0 : Nat) = (0 : Nat) ∧ (0 : Nat) = (0 : Nat) ∧ (Go.Proofs.Ytbkginommedheaa.wrN (Go.Proofs.Ytbkginommedheaa.foR y.fst y.snd.fst).fst * y.fst + Go.Proofs.Ytbkginommedheaa.wrN (Go.Proofs.Ytbkginommedheaa.foR y.fst y.snd.fst).snd.fst * y.snd.fst) % Go.Sx.M256 = y'.fst % Go.Sx.M256 ∧ (Go.Proofs.Ytbkginommedheaa.wrN (Go.Proofs.Ytbkginommedheaa.foR y.fst y.snd.fst).snd.snd.fst * y.fst + Go.Proofs.Ytbkginommedheaa.wrN (Go.Proofs.Ytbkginommedheaa.foR y.fst y.snd.fst).snd.snd.snd * y.snd.fst) % Go.Sx.M256 = y'.snd.fst % Go.Sx.M256 ∧ (0 : Nat) = (0 : Nat) ∧ (Go.Proofs.Ytbkginommedheaa.wrN (Go.Proofs.Ytbkginommedheaa.foR y.fst y.snd.fst).fst * Go.Proofs.Ytbkginommedheaa.wrN y.snd.snd.fst + Go.Proofs.Ytbkginommedheaa.wrN (Go.Proofs.Ytbkginommedheaa.foR y.fst y.snd.fst).snd.fst * Go.Proofs.Ytbkginommedheaa.wrN y.snd.snd.snd) % Go.Sx.M256 = Go.Proofs.Ytbkginommedheaa.wrN y'.snd.snd.fst % Go.Sx.M256 ∧ (Go.Proofs.Ytbkginommedheaa.wrN (Go.Proofs.Ytbkginommedheaa.foR y.fst y.snd.fst).snd.snd.fst * Go.Proofs.Ytbkginommedheaa.wrN y.snd.snd.fst + Go.Proofs.Ytbkginommedheaa.wrN (Go.Proofs.Ytbkginommedheaa.foR y.fst y.snd.fst).snd.snd.snd * Go.Proofs.Ytbkginommedheaa.wrN y.snd.snd.snd) % Go.Sx.M256 = Go.Proofs.Ytbkginommedheaa.wrN y'.snd.snd.snd % Go.Sx.M256 ∧ (0 : Nat) = (0 : Nat) ∧ y'.snd.fst < y.snd.fst)) ∧ ((!Go.Sx.conj [y.snd.fst % Go.Sx.M256 == (0 : Nat)]) = Bool.false → ((!Go.Sx.conj [y.fst % Go.Sx.M256 == (1 : Nat)]) = Bool.true → ((0 : Nat) = x3 ∧ True) ∧ (5 : Int) = x4) ∧ ((!Go.Sx.conj [y.fst % Go.Sx.M256 == (1 : Nat)]) = Bool.false → ((if (57896044618658097711785492504343953926634992332820282019728792003956564819968 : Nat) ≤ Go.Proofs.Ytbkginommedheaa.wrN y.snd.snd.fst % Go.Sx.M256 then Go.Proofs.Ytbkginommedheaa.wrN y.snd.snd.fst + m else Go.Proofs.Ytbkginommedheaa.wrN y.snd.snd.fst) % Go.Sx.M256 = x3 ∧ True) ∧ (0 : Int) = x4))) := by kernel_rfl
-- END VC
-- VC vc_fInv HASH 8224b387e4246db1
theorem vc_fInv (a m : Nat) :
    Owes Try.prog cxInv [] 100 Try.f13 [sU a, sU m] (finvG a m) =
    (let x1 : Nat := m % Go.Sx.M256; let x2 : Nat := a % Go.Sx.M256; let x3 : Nat := Go.Proofs.Ytbkginommedheaa.invN x2 x1; let x4 : Nat := (if Go.Proofs.Ytbkginommedheaa.finvE a m = (0 : Int) then x3 else (0 : Nat)) % Go.Sx.M256; (Go.Sx.conj [x1 == (0 : Nat)] = Bool.true → ((0 : Nat) = x4 ∧ True) ∧ (7 : Int) = Go.Proofs.Ytbkginommedheaa.finvE a m) ∧ (Go.Sx.conj [x1 == (0 : Nat)] = Bool.false → (Decidable.decide (Go.Sx.cmpN a m ≥ (0 : Int)) = Bool.true → ((0 : Nat) = x4 ∧ True) ∧ (6 : Int) = Go.Proofs.Ytbkginommedheaa.finvE a m) ∧ (Decidable.decide (Go.Sx.cmpN a m ≥ (0 : Int)) = Bool.false → x2 < x1 ∧ (x3 % Go.Sx.M256 = x4 ∧ True) ∧ Go.Proofs.Ytbkginommedheaa.invE x2 x1 = Go.Proofs.Ytbkginommedheaa.finvE a m))) := by kernel_rfl
-- END VC

end Go.Proofs.Ytbkginommedheaa
end

section
/-
  Small curves by number; inverses: laws: reckoned by the kernel. (Laid by program.)
-/
namespace Go.Proofs.Ytbkginommedheaa
open Go.Sx
set_option maxRecDepth 100000
/-- The eight small curves. -/
def ixN (n : Int) : Nat := (n % 8).toNat
def cP (i : Nat) : Nat := [43, 67, 79, 139, 163, 211, 379, 691].getD i 0
def cB (i : Nat) : Nat := [7, 2, 6, 2, 3, 3, 2, 3].getD i 0
def cN (i : Nat) : Nat := [31, 73, 67, 163, 181, 199, 409, 643].getD i 0
def cX (i : Nat) : Nat := [2, 2, 5, 3, 1, 1, 5, 1].getD i 0
def cY (i : Nat) : Nat := [12, 12, 17, 53, 2, 2, 49, 2].getD i 0
def numG (k : Nat) : SV := .one (.sc (.num .i64 k))
def pickC (k : Nat) (a b : Int) : List Prop := [i64ok a, 0 < b ∧ b ≤ 1000000, a % b = (k : Int)]
def cxPickN (k : Nat) : Cx := [(16, specII (pickC k) fun _ _ => numG k)]
def cxPick : Cx := [(16, specII (fun a b => [i64ok a, 0 < b ∧ b ≤ 1000000]) pickedG)]
def curveS (i : Nat) : SA := .agg [.u (cP i), .u 0, .u (cB i), .u (cN i), .u (cX i), .u (cY i), .c (.bit false)]
def curveC : List (List At) → List Prop
  | [[.i n]] => [i64ok n]
  | _ => [False]
def curveG : List (List At) → SV
  | [[.i n]] => .one (curveS (ixN n))
  | _ => .tup []
def cxIB : Cx := [(25, specRaw rawG), (14, specUU dmG), (13, specUU finvG), (15, specUUU noC fmulG)]
def cxIN : Cx := [(16, specII (fun a b => [i64ok a, 0 < b ∧ b ≤ 1048576]) pickedG), (14, specUU dmG), (13, specUU finvG)]
def cxPP : Cx := [(17, specA [.int .i64] curveC curveG), (16, specII (fun a b => [i64ok a, 0 < b ∧ b ≤ 1048576]) pickedG), (18, specUUU noC fpowG), (13, specUU finvG)]
-- VC vc_pickN HASH 40ae070577a1ccad
theorem vc_pickN (k : Nat) (a b : Int) :
    Owes Try.prog [] [] 100 Try.f16 [sI .i64 a, sI .i64 b] (numG k) =
    (b ≠ (0 : Int) ∧ (Decidable.decide (a.tmod b < (0 : Int)) = Bool.true → Go.IntKind.i64.wrap (a.tmod b + b) = (↑k : Int)) ∧ (Decidable.decide (a.tmod b < (0 : Int)) = Bool.false → a.tmod b = (↑k : Int))) := by kernel_rfl
-- END VC
-- VC vc_Curve0 HASH c6df19f78b1c9960
theorem vc_Curve0 (n : Int) :
    Owes Try.prog (cxPickN 0) [] 100 Try.f17 [sI .i64 n] (curveG [[.i n]]) =
    (((-9223372036854775808 : Int) ≤ n ∧ n ≤ (9223372036854775807 : Int)) ∧ ((0 : Int) < (8 : Int) ∧ (8 : Int) ≤ (1000000 : Int)) ∧ n % (8 : Int) = (0 : Int) ∧ (43 : Nat) = Go.Proofs.Ytbkginommedheaa.cP (Go.Proofs.Ytbkginommedheaa.ixN n) % Go.Sx.M256 ∧ (0 : Nat) = (0 : Nat) ∧ (7 : Nat) = Go.Proofs.Ytbkginommedheaa.cB (Go.Proofs.Ytbkginommedheaa.ixN n) % Go.Sx.M256 ∧ (31 : Nat) = Go.Proofs.Ytbkginommedheaa.cN (Go.Proofs.Ytbkginommedheaa.ixN n) % Go.Sx.M256 ∧ (2 : Nat) = Go.Proofs.Ytbkginommedheaa.cX (Go.Proofs.Ytbkginommedheaa.ixN n) % Go.Sx.M256 ∧ (12 : Nat) = Go.Proofs.Ytbkginommedheaa.cY (Go.Proofs.Ytbkginommedheaa.ixN n) % Go.Sx.M256 ∧ Bool.false = Bool.false ∧ True) := by kernel_rfl
-- END VC
-- VC vc_Curve1 HASH b304bd8bc9dfa860
theorem vc_Curve1 (n : Int) :
    Owes Try.prog (cxPickN 1) [] 100 Try.f17 [sI .i64 n] (curveG [[.i n]]) =
    (((-9223372036854775808 : Int) ≤ n ∧ n ≤ (9223372036854775807 : Int)) ∧ ((0 : Int) < (8 : Int) ∧ (8 : Int) ≤ (1000000 : Int)) ∧ n % (8 : Int) = (1 : Int) ∧ (67 : Nat) = Go.Proofs.Ytbkginommedheaa.cP (Go.Proofs.Ytbkginommedheaa.ixN n) % Go.Sx.M256 ∧ (0 : Nat) = (0 : Nat) ∧ (2 : Nat) = Go.Proofs.Ytbkginommedheaa.cB (Go.Proofs.Ytbkginommedheaa.ixN n) % Go.Sx.M256 ∧ (73 : Nat) = Go.Proofs.Ytbkginommedheaa.cN (Go.Proofs.Ytbkginommedheaa.ixN n) % Go.Sx.M256 ∧ (2 : Nat) = Go.Proofs.Ytbkginommedheaa.cX (Go.Proofs.Ytbkginommedheaa.ixN n) % Go.Sx.M256 ∧ (12 : Nat) = Go.Proofs.Ytbkginommedheaa.cY (Go.Proofs.Ytbkginommedheaa.ixN n) % Go.Sx.M256 ∧ Bool.false = Bool.false ∧ True) := by kernel_rfl
-- END VC
-- VC vc_Curve2 HASH 8eeed9d41717a311
theorem vc_Curve2 (n : Int) :
    Owes Try.prog (cxPickN 2) [] 100 Try.f17 [sI .i64 n] (curveG [[.i n]]) =
    (((-9223372036854775808 : Int) ≤ n ∧ n ≤ (9223372036854775807 : Int)) ∧ ((0 : Int) < (8 : Int) ∧ (8 : Int) ≤ (1000000 : Int)) ∧ n % (8 : Int) = (2 : Int) ∧ (79 : Nat) = Go.Proofs.Ytbkginommedheaa.cP (Go.Proofs.Ytbkginommedheaa.ixN n) % Go.Sx.M256 ∧ (0 : Nat) = (0 : Nat) ∧ (6 : Nat) = Go.Proofs.Ytbkginommedheaa.cB (Go.Proofs.Ytbkginommedheaa.ixN n) % Go.Sx.M256 ∧ (67 : Nat) = Go.Proofs.Ytbkginommedheaa.cN (Go.Proofs.Ytbkginommedheaa.ixN n) % Go.Sx.M256 ∧ (5 : Nat) = Go.Proofs.Ytbkginommedheaa.cX (Go.Proofs.Ytbkginommedheaa.ixN n) % Go.Sx.M256 ∧ (17 : Nat) = Go.Proofs.Ytbkginommedheaa.cY (Go.Proofs.Ytbkginommedheaa.ixN n) % Go.Sx.M256 ∧ Bool.false = Bool.false ∧ True) := by kernel_rfl
-- END VC
-- VC vc_Curve3 HASH edd3d159bacb37cd
theorem vc_Curve3 (n : Int) :
    Owes Try.prog (cxPickN 3) [] 100 Try.f17 [sI .i64 n] (curveG [[.i n]]) =
    (((-9223372036854775808 : Int) ≤ n ∧ n ≤ (9223372036854775807 : Int)) ∧ ((0 : Int) < (8 : Int) ∧ (8 : Int) ≤ (1000000 : Int)) ∧ n % (8 : Int) = (3 : Int) ∧ (139 : Nat) = Go.Proofs.Ytbkginommedheaa.cP (Go.Proofs.Ytbkginommedheaa.ixN n) % Go.Sx.M256 ∧ (0 : Nat) = (0 : Nat) ∧ (2 : Nat) = Go.Proofs.Ytbkginommedheaa.cB (Go.Proofs.Ytbkginommedheaa.ixN n) % Go.Sx.M256 ∧ (163 : Nat) = Go.Proofs.Ytbkginommedheaa.cN (Go.Proofs.Ytbkginommedheaa.ixN n) % Go.Sx.M256 ∧ (3 : Nat) = Go.Proofs.Ytbkginommedheaa.cX (Go.Proofs.Ytbkginommedheaa.ixN n) % Go.Sx.M256 ∧ (53 : Nat) = Go.Proofs.Ytbkginommedheaa.cY (Go.Proofs.Ytbkginommedheaa.ixN n) % Go.Sx.M256 ∧ Bool.false = Bool.false ∧ True) := by kernel_rfl
-- END VC
-- VC vc_Curve4 HASH bd8a297845c76007
theorem vc_Curve4 (n : Int) :
    Owes Try.prog (cxPickN 4) [] 100 Try.f17 [sI .i64 n] (curveG [[.i n]]) =
    (((-9223372036854775808 : Int) ≤ n ∧ n ≤ (9223372036854775807 : Int)) ∧ ((0 : Int) < (8 : Int) ∧ (8 : Int) ≤ (1000000 : Int)) ∧ n % (8 : Int) = (4 : Int) ∧ (163 : Nat) = Go.Proofs.Ytbkginommedheaa.cP (Go.Proofs.Ytbkginommedheaa.ixN n) % Go.Sx.M256 ∧ (0 : Nat) = (0 : Nat) ∧ (3 : Nat) = Go.Proofs.Ytbkginommedheaa.cB (Go.Proofs.Ytbkginommedheaa.ixN n) % Go.Sx.M256 ∧ (181 : Nat) = Go.Proofs.Ytbkginommedheaa.cN (Go.Proofs.Ytbkginommedheaa.ixN n) % Go.Sx.M256 ∧ (1 : Nat) = Go.Proofs.Ytbkginommedheaa.cX (Go.Proofs.Ytbkginommedheaa.ixN n) % Go.Sx.M256 ∧ (2 : Nat) = Go.Proofs.Ytbkginommedheaa.cY (Go.Proofs.Ytbkginommedheaa.ixN n) % Go.Sx.M256 ∧ Bool.false = Bool.false ∧ True) := by kernel_rfl
-- END VC
-- VC vc_Curve5 HASH 84bd21fd696db28f
theorem vc_Curve5 (n : Int) :
    Owes Try.prog (cxPickN 5) [] 100 Try.f17 [sI .i64 n] (curveG [[.i n]]) =
    (((-9223372036854775808 : Int) ≤ n ∧ n ≤ (9223372036854775807 : Int)) ∧ ((0 : Int) < (8 : Int) ∧ (8 : Int) ≤ (1000000 : Int)) ∧ n % (8 : Int) = (5 : Int) ∧ (211 : Nat) = Go.Proofs.Ytbkginommedheaa.cP (Go.Proofs.Ytbkginommedheaa.ixN n) % Go.Sx.M256 ∧ (0 : Nat) = (0 : Nat) ∧ (3 : Nat) = Go.Proofs.Ytbkginommedheaa.cB (Go.Proofs.Ytbkginommedheaa.ixN n) % Go.Sx.M256 ∧ (199 : Nat) = Go.Proofs.Ytbkginommedheaa.cN (Go.Proofs.Ytbkginommedheaa.ixN n) % Go.Sx.M256 ∧ (1 : Nat) = Go.Proofs.Ytbkginommedheaa.cX (Go.Proofs.Ytbkginommedheaa.ixN n) % Go.Sx.M256 ∧ (2 : Nat) = Go.Proofs.Ytbkginommedheaa.cY (Go.Proofs.Ytbkginommedheaa.ixN n) % Go.Sx.M256 ∧ Bool.false = Bool.false ∧ True) := by kernel_rfl
-- END VC
-- VC vc_Curve6 HASH d8df98769e97661d
theorem vc_Curve6 (n : Int) :
    Owes Try.prog (cxPickN 6) [] 100 Try.f17 [sI .i64 n] (curveG [[.i n]]) =
    (((-9223372036854775808 : Int) ≤ n ∧ n ≤ (9223372036854775807 : Int)) ∧ ((0 : Int) < (8 : Int) ∧ (8 : Int) ≤ (1000000 : Int)) ∧ n % (8 : Int) = (6 : Int) ∧ (379 : Nat) = Go.Proofs.Ytbkginommedheaa.cP (Go.Proofs.Ytbkginommedheaa.ixN n) % Go.Sx.M256 ∧ (0 : Nat) = (0 : Nat) ∧ (2 : Nat) = Go.Proofs.Ytbkginommedheaa.cB (Go.Proofs.Ytbkginommedheaa.ixN n) % Go.Sx.M256 ∧ (409 : Nat) = Go.Proofs.Ytbkginommedheaa.cN (Go.Proofs.Ytbkginommedheaa.ixN n) % Go.Sx.M256 ∧ (5 : Nat) = Go.Proofs.Ytbkginommedheaa.cX (Go.Proofs.Ytbkginommedheaa.ixN n) % Go.Sx.M256 ∧ (49 : Nat) = Go.Proofs.Ytbkginommedheaa.cY (Go.Proofs.Ytbkginommedheaa.ixN n) % Go.Sx.M256 ∧ Bool.false = Bool.false ∧ True) := by kernel_rfl
-- END VC
-- VC vc_Curve7 HASH b58ce194cfcd385d
theorem vc_Curve7 (n : Int) :
    Owes Try.prog (cxPickN 7) [] 100 Try.f17 [sI .i64 n] (curveG [[.i n]]) =
    (((-9223372036854775808 : Int) ≤ n ∧ n ≤ (9223372036854775807 : Int)) ∧ ((0 : Int) < (8 : Int) ∧ (8 : Int) ≤ (1000000 : Int)) ∧ n % (8 : Int) = (7 : Int) ∧ (691 : Nat) = Go.Proofs.Ytbkginommedheaa.cP (Go.Proofs.Ytbkginommedheaa.ixN n) % Go.Sx.M256 ∧ (0 : Nat) = (0 : Nat) ∧ (3 : Nat) = Go.Proofs.Ytbkginommedheaa.cB (Go.Proofs.Ytbkginommedheaa.ixN n) % Go.Sx.M256 ∧ (643 : Nat) = Go.Proofs.Ytbkginommedheaa.cN (Go.Proofs.Ytbkginommedheaa.ixN n) % Go.Sx.M256 ∧ (1 : Nat) = Go.Proofs.Ytbkginommedheaa.cX (Go.Proofs.Ytbkginommedheaa.ixN n) % Go.Sx.M256 ∧ (2 : Nat) = Go.Proofs.Ytbkginommedheaa.cY (Go.Proofs.Ytbkginommedheaa.ixN n) % Go.Sx.M256 ∧ Bool.false = Bool.false ∧ True) := by kernel_rfl
-- END VC
-- VC vc_pickBig HASH c70aa24e9f6edddb
theorem vc_pickBig (a b : Int) :
    Owes Try.prog [] [] 100 Try.f16 [sI .i64 a, sI .i64 b] (pickedG a b) =
    (let x1 : Int := a % b; b ≠ (0 : Int) ∧ (Decidable.decide (a.tmod b < (0 : Int)) = Bool.true → Go.IntKind.i64.wrap (a.tmod b + b) = x1) ∧ (Decidable.decide (a.tmod b < (0 : Int)) = Bool.false → a.tmod b = x1)) := by kernel_rfl
-- END VC
-- VC vc_InverseBack HASH d64b8c2dd0bc8f81
theorem vc_InverseBack (k a b : Int) (s : ByteArray) (k' a' b' : Int) (s' : ByteArray) :
    Owes Try.prog cxIB [] 100 Try.f3 [sRaw k a b s, sRaw k' a' b' s'] yes =
    (let x1 : Nat := Go.Sx.rawN k a b % Go.Sx.M256; let x2 : Bool := (0 : Int) != (0 : Int); let x3 : Nat := if (1 : Nat) = (0 : Nat) then (0 : Nat) else Go.Sx.rawN k' a' b' % Go.Sx.M256 % (1 : Nat); let x4 : Int := Go.Proofs.Ytbkginommedheaa.finvE x3 (1 : Nat); let x5 : Nat := x3 % Go.Sx.M256; let x6 : Nat := if x4 = (0 : Int) then Go.Proofs.Ytbkginommedheaa.invN x5 (1 : Nat) else (0 : Nat); let x7 : Int := Go.Proofs.Ytbkginommedheaa.fE x3 x6 (1 : Nat); let x8 : Bool := x7 == (0 : Int); let x9 : Int := Go.Proofs.Ytbkginommedheaa.finvE x6 (1 : Nat); let x10 : Bool := x8 && x9 == (0 : Int); let x11 : Nat := x6 % Go.Sx.M256; let x12 : Bool := x10 && Go.Sx.conj [(if x7 = (0 : Int) then x5 * x11 % (1 : Nat) else (0 : Nat)) % Go.Sx.M256 == (0 : Nat)]; let x13 : Nat := if x1 = (0 : Nat) then (0 : Nat) else Go.Sx.rawN k' a' b' % Go.Sx.M256 % x1; let x14 : Int := Go.Proofs.Ytbkginommedheaa.finvE x13 (Go.Sx.rawN k a b); let x15 : Nat := x13 % Go.Sx.M256; let x16 : Nat := if x14 = (0 : Int) then Go.Proofs.Ytbkginommedheaa.invN x15 x1 else (0 : Nat); let x17 : Int := Go.Proofs.Ytbkginommedheaa.fE x13 x16 (Go.Sx.rawN k a b); let x18 : Bool := x17 == (0 : Int); let x19 : Int := Go.Proofs.Ytbkginommedheaa.finvE x16 (Go.Sx.rawN k a b); let x20 : Bool := x18 && x19 == (0 : Int); let x21 : Nat := x16 % Go.Sx.M256; let x22 : Bool := x20 && Go.Sx.conj [(if x17 = (0 : Int) then x15 * x21 % x1 else (0 : Nat)) % Go.Sx.M256 == (if x1 = (0 : Nat) then (0 : Nat) else (1 : Nat) % x1) % Go.Sx.M256]; ((-9223372036854775808 : Int) ≤ k ∧ k ≤ (9223372036854775807 : Int)) ∧ ((-9223372036854775808 : Int) ≤ a ∧ a ≤ (9223372036854775807 : Int)) ∧ ((-9223372036854775808 : Int) ≤ b ∧ b ≤ (9223372036854775807 : Int)) ∧ (Go.Sx.conj [x1 == (0 : Nat)] = Bool.true → ((-9223372036854775808 : Int) ≤ k' ∧ k' ≤ (9223372036854775807 : Int)) ∧ ((-9223372036854775808 : Int) ≤ a' ∧ a' ≤ (9223372036854775807 : Int)) ∧ ((-9223372036854775808 : Int) ≤ b' ∧ b' ≤ (9223372036854775807 : Int)) ∧ ∀ (c : Nat), (1 : Nat) + c ≤ Go.maxLen → ((!x2) = Bool.true → (!x2) = Bool.true) ∧ ((!x2) = Bool.true → (!x2) = Bool.true) ∧ (x2 = Bool.false → (!x2) = Bool.true) ∧ ((x2 || !Go.Sx.conj [(3 : Nat) == (3 : Nat)]) = Bool.true → Bool.false = Bool.true) ∧ ((x2 || !Go.Sx.conj [(3 : Nat) == (3 : Nat)]) = Bool.false → ((x4 != (0 : Int)) = Bool.true → (x4 == (5 : Int)) = Bool.true) ∧ ((x4 != (0 : Int)) = Bool.false → (x8 = Bool.true → x8 = Bool.true) ∧ (x8 = Bool.true → x8 = Bool.true) ∧ (x10 = Bool.true → x10 = Bool.true) ∧ (x10 = Bool.true → x10 = Bool.true) ∧ (x10 = Bool.true → x10 = Bool.true) ∧ (x12 = Bool.true → x12 = Bool.true) ∧ (x12 = Bool.true → x12 = Bool.true) ∧ (x12 = Bool.true → x12 = Bool.true) ∧ (x12 = Bool.true → x12 = Bool.true) ∧ (x12 = Bool.true → x12 = Bool.true) ∧ (x12 && Go.Sx.conj [(if x9 = (0 : Int) then Go.Proofs.Ytbkginommedheaa.invN x11 (1 : Nat) else (0 : Nat)) % Go.Sx.M256 == x5]) = Bool.true))) ∧ (Go.Sx.conj [x1 == (0 : Nat)] = Bool.false → ((-9223372036854775808 : Int) ≤ k' ∧ k' ≤ (9223372036854775807 : Int)) ∧ ((-9223372036854775808 : Int) ≤ a' ∧ a' ≤ (9223372036854775807 : Int)) ∧ ((-9223372036854775808 : Int) ≤ b' ∧ b' ≤ (9223372036854775807 : Int)) ∧ ∀ (c : Nat), (1 : Nat) + c ≤ Go.maxLen → ((!x2) = Bool.true → (!x2) = Bool.true) ∧ ((!x2) = Bool.true → (!x2) = Bool.true) ∧ (x2 = Bool.false → (!x2) = Bool.true) ∧ ((x2 || !Go.Sx.conj [(3 : Nat) == (3 : Nat)]) = Bool.true → Bool.false = Bool.true) ∧ ((x2 || !Go.Sx.conj [(3 : Nat) == (3 : Nat)]) = Bool.false → ((x14 != (0 : Int)) = Bool.true → (x14 == (5 : Int)) = Bool.true) ∧ ((x14 != (0 : Int)) = Bool.false → (x18 = Bool.true → x18 = Bool.true) ∧ (x18 = Bool.true → x18 = Bool.true) ∧ (x20 = Bool.true → x20 = Bool.true) ∧ (x20 = Bool.true → x20 = Bool.true) ∧ (x20 = Bool.true → x20 = Bool.true) ∧ (x22 = Bool.true → x22 = Bool.true) ∧ (x22 = Bool.true → x22 = Bool.true) ∧ (x22 = Bool.true → x22 = Bool.true) ∧ (x22 = Bool.true → x22 = Bool.true) ∧ (x22 = Bool.true → x22 = Bool.true) ∧ (x22 && Go.Sx.conj [(if x19 = (0 : Int) then Go.Proofs.Ytbkginommedheaa.invN x21 x1 else (0 : Nat)) % Go.Sx.M256 == x15]) = Bool.true)))) := by kernel_rfl
-- END VC
-- VC vc_InverseNone HASH b5b85bd8a81c86f1
theorem vc_InverseNone (k a b : Int) :
    Owes Try.prog cxIN [] 100 Try.f4 [sI .i64 k, sI .i64 a, sI .i64 b] yes =
    (let x1 : Int := Go.IntKind.u64.wrap (Go.IntKind.u64.wrap (Go.IntKind.i64.wrap ((2 : Int) + k % (1000 : Int))) * Go.IntKind.u64.wrap (b % (1048576 : Int))); let x2 : Int := Go.IntKind.u64.wrap (Go.IntKind.u64.wrap (Go.IntKind.i64.wrap ((2 : Int) + k % (1000 : Int))) * Go.IntKind.u64.wrap (Go.IntKind.i64.wrap ((1 : Int) + a % (1048576 : Int)))); let x3 : Nat := Go.Sx.join x2 (0 : Int) (0 : Int) (0 : Int); let x4 : Nat := x3 % Go.Sx.M256; let x5 : Nat := if x4 = (0 : Nat) then (0 : Nat) else Go.Sx.join x1 (0 : Int) (0 : Int) (0 : Int) % Go.Sx.M256 % x4; let x6 : Int := Go.Proofs.Ytbkginommedheaa.finvE x5 x3; let x7 : Bool := x6 == (5 : Int); let x8 : Bool := x7 && Go.Sx.conj [(if x6 = (0 : Int) then Go.Proofs.Ytbkginommedheaa.invN (x5 % Go.Sx.M256) x4 else (0 : Nat)) % Go.Sx.M256 == (0 : Nat)]; ((-9223372036854775808 : Int) ≤ k ∧ k ≤ (9223372036854775807 : Int)) ∧ ((0 : Int) < (1000 : Int) ∧ (1000 : Int) ≤ (1048576 : Int)) ∧ ((-9223372036854775808 : Int) ≤ a ∧ a ≤ (9223372036854775807 : Int)) ∧ ((0 : Int) < (1048576 : Int) ∧ (1048576 : Int) ≤ (1048576 : Int)) ∧ ((-9223372036854775808 : Int) ≤ b ∧ b ≤ (9223372036854775807 : Int)) ∧ ((0 : Int) < (1048576 : Int) ∧ (1048576 : Int) ≤ (1048576 : Int)) ∧ ((0 : Int) ≤ x1 ∧ x1 < (18446744073709551616 : Int)) ∧ ((0 : Int) ≤ (0 : Int) ∧ (0 : Int) < (18446744073709551616 : Int)) ∧ ((0 : Int) ≤ (0 : Int) ∧ (0 : Int) < (18446744073709551616 : Int)) ∧ ((0 : Int) ≤ (0 : Int) ∧ (0 : Int) < (18446744073709551616 : Int)) ∧ ((0 : Int) ≤ x2 ∧ x2 < (18446744073709551616 : Int)) ∧ ((0 : Int) ≤ (0 : Int) ∧ (0 : Int) < (18446744073709551616 : Int)) ∧ ((0 : Int) ≤ (0 : Int) ∧ (0 : Int) < (18446744073709551616 : Int)) ∧ ((0 : Int) ≤ (0 : Int) ∧ (0 : Int) < (18446744073709551616 : Int)) ∧ ((0 : Int) ≤ x2 ∧ x2 < (18446744073709551616 : Int)) ∧ ((0 : Int) ≤ (0 : Int) ∧ (0 : Int) < (18446744073709551616 : Int)) ∧ ((0 : Int) ≤ (0 : Int) ∧ (0 : Int) < (18446744073709551616 : Int)) ∧ ((0 : Int) ≤ (0 : Int) ∧ (0 : Int) < (18446744073709551616 : Int)) ∧ (x7 = Bool.true → x7 = Bool.true) ∧ (x7 = Bool.true → x7 = Bool.true) ∧ (x7 = Bool.true → x7 = Bool.true) ∧ (x8 = Bool.true → x8 = Bool.true) ∧ (x8 = Bool.true → x8 = Bool.true) ∧ (x8 && (7 : Int) == (7 : Int)) = Bool.true) := by kernel_rfl
-- END VC
-- VC vc_PowerPrime HASH 639191f414fc922f
theorem vc_PowerPrime (n x : Int) :
    Owes Try.prog cxPP [] 100 Try.f5 [sI .i64 n, sI .i64 x] yes =
    (let x1 : Int := Go.Sx.limb (Go.Proofs.Ytbkginommedheaa.cP (Go.Proofs.Ytbkginommedheaa.ixN n)) (0 : Nat); let x2 : Int := Go.IntKind.i64.wrap (Go.IntKind.i64.wrap x1 - (1 : Int)); let x3 : Int := Go.IntKind.u64.wrap ((1 : Int) + Go.IntKind.u64.wrap (x % x2)); let x4 : Int := Go.IntKind.u64.wrap (x1 - (1 : Int)); let x5 : Int := Go.IntKind.u64.wrap (x1 - (2 : Int)); let x6 : Nat := Go.Sx.join x3 (0 : Int) (0 : Int) (0 : Int); let x7 : Int := Go.Proofs.Ytbkginommedheaa.pE x6 (Go.Proofs.Ytbkginommedheaa.cP (Go.Proofs.Ytbkginommedheaa.ixN n)); let x8 : Bool := x7 == (0 : Int); let x9 : Bool := x8 && x8; let x10 : Int := Go.Proofs.Ytbkginommedheaa.finvE x6 (Go.Proofs.Ytbkginommedheaa.cP (Go.Proofs.Ytbkginommedheaa.ixN n)); let x11 : Bool := x9 && x10 == (0 : Int); let x12 : Nat := x6 % Go.Sx.M256; let x13 : Nat := Go.Proofs.Ytbkginommedheaa.cP (Go.Proofs.Ytbkginommedheaa.ixN n) % Go.Sx.M256; let x14 : Bool := x11 && Go.Sx.conj [(if x7 = (0 : Int) then x12 ^ (Go.Sx.join x4 (0 : Int) (0 : Int) (0 : Int) % Go.Sx.M256) % x13 else (0 : Nat)) % Go.Sx.M256 == (1 : Nat)]; ((-9223372036854775808 : Int) ≤ n ∧ n ≤ (9223372036854775807 : Int)) ∧ ((-9223372036854775808 : Int) ≤ x ∧ x ≤ (9223372036854775807 : Int)) ∧ ((0 : Int) < x2 ∧ x2 ≤ (1048576 : Int)) ∧ ((0 : Int) ≤ x3 ∧ x3 < (18446744073709551616 : Int)) ∧ ((0 : Int) ≤ (0 : Int) ∧ (0 : Int) < (18446744073709551616 : Int)) ∧ ((0 : Int) ≤ (0 : Int) ∧ (0 : Int) < (18446744073709551616 : Int)) ∧ ((0 : Int) ≤ (0 : Int) ∧ (0 : Int) < (18446744073709551616 : Int)) ∧ ((0 : Int) ≤ x4 ∧ x4 < (18446744073709551616 : Int)) ∧ ((0 : Int) ≤ (0 : Int) ∧ (0 : Int) < (18446744073709551616 : Int)) ∧ ((0 : Int) ≤ (0 : Int) ∧ (0 : Int) < (18446744073709551616 : Int)) ∧ ((0 : Int) ≤ (0 : Int) ∧ (0 : Int) < (18446744073709551616 : Int)) ∧ ((0 : Int) ≤ x3 ∧ x3 < (18446744073709551616 : Int)) ∧ ((0 : Int) ≤ (0 : Int) ∧ (0 : Int) < (18446744073709551616 : Int)) ∧ ((0 : Int) ≤ (0 : Int) ∧ (0 : Int) < (18446744073709551616 : Int)) ∧ ((0 : Int) ≤ (0 : Int) ∧ (0 : Int) < (18446744073709551616 : Int)) ∧ ((0 : Int) ≤ x5 ∧ x5 < (18446744073709551616 : Int)) ∧ ((0 : Int) ≤ (0 : Int) ∧ (0 : Int) < (18446744073709551616 : Int)) ∧ ((0 : Int) ≤ (0 : Int) ∧ (0 : Int) < (18446744073709551616 : Int)) ∧ ((0 : Int) ≤ (0 : Int) ∧ (0 : Int) < (18446744073709551616 : Int)) ∧ ((0 : Int) ≤ x3 ∧ x3 < (18446744073709551616 : Int)) ∧ ((0 : Int) ≤ (0 : Int) ∧ (0 : Int) < (18446744073709551616 : Int)) ∧ ((0 : Int) ≤ (0 : Int) ∧ (0 : Int) < (18446744073709551616 : Int)) ∧ ((0 : Int) ≤ (0 : Int) ∧ (0 : Int) < (18446744073709551616 : Int)) ∧ (x8 = Bool.true → x8 = Bool.true) ∧ (x8 = Bool.true → x8 = Bool.true) ∧ (x9 = Bool.true → x9 = Bool.true) ∧ (x9 = Bool.true → x9 = Bool.true) ∧ (x11 = Bool.true → x11 = Bool.true) ∧ (x11 = Bool.true → x11 = Bool.true) ∧ (x11 = Bool.true → x11 = Bool.true) ∧ (x14 = Bool.true → x14 = Bool.true) ∧ (x14 = Bool.true → x14 = Bool.true) ∧ (x14 = Bool.true → x14 = Bool.true) ∧ (x14 && Go.Sx.conj [(if x7 = (0 : Int) then x12 ^ (Go.Sx.join x5 (0 : Int) (0 : Int) (0 : Int) % Go.Sx.M256) % x13 else (0 : Nat)) % Go.Sx.M256 == (if x10 = (0 : Int) then Go.Proofs.Ytbkginommedheaa.invN x12 x13 else (0 : Nat)) % Go.Sx.M256]) = Bool.true) := by kernel_rfl
-- END VC

end Go.Proofs.Ytbkginommedheaa
end

section
/-
  Texts of numbers: reckoned by the kernel. (Laid by program.)
-/
namespace Go.Proofs.Ytbkginommedheaa
open Go.Sx
set_option maxRecDepth 100000
def splitG (a : Nat) (n : Int) : SV := .tup [sU (a % M256 / n.toNat), sI .u64 ((a % M256 % n.toNat : Nat) : Int)]
def splitC (_ : Nat) (n : Int) : List Prop := [1 ≤ n ∧ n < 18446744073709551616]
def cxSplit : Cx := [(85, specWWW divC divG)]
/-- The row of digits after k rounds. -/
def showF (n k : Nat) (j : Nat) : Int := if 78 - k ≤ j then ((48 + n / 10 ^ (77 - j) % 10 : Nat) : Int) else 0
/-- The text of a number of m digits. -/
def textOf (n m : Nat) : ByteArray := bytesI ((List.range m).map fun j => ((48 + n / 10 ^ (m - 1 - j) % 10 : Nat) : Int))
def lenD : Nat → Nat → Nat
  | 0, _ => 1
  | f + 1, n => if n / 10 = 0 then 1 else lenD f (n / 10) + 1
def showB (n : Nat) : ByteArray := textOf n (lenD 78 n)
def showG (a : Nat) : SV := .one (sStr (showB (a % M256)))
def byteAt (s : ByteArray) (j : Nat) : Nat := (s.data.getD j 0).toNat
def allDig (s : ByteArray) : Nat → Bool
  | 0 => true
  | i + 1 => allDig s i && decide (48 ≤ byteAt s i ∧ byteAt s i ≤ 57)
def decB (s : ByteArray) : Bool := allDig s s.size && (decide (s.size = 1) || decide (1 < s.size ∧ byteAt s 0 ≠ 48))
def decG (s : ByteArray) : SV := .one (sB (decB s))
def invDec (s : ByteArray) : Inv where
  X := Nat
  tm i := slotsAt 33 [(0, .one (sStr s)), (2, .one (.sc (.bit false))), (5, .one (sI .i64 (s.size : Int))), (6, .one (sI .i64 (i : Int)))]
  ob _ := []
  holds i := i ≤ s.size ∧ allDig s i = true
  less i := s.size - i
def valP (s : ByteArray) : Nat → Nat
  | 0 => 0
  | i + 1 => 10 * valP s i + (byteAt s i - 48)
def parseE (s : ByteArray) : Int := if 78 < s.size then 1 else if decB s = false then 3 else if M256 ≤ valP s s.size then 6 else 0
def parseV (s : ByteArray) : Nat := if parseE s = 0 then valP s s.size else 0
def parseG (s : ByteArray) : SV := .tup [sU (parseV s), sI .i64 (parseE s)]
def invParse (s : ByteArray) : Inv where
  X := Nat
  tm i := slotsAt 49 [(0, .one (sStr s)), (2, .one (.sc (.ptr 0 0))), (3, .one (.sc (.num .i64 0))), (4, .one (.sc (.ptr 1 0))), (19, .one (sI .i64 (s.size : Int))), (20, .one (sI .i64 (i : Int)))]
  ob i := [.cells 26 [.c (.num .u64 0), .c (.num .u64 0), .c (.num .u64 0), .c (.num .u64 0)] 0, .cells 26 [.u (valP s i)] 0]
  holds i := i ≤ s.size ∧ valP s i < M256
  less i := s.size - i
end Go.Proofs.Ytbkginommedheaa
end

section
/-
  What powers of ten, and bytes, come to: reckoned by the kernel. (Laid by program.)
-/
namespace Go.Proofs.Ytbkginommedheaa
open Go.Sx
set_option maxRecDepth 100000
def cxTen : Cx := [(75, specUI timesG)]
def wordF (a b : Int) (s : ByteArray) (j : Nat) : Int := if j = 31 then IntKind.u8.wrap b else if j = 30 then IntKind.u8.wrap a else if j < s.size then ((s.data.getD j 0).toNat : Int) else 0
def wordG (_ a b : Int) (s : ByteArray) : SV := .one (sBy 32 (wordF a b s))
def invTen (n : Int) : Inv where
  X := Nat
  tm i := slotsAt 23 [(0, .one (sI .i64 n)), (2, .one (.sc (.ptr 0 0))), (4, .one (.sc (.ptr 1 0))), (13, .one (sI .i64 n)), (14, .one (sI .i64 i))]
  ob i := [.cells 26 [.c (.num .u64 0), .c (.num .u64 0), .c (.num .u64 0), .c (.num .u64 0)] 0, .cells 26 [.u (10 ^ i)] 0]
  holds i := (i : Int) ≤ n
  less i := n.toNat - i
end Go.Proofs.Ytbkginommedheaa
end

section
/-
  Package wide's functions, each held to its card: the numbers' side.
-/
namespace Go.Proofs.Ytbkginommedheaa
open Go.Sx

theorem split4 (n : Nat) : ∃ a b c d : Nat, limb n 0 = a ∧ limb n 1 = b ∧ limb n 2 = c ∧ limb n 3 = d ∧ a < 18446744073709551616 ∧ b < 18446744073709551616 ∧ c < 18446744073709551616 ∧ d < 18446744073709551616 ∧
    n % M256 = a + 18446744073709551616 * b + 340282366920938463463374607431768211456 * c + 6277101735386680763835789423207666416102355444464034512896 * d := by
  refine ⟨n / 2 ^ (64 * 0) % 2 ^ 64, n / 2 ^ (64 * 1) % 2 ^ 64, n / 2 ^ (64 * 2) % 2 ^ 64, n / 2 ^ (64 * 3) % 2 ^ 64, rfl, rfl, rfl, rfl, Nat.mod_lt _ (by decide), Nat.mod_lt _ (by decide), Nat.mod_lt _ (by decide), Nat.mod_lt _ (by decide), ?_⟩
  rw [limbs_sum]
  simp only [Nat.mul_zero, Nat.pow_zero, Nat.div_one, Nat.mul_one, Nat.reduceMul, Nat.reducePow]

theorem M256_eq : M256 = 115792089237316195423570985008687907853269984665640564039457584007913129639936 := by decide

theorem carry_step (x y c : Nat) (hx : x < 18446744073709551616) (hy : y < 18446744073709551616) (hc : c ≤ 1) :
    ∃ s d : Nat, ((x : Int) + y + c) % 18446744073709551616 = s ∧ ((x : Int) + y + c) / 18446744073709551616 = d ∧ s < 18446744073709551616 ∧ d ≤ 1 ∧ x + y + c = s + 18446744073709551616 * d :=
  ⟨(x + y + c) % 18446744073709551616, (x + y + c) / 18446744073709551616, by omega, by omega, by omega, by omega, by omega⟩

theorem divmod_of {A S c M : Nat} (h : A = S + M * c) (hS : S < M) : A % M = S ∧ A / M = c := by
  subst h
  rw [Nat.add_mul_mod_self_left, Nat.mod_eq_of_lt hS, Nat.add_mul_div_left _ _ (by omega), Nat.div_eq_of_lt hS]
  exact ⟨rfl, by omega⟩

theorem ok_plus : ∀ a b, Owes Try.prog cxPlus [] 100 Try.f77 [sU a, sU b] (plusG a b) := by
  intro a b
  rw [vc_plus]
  have hab := Nat.add_mod a b M256
  obtain ⟨a0, a1, a2, a3, e0, e1, e2, e3, h0, h1, h2, h3, ha⟩ := split4 a
  obtain ⟨b0, b1, b2, b3, f0, f1, f2, f3, k0, k1, k2, k3, hb⟩ := split4 b
  rw [e0, e1, e2, e3, f0, f1, f2, f3]
  rw [ha, hb] at hab
  rw [ha, hb]
  obtain ⟨s0, c0, p0, q0, r0, t0, w0⟩ := carry_step a0 b0 0 h0 k0 (by omega)
  obtain ⟨s1, c1, p1, q1, r1, t1, w1⟩ := carry_step a1 b1 c0 h1 k1 t0
  obtain ⟨s2, c2, p2, q2, r2, t2, w2⟩ := carry_step a2 b2 c1 h2 k2 t1
  obtain ⟨s3, c3, p3, q3, r3, t3, w3⟩ := carry_step a3 b3 c2 h3 k3 t2
  simp only [Int.natCast_zero] at p0 q0
  obtain ⟨m1, m2⟩ := divmod_of (A := a0 + 18446744073709551616 * a1 + 340282366920938463463374607431768211456 * a2 + 6277101735386680763835789423207666416102355444464034512896 * a3 +
    (b0 + 18446744073709551616 * b1 + 340282366920938463463374607431768211456 * b2 + 6277101735386680763835789423207666416102355444464034512896 * b3))
    (S := s0 + 2 ^ 64 * s1 + 2 ^ 128 * s2 + 2 ^ 192 * s3) (c := c3) (M := M256) (by rw [M256_eq]; omega) (by rw [M256_eq]; omega)
  rw [m1] at hab
  have hS : (s0 + 2 ^ 64 * s1 + 2 ^ 128 * s2 + 2 ^ 192 * s3) % M256 = s0 + 2 ^ 64 * s1 + 2 ^ 128 * s2 + 2 ^ 192 * s3 := Nat.mod_eq_of_lt (by rw [M256_eq]; omega)
  simp only [q0, q1, q2, q3, p0, p1, p2, p3, join, Int.toNat_natCast, and_true, hab, hS, m2]
  clear ha hb hab hS m1 m2 p0 p1 p2 p3 q0 q1 q2 q3 w0 w1 w2 w3 e0 e1 e2 e3 f0 f1 f2 f3
  refine ⟨?_, ?_, ?_, ?_, ?_, ?_, ?_, ?_, ?_, ?_, ?_, ?_, ?_, ?_, ?_, ?_⟩ <;> omega

theorem borrow_step (x y c : Nat) (hx : x < 18446744073709551616) (hy : y < 18446744073709551616) (hc : c ≤ 1) :
    ∃ s d : Nat, ((x : Int) - y - c) % 18446744073709551616 = s ∧ -(((x : Int) - y - c) / 18446744073709551616) = d ∧ s < 18446744073709551616 ∧ d ≤ 1 ∧ x + 18446744073709551616 * d = s + y + c :=
  ⟨(((x : Int) - y - c) % 18446744073709551616).toNat, (-(((x : Int) - y - c) / 18446744073709551616)).toNat, by omega, by omega, by omega, by omega, by omega⟩

theorem ok_less : ∀ a b, Owes Try.prog cxLess [] 100 Try.f76 [sU a, sU b] (lessG a b) := by
  intro a b
  rw [vc_less]
  obtain ⟨a0, a1, a2, a3, e0, e1, e2, e3, h0, h1, h2, h3, ha⟩ := split4 a
  obtain ⟨b0, b1, b2, b3, f0, f1, f2, f3, k0, k1, k2, k3, hb⟩ := split4 b
  rw [e0, e1, e2, e3, f0, f1, f2, f3, ha, hb]
  obtain ⟨s0, c0, p0, q0, r0, t0, w0⟩ := borrow_step a0 b0 0 h0 k0 (by omega)
  obtain ⟨s1, c1, p1, q1, r1, t1, w1⟩ := borrow_step a1 b1 c0 h1 k1 t0
  obtain ⟨s2, c2, p2, q2, r2, t2, w2⟩ := borrow_step a2 b2 c1 h2 k2 t1
  obtain ⟨s3, c3, p3, q3, r3, t3, w3⟩ := borrow_step a3 b3 c2 h3 k3 t2
  simp only [Int.natCast_zero] at p0 q0
  have key : a0 + 18446744073709551616 * a1 + 340282366920938463463374607431768211456 * a2 + 6277101735386680763835789423207666416102355444464034512896 * a3 + M256 * c3 =
    (s0 + 2 ^ 64 * s1 + 2 ^ 128 * s2 + 2 ^ 192 * s3) + (b0 + 18446744073709551616 * b1 + 340282366920938463463374607431768211456 * b2 + 6277101735386680763835789423207666416102355444464034512896 * b3) := by
    rw [M256_eq]; omega
  simp only [q0, q1, q2, q3, p0, p1, p2, p3, join, Int.toNat_natCast, and_true]
  generalize hA : a0 + 18446744073709551616 * a1 + 340282366920938463463374607431768211456 * a2 + 6277101735386680763835789423207666416102355444464034512896 * a3 = A at *
  generalize hB : b0 + 18446744073709551616 * b1 + 340282366920938463463374607431768211456 * b2 + 6277101735386680763835789423207666416102355444464034512896 * b3 = B at *
  have hA' : A < M256 := by rw [M256_eq]; omega
  have hB' : B < M256 := by rw [M256_eq]; omega
  have hS' : s0 + 2 ^ 64 * s1 + 2 ^ 128 * s2 + 2 ^ 192 * s3 < M256 := by rw [M256_eq]; omega
  generalize s0 + 2 ^ 64 * s1 + 2 ^ 128 * s2 + 2 ^ 192 * s3 = S at *
  rw [Nat.mod_eq_of_lt hS']
  have hc3 : c3 = 0 ∨ c3 = 1 := by omega
  have fin : S = (A + M256 - B) % M256 ∧ (c3 : Int) = if A < B then 1 else 0 := by
    rcases hc3 with rfl | rfl
    · have : ¬ A < B := by omega
      rw [if_neg this]
      refine ⟨?_, rfl⟩
      rw [show A + M256 - B = S + M256 by omega, Nat.add_mod_right, Nat.mod_eq_of_lt hS']
    · have : A < B := by omega
      rw [if_pos this]
      refine ⟨?_, rfl⟩
      rw [show A + M256 - B = S by omega, Nat.mod_eq_of_lt hS']
  obtain ⟨g1, g2⟩ := fin
  rw [← g1, ← g2]
  clear ha hb hA hB key hA' hB' hS' g1 g2 p0 p1 p2 p3 q0 q1 q2 q3 w0 w1 w2 w3 e0 e1 e2 e3 f0 f1 f2 f3
  repeat' apply And.intro
  all_goals first | rfl | omega

theorem ok_Add : ∀ a b, Owes Try.prog cxAdd [] 100 Try.f69 [sU a, sU b] (addG a b) := by
  intro a b
  rw [vc_Add]
  refine ⟨⟨rfl, trivial⟩, ?_⟩
  have hM : 0 < M256 := by decide
  have h1 := Nat.mod_lt a hM
  have h2 := Nat.mod_lt b hM
  rw [Bool.eq_iff_iff]
  simp only [bne_iff_ne, ne_eq, decide_eq_true_eq]
  by_cases h : M256 ≤ a % M256 + b % M256
  · have : (a % M256 + b % M256) / M256 ≠ 0 := by
      have := Nat.div_pos h hM
      omega
    simp only [h, iff_true]; omega
  · have : (a % M256 + b % M256) / M256 = 0 := Nat.div_eq_of_lt (by omega)
    simp [h, this]

theorem ok_Sub : ∀ a b, Owes Try.prog cxSub [] 100 Try.f68 [sU a, sU b] (subG a b) := by
  intro a b
  rw [vc_Sub]
  refine ⟨⟨rfl, trivial⟩, ?_⟩
  by_cases h : a % M256 < b % M256 <;> simp [h]

theorem ok_Cmp : ∀ a b, Owes Try.prog [] [] 100 Try.f44 [sU a, sU b] (cmpG a b) := by
  intro a b
  rw [vc_Cmp]
  obtain ⟨a0, a1, a2, a3, e0, e1, e2, e3, h0, h1, h2, h3, ha⟩ := split4 a
  obtain ⟨b0, b1, b2, b3, f0, f1, f2, f3, k0, k1, k2, k3, hb⟩ := split4 b
  rw [e0, e1, e2, e3, f0, f1, f2, f3]
  simp only [cmpN, ha, hb, decide_eq_true_eq, decide_eq_false_iff_not]
  clear e0 e1 e2 e3 f0 f1 f2 f3 ha hb
  refine ⟨fun h => ?_, fun h => ⟨fun h' => ?_, fun h' => ⟨fun g => ?_, fun g => ⟨fun g' => ?_, fun g' => ⟨fun i => ?_, fun i => ⟨fun i' => ?_, fun i' => ⟨fun j => ?_, fun j => ⟨fun j' => ?_, fun j' => ?_⟩⟩⟩⟩⟩⟩⟩⟩
  all_goals
    split
    · omega
    · first
      | omega
      | (split <;> omega)

theorem ok_picked (n m : Int) (hn : i64ok n) (hm : 0 < m ∧ m ≤ 1000000) : Owes Try.prog [] [] 100 Try.f16 [sI .i64 n, sI .i64 m] (pickedG n m) := by
  rw [vc_picked]
  obtain ⟨h1, h2⟩ := hn
  have hd := Int.tmod_add_mul_tdiv n m
  have b1 := Int.emod_nonneg n (show m ≠ 0 by omega)
  have b2 := Int.emod_lt_of_pos n hm.1
  have hlt := Int.tmod_lt_of_pos n hm.1
  refine ⟨by omega, fun h => ?_, fun h => ?_⟩
  · simp only [decide_eq_true_eq] at h
    have hgt : -m < n.tmod m := by
      have := Int.lt_tmod_of_pos n hm.1
      exact this
    have e : n.tmod m + m = n % m := by
      have : (n.tmod m + m) % m = n.tmod m + m := Int.emod_eq_of_lt (by omega) (by omega)
      rw [← this]
      conv => rhs; rw [← hd]
      rw [Int.add_mul_emod_self_left, Int.add_emod_right]
    rw [e]
    exact IntWalk.i64_in _ (by omega)
  · simp only [decide_eq_false_iff_not] at h
    have : n.tmod m % m = n.tmod m := Int.emod_eq_of_lt (by omega) hlt
    rw [← this]
    conv => rhs; rw [← hd]
    rw [Int.add_mul_emod_self_left]

end Go.Proofs.Ytbkginommedheaa
end

section
/-
  The laws' drawn numbers, and the laws of sums: the numbers' side.
-/
namespace Go.Proofs.Ytbkginommedheaa
open Go.Sx

theorem ok_number : ∀ k a b s, i64ok k → i64ok a → i64ok b → Owes Try.prog cxRaw [] 100 Try.f25 [sRaw k a b s] (rawG k a b s) := by
  intro k a b s hk ha hb
  rw [vc_number]
  unfold i64ok at hk ha hb
  have hr : ∀ x, 0 ≤ IntKind.u64.wrap x ∧ IntKind.u64.wrap x < 2 ^ 64 := w64_range
  have hz : (0 : Int) ≤ 0 ∧ (0 : Int) < 2 ^ 64 := ⟨by decide, by decide⟩
  have hm : (0 : Int) ≤ 18446744073709551615 ∧ (18446744073709551615 : Int) < 2 ^ 64 := ⟨by decide, by decide⟩
  refine ⟨hk, by omega, fun h0 => ?_, fun h0 => ⟨fun h1 => ?_, fun h1 => ⟨fun h2 => ?_, fun h2 => ⟨fun h3 => ?_, fun h3 => ?_⟩⟩⟩⟩
  · rw [beq_iff_eq] at h0
    refine ⟨ha, by omega, hr _, hz, hz, hz, ?_, trivial⟩
    rw [rawN, if_pos h0]; rfl
  · rw [beq_iff_eq] at h1
    rw [beq_eq_false_iff_ne] at h0
    refine ⟨hr _, hz, hz, hz, ?_, trivial⟩
    rw [rawN, if_neg h0, if_pos h1]; rfl
  · rw [beq_iff_eq] at h2
    rw [beq_eq_false_iff_ne] at h0 h1
    refine ⟨hr _, hr _, hz, hz, ?_, trivial⟩
    rw [rawN, if_neg h0, if_neg h1, if_pos h2]; rfl
  · rw [beq_iff_eq] at h3
    rw [beq_eq_false_iff_ne] at h0 h1 h2
    refine ⟨hr _, hr _, hr _, hr _, ?_, trivial⟩
    rw [rawN, if_neg h0, if_neg h1, if_neg h2, if_pos h3]; rfl
  · rw [beq_eq_false_iff_ne] at h0 h1 h2 h3
    refine ⟨hr _, hr _, hm, hm, ?_, trivial⟩
    rw [rawN, if_neg h0, if_neg h1, if_neg h2, if_neg h3]; rfl

theorem add_back (x y : Nat) : ((x + y) % M256 + M256 - y % M256) % M256 = x % M256 := by
  have : M256 = 115792089237316195423570985008687907853269984665640564039457584007913129639936 := M256_eq
  rw [this]
  omega
theorem add_over (x y : Nat) : (M256 ≤ x % M256 + y % M256) ↔ ((x + y) % M256 < y % M256) := by
  have : M256 = 115792089237316195423570985008687907853269984665640564039457584007913129639936 := M256_eq
  rw [this]
  omega

end Go.Proofs.Ytbkginommedheaa
end
