/-
  Texts: P165, P166, V90, P140, V92, P141, V94, P142, V95, P143.
-/
import Derived.Test.YtajfifmlkgojnaaM1
import Derived.Test.YtajfifmlkgojnaaM2
import Derived.Test.YtajfifmlkgojnaaM3
import Derived.Test.YtajfifmlkgojnaaM4
import Derived.Test.YtajfifmlkgojnaaM5
import Derived.Test.YtajfifmlkgojnaaM6
import Derived.Test.YtajfifmlkgojnaaM7
import Derived.Test.YtajfifmlkgojnaaM8
import Derived.Test.YtajfifmlkgojnaaM9
import Derived.Test.YtajfifmlkgojnaaM10
import Derived.Test.YtajfifmlkgojnaaChecked
section
namespace Go.Proofs.Ytajfifmlkgojnaa
open Go.Sx
end Go.Proofs.Ytajfifmlkgojnaa
end

section
namespace Go.Proofs.Ytajfifmlkgojnaa
open Go.Sx
section
variable {kd : Int} {am fe : Nat} {tk : Nat → Int} {hm : Int} {to : Nat → Int} {tc dc : Int} {sy : ByteArray} {m : Nat} {dk : Nat → Nat → Int} {ix : Int} {y : Nat} {kk Z Z' : Nat → Nat → Int}
end
structure ldQ (sy : ByteArray) (a : Option Addr) (m : Nat) (f : Nat → Nat → SC) (b : Option Addr) (y : Nat) (h : Nat → Nat → SC) : Prop where
  qf : f = u8F (kOf f)
  qh : h = u8F (kOf h)
  qs : (sy.size : Int) ≤ 9223372036854775807
  qy : (y : Int) ≤ 9223372036854775807
  qa : a = none → m = 0
  qb : b = none → y = 0
def ldC : List (List FD) → List Prop
  | [[.i _, .u _, .u _, .y _, .i _, .y _, .i _, .i _, .t sy, .x a m _ f, .i _, .x b y _ h]] => [ldQ sy a m f b y h]
  | _ => [False]
noncomputable def ldS : List (List FD) → List RS
  | [[.i kd, .u am, .u fe, .y tk, .i hm, .y to, .i tc, .i dc, .t sy, .x _ m _ _, .i ix, .x _ y _ _]] => [.v (sI .i64 (ldE kd am fe tk hm to tc dc sy m ix y))]
  | _ => []
noncomputable def cLd : SSpec := specQ false shLd nfLd ldC ldS
theorem card_lck {gl : Globs} : FnOKs Try.prog gl 18 cLd := by
  refine FnOKs.up0 (FnOKs_Q (cx := cxLck) (okx_cons card_lwin (okx_cons card_Cmp (okx_cons card_con (okx_mark (okx_mark (okx_mark (okx_mark (okx_mark okx_nil)))))))) (sl := slLck) (oks_cons card_alk oks_nil) Try.func18 (by kernel_rfl) (by kernel_rfl) fun ls hc => ?_) gl
  unfold ldC at hc
  split at hc
  · rename_i kd am fe tk hm to tc dc sy a m cap f ix b y cy h
    obtain ⟨p, _⟩ := hc
    have := ok_lck kd am fe tk hm to tc dc sy a m cap (kOf f) ix b y cy (kOf h) p.qa p.qb p.qy
    unfold ksLoad at this
    rw [← p.qf, ← p.qh] at this
    refine ⟨_, _, fun r hr => ?_, this⟩
    rw [List.mem_singleton.1 hr]; exact trivial
  · exact hc.1.elim
end Go.Proofs.Ytajfifmlkgojnaa
end

section
namespace Go.Proofs.Ytajfifmlkgojnaa
open Go.Sx
set_option maxRecDepth 100000
end Go.Proofs.Ytajfifmlkgojnaa
end

section
namespace Go.Proofs.Ytajfifmlkgojnaa
open Go.Sx
theorem pcx_none : CxOK Try.prog Cx.none := ⟨fun _ h => (by cases h), fun _ h => (by cases h)⟩
theorem pgl_cons {gl : Globs} {f : Nat} {s : FSpec} {l : List (Nat × FSpec)} (h : FnOKg Try.prog gl f s) (hs : CxOK Try.prog ⟨l, gl, 0, []⟩) : CxOK Try.prog ⟨(f, s) :: l, gl, 0, []⟩ := by
  refine ⟨fun p hp => ?_, hs.2⟩
  rcases List.mem_cons.1 hp with rfl | hp
  · exact h
  · exact hs.1 p hp
end Go.Proofs.Ytajfifmlkgojnaa
end

section
namespace Go.Proofs.Ytajfifmlkgojnaa
open Go.Sx
set_option maxRecDepth 100000
end Go.Proofs.Ytajfifmlkgojnaa
end

section
namespace Go.Proofs.Ytajfifmlkgojnaa
open Go.Sx
end Go.Proofs.Ytajfifmlkgojnaa
end

section
namespace Go.Proofs.Ytajfifmlkgojnaa
open Go.Sx
set_option maxRecDepth 100000
def bigAt (size : Nat) (v : Int) (q : Nat) : Int := v / 256 ^ (size - 1 - q) % 256
structure rowP (g : Nat → Nat → SC) (n m : Nat) : Prop where
  u8 : g = u8R (hOf g)
  le : n + m ≤ 140737488355328
def putC : List (List FD) → Nat → (Nat → Nat → SC) → List Prop
  | [[.i _], [.i z]], n, g => [rowP g n 8, 1 ≤ z ∧ z ≤ 8]
  | _, _, _ => [False]
def putM : List (List FD) → Nat → Nat
  | [[.i _], [.i z]], n => n + z.toNat
  | _, n => n
def putG : List (List FD) → Nat → (Nat → Nat → SC) → Nat → Nat → SC
  | [[.i v], [.i z]], n, g => u8R (catB n (hOf g) (bigAt z.toNat v))
  | _, _, g => g
def shPut : List AQ := [.one (.i .i64), .one (.i .i64)]
def tPut : TSpec := specT 5 1 shPut id putC putM putG fun _ => []
def cxAp : Cx := ⟨[(1000000007, fun _ => none)], [], 0, []⟩
def invPut (v : Int) (n z : Nat) (h : Nat → Int) : Inv where
  X := Nat × Nat
  tm x := slotsAt 23 [(0, .one (.sc (.slw 2 1 0 (n + x.1) (n + x.1 + x.2)))), (1, .one (sI .i64 v)), (7, .one (sI .i64 ((z : Int) - 1 - (x.1 : Int))))]
  ob x := [.dead, .dead, .row 5 1 (n + x.1) (u8R (catB n h (bigAt z v))) (x.2 * 1)]
  holds x := (1 ≤ x.1 ∧ x.1 ≤ z) ∧ n + x.1 + x.2 ≤ maxLen
  less x := z - x.1
def invPut0 (v : Int) (z : Nat) : Inv where
  X := Nat × Nat
  tm x := slotsAt 23 [(0, .one (.sc (.slw 1 1 0 x.1 (x.1 + x.2)))), (1, .one (sI .i64 v)), (7, .one (sI .i64 ((z : Int) - 1 - (x.1 : Int))))]
  ob x := [.dead, .row 5 1 x.1 (u8R (bigAt z v)) (x.2 * 1)]
  holds x := (1 ≤ x.1 ∧ x.1 ≤ z) ∧ x.1 + x.2 ≤ maxLen
  less x := z - x.1
theorem vc_put (v : Int) (z n cap sp m : Nat) (h k : Nat → Int) :
    OwesT Try.prog cxAp [] [] [(2, .inv1 (invPut v n z h))] 20 Try.f42 [sI .i64 v, sI .i64 (z : Int)] tPut n cap sp (u8R h) m (u8R k) [] =
    (let x1 : Int := (↑z : Int) - (1 : Int); let x2 : Int := Go.IntKind.i64.wrap x1; let x3 : Int := Go.IntKind.i64.wrap ((8 : Int) * x2); let x4 : Nat := n + 1; let x5 : Int := v.fdiv ((2 : Int) ^ Min.min x3.toNat 64); let x6 : Int := Go.IntKind.u8.wrap x5; (∀ (y : Nat × Nat), closedB (slotsAt 23 [(0, SV.one (SA.sc (SC.slw 2 1 0 (n + y.fst) (n + y.fst + y.snd)))), (1, SV.one (sI Go.IntKind.i64 v)), (7, SV.one (sI Go.IntKind.i64 (x1 - (↑y.fst : Int))))]) [SO.dead, SO.dead, SO.row (5 : Go.TypeId) 1 (n + y.fst) (u8R (catB n h (bigAt z v))) (y.snd * 1)] = Bool.true) ∧ (∀ (y : Nat × Nat), (1 ≤ y.fst ∧ y.fst ≤ z) ∧ n + y.fst + y.snd ≤ Go.maxLen → (Decidable.decide (x1 - (↑y.fst : Int) ≥ (0 : Int)) = Bool.true → (0 : Int) ≤ Go.IntKind.i64.wrap ((8 : Int) * (x1 - (↑y.fst : Int))) ∧ 0 = 0 ∧ n + y.fst = n + y.fst ∧ (n + y.fst ≤ n + y.fst + y.snd ∧ n + y.fst + y.snd ≤ Go.maxLen ∧ (n + y.fst + y.snd) * 1 = (n + y.fst) * 1 + y.snd * 1) ∧ (n + y.fst + 1 ≤ Go.maxLen ∧ (n + y.fst + 1) * 1 ≤ 140737488355328) ∧ ∀ (c : Nat), n + y.fst + 1 + c ≤ Go.maxLen → ∃ (y' : Nat × Nat), ((1 ≤ y'.fst ∧ y'.fst ≤ z) ∧ n + y'.fst + y'.snd ≤ Go.maxLen) ∧ (2 = 2 ∧ 1 = 1 ∧ 0 = 0 ∧ n + y.fst + 1 = n + y'.fst ∧ n + y.fst + 1 + c = n + y'.fst + y'.snd) ∧ v = v ∧ Go.IntKind.i64.wrap (x1 - (↑y.fst : Int) - (1 : Int)) = x1 - (↑y'.fst : Int) ∧ n + y.fst + 1 = n + y'.fst ∧ c * 1 = y'.snd * 1 ∧ (∀ (i : Nat), i < n + y.fst + 1 → (bif Decidable.decide (i < n + y.fst) then catB n h (bigAt z v) i else Go.IntKind.u8.wrap (v.fdiv ((2 : Int) ^ Min.min (Go.IntKind.i64.wrap ((8 : Int) * (x1 - (↑y.fst : Int)))).toNat 64))) = catB n h (bigAt z v) i) ∧ ((invPut v n z h).less y').succ.le ((invPut v n z h).less y)) ∧ (Decidable.decide (x1 - (↑y.fst : Int) ≥ (0 : Int)) = Bool.false → 0 = 0 ∧ n + y.fst = m ∧ n + y.fst = m ∧ capOK 1 (n + y.fst) (n + y.fst + y.snd) (y.snd * 1) ∧ (∀ (i : Nat), i < m → catB n h (bigAt z v) i = k i) ∧ True)) ∧ (Decidable.decide (x2 ≥ (0 : Int)) = Bool.true → (0 : Int) ≤ x3 ∧ 0 = 0 ∧ n = n ∧ (n ≤ cap ∧ cap ≤ Go.maxLen ∧ cap * 1 = n * 1 + sp) ∧ (x4 ≤ Go.maxLen ∧ x4 * 1 ≤ 140737488355328) ∧ ∀ (c : Nat), x4 + c ≤ Go.maxLen → ∃ (y' : Nat × Nat), ((1 ≤ y'.fst ∧ y'.fst ≤ z) ∧ n + y'.fst + y'.snd ≤ Go.maxLen) ∧ (2 = 2 ∧ 1 = 1 ∧ 0 = 0 ∧ x4 = n + y'.fst ∧ x4 + c = n + y'.fst + y'.snd) ∧ v = v ∧ Go.IntKind.i64.wrap (x2 - (1 : Int)) = x1 - (↑y'.fst : Int) ∧ x4 = n + y'.fst ∧ c * 1 = y'.snd * 1 ∧ (∀ (i : Nat), i < x4 → (bif Decidable.decide (i < n) then h i else x6) = catB n h (bigAt z v) i) ∧ True) ∧ (Decidable.decide (x2 ≥ (0 : Int)) = Bool.false → 0 = 0 ∧ n = m ∧ n = m ∧ capOK 1 n cap sp ∧ (∀ (i : Nat), i < m → h i = k i) ∧ True)) := by kernel_rfl
theorem vc_put0 (v : Int) (z m : Nat) (k : Nat → Int) :
    OwesT0 Try.prog cxAp [] [] [(2, .inv1 (invPut0 v z))] 20 Try.f42 [sI .i64 v, sI .i64 (z : Int)] tPut m (u8R k) [] =
    (let x1 : Int := (↑z : Int) - (1 : Int); let x2 : Int := Go.IntKind.i64.wrap x1; let x3 : Int := Go.IntKind.i64.wrap ((8 : Int) * x2); let x4 : Int := v.fdiv ((2 : Int) ^ Min.min x3.toNat 64); let x5 : Int := Go.IntKind.u8.wrap x4; (∀ (y : Nat × Nat), closedB (slotsAt 23 [(0, SV.one (SA.sc (SC.slw 1 1 0 y.fst (y.fst + y.snd)))), (1, SV.one (sI Go.IntKind.i64 v)), (7, SV.one (sI Go.IntKind.i64 (x1 - (↑y.fst : Int))))]) [SO.dead, SO.row (5 : Go.TypeId) 1 y.fst (u8R (bigAt z v)) (y.snd * 1)] = Bool.true) ∧ (∀ (y : Nat × Nat), (1 ≤ y.fst ∧ y.fst ≤ z) ∧ y.fst + y.snd ≤ Go.maxLen → (Decidable.decide (x1 - (↑y.fst : Int) ≥ (0 : Int)) = Bool.true → (0 : Int) ≤ Go.IntKind.i64.wrap ((8 : Int) * (x1 - (↑y.fst : Int))) ∧ 0 = 0 ∧ y.fst = y.fst ∧ (y.fst ≤ y.fst + y.snd ∧ y.fst + y.snd ≤ Go.maxLen ∧ (y.fst + y.snd) * 1 = y.fst * 1 + y.snd * 1) ∧ (y.fst + 1 ≤ Go.maxLen ∧ (y.fst + 1) * 1 ≤ 140737488355328) ∧ ∀ (c : Nat), y.fst + 1 + c ≤ Go.maxLen → ∃ (y' : Nat × Nat), ((1 ≤ y'.fst ∧ y'.fst ≤ z) ∧ y'.fst + y'.snd ≤ Go.maxLen) ∧ (1 = 1 ∧ 1 = 1 ∧ 0 = 0 ∧ y.fst + 1 = y'.fst ∧ y.fst + 1 + c = y'.fst + y'.snd) ∧ v = v ∧ Go.IntKind.i64.wrap (x1 - (↑y.fst : Int) - (1 : Int)) = x1 - (↑y'.fst : Int) ∧ y.fst + 1 = y'.fst ∧ c * 1 = y'.snd * 1 ∧ (∀ (i : Nat), i < y.fst + 1 → (bif Decidable.decide (i < y.fst) then bigAt z v i else Go.IntKind.u8.wrap (v.fdiv ((2 : Int) ^ Min.min (Go.IntKind.i64.wrap ((8 : Int) * (x1 - (↑y.fst : Int)))).toNat 64))) = bigAt z v i) ∧ ((invPut0 v z).less y').succ.le ((invPut0 v z).less y)) ∧ (Decidable.decide (x1 - (↑y.fst : Int) ≥ (0 : Int)) = Bool.false → 0 = 0 ∧ y.fst = m ∧ y.fst = m ∧ capOK 1 y.fst (y.fst + y.snd) (y.snd * 1) ∧ (∀ (i : Nat), i < m → bigAt z v i = k i) ∧ True)) ∧ (Decidable.decide (x2 ≥ (0 : Int)) = Bool.true → (0 : Int) ≤ x3 ∧ (1 ≤ Go.maxLen ∧ 1 ≤ 140737488355328) ∧ ∀ (c : Nat), 1 + c ≤ Go.maxLen → ∃ (y' : Nat × Nat), ((1 ≤ y'.fst ∧ y'.fst ≤ z) ∧ y'.fst + y'.snd ≤ Go.maxLen) ∧ (1 = 1 ∧ 1 = 1 ∧ 0 = 0 ∧ 1 = y'.fst ∧ 1 + c = y'.fst + y'.snd) ∧ v = v ∧ Go.IntKind.i64.wrap (x2 - (1 : Int)) = x1 - (↑y'.fst : Int) ∧ 1 = y'.fst ∧ c * 1 = y'.snd * 1 ∧ (∀ (i : Nat), i < 1 → x5 = bigAt z v i) ∧ True) ∧ (Decidable.decide (x2 ≥ (0 : Int)) = Bool.false → StuckAt "result")) := by kernel_rfl
end Go.Proofs.Ytajfifmlkgojnaa
end

section
namespace Go.Proofs.Ytajfifmlkgojnaa
open Go.Sx
theorem byte_at {v : Int} {z j : Nat} {s : Int} (hj : j < z) (hz : z ≤ 8) (hs : s = (z : Int) - 1 - (j : Int)) : IntKind.u8.wrap (v.fdiv ((2 : Int) ^ min (IntKind.i64.wrap (8 * s)).toNat 64)) = bigAt z v j := by
  have e1 : IntKind.i64.wrap (8 * s) = ((8 * (z - 1 - j) : Nat) : Int) := by rw [IntKind.wrap_i64]; omega
  have e2 : min (8 * (z - 1 - j)) 64 = 8 * (z - 1 - j) := by omega
  have e3 : (2 : Int) ^ (8 * (z - 1 - j)) = 256 ^ (z - 1 - j) := by rw [Int.pow_mul]; rfl
  rw [e1, Int.toNat_natCast, e2, e3, Int.fdiv_eq_ediv_of_nonneg _ (Int.pow_nonneg (by decide)), IntKind.wrap_u8]
  rfl
theorem max_len : maxLen = 9223372036854775807 := by decide
theorem ok_put {v : Int} {z n cap sp : Nat} {h : Nat → Int} (hz : 1 ≤ z ∧ z ≤ 8) (hn : n + 8 ≤ 140737488355328) (hc : capOK 1 n cap sp) :
    OwesT Try.prog cxAp [] [] [(2, .inv1 (invPut v n z h))] 20 Try.f42 [sI .i64 v, sI .i64 (z : Int)] tPut n cap sp (u8R h) (n + z) (u8R (catB n h (bigAt z v))) [] := by
  rw [vc_put]
  simp only [eq_self, implies_true, and_self, true_and, and_true, Nat.mul_one]
  obtain ⟨c1, c2, c3⟩ := hc
  have hm := max_len
  have w1 : IntKind.i64.wrap ((z : Int) - 1) = (z : Int) - 1 := by rw [IntKind.wrap_i64]; omega
  have hy2 : ∀ {y : Nat × Nat}, decide ((z : Int) - 1 - (y.1 : Int) ≥ 0) = true → y.1 < z := fun h => by have := of_decide_eq_true h; omega
  refine ⟨fun _ => rfl, fun y hy => ⟨fun h1 => ?_, fun h1 => ?_⟩, fun _ => ?_, fun h1 => ?_⟩
  · have hlt := hy2 h1
    refine ⟨by rw [IntKind.wrap_i64]; omega, by omega, by omega, fun c hcl => ⟨(y.1 + 1, c), by dsimp only; omega, by dsimp only; omega, by dsimp only; rw [IntKind.wrap_i64]; omega, by dsimp only; omega, rfl, fun i hi => ?_, ?_⟩⟩
    · rw [byte_at hlt hz.2 rfl]
      unfold catB
      by_cases e : i < n + y.1
      · simp [e]
      · have : i - n = y.1 := by omega
        simp [e, show ¬ i < n by omega, this]
    · show z - (y.1 + 1) < z - y.1
      omega
  · have h1 := of_decide_eq_false h1
    have e : y.1 = z := by omega
    rw [e]
    exact ⟨rfl, rfl, by omega, by omega, by omega⟩
  · refine ⟨by rw [w1, IntKind.wrap_i64]; omega, ⟨c1, c2, by omega⟩, by omega, fun c hcl => ⟨(1, c), by dsimp only; omega, by dsimp only; omega, by dsimp only; rw [w1, IntKind.wrap_i64]; omega, rfl, rfl, fun i hi => ?_⟩⟩
    rw [byte_at (j := 0) hz.1 hz.2 (by rw [w1]; omega)]
    unfold catB
    by_cases e : i < n
    · simp [e]
    · have : i - n = 0 := by omega
      simp [e, this]
  · rw [w1] at h1
    have h1 := of_decide_eq_false h1
    omega
theorem ok_put0 {v : Int} {z : Nat} (hz : 1 ≤ z ∧ z ≤ 8) :
    OwesT0 Try.prog cxAp [] [] [(2, .inv1 (invPut0 v z))] 20 Try.f42 [sI .i64 v, sI .i64 (z : Int)] tPut z (u8R (bigAt z v)) [] := by
  rw [vc_put0]
  simp only [eq_self, implies_true, and_self, true_and, and_true, Nat.mul_one]
  have hm := max_len
  have w1 : IntKind.i64.wrap ((z : Int) - 1) = (z : Int) - 1 := by rw [IntKind.wrap_i64]; omega
  have hy2 : ∀ {y : Nat × Nat}, decide ((z : Int) - 1 - (y.1 : Int) ≥ 0) = true → y.1 < z := fun h => by have := of_decide_eq_true h; omega
  refine ⟨fun _ => rfl, fun y hy => ⟨fun h1 => ?_, fun h1 => ?_⟩, fun _ => ?_, fun h1 => ?_⟩
  · have hlt := hy2 h1
    refine ⟨by rw [IntKind.wrap_i64]; omega, by omega, by omega, fun c hcl => ⟨(y.1 + 1, c), by dsimp only; omega, by dsimp only; omega, by dsimp only; rw [IntKind.wrap_i64]; omega, rfl, rfl, fun i hi => ?_, ?_⟩⟩
    · rw [byte_at hlt hz.2 rfl]
      by_cases e : i < y.1
      · simp [e]
      · have : i = y.1 := by omega
        simp [this]
    · show z - (y.1 + 1) < z - y.1
      omega
  · have h1 := of_decide_eq_false h1
    have e : y.1 = z := by omega
    rw [e]
    exact ⟨rfl, rfl, by omega, by omega, by omega⟩
  · refine ⟨by rw [w1, IntKind.wrap_i64]; omega, by omega, fun c hcl => ⟨(1, c), by dsimp only; omega, by dsimp only; omega, by dsimp only; rw [w1, IntKind.wrap_i64]; omega, rfl, rfl, fun i hi => ?_⟩⟩
    have : i = 0 := by omega
    rw [byte_at (j := 0) hz.1 hz.2 (by rw [w1]; omega), this]
  · rw [w1] at h1
    have h1 := of_decide_eq_false h1
    omega
theorem catB_zero (h k : Nat → Int) : catB 0 h k = k := by
  funext i; unfold catB; simp
theorem tl_nil {gl : Globs} : ∀ p ∈ ([] : List (Nat × TSpec)), FnOKt Try.prog gl p.1 p.2 := fun _ h => (by cases h)
theorem sl_nil {gl : Globs} : ∀ p ∈ ([] : List (Nat × SSpec)), FnOKs Try.prog gl p.1 p.2 := fun _ h => (by cases h)
theorem cxok_Ap : CxOK Try.prog cxAp := ⟨fun p hp => by rw [List.mem_singleton.1 hp]; exact fun _ _ _ h => (by cases h), fun _ h => (by cases h)⟩
theorem card_put {gl : Globs} : FnOKt Try.prog gl 42 tPut := by
  refine FnOKt.up0 (FnOKt_Q (cx := cxAp) cxok_Ap (sl := []) sl_nil (tl := []) tl_nil Try.func42 (by kernel_rfl) (by kernel_rfl) fun ls n g hc => ?_) gl
  unfold putC at hc
  split at hc
  · rename_i _ v z
    obtain ⟨hr, hz, _⟩ := hc
    obtain ⟨m, rfl⟩ : ∃ m : Nat, z = m := ⟨z.toNat, by omega⟩
    have hz : 1 ≤ m ∧ m ≤ 8 := by omega
    refine ⟨fun _ h => (by cases h), closed_u8R _ _, fun h0 => ?_, fun cap sp hcap => ?_⟩
    · have := ok_put0 (v := v) hz
      refine ⟨[(2, .inv1 (invPut0 v m))], 20, ?_⟩
      show OwesT0 _ _ _ _ _ _ _ _ _ (0 + ((m : Nat) : Int).toNat) (u8R (catB 0 _ _)) _
      rw [catB_zero, Int.toNat_natCast, Nat.zero_add]
      exact this
    · have := ok_put (v := v) hz hr.le hcap (h := hOf g)
      rw [← hr.u8] at this
      exact ⟨_, _, this⟩
  · exact hc.1.elim
end Go.Proofs.Ytajfifmlkgojnaa
end

section
namespace Go.Proofs.Ytajfifmlkgojnaa
open Go.Sx
set_option maxRecDepth 100000
def shPw : List AQ := [.st [.u]]
def pwC : List (List FD) → Nat → (Nat → Nat → SC) → List Prop
  | [[.u _]], n, g => [rowP g n 32]
  | _, _, _ => [False]
def pwM : List (List FD) → Nat → Nat
  | [[.u _]], n => n + 32
  | _, n => n
def pwG : List (List FD) → Nat → (Nat → Nat → SC) → Nat → Nat → SC
  | [[.u a]], n, g => u8R (catB n (hOf g) (fun j => by8 a (31 - j)))
  | _, _, g => g
def tPw : TSpec := specT 5 1 shPw id pwC pwM pwG fun _ => []
def cxPw : Cx := ⟨[(57, specU bytesG), (1000000007, fun _ => none)], [], 0, []⟩
def tlPs : List (Nat × TSpec) := [(42, tPut), (51, tPw)]
theorem vc_pw (a n cap sp m : Nat) (h k : Nat → Int) :
    OwesT Try.prog cxPw [] [] [] 20 Try.f51 [sU a] tPw n cap sp (u8R h) m (u8R k) [] =
    (let x1 : Nat := n + 32; 0 = 0 ∧ n = n ∧ (n ≤ cap ∧ cap ≤ Go.maxLen ∧ cap * 1 = n * 1 + sp) ∧ (x1 ≤ Go.maxLen ∧ x1 * 1 ≤ 140737488355328) ∧ ∀ (c : Nat), x1 + c ≤ Go.maxLen → 0 = 0 ∧ x1 = m ∧ x1 = m ∧ capOK 1 x1 (x1 + c) (c * 1) ∧ (∀ (i : Nat), i < m → (bif Decidable.decide (i < n) then h i else by8 a (31 - (i - n))) = k i) ∧ True) := by kernel_rfl
theorem vc_pw0 (a m : Nat) (k : Nat → Int) :
    OwesT0 Try.prog cxPw [] [] [] 20 Try.f51 [sU a] tPw m (u8R k) [] =
    ((32 ≤ Go.maxLen ∧ 32 ≤ 140737488355328) ∧ ∀ (c : Nat), 32 + c ≤ Go.maxLen → 0 = 0 ∧ 32 = m ∧ 32 = m ∧ capOK 1 32 (32 + c) (c * 1) ∧ (∀ (i : Nat), i < m → by8 a (31 - i) = k i) ∧ True) := by kernel_rfl
end Go.Proofs.Ytajfifmlkgojnaa
end

section
namespace Go.Proofs.Ytajfifmlkgojnaa
open Go.Sx
theorem putM_4 (v : Int) (n : Nat) : putM [[.i v], [.i 4]] n = n + 4 := rfl
theorem putM_2 (v : Int) (n : Nat) : putM [[.i v], [.i 2]] n = n + 2 := rfl
theorem putM_1 (v : Int) (n : Nat) : putM [[.i v], [.i 1]] n = n + 1 := rfl
theorem pwM_e (a n : Nat) : pwM [[.u a]] n = n + 32 := rfl
theorem bif_if {b : Prop} [Decidable b] {x y : Int} : (bif decide b then x else y) = if b then x else y := by
  by_cases h : b <;> simp [h]
theorem cap_mk {n c : Nat} (h : n + c ≤ maxLen) : capOK 1 n (n + c) c := ⟨by omega, h, by omega⟩
theorem ok_pw {a n cap sp : Nat} {h : Nat → Int} (hn : n + 32 ≤ 140737488355328) (hc : capOK 1 n cap sp) :
    OwesT Try.prog cxPw [] [] [] 20 Try.f51 [sU a] tPw n cap sp (u8R h) (n + 32) (u8R (catB n h (fun j => by8 a (31 - j)))) [] := by
  rw [vc_pw]
  simp only [eq_self, implies_true, and_self, true_and, and_true, Nat.mul_one]
  have hm := max_len
  obtain ⟨c1, c2, c3⟩ := hc
  exact ⟨⟨c1, c2, by omega⟩, by omega, fun c hcl => ⟨cap_mk hcl, fun i hi => bif_if⟩⟩
theorem ok_pw0 {a : Nat} : OwesT0 Try.prog cxPw [] [] [] 20 Try.f51 [sU a] tPw 32 (u8R (fun j => by8 a (31 - j))) [] := by
  rw [vc_pw0]
  simp only [eq_self, implies_true, and_self, true_and, and_true, Nat.mul_one]
  have hm := max_len
  exact ⟨by omega, fun c hcl => cap_mk hcl⟩
theorem cxok_Pw : CxOK Try.prog cxPw := pgl_cons card_Bytes ⟨fun p hp => by rw [List.mem_singleton.1 hp]; exact fun _ _ _ h => (by cases h), fun _ h => (by cases h)⟩
theorem card_pw {gl : Globs} : FnOKt Try.prog gl 51 tPw := by
  refine FnOKt.up0 (FnOKt_Q (cx := cxPw) cxok_Pw (sl := []) sl_nil (tl := []) tl_nil Try.func51 (by kernel_rfl) (by kernel_rfl) fun ls n g hc => ?_) gl
  unfold pwC at hc
  split at hc
  · rename_i _ a
    obtain ⟨hr, _⟩ := hc
    refine ⟨fun _ h => (by cases h), closed_u8R _ _, fun h0 => ⟨[], 20, ?_⟩, fun cap sp hcap => ⟨[], 20, ?_⟩⟩
    · show OwesT0 _ _ _ _ _ _ _ _ _ (0 + 32) (u8R (catB 0 _ _)) _
      rw [catB_zero]
      exact ok_pw0
    · have := ok_pw (a := a) hr.le hcap (h := hOf g)
      rw [← hr.u8] at this
      exact this
  · exact hc.1.elim
theorem bigAt_one (v : Int) (i : Nat) (h : i = 0) : bigAt 1 v i = v % 256 := by
  subst h; unfold bigAt; simp
theorem tl_cons {gl : Globs} {f : Nat} {s : TSpec} {l : List (Nat × TSpec)} (h : FnOKt Try.prog gl f s) (hl : ∀ p ∈ l, FnOKt Try.prog gl p.1 p.2) : ∀ p ∈ (f, s) :: l, FnOKt Try.prog gl p.1 p.2 := fun p hp => by
  rcases List.mem_cons.1 hp with rfl | hp
  · exact h
  · exact hl p hp
end Go.Proofs.Ytajfifmlkgojnaa
end
