/-
  Texts: V110, V18, P49, V111, Okx, P160, P161, P162, P163, P164, V90, P140, V92, P141, V94, P142, V95, P143.
-/
import Derived.Test.YtpebkgbelifdgaaM1
import Derived.Test.YtpebkgbelifdgaaM2
import Derived.Test.YtpebkgbelifdgaaM3
import Derived.Test.YtpebkgbelifdgaaM4
import Derived.Test.YtpebkgbelifdgaaM5
import Derived.Test.YtpebkgbelifdgaaM6
import Derived.Test.YtpebkgbelifdgaaM7
import Derived.Test.YtpebkgbelifdgaaM8
import Derived.Test.YtpebkgbelifdgaaM9
import Derived.Test.YtpebkgbelifdgaaChecked
section
namespace Go.Proofs.Ytpebkgbelifdgaa
open Go.Sx
set_option maxRecDepth 100000
abbrev ksLoad (kd : Int) (am fe : Nat) (tk : Nat → Int) (hm : Int) (to : Nat → Int) (tc dc : Int) (sy : ByteArray) (a : Option Addr) (m cap : Nat) (dk : Nat → Nat → Int) (ix : Int) (b : Option Addr) (y cy : Nat) (kk : Nat → Nat → Int) : List SK := [.c (.val (.int .i64 kd)), .u am, .u fe, .f .u8 32 tk, .c (.val (.int .i64 hm)), .f .u8 32 to, .c (.val (.int .i64 tc)), .c (.val (.int .i64 dc)), .c (.val (.string sy)), .c (.xs a m cap 1 (u8F dk)), .c (.val (.int .i64 ix)), .c (.xs b y cy 20 (u8F kk))]
def strL (m : Nat) (k : Nat → Nat → Int) : ByteArray := bytesI ((List.range m).map fun i => k i 0)
def sh2B : List AQ := [.one (.x 1), .one (.x 1)]
def nf2B : List (List FD) → List (List FD)
  | [[.x a n c f], [.x a' n' c' f']] => [[.x a n c (u8F (kOf f))], [.x a' n' c' (u8F (kOf f'))]]
  | ls => ls
def nf2C : List (List FD) → List Prop
  | [[.x _ _ _ f], [.x _ _ _ f']] => [f = u8F (kOf f), f' = u8F (kOf f')]
  | _ => [False]
def beqS : List (List FD) → List RS
  | [[.x _ n _ f], [.x _ n' _ f']] => [.v (sB ((strL n (kOf f)).toList == (strL n' (kOf f')).toList))]
  | _ => []
def cBeq : SSpec := specQ false sh2B nf2B nf2C beqS
def inL (n m : Int) : SV := .one (sB (decide (0 ≤ n) && decide (n ≤ m)))
def cxL0 : Cx := ⟨[(110, specIxb)], [], 0, []⟩
def specCon (g : ByteArray → SV) : FSpec := fun args =>
  match args with
  | [.sc (.val (.string s)), .sc (.val (.string z))] => some ([z = ByteArray.mk #[0]], g s)
  | _ => none
def conG (s : ByteArray) : SV := .one (sB (hasNul s))
theorem vc_beq (a a' : Option Addr) (n cap n' cap' : Nat) (k k' : Nat → Nat → Int) (r : Bool) :
    OwesR Try.prog Cx.none [] [] 10 Try.f58 [.sc (.xs a n cap 1 (u8F k)), .sc (.xs a' n' cap' 1 (u8F k'))] false [.v (sB r)] =
    ((∀ (_ : Nat), True) ∧ (∀ (_ : Nat), True) ∧ ((bytesI (List.map (fun (j : Nat) => k j 0) (List.range n))).toList == (bytesI (List.map (fun (j : Nat) => k' j 0) (List.range n'))).toList) = r) := by kernel_rfl
theorem vc_lwin (n m : Int) (b : Bool) :
    Owes Try.prog Cx.none [] 10 Try.f84 [sI .i64 n, sI .i64 m] (.one (sB b)) =
    (let x1 : Bool := Decidable.decide (n ≥ (0 : Int)); (x1 = Bool.true → x1 = Bool.true) ∧ (x1 = Bool.true → x1 = Bool.true) ∧ (x1 = Bool.true → x1 = Bool.true) ∧ (x1 && Decidable.decide (n ≤ m)) = b) := by kernel_rfl
theorem vc_con (s : ByteArray) (b : Bool) :
    Owes Try.prog cxL0 [] 10 Try.f92 [.sc (.val (.string s)), .sc (.val (.string (ByteArray.mk #[0])))] (.one (sB b)) =
    (let x1 : Bool := (1 : Int) == (0 : Int); ((!x1) = Bool.true → (!x1) = Bool.true) ∧ ((!x1) = Bool.true → (!x1) = Bool.true) ∧ (x1 = Bool.false → (!x1) = Bool.true) ∧ ((x1 || (ByteArray.mk #[(0 : UInt8)]).toList == s.toList) = Bool.true → Decidable.decide ((0 : Int) ≥ (0 : Int)) = b) ∧ ((x1 || (ByteArray.mk #[(0 : UInt8)]).toList == s.toList) = Bool.false → (((1 : Int) == (1 : Int)) = Bool.true → ((0 : Int) ≤ (0 : Int) ∧ 0 < 1) ∧ Decidable.decide (ixb s (0 : Int) ≥ (0 : Int)) = b) ∧ (((1 : Int) == (1 : Int)) = Bool.false → (Decidable.decide ((1 : Int) ≥ (↑s.size : Int)) = Bool.true → Decidable.decide ((-1 : Int) ≥ (0 : Int)) = b) ∧ (Decidable.decide ((1 : Int) ≥ (↑s.size : Int)) = Bool.false → Stuck { dst := Option.some 38, op := Go.Op.load 3 (Go.Operand.global 0), type := 3, pos := "strings.go:37", after := #[], guard := Option.none })))) := by kernel_rfl
end Go.Proofs.Ytpebkgbelifdgaa
end

section
namespace Go.Proofs.Ytpebkgbelifdgaa
open Go.Sx
set_option maxRecDepth 100000
end Go.Proofs.Ytpebkgbelifdgaa
end

section
namespace Go.Proofs.Ytpebkgbelifdgaa
open Go.Sx
theorem limb_nat (a i : Nat) : ∃ c : Nat, limb a i = (c : Int) ∧ c < 18446744073709551616 := by
  refine ⟨(limb a i).toNat, (Int.toNat_of_nonneg (limb_nonneg a i)).symm, ?_⟩
  have := limb_lt a i
  have := limb_nonneg a i
  omega
theorem horner_nat (a c0 c1 c2 c3 : Nat) (h0 : limb a 0 = (c0 : Int)) (h1 : limb a 1 = (c1 : Int)) (h2 : limb a 2 = (c2 : Int)) (h3 : limb a 3 = (c3 : Int)) :
    a % M256 = ((c3 * 18446744073709551616 + c2) * 18446744073709551616 + c1) * 18446744073709551616 + c0 := by
  rw [← join_limbs, h0, h1, h2, h3]
  unfold join
  simp only [Int.toNat_natCast]
  omega
theorem hi_is {z : Int} {c : Nat} (h : z = (c : Int)) (hc : c < 18446744073709551616) : IntKind.u64.wrap (z.tdiv 4294967296) = ((c / 4294967296 : Nat) : Int) := by
  rw [h, Int.tdiv_eq_ediv_of_nonneg (Int.natCast_nonneg _), wrap_id (by omega)]
  omega
theorem lo_is {z : Int} {c : Nat} (h : z = (c : Int)) : z.tmod 4294967296 = ((c % 4294967296 : Nat) : Int) := by
  rw [h, Int.tmod_eq_emod_of_nonneg (Int.natCast_nonneg _)]
  omega
end Go.Proofs.Ytpebkgbelifdgaa
end

section
namespace Go.Proofs.Ytpebkgbelifdgaa
open Go.Sx
set_option maxRecDepth 100000
def eqKs (n : Nat) (k : Nat → Nat → Int) (n' : Nat) (k' : Nat → Nat → Int) : Bool := n == n' && (List.range n).all fun i => (List.range 20).all fun c => k i c == k' i c
def sh2K : List AQ := [.one (.x 20), .one (.x 20)]
def seqS : List (List FD) → List RS
  | [[.x _ n _ f], [.x _ n' _ f']] => [.v (sB (eqKs n (kOf f) n' (kOf f')))]
  | _ => []
def nfKc : List (List FD) → List Prop
  | [[.x _ n _ f], [.x _ n' _ f']] => [f = u8F (kOf f), f' = u8F (kOf f'), (n : Int) ≤ 9223372036854775807, (n' : Int) ≤ 9223372036854775807]
  | _ => [False]
def cSeq : SSpec := specQ false sh2K nf2B nfKc seqS
abbrev sXk (a : Option Addr) (n cap : Nat) (k : Nat → Nat → Int) : SA := .sc (.xs a n cap 20 (u8F k))
def invSeq (a a' : Option Addr) (n cap n' cap' : Nat) (k k' : Nat → Nat → Int) : Inv where
  X := Nat
  tm j := slotsAt 26 [(0, .one (sXk a n cap k)), (1, .one (sXk a' n' cap' k')), (12, .one (sI .i64 (n : Int))), (13, .one (sI .i64 (j : Int)))]
  ob _ := []
  holds j := j ≤ n ∧ ∀ i, i < j → ∀ c, c < 20 → k i c = k' i c
  less j := n - j
def pqLd : List PQ := [.i .i64, .u, .u, .y 32, .i .i64, .y 32, .i .i64, .i .i64, .t, .x 1, .i .i64, .x 20]
def shLd : List AQ := [.st pqLd]
def shLd2 : List AQ := [.st pqLd, .st pqLd]
def nfLd : List (List FD) → List (List FD)
  | [[.i kd, .u am, .u fe, .y tk, .i hm, .y to, .i tc, .i dc, .t sy, .x a m cap f, .i ix, .x b y cy h]] => [[.i kd, .u am, .u fe, .y tk, .i hm, .y to, .i tc, .i dc, .t sy, .x a m cap (u8F (kOf f)), .i ix, .x b y cy (u8F (kOf h))]]
  | ls => ls
def nfLd2 : List (List FD) → List (List FD)
  | [[.i kd, .u am, .u fe, .y tk, .i hm, .y to, .i tc, .i dc, .t sy, .x a m cap f, .i ix, .x b y cy h], [.i kd', .u am', .u fe', .y tk', .i hm', .y to', .i tc', .i dc', .t sy', .x a' m' cap' f', .i ix', .x b' y' cy' h']] => [[.i kd, .u am, .u fe, .y tk, .i hm, .y to, .i tc, .i dc, .t sy, .x a m cap (u8F (kOf f)), .i ix, .x b y cy (u8F (kOf h))], [.i kd', .u am', .u fe', .y tk', .i hm', .y to', .i tc', .i dc', .t sy', .x a' m' cap' (u8F (kOf f')), .i ix', .x b' y' cy' (u8F (kOf h'))]]
  | ls => ls
def alkL (am fe : Nat) (tk : Nat → Int) (hm : Int) (to : Nat → Int) (tc dc : Int) (sy : ByteArray) (m : Nat) (dk : Nat → Nat → Int) (ix : Int) (y : Nat) (kk : Nat → Nat → Int) (am' fe' : Nat) (tk' : Nat → Int) (hm' : Int) (to' : Nat → Int) (tc' dc' : Int) (sy' : ByteArray) (m' : Nat) (dk' : Nat → Nat → Int) (ix' : Int) (y' : Nat) (kk' : Nat → Nat → Int) : Bool :=
  am % M256 == am' % M256 && fe % M256 == fe' % M256 && conj [(List.range 32).all fun j => tk j == tk' j] && hm == hm' && conj [(List.range 32).all fun j => to j == to' j] && tc == tc' && dc == dc' && sy.toList == sy'.toList && (strL m dk).toList == (strL m' dk').toList && ix == ix' && eqKs y kk y' kk'
structure ldP (f : Nat → Nat → SC) (y : Nat) (h : Nat → Nat → SC) : Prop where
  f : f = u8F (kOf f)
  h : h = u8F (kOf h)
  y : (y : Int) ≤ 9223372036854775807
def alkC : List (List FD) → List Prop
  | [[.i _, .u _, .u _, .y _, .i _, .y _, .i _, .i _, .t _, .x _ _ _ f, .i _, .x _ y _ h], [.i _, .u _, .u _, .y _, .i _, .y _, .i _, .i _, .t _, .x _ _ _ f', .i _, .x _ y' _ h']] => [ldP f y h, ldP f' y' h']
  | _ => [False]
def alkS : List (List FD) → List RS
  | [[.i _, .u am, .u fe, .y tk, .i hm, .y to, .i tc, .i dc, .t sy, .x _ m _ f, .i ix, .x _ y _ h], [.i _, .u am', .u fe', .y tk', .i hm', .y to', .i tc', .i dc', .t sy', .x _ m' _ f', .i ix', .x _ y' _ h']] => [.v (sB (alkL am fe tk hm to tc dc sy m (kOf f) ix y (kOf h) am' fe' tk' hm' to' tc' dc' sy' m' (kOf f') ix' y' (kOf h')))]
  | _ => []
def cAlk : SSpec := specQ false shLd2 nfLd2 alkC alkS
def slAlk : List (Nat × SSpec) := [(58, cBeq), (59, cSeq)]
def cxAlk : Cx := ⟨[(1000000008, fun _ => none), (1000000010, fun _ => none), (1000000012, fun _ => none), (1000000013, fun _ => none), (1000000014, fun _ => none)], [], 0, []⟩
def cxLck : Cx := ⟨[(84, specII (fun _ _ => []) inL), (85, specUU cmpG), (92, specCon conG), (1000000007, fun _ => none), (1000000010, fun _ => none), (1000000012, fun _ => none), (1000000013, fun _ => none), (1000000014, fun _ => none)], [], 0, []⟩
def slLck : List (Nat × SSpec) := [(51, cAlk)]
theorem vc_seq (a a' : Option Addr) (n cap n' cap' : Nat) (k k' : Nat → Nat → Int) (r : Bool) :
    OwesR Try.prog Cx.none [] [(4, .inv (invSeq a a' n cap n' cap' k k'))] 10 Try.f59 [sXk a n cap k, sXk a' n' cap' k'] false [.v (sB r)] =
    ((((↑n : Int) != (↑n' : Int)) = Bool.true → Bool.false = r) ∧ (((↑n : Int) != (↑n' : Int)) = Bool.false → (∀ (y : Nat), closedB (slotsAt 26 [(0, SV.one (sXk a n cap k)), (1, SV.one (sXk a' n' cap' k')), (12, SV.one (sI Go.IntKind.i64 (↑n : Int))), (13, SV.one (sI Go.IntKind.i64 (↑y : Int)))]) [] = Bool.true) ∧ ∃ (y : Nat), (y ≤ n ∧ ∀ (i : Nat), i < y → ∀ (c : Nat), c < 20 → k i c = k' i c) ∧ (a = a ∧ n = n ∧ cap = cap ∧ ∀ (i : Nat), i < n → k i 0 = k i 0 ∧ k i 1 = k i 1 ∧ k i 2 = k i 2 ∧ k i 3 = k i 3 ∧ k i 4 = k i 4 ∧ k i 5 = k i 5 ∧ k i 6 = k i 6 ∧ k i 7 = k i 7 ∧ k i 8 = k i 8 ∧ k i 9 = k i 9 ∧ k i 10 = k i 10 ∧ k i 11 = k i 11 ∧ k i 12 = k i 12 ∧ k i 13 = k i 13 ∧ k i 14 = k i 14 ∧ k i 15 = k i 15 ∧ k i 16 = k i 16 ∧ k i 17 = k i 17 ∧ k i 18 = k i 18 ∧ k i 19 = k i 19) ∧ (a' = a' ∧ n' = n' ∧ cap' = cap' ∧ ∀ (i : Nat), i < n' → k' i 0 = k' i 0 ∧ k' i 1 = k' i 1 ∧ k' i 2 = k' i 2 ∧ k' i 3 = k' i 3 ∧ k' i 4 = k' i 4 ∧ k' i 5 = k' i 5 ∧ k' i 6 = k' i 6 ∧ k' i 7 = k' i 7 ∧ k' i 8 = k' i 8 ∧ k' i 9 = k' i 9 ∧ k' i 10 = k' i 10 ∧ k' i 11 = k' i 11 ∧ k' i 12 = k' i 12 ∧ k' i 13 = k' i 13 ∧ k' i 14 = k' i 14 ∧ k' i 15 = k' i 15 ∧ k' i 16 = k' i 16 ∧ k' i 17 = k' i 17 ∧ k' i 18 = k' i 18 ∧ k' i 19 = k' i 19) ∧ (↑n : Int) = (↑n : Int) ∧ (0 : Int) = (↑y : Int) ∧ ∀ (y : Nat), (y ≤ n ∧ ∀ (i : Nat), i < y → ∀ (c : Nat), c < 20 → k i c = k' i c) → (Decidable.decide ((↑y : Int) < (↑n : Int)) = Bool.true → ((0 : Int) ≤ (↑y : Int) ∧ (↑y : Int) < (↑n : Int)) ∧ ((0 : Int) ≤ (↑y : Int) ∧ (↑y : Int) < (↑n' : Int)) ∧ ((!conj [(List.range 20).all fun (j : Nat) => k (↑y : Int).toNat (0 + j) == k' (↑y : Int).toNat (0 + j)]) = Bool.true → Bool.false = r) ∧ ((!conj [(List.range 20).all fun (j : Nat) => k (↑y : Int).toNat (0 + j) == k' (↑y : Int).toNat (0 + j)]) = Bool.false → ∃ (y' : Nat), (y' ≤ n ∧ ∀ (i : Nat), i < y' → ∀ (c : Nat), c < 20 → k i c = k' i c) ∧ (a = a ∧ n = n ∧ cap = cap ∧ ∀ (i : Nat), i < n → k i 0 = k i 0 ∧ k i 1 = k i 1 ∧ k i 2 = k i 2 ∧ k i 3 = k i 3 ∧ k i 4 = k i 4 ∧ k i 5 = k i 5 ∧ k i 6 = k i 6 ∧ k i 7 = k i 7 ∧ k i 8 = k i 8 ∧ k i 9 = k i 9 ∧ k i 10 = k i 10 ∧ k i 11 = k i 11 ∧ k i 12 = k i 12 ∧ k i 13 = k i 13 ∧ k i 14 = k i 14 ∧ k i 15 = k i 15 ∧ k i 16 = k i 16 ∧ k i 17 = k i 17 ∧ k i 18 = k i 18 ∧ k i 19 = k i 19) ∧ (a' = a' ∧ n' = n' ∧ cap' = cap' ∧ ∀ (i : Nat), i < n' → k' i 0 = k' i 0 ∧ k' i 1 = k' i 1 ∧ k' i 2 = k' i 2 ∧ k' i 3 = k' i 3 ∧ k' i 4 = k' i 4 ∧ k' i 5 = k' i 5 ∧ k' i 6 = k' i 6 ∧ k' i 7 = k' i 7 ∧ k' i 8 = k' i 8 ∧ k' i 9 = k' i 9 ∧ k' i 10 = k' i 10 ∧ k' i 11 = k' i 11 ∧ k' i 12 = k' i 12 ∧ k' i 13 = k' i 13 ∧ k' i 14 = k' i 14 ∧ k' i 15 = k' i 15 ∧ k' i 16 = k' i 16 ∧ k' i 17 = k' i 17 ∧ k' i 18 = k' i 18 ∧ k' i 19 = k' i 19) ∧ (↑n : Int) = (↑n : Int) ∧ Go.IntKind.i64.wrap ((↑y : Int) + (1 : Int)) = (↑y' : Int) ∧ ((invSeq a a' n cap n' cap' k k').less y').succ.le ((invSeq a a' n cap n' cap' k k').less y))) ∧ (Decidable.decide ((↑y : Int) < (↑n : Int)) = Bool.false → Bool.true = r))) := by kernel_rfl
theorem vc_alk (kd : Int) (am fe : Nat) (tk : Nat → Int) (hm : Int) (to : Nat → Int) (tc dc : Int) (sy : ByteArray) (a : Option Addr) (m cap : Nat) (dk : Nat → Nat → Int) (ix : Int) (b : Option Addr) (y cy : Nat) (kk : Nat → Nat → Int) (kd' : Int) (am' fe' : Nat) (tk' : Nat → Int) (hm' : Int) (to' : Nat → Int) (tc' dc' : Int) (sy' : ByteArray) (a' : Option Addr) (m' cap' : Nat) (dk' : Nat → Nat → Int) (ix' : Int) (b' : Option Addr) (y' cy' : Nat) (kk' : Nat → Nat → Int) (r : Bool) :
    OwesR Try.prog cxAlk slAlk [] 10 Try.f51 [.agg (ksLoad kd am fe tk hm to tc dc sy a m cap dk ix b y cy kk), .agg (ksLoad kd' am' fe' tk' hm' to' tc' dc' sy' a' m' cap' dk' ix' b' y' cy' kk')] false [.v (sB r)] =
    (let x1 : Bool := conj [limb am 0 == limb am' 0, limb am 1 == limb am' 1, limb am 2 == limb am' 2, limb am 3 == limb am' 3]; let x2 : Bool := x1 && conj [limb fe 0 == limb fe' 0, limb fe 1 == limb fe' 1, limb fe 2 == limb fe' 2, limb fe 3 == limb fe' 3]; let x3 : Bool := x2 && conj [(List.range 32).all fun (j : Nat) => intsC ((flat (toKs (SA.agg (ksLoad kd am fe tk hm to tc dc sy a m cap dk ix b y cy kk)))).getD (9 + (0 + j)) (SC.bit Bool.false)) == intsC ((flat (toKs (SA.agg (ksLoad kd' am' fe' tk' hm' to' tc' dc' sy' a' m' cap' dk' ix' b' y' cy' kk')))).getD (9 + (0 + j)) (SC.bit Bool.false))]; let x4 : Bool := x3 && hm == hm'; let x5 : Bool := x4 && conj [(List.range 32).all fun (j : Nat) => intsC ((flat (toKs (SA.agg (ksLoad kd am fe tk hm to tc dc sy a m cap dk ix b y cy kk)))).getD (42 + (0 + j)) (SC.bit Bool.false)) == intsC ((flat (toKs (SA.agg (ksLoad kd' am' fe' tk' hm' to' tc' dc' sy' a' m' cap' dk' ix' b' y' cy' kk')))).getD (42 + (0 + j)) (SC.bit Bool.false))]; let x6 : Bool := x5 && tc == tc'; let x7 : Bool := x6 && dc == dc'; let x8 : Bool := (strL m (kOf (u8F (kOf (u8F dk))))).toList == (strL m' (kOf (u8F (kOf (u8F dk'))))).toList; ∀ (_ _ : Go.Addr), (x1 = Bool.true → x1 = Bool.true) ∧ (x1 = Bool.true → x1 = Bool.true) ∧ (x1 = Bool.true → x1 = Bool.true) ∧ (x1 = Bool.true → x1 = Bool.true) ∧ (x1 = Bool.true → x1 = Bool.true) ∧ (x2 = Bool.true → x2 = Bool.true) ∧ (x2 = Bool.true → x2 = Bool.true) ∧ (x2 = Bool.true → x2 = Bool.true) ∧ (x2 = Bool.true → x2 = Bool.true) ∧ (x2 = Bool.true → x2 = Bool.true) ∧ (x3 = Bool.true → x3 = Bool.true) ∧ (x3 = Bool.true → x3 = Bool.true) ∧ (x3 = Bool.true → x3 = Bool.true) ∧ (x3 = Bool.true → x3 = Bool.true) ∧ (x3 = Bool.true → x3 = Bool.true) ∧ (x4 = Bool.true → x4 = Bool.true) ∧ (x4 = Bool.true → x4 = Bool.true) ∧ (x4 = Bool.true → x4 = Bool.true) ∧ (x4 = Bool.true → x4 = Bool.true) ∧ (x4 = Bool.true → x4 = Bool.true) ∧ (x5 = Bool.true → x5 = Bool.true) ∧ (x5 = Bool.true → x5 = Bool.true) ∧ (x5 = Bool.true → x5 = Bool.true) ∧ (x5 = Bool.true → x5 = Bool.true) ∧ (x5 = Bool.true → x5 = Bool.true) ∧ (x6 = Bool.true → x6 = Bool.true) ∧ (x6 = Bool.true → x6 = Bool.true) ∧ (x6 = Bool.true → x6 = Bool.true) ∧ (x6 = Bool.true → x6 = Bool.true) ∧ (x6 = Bool.true → x6 = Bool.true) ∧ (x7 = Bool.true → x7 = Bool.true) ∧ (x7 = Bool.true → x7 = Bool.true) ∧ (x7 = Bool.true → x7 = Bool.true) ∧ (x7 = Bool.true → x7 = Bool.true) ∧ (x7 = Bool.true → x7 = Bool.true) ∧ ((x7 && sy.toList == sy'.toList) = Bool.true → (x7 && sy.toList == sy'.toList) = Bool.true) ∧ ((x7 && sy.toList == sy'.toList) = Bool.true → (x7 && sy.toList == sy'.toList) = Bool.true) ∧ ((x7 && sy.toList == sy'.toList) = Bool.true → (x7 && sy.toList == sy'.toList) = Bool.true ∧ (x7 && sy.toList == sy'.toList) = Bool.true ∧ a = a ∧ m = m ∧ cap = cap ∧ (∀ (i : Nat), i < m → dk i 0 = kOf (u8F dk) i 0) ∧ a' = a' ∧ m' = m' ∧ cap' = cap' ∧ (∀ (i : Nat), i < m' → dk' i 0 = kOf (u8F dk') i 0) ∧ u8F (kOf (u8F dk)) = u8F (kOf (u8F (kOf (u8F dk)))) ∧ u8F (kOf (u8F dk')) = u8F (kOf (u8F (kOf (u8F dk')))) ∧ (x8 = Bool.true → x8 = Bool.true) ∧ (x8 = Bool.true → x8 = Bool.true) ∧ (x8 = Bool.true → x8 = Bool.true) ∧ (x8 = Bool.true → x8 = Bool.true) ∧ (x8 = Bool.true → x8 = Bool.true) ∧ ((x8 && ix == ix') = Bool.true → (x8 && ix == ix') = Bool.true) ∧ ((x8 && ix == ix') = Bool.true → (x8 && ix == ix') = Bool.true) ∧ ((x8 && ix == ix') = Bool.true → (x8 && ix == ix') = Bool.true ∧ (x8 && ix == ix') = Bool.true ∧ b = b ∧ y = y ∧ cy = cy ∧ (∀ (i : Nat), i < y → kk i 0 = kOf (u8F kk) i 0 ∧ kk i 1 = kOf (u8F kk) i 1 ∧ kk i 2 = kOf (u8F kk) i 2 ∧ kk i 3 = kOf (u8F kk) i 3 ∧ kk i 4 = kOf (u8F kk) i 4 ∧ kk i 5 = kOf (u8F kk) i 5 ∧ kk i 6 = kOf (u8F kk) i 6 ∧ kk i 7 = kOf (u8F kk) i 7 ∧ kk i 8 = kOf (u8F kk) i 8 ∧ kk i 9 = kOf (u8F kk) i 9 ∧ kk i 10 = kOf (u8F kk) i 10 ∧ kk i 11 = kOf (u8F kk) i 11 ∧ kk i 12 = kOf (u8F kk) i 12 ∧ kk i 13 = kOf (u8F kk) i 13 ∧ kk i 14 = kOf (u8F kk) i 14 ∧ kk i 15 = kOf (u8F kk) i 15 ∧ kk i 16 = kOf (u8F kk) i 16 ∧ kk i 17 = kOf (u8F kk) i 17 ∧ kk i 18 = kOf (u8F kk) i 18 ∧ kk i 19 = kOf (u8F kk) i 19) ∧ b' = b' ∧ y' = y' ∧ cy' = cy' ∧ (∀ (i : Nat), i < y' → kk' i 0 = kOf (u8F kk') i 0 ∧ kk' i 1 = kOf (u8F kk') i 1 ∧ kk' i 2 = kOf (u8F kk') i 2 ∧ kk' i 3 = kOf (u8F kk') i 3 ∧ kk' i 4 = kOf (u8F kk') i 4 ∧ kk' i 5 = kOf (u8F kk') i 5 ∧ kk' i 6 = kOf (u8F kk') i 6 ∧ kk' i 7 = kOf (u8F kk') i 7 ∧ kk' i 8 = kOf (u8F kk') i 8 ∧ kk' i 9 = kOf (u8F kk') i 9 ∧ kk' i 10 = kOf (u8F kk') i 10 ∧ kk' i 11 = kOf (u8F kk') i 11 ∧ kk' i 12 = kOf (u8F kk') i 12 ∧ kk' i 13 = kOf (u8F kk') i 13 ∧ kk' i 14 = kOf (u8F kk') i 14 ∧ kk' i 15 = kOf (u8F kk') i 15 ∧ kk' i 16 = kOf (u8F kk') i 16 ∧ kk' i 17 = kOf (u8F kk') i 17 ∧ kk' i 18 = kOf (u8F kk') i 18 ∧ kk' i 19 = kOf (u8F kk') i 19) ∧ u8F (kOf (u8F kk)) = u8F (kOf (u8F (kOf (u8F kk)))) ∧ u8F (kOf (u8F kk')) = u8F (kOf (u8F (kOf (u8F kk')))) ∧ (↑y : Int) ≤ (9223372036854775807 : Int) ∧ (↑y' : Int) ≤ (9223372036854775807 : Int) ∧ eqKs y (kOf (u8F (kOf (u8F kk)))) y' (kOf (u8F (kOf (u8F kk')))) = r) ∧ ((x8 && ix == ix') = Bool.false → Bool.false = r)) ∧ ((x7 && sy.toList == sy'.toList) = Bool.false → Bool.false = r)) := by kernel_rfl
end Go.Proofs.Ytpebkgbelifdgaa
end

section
namespace Go.Sx
open Go.RowKit
theorem okx_none {P : Program} : CxOK P Cx.none := ⟨fun _ h => (by cases h), fun _ h => (by cases h)⟩
theorem okx_nil {P : Program} {gl : Globs} : CxOK P ⟨[], gl, 0, []⟩ := ⟨fun _ h => (by cases h), fun _ h => (by cases h)⟩
theorem okx_cons {P : Program} {gl : Globs} {f : Nat} {s : FSpec} {l : List (Nat × FSpec)} {wf : List (Nat × WSpec)} (h : FnOKg P gl f s) (hs : CxOK P ⟨l, gl, 0, wf⟩) : CxOK P ⟨(f, s) :: l, gl, 0, wf⟩ :=
  ⟨fun p hp => by
    rcases List.mem_cons.1 hp with rfl | hp
    · exact h
    · exact hs.1 p hp, hs.2⟩
theorem okx_mark {P : Program} {gl : Globs} {f : Nat} {l : List (Nat × FSpec)} {wf : List (Nat × WSpec)} (hs : CxOK P ⟨l, gl, 0, wf⟩) : CxOK P ⟨(f, fun _ => none) :: l, gl, 0, wf⟩ :=
  okx_cons (fun _ _ _ h => (by cases h)) hs
theorem oks_nil {P : Program} {gl : Globs} : ∀ p ∈ ([] : List (Nat × SSpec)), FnOKs P gl p.1 p.2 := fun _ h => (by cases h)
theorem oks_cons {P : Program} {gl : Globs} {f : Nat} {s : SSpec} {l : List (Nat × SSpec)} (h : FnOKs P gl f s) (hl : ∀ p ∈ l, FnOKs P gl p.1 p.2) : ∀ p ∈ (f, s) :: l, FnOKs P gl p.1 p.2 := fun p hp => by
  rcases List.mem_cons.1 hp with rfl | hp
  · exact h
  · exact hl p hp
end Go.Sx
end

section
namespace Go.Proofs.Ytpebkgbelifdgaa
open Go.Sx
theorem ok_beq (a a' : Option Addr) (n cap n' cap' : Nat) (k k' : Nat → Nat → Int) :
    OwesR Try.prog Cx.none [] [] 10 Try.f58 [.sc (.xs a n cap 1 (u8F k)), .sc (.xs a' n' cap' 1 (u8F k'))] false [.v (sB ((strL n k).toList == (strL n' k').toList))] := by
  rw [vc_beq]
  exact ⟨fun _ => trivial, fun _ => trivial, rfl⟩
theorem card_beq {gl : Globs} : FnOKs Try.prog gl 58 cBeq := by
  refine FnOKs.up0 (FnOKs_Q (cx := Cx.none) okx_none (sl := []) oks_nil Try.func58 (by kernel_rfl) (by kernel_rfl) fun ls hc => ?_) gl
  unfold nf2C at hc
  split at hc
  · rename_i a n cap f a' n' cap' f'
    obtain ⟨h, h', _⟩ := hc
    have := ok_beq a a' n cap n' cap' (kOf f) (kOf f')
    rw [← h, ← h'] at this
    refine ⟨_, _, fun r hr => ?_, this⟩
    rw [List.mem_singleton.1 hr]; exact trivial
  · exact hc.1.elim
theorem ok_lwin (n m : Int) : Owes Try.prog Cx.none [] 10 Try.f84 [sI .i64 n, sI .i64 m] (inL n m) := by
  unfold inL
  rw [vc_lwin]
  exact ⟨id, id, id, rfl⟩
theorem card_lwin : FnOK Try.prog 84 (specII (fun _ _ => []) inL) :=
  FnOK_II (cx := Cx.none) (iv := []) (N := 10) okx_none Try.func84 (by kernel_rfl) (by kernel_rfl) (fun _ _ => trivial) fun n m _ => ok_lwin n m
theorem card_ixb : FnOK Try.prog 110 specIxb :=
  FnOK_ixb Try.func110 (by kernel_rfl) (by kernel_rfl) (by kernel_rfl) (by kernel_rfl)
theorem ok_con (s : ByteArray) : Owes Try.prog cxL0 [] 10 Try.f92 [.sc (.val (.string s)), .sc (.val (.string (ByteArray.mk #[0])))] (conG s) := by
  unfold conG
  rw [vc_con]
  have e1 : ((1 : Int) == 0) = false := rfl
  have e2 : ((1 : Int) == 1) = true := rfl
  have e3 : decide (ixb s 0 ≥ 0) = hasNul s := by
    rw [Bool.eq_iff_iff, decide_eq_true_iff]
    exact ixb_nul s
  simp only [e1, e2, e3]
  refine ⟨id, id, fun _ => rfl, fun h => ?_, fun _ => ⟨fun _ => ⟨⟨by decide, by decide⟩, trivial⟩, fun h => (by cases h)⟩⟩
  have h := eq_of_beq (show ((ByteArray.mk #[(0 : UInt8)]).toList == s.toList) = true from h)
  have hs : ByteArray.mk #[0] = s := txt_ext (by rw [← ByteArray.toList_eq, ← ByteArray.toList_eq]; exact h)
  rw [← hs]
  rfl
theorem card_con : FnOK Try.prog 92 (specCon conG) := by
  refine FnOK_owes (cx := cxL0) (iv := []) (N := 10) (okx_cons card_ixb okx_nil) Try.func92 (by kernel_rfl) (by kernel_rfl) fun args ps sv hs hp => ?_
  unfold specCon at hs
  split at hs
  · rename_i s z
    simp only [Option.some.injEq, Prod.mk.injEq] at hs
    obtain ⟨rfl, rfl⟩ := hs
    obtain ⟨rfl, _⟩ := hp
    refine ⟨[.sc (.val (.string s)), .sc (.val (.string (ByteArray.mk #[0])))], fun ρ => rfl, ?_, trivial, ok_con s⟩
    intro x hx
    simp only [List.mem_cons, List.not_mem_nil, or_false] at hx
    rcases hx with rfl | rfl <;> trivial
  · cases hs
end Go.Proofs.Ytpebkgbelifdgaa
end

section
namespace Go.Proofs.Ytpebkgbelifdgaa
open Go.Sx
theorem conj_rows {k k' : Nat → Int} {n : Nat} : (!conj [(List.range n).all fun j => k (0 + j) == k' (0 + j)]) = false ↔ ∀ c, c < n → k c = k' c := by
  simp [conj]
theorem ok_seq (a a' : Option Addr) (n cap n' cap' : Nat) (k k' : Nat → Nat → Int) (hn : (n : Int) ≤ 9223372036854775807) :
    OwesR Try.prog Cx.none [] [(4, .inv (invSeq a a' n cap n' cap' k k'))] 10 Try.f59 [sXk a n cap k, sXk a' n' cap' k'] false [.v (sB (eqKs n k n' k'))] := by
  rw [vc_seq]
  have z20 : ∀ (k : Nat → Nat → Int) (n : Nat) (i : Nat), i < n → k i 0 = k i 0 ∧ k i 1 = k i 1 ∧ k i 2 = k i 2 ∧ k i 3 = k i 3 ∧ k i 4 = k i 4 ∧ k i 5 = k i 5 ∧ k i 6 = k i 6 ∧ k i 7 = k i 7 ∧ k i 8 = k i 8 ∧ k i 9 = k i 9 ∧ k i 10 = k i 10 ∧ k i 11 = k i 11 ∧ k i 12 = k i 12 ∧ k i 13 = k i 13 ∧ k i 14 = k i 14 ∧ k i 15 = k i 15 ∧ k i 16 = k i 16 ∧ k i 17 = k i 17 ∧ k i 18 = k i 18 ∧ k i 19 = k i 19 := fun k n i _ => ⟨rfl, rfl, rfl, rfl, rfl, rfl, rfl, rfl, rfl, rfl, rfl, rfl, rfl, rfl, rfl, rfl, rfl, rfl, rfl, rfl⟩
  refine ⟨fun h => ?_, fun h => ⟨fun _ => rfl, 0, ⟨Nat.zero_le _, fun i hi => absurd hi (Nat.not_lt_zero _)⟩, ⟨rfl, rfl, rfl, z20 k n⟩, ⟨rfl, rfl, rfl, z20 k' n'⟩, rfl, rfl, fun y hy => ⟨fun hlt => ?_, fun hge => ?_⟩⟩⟩
  · have : (n : Int) ≠ n' := by simpa using h
    unfold eqKs
    rw [show (n == n') = false by rw [beq_eq_false_iff_ne]; omega]
    rfl
  · have e : (n : Int) = n' := by simpa using h
    have hlt : (y : Int) < n := of_decide_eq_true hlt
    obtain ⟨h1, h2⟩ := hy
    refine ⟨⟨by omega, hlt⟩, ⟨by omega, by omega⟩, fun hne => ?_, fun heq => ⟨y + 1, ⟨by omega, fun i hi => ?_⟩, ⟨rfl, rfl, rfl, z20 k n⟩, ⟨rfl, rfl, rfl, z20 k' n'⟩, rfl, ?_, ?_⟩⟩
    · have hne := (Bool.not_eq_false _).symm ▸ hne
      unfold eqKs
      symm
      rw [Bool.and_eq_false_iff]
      right
      rw [List.all_eq_false]
      refine ⟨y, List.mem_range.2 (by omega), ?_⟩
      intro hall
      have : (!conj [(List.range 20).all fun j => k y (0 + j) == k' y (0 + j)]) = false := conj_rows.2 fun c hc => by simpa using List.all_eq_true.1 hall c (List.mem_range.2 hc)
      rw [show ((y : Int).toNat) = y from Int.toNat_natCast y] at hne
      rw [this] at hne
      exact absurd hne (by decide)
    · rw [show ((y : Int).toNat) = y from Int.toNat_natCast y] at heq
      rcases Nat.lt_or_ge i y with hiy | hiy
      · exact h2 i hiy
      · obtain rfl : i = y := by omega
        exact conj_rows.1 heq
    · rw [IntKind.wrap_i64]; omega
    · show n - (y + 1) < n - y
      omega
  · have e : (n : Int) = n' := by simpa using h
    have hge : ¬ (y : Int) < n := of_decide_eq_false hge
    unfold eqKs
    symm
    rw [Bool.and_eq_true_iff]
    refine ⟨by simp; omega, List.all_eq_true.2 fun i hi => List.all_eq_true.2 fun c hc => ?_⟩
    have hi := List.mem_range.1 hi
    exact beq_iff_eq.2 (hy.2 i (by omega) c (List.mem_range.1 hc))
theorem card_seq {gl : Globs} : FnOKs Try.prog gl 59 cSeq := by
  refine FnOKs.up0 (FnOKs_Q (cx := Cx.none) okx_none (sl := []) oks_nil Try.func59 (by kernel_rfl) (by kernel_rfl) fun ls hc => ?_) gl
  unfold nfKc at hc
  split at hc
  · rename_i a n cap f a' n' cap' f'
    obtain ⟨h, h', hn, _⟩ := hc
    have := ok_seq a a' n cap n' cap' (kOf f) (kOf f') hn
    unfold sXk at this
    rw [← h, ← h'] at this
    refine ⟨_, _, fun r hr => ?_, this⟩
    rw [List.mem_singleton.1 hr]; exact trivial
  · exact hc.1.elim
end Go.Proofs.Ytpebkgbelifdgaa
end

section
namespace Go.Proofs.Ytpebkgbelifdgaa
open Go.Sx
theorem limb_conj (a b : Nat) : conj [limb a 0 == limb b 0, limb a 1 == limb b 1, limb a 2 == limb b 2, limb a 3 == limb b 3] = (a % M256 == b % M256) := by
  rw [Bool.eq_iff_iff, beq_iff_eq, limbs_eq]
  simp [conj]
theorem row_all {f g f' g' : Nat → Int} (h : ∀ j, j < 32 → f j = f' j) (h' : ∀ j, j < 32 → g j = g' j) : ((List.range 32).all fun j => f j == g j) = ((List.range 32).all fun j => f' j == g' j) := by
  rw [Bool.eq_iff_iff, List.all_eq_true, List.all_eq_true]
  constructor
  · intro k j hj
    have hl := List.mem_range.1 hj
    rw [← h j hl, ← h' j hl]
    exact k j hj
  · intro k j hj
    have hl := List.mem_range.1 hj
    show (f j == g j) = true
    rw [h j hl, h' j hl]
    exact k j hj
theorem flat_tk (kd : Int) (am fe : Nat) (tk : Nat → Int) (hm : Int) (to : Nat → Int) (tc dc : Int) (sy : ByteArray) (a : Option Addr) (m cap : Nat) (dk : Nat → Nat → Int) (ix : Int) (b : Option Addr) (y cy : Nat) (kk : Nat → Nat → Int) (j : Nat) (hj : j < 32) :
    intsC ((flat (toKs (SA.agg (ksLoad kd am fe tk hm to tc dc sy a m cap dk ix b y cy kk)))).getD (9 + (0 + j)) (SC.bit false)) = tk j := by
  have e : flat (toKs (SA.agg (ksLoad kd am fe tk hm to tc dc sy a m cap dk ix b y cy kk))) = (flat [.c (.val (.int .i64 kd)), .u am, .u fe] ++ (SK.f .u8 32 tk).cells) ++ flat [.c (.val (.int .i64 hm)), .f .u8 32 to, .c (.val (.int .i64 tc)), .c (.val (.int .i64 dc)), .c (.val (.string sy)), .c (.xs a m cap 1 (u8F dk)), .c (.val (.int .i64 ix)), .c (.xs b y cy 20 (u8F kk))] := rfl
  rw [e, List.getD_eq_getElem?_getD, List.getElem?_append_left (by simp [flat, SK.cells]; omega), List.getElem?_append_right (by simp [flat, SK.cells])]
  have h0 : 9 + (0 + j) - (flat [.c (.val (.int .i64 kd)), .u am, .u fe]).length = j := by simp [flat, SK.cells]
  rw [h0]
  simp only [SK.cells, List.getElem?_map, List.getElem?_range hj, Option.map_some, Option.getD_some]
  rfl
theorem flat_to (kd : Int) (am fe : Nat) (tk : Nat → Int) (hm : Int) (to : Nat → Int) (tc dc : Int) (sy : ByteArray) (a : Option Addr) (m cap : Nat) (dk : Nat → Nat → Int) (ix : Int) (b : Option Addr) (y cy : Nat) (kk : Nat → Nat → Int) (j : Nat) (hj : j < 32) :
    intsC ((flat (toKs (SA.agg (ksLoad kd am fe tk hm to tc dc sy a m cap dk ix b y cy kk)))).getD (42 + (0 + j)) (SC.bit false)) = to j := by
  have e : flat (toKs (SA.agg (ksLoad kd am fe tk hm to tc dc sy a m cap dk ix b y cy kk))) = (flat [.c (.val (.int .i64 kd)), .u am, .u fe, .f .u8 32 tk, .c (.val (.int .i64 hm))] ++ (SK.f .u8 32 to).cells) ++ flat [.c (.val (.int .i64 tc)), .c (.val (.int .i64 dc)), .c (.val (.string sy)), .c (.xs a m cap 1 (u8F dk)), .c (.val (.int .i64 ix)), .c (.xs b y cy 20 (u8F kk))] := rfl
  rw [e, List.getD_eq_getElem?_getD, List.getElem?_append_left (by simp [flat, SK.cells]; omega), List.getElem?_append_right (by simp [flat, SK.cells])]
  have h0 : 42 + (0 + j) - (flat [.c (.val (.int .i64 kd)), .u am, .u fe, .f .u8 32 tk, .c (.val (.int .i64 hm))]).length = j := by simp [flat, SK.cells]
  rw [h0]
  simp only [SK.cells, List.getElem?_map, List.getElem?_range hj, Option.map_some, Option.getD_some]
  rfl
theorem z20 (k k' : Nat → Nat → Int) (h : ∀ i c, k i c = k' i c) (n : Nat) : ∀ i, i < n → k i 0 = k' i 0 ∧ k i 1 = k' i 1 ∧ k i 2 = k' i 2 ∧ k i 3 = k' i 3 ∧ k i 4 = k' i 4 ∧ k i 5 = k' i 5 ∧ k i 6 = k' i 6 ∧ k i 7 = k' i 7 ∧ k i 8 = k' i 8 ∧ k i 9 = k' i 9 ∧ k i 10 = k' i 10 ∧ k i 11 = k' i 11 ∧ k i 12 = k' i 12 ∧ k i 13 = k' i 13 ∧ k i 14 = k' i 14 ∧ k i 15 = k' i 15 ∧ k i 16 = k' i 16 ∧ k i 17 = k' i 17 ∧ k i 18 = k' i 18 ∧ k i 19 = k' i 19 :=
  fun _ _ => ⟨h _ _, h _ _, h _ _, h _ _, h _ _, h _ _, h _ _, h _ _, h _ _, h _ _, h _ _, h _ _, h _ _, h _ _, h _ _, h _ _, h _ _, h _ _, h _ _, h _ _⟩
theorem ok_alk (kd : Int) (am fe : Nat) (tk : Nat → Int) (hm : Int) (to : Nat → Int) (tc dc : Int) (sy : ByteArray) (a : Option Addr) (m cap : Nat) (dk : Nat → Nat → Int) (ix : Int) (b : Option Addr) (y cy : Nat) (kk : Nat → Nat → Int) (kd' : Int) (am' fe' : Nat) (tk' : Nat → Int) (hm' : Int) (to' : Nat → Int) (tc' dc' : Int) (sy' : ByteArray) (a' : Option Addr) (m' cap' : Nat) (dk' : Nat → Nat → Int) (ix' : Int) (b' : Option Addr) (y' cy' : Nat) (kk' : Nat → Nat → Int)
    (hy : (y : Int) ≤ 9223372036854775807) (hy' : (y' : Int) ≤ 9223372036854775807) :
    OwesR Try.prog cxAlk slAlk [] 10 Try.f51 [.agg (ksLoad kd am fe tk hm to tc dc sy a m cap dk ix b y cy kk), .agg (ksLoad kd' am' fe' tk' hm' to' tc' dc' sy' a' m' cap' dk' ix' b' y' cy' kk')] false
      [.v (sB (alkL am fe tk hm to tc dc sy m dk ix y kk am' fe' tk' hm' to' tc' dc' sy' m' dk' ix' y' kk'))] := by
  rw [vc_alk]
  rw [limb_conj, limb_conj]
  rw [row_all (fun j hj => flat_tk kd am fe tk hm to tc dc sy a m cap dk ix b y cy kk j hj) (fun j hj => flat_tk kd' am' fe' tk' hm' to' tc' dc' sy' a' m' cap' dk' ix' b' y' cy' kk' j hj)]
  rw [row_all (fun j hj => flat_to kd am fe tk hm to tc dc sy a m cap dk ix b y cy kk j hj) (fun j hj => flat_to kd' am' fe' tk' hm' to' tc' dc' sy' a' m' cap' dk' ix' b' y' cy' kk' j hj)]
  intro x1 x2 x3 x4 x5 x6 x7 x8 _ _
  have r : alkL am fe tk hm to tc dc sy m dk ix y kk am' fe' tk' hm' to' tc' dc' sy' m' dk' ix' y' kk' = ((((x7 && sy.toList == sy'.toList) && x8) && ix == ix') && eqKs y kk y' kk') := rfl
  rw [r]
  clear r
  clear_value x8 x7 x6 x5 x4 x3 x2 x1
  repeat' (first | exact rfl | exact True.intro | exact id | assumption | exact z20 _ _ (fun _ _ => rfl) _ | exact fun _ _ => rfl | refine And.intro ?_ ?_ | intro _)
  all_goals first | (simp_all; done) | (simp_all; rfl)
theorem card_alk {gl : Globs} : FnOKs Try.prog gl 51 cAlk := by
  refine FnOKs.up0 (FnOKs_Q (cx := cxAlk) (okx_mark (okx_mark (okx_mark (okx_mark (okx_mark okx_nil))))) (sl := slAlk) (oks_cons card_beq (oks_cons card_seq oks_nil)) Try.func51 (by kernel_rfl) (by kernel_rfl) fun ls hc => ?_) gl
  unfold alkC at hc
  split at hc
  · rename_i kd am fe tk hm to tc dc sy a m cap f ix b y cy h kd' am' fe' tk' hm' to' tc' dc' sy' a' m' cap' f' ix' b' y' cy' h'
    obtain ⟨p, p', _⟩ := hc
    have := ok_alk kd am fe tk hm to tc dc sy a m cap (kOf f) ix b y cy (kOf h) kd' am' fe' tk' hm' to' tc' dc' sy' a' m' cap' (kOf f') ix' b' y' cy' (kOf h') p.y p'.y
    unfold ksLoad at this
    rw [← p.f, ← p.h, ← p'.f, ← p'.h] at this
    refine ⟨_, _, fun r hr => ?_, this⟩
    rw [List.mem_singleton.1 hr]; exact trivial
  · exact hc.1.elim
end Go.Proofs.Ytpebkgbelifdgaa
end

section
namespace Go.Proofs.Ytpebkgbelifdgaa
open Go.Sx
theorem alk_iff {am fe : Nat} {tk : Nat → Int} {hm : Int} {to : Nat → Int} {tc dc : Int} {sy : ByteArray} {m : Nat} {dk : Nat → Nat → Int} {ix : Int} {y : Nat} {kk : Nat → Nat → Int} {am' fe' : Nat} {tk' : Nat → Int} {hm' : Int} {to' : Nat → Int} {tc' dc' : Int} {sy' : ByteArray} {m' : Nat} {dk' : Nat → Nat → Int} {ix' : Int} {y' : Nat} {kk' : Nat → Nat → Int} :
    alkL am fe tk hm to tc dc sy m dk ix y kk am' fe' tk' hm' to' tc' dc' sy' m' dk' ix' y' kk' = true ↔
      (am % M256 = am' % M256 ∧ fe % M256 = fe' % M256 ∧ (∀ j, j < 32 → tk j = tk' j) ∧ hm = hm' ∧ (∀ j, j < 32 → to j = to' j) ∧ tc = tc' ∧ dc = dc' ∧ sy = sy' ∧ strL m dk = strL m' dk' ∧ ix = ix' ∧ y = y' ∧ ∀ i, i < y → ∀ c, c < 20 → kk i c = kk' i c) := by
  unfold alkL eqKs
  simp only [Bool.and_eq_true, beq_iff_eq, conj, List.all_eq_true, List.mem_range, ByteArray.toList_eq]
  have t : ∀ {s t : ByteArray}, s.data.toList = t.data.toList ↔ s = t := ⟨fun h => txt_ext h, fun h => by rw [h]⟩
  simp only [t]
  grind
theorem str_size (m : Nat) (k : Nat → Nat → Int) : (strL m k).size = m := by
  unfold strL
  rw [byI_size, List.length_map, List.length_range]
theorem str_zero {m : Nat} {k k' : Nat → Nat → Int} : strL 0 k = strL m k' ↔ m = 0 := by
  constructor
  · intro h
    have := congrArg ByteArray.size h
    rw [str_size, str_size] at this
    omega
  · rintro rfl; rfl
theorem txt_zero {s : ByteArray} : ByteArray.mk #[] = s ↔ s.size = 0 := by
  constructor
  · rintro rfl; rfl
  · intro h
    apply txt_ext
    have : s.data.toList.length = 0 := by rw [← txt_size]; exact h
    rw [List.length_eq_zero_iff.1 this]
def inR (n m : Int) : Prop := 0 ≤ n ∧ n ≤ m
def ldGood (kd : Int) (am fe : Nat) (tk : Nat → Int) (hm : Int) (to : Nat → Int) (tc dc : Int) (sy : ByteArray) (m : Nat) (ix : Int) (y : Nat) : Prop :=
  ((kd = 1 ∨ kd = 3) ∧ inR hm 65535 ∧ inR tc 65535 ∧ fe % M256 ≤ am % M256 ∧ dc = 0 ∧ sy.size = 0 ∧ m ≤ 100 ∧ (kd = 1 → m = 0) ∧ ix = 0 ∧ y = 0) ∨
  (kd = 2 ∧ inR hm 65535 ∧ inR dc 77 ∧ sy.size ≤ 32 ∧ hasNul sy = false ∧ am % M256 = 0 ∧ fe % M256 = 0 ∧ (∀ j, j < 32 → to j = 0) ∧ tc = 0 ∧ m = 0 ∧ ix = 0 ∧ y = 0) ∨
  (kd = 4 ∧ inR ix 4294967295 ∧ 0 < y ∧ y ≤ 19 ∧ am % M256 = 0 ∧ fe % M256 = 0 ∧ (∀ j, j < 32 → tk j = 0) ∧ hm = 0 ∧ (∀ j, j < 32 → to j = 0) ∧ tc = 0 ∧ dc = 0 ∧ sy.size = 0 ∧ m = 0)
open Classical in
noncomputable def ldE (kd : Int) (am fe : Nat) (tk : Nat → Int) (hm : Int) (to : Nat → Int) (tc dc : Int) (sy : ByteArray) (m : Nat) (ix : Int) (y : Nat) : Int :=
  if kd = 1 ∨ kd = 2 ∨ kd = 3 ∨ kd = 4 then if ldGood kd am fe tk hm to tc dc sy m ix y then 0 else 3 else 2
section
variable {kd : Int} {am fe : Nat} {tk : Nat → Int} {hm : Int} {to : Nat → Int} {tc dc : Int} {sy : ByteArray} {m : Nat} {dk : Nat → Nat → Int} {ix : Int} {y : Nat} {kk Z Z' : Nat → Nat → Int}
theorem ldE_kind (h : ¬ (kd = 1 ∨ kd = 2 ∨ kd = 3 ∨ kd = 4)) : ldE kd am fe tk hm to tc dc sy m ix y = 2 := by
  unfold ldE; rw [if_neg h]
theorem ldE_of (h : kd = 1 ∨ kd = 2 ∨ kd = 3 ∨ kd = 4) {b : Bool} (hb : b = true ↔ ldGood kd am fe tk hm to tc dc sy m ix y) : ldE kd am fe tk hm to tc dc sy m ix y = if b then 0 else 3 := by
  unfold ldE
  rw [if_pos h]
  cases b with
  | true => rw [if_pos (hb.1 rfl)]; rfl
  | false => rw [if_neg (fun g => by cases hb.2 g)]; rfl
theorem cmp_le {a b : Nat} : cmpN a b ≤ 0 ↔ a % M256 ≤ b % M256 := by
  unfold cmpN
  split
  · omega
  split <;> omega
theorem good1 (h : kd = 1) : ldE kd am fe tk hm to tc dc sy m ix y = if (((decide (0 ≤ hm) && decide (hm ≤ 65535)) && (decide (0 ≤ tc) && decide (tc ≤ 65535))) && decide (cmpN fe am ≤ 0)) && alkL am fe tk hm to tc 0 (ByteArray.mk #[]) 0 Z 0 0 Z' am fe tk hm to tc dc sy m dk ix y kk then 0 else 3 := by
  refine ldE_of (.inl h) ?_
  simp only [Bool.and_eq_true, decide_eq_true_iff, alk_iff, cmp_le, txt_zero, str_zero]
  unfold ldGood inR
  subst h
  constructor
  · rintro ⟨⟨⟨⟨h1, h2⟩, h3, h4⟩, h5⟩, _, _, _, _, _, _, h6, h7, h8, h9, h10, _⟩
    exact .inl ⟨.inl rfl, ⟨h1, h2⟩, ⟨h3, h4⟩, h5, h6.symm, h7, by omega, fun _ => h8, h9.symm, h10.symm⟩
  · rintro (⟨_, ⟨h1, h2⟩, ⟨h3, h4⟩, h5, h6, h7, _, h8, h9, h10⟩ | ⟨h, _⟩ | ⟨h, _⟩)
    · exact ⟨⟨⟨⟨h1, h2⟩, h3, h4⟩, h5⟩, (by trivial), (by trivial), (by intros; trivial), (by trivial), (by intros; trivial), (by trivial), h6.symm, h7, h8 rfl, h9.symm, h10.symm, fun _ hi => absurd hi (Nat.not_lt_zero _)⟩
    · cases h
    · cases h
theorem good2 (h : kd = 2) : ldE kd am fe tk hm to tc dc sy m ix y = if ((((decide (0 ≤ hm) && decide (hm ≤ 65535)) && (decide (0 ≤ dc) && decide (dc ≤ 77))) && decide ((sy.size : Int) ≤ 32)) && !hasNul sy) && alkL 0 0 tk hm (fun _ => 0) 0 dc sy 0 Z 0 0 Z' am fe tk hm to tc dc sy m dk ix y kk then 0 else 3 := by
  refine ldE_of (.inr (.inl h)) ?_
  simp only [Bool.and_eq_true, decide_eq_true_iff, alk_iff, str_zero, Bool.not_eq_true', Nat.zero_mod]
  unfold ldGood inR
  subst h
  constructor
  · rintro ⟨⟨⟨⟨⟨h1, h2⟩, h3, h4⟩, h5⟩, h6⟩, h7, h8, _, _, h9, h10, _, _, h11, h12, h13, _⟩
    exact .inr (.inl ⟨rfl, ⟨h1, h2⟩, ⟨h3, h4⟩, by omega, h6, h7.symm, h8.symm, fun j hj => (h9 j hj).symm, h10.symm, h11, h12.symm, h13.symm⟩)
  · rintro (⟨h, _⟩ | ⟨_, ⟨h1, h2⟩, ⟨h3, h4⟩, h5, h6, h7, h8, h9, h10, h11, h12, h13⟩ | ⟨h, _⟩)
    · rcases h with h | h <;> cases h
    · exact ⟨⟨⟨⟨⟨h1, h2⟩, h3, h4⟩, by omega⟩, h6⟩, h7.symm, h8.symm, (by intros; trivial), (by trivial), fun j hj => (h9 j hj).symm, h10.symm, (by trivial), (by trivial), h11, h12.symm, h13.symm, fun _ hi => absurd hi (Nat.not_lt_zero _)⟩
    · cases h
theorem good3 (h : kd = 3) : ldE kd am fe tk hm to tc dc sy m ix y = if ((((decide (0 ≤ hm) && decide (hm ≤ 65535)) && (decide (0 ≤ tc) && decide (tc ≤ 65535))) && decide (cmpN fe am ≤ 0)) && decide ((m : Int) ≤ 100)) && alkL am fe tk hm to tc 0 (ByteArray.mk #[]) m dk 0 0 Z' am fe tk hm to tc dc sy m dk ix y kk then 0 else 3 := by
  refine ldE_of (.inr (.inr (.inl h))) ?_
  simp only [Bool.and_eq_true, decide_eq_true_iff, alk_iff, cmp_le, txt_zero]
  unfold ldGood inR
  subst h
  constructor
  · rintro ⟨⟨⟨⟨⟨h1, h2⟩, h3, h4⟩, h5⟩, h6⟩, _, _, _, _, _, _, h7, h8, _, h9, h10, _⟩
    exact .inl ⟨.inr rfl, ⟨h1, h2⟩, ⟨h3, h4⟩, h5, h7.symm, h8, by omega, fun h => (by cases h), h9.symm, h10.symm⟩
  · rintro (⟨_, ⟨h1, h2⟩, ⟨h3, h4⟩, h5, h6, h7, h8, _, h9, h10⟩ | ⟨h, _⟩ | ⟨h, _⟩)
    · exact ⟨⟨⟨⟨⟨h1, h2⟩, h3, h4⟩, h5⟩, by omega⟩, (by trivial), (by trivial), (by intros; trivial), (by trivial), (by intros; trivial), (by trivial), h6.symm, h7, (by trivial), h9.symm, h10.symm, fun _ hi => absurd hi (Nat.not_lt_zero _)⟩
    · cases h
    · cases h
theorem good4 (h : kd = 4) : ldE kd am fe tk hm to tc dc sy m ix y = if (((decide (0 ≤ ix) && decide (ix ≤ 4294967295)) && decide ((y : Int) > 0)) && decide ((y : Int) ≤ 19)) && alkL 0 0 (fun _ => 0) 0 (fun _ => 0) 0 0 (ByteArray.mk #[]) 0 Z ix y kk am fe tk hm to tc dc sy m dk ix y kk then 0 else 3 := by
  refine ldE_of (.inr (.inr (.inr h))) ?_
  simp only [Bool.and_eq_true, decide_eq_true_iff, alk_iff, txt_zero, str_zero, Nat.zero_mod]
  unfold ldGood inR
  subst h
  constructor
  · rintro ⟨⟨⟨⟨h1, h2⟩, h3⟩, h4⟩, h5, h6, h7, h8, h9, h10, h11, h12, h13, _⟩
    exact .inr (.inr ⟨rfl, ⟨h1, h2⟩, by omega, by omega, h5.symm, h6.symm, fun j hj => (h7 j hj).symm, h8.symm, fun j hj => (h9 j hj).symm, h10.symm, h11.symm, h12, h13⟩)
  · rintro (⟨h, _⟩ | ⟨h, _⟩ | ⟨_, ⟨h1, h2⟩, h3, h4, h5, h6, h7, h8, h9, h10, h11, h12, h13⟩)
    · rcases h with h | h <;> cases h
    · cases h
    · exact ⟨⟨⟨⟨h1, h2⟩, by omega⟩, by omega⟩, h5.symm, h6.symm, fun j hj => (h7 j hj).symm, h8.symm, fun j hj => (h9 j hj).symm, h10.symm, h11.symm, h12, h13, (by trivial), (by trivial), (by intros; trivial)⟩
theorem alk_none (h : m = 0) : alkL am fe tk hm to tc 0 (ByteArray.mk #[]) 0 Z 0 0 Z' am fe tk hm to tc dc sy m dk ix y kk = alkL am fe tk hm to tc 0 (ByteArray.mk #[]) m dk 0 0 Z' am fe tk hm to tc dc sy m dk ix y kk := by
  subst h; rfl
end
end Go.Proofs.Ytpebkgbelifdgaa
end

section
namespace Go.Proofs.Ytpebkgbelifdgaa
open Go.Sx
theorem sel_u8 (w i c : Nat) (k : Nat → Nat → Int) : selC (decide (i < 0)) (fixAt (flat []) w 0 0 i c) (u8F k i c) = u8F k i c := by
  have e : decide (i < 0) = false := by simp
  rw [e]; rfl
theorem sel_v8 (w i c : Nat) (v : Int) : selC (decide (i < 0)) (fixAt (flat []) w 0 0 i c) (.val (.int .u8 v)) = .val (.int .u8 v) := by
  have e : decide (i < 0) = false := by simp
  rw [e]; rfl
theorem sel_f (w i c : Nat) (k : Nat → Nat → Int) : selC (decide False) (fixAt (flat []) w 0 0 i c) (u8F k i c) = u8F k i c := rfl
theorem sel_g (w i c : Nat) (v : Int) : selC (decide False) (fixAt (flat []) w 0 0 i c) (.val (.int .u8 v)) = .val (.int .u8 v) := rfl
abbrev kZ : Nat → Nat → Int := kOf fun _ _ => SC.bit false
end Go.Proofs.Ytpebkgbelifdgaa
end

section
namespace Go.Proofs.Ytpebkgbelifdgaa
open Go.Sx
set_option maxRecDepth 100000
end Go.Proofs.Ytpebkgbelifdgaa
end

section
namespace Go.Proofs.Ytpebkgbelifdgaa
open Go.Sx
theorem pcx_none : CxOK Try.prog Cx.none := ⟨fun _ h => (by cases h), fun _ h => (by cases h)⟩
theorem pgl_nil {gl : Globs} : CxOK Try.prog ⟨[], gl, 0, []⟩ := ⟨fun _ h => (by cases h), fun _ h => (by cases h)⟩
theorem pgl_cons {gl : Globs} {f : Nat} {s : FSpec} {l : List (Nat × FSpec)} (h : FnOKg Try.prog gl f s) (hs : CxOK Try.prog ⟨l, gl, 0, []⟩) : CxOK Try.prog ⟨(f, s) :: l, gl, 0, []⟩ := by
  refine ⟨fun p hp => ?_, hs.2⟩
  rcases List.mem_cons.1 hp with rfl | hp
  · exact h
  · exact hs.1 p hp
end Go.Proofs.Ytpebkgbelifdgaa
end

section
namespace Go.Proofs.Ytpebkgbelifdgaa
open Go.Sx
set_option maxRecDepth 100000
end Go.Proofs.Ytpebkgbelifdgaa
end

section
namespace Go.Proofs.Ytpebkgbelifdgaa
open Go.Sx
theorem k_u8F (k : Nat → Nat → Int) : kOf (u8F k) = k := rfl
end Go.Proofs.Ytpebkgbelifdgaa
end

section
namespace Go.Proofs.Ytpebkgbelifdgaa
open Go.Sx
set_option maxRecDepth 100000
def bigAt (size : Nat) (v : Int) (q : Nat) : Int := v / 256 ^ (size - 1 - q) % 256
structure rowP (g : Nat → Nat → SC) (n m : Nat) : Prop where
  u8 : g = u8R (hOf g)
  le : n + m ≤ 140737488355328
def putC : List (List FD) → Nat → (Nat → Nat → SC) → List Prop
  | [[.i _], [.i z]], n, g => [rowP g n 8, 1 ≤ z ∧ z ≤ 8]
  | _, _, _ => [False]
def putM : List (List FD) → Nat → Nat
  | [[.i _], [.i z]], n => n + z.toNat
  | _, n => n
def putG : List (List FD) → Nat → (Nat → Nat → SC) → Nat → Nat → SC
  | [[.i v], [.i z]], n, g => u8R (catB n (hOf g) (bigAt z.toNat v))
  | _, _, g => g
def shPut : List AQ := [.one (.i .i64), .one (.i .i64)]
def tPut : TSpec := specT 5 1 shPut id putC putM putG fun _ => []
def cxAp : Cx := ⟨[(1000000007, fun _ => none)], [], 0, []⟩
def invPut (v : Int) (n z : Nat) (h : Nat → Int) : Inv where
  X := Nat × Nat
  tm x := slotsAt 23 [(0, .one (.sc (.slw 2 1 0 (n + x.1) (n + x.1 + x.2)))), (1, .one (sI .i64 v)), (7, .one (sI .i64 ((z : Int) - 1 - (x.1 : Int))))]
  ob x := [.dead, .dead, .row 5 1 (n + x.1) (u8R (catB n h (bigAt z v))) (x.2 * 1)]
  holds x := (1 ≤ x.1 ∧ x.1 ≤ z) ∧ n + x.1 + x.2 ≤ maxLen
  less x := z - x.1
def invPut0 (v : Int) (z : Nat) : Inv where
  X := Nat × Nat
  tm x := slotsAt 23 [(0, .one (.sc (.slw 1 1 0 x.1 (x.1 + x.2)))), (1, .one (sI .i64 v)), (7, .one (sI .i64 ((z : Int) - 1 - (x.1 : Int))))]
  ob x := [.dead, .row 5 1 x.1 (u8R (bigAt z v)) (x.2 * 1)]
  holds x := (1 ≤ x.1 ∧ x.1 ≤ z) ∧ x.1 + x.2 ≤ maxLen
  less x := z - x.1
theorem vc_put (v : Int) (z n cap sp m : Nat) (h k : Nat → Int) :
    OwesT Try.prog cxAp [] [] [(2, .inv1 (invPut v n z h))] 20 Try.f43 [sI .i64 v, sI .i64 (z : Int)] tPut n cap sp (u8R h) m (u8R k) [] =
    (let x1 : Int := (↑z : Int) - (1 : Int); let x2 : Int := Go.IntKind.i64.wrap x1; let x3 : Int := Go.IntKind.i64.wrap ((8 : Int) * x2); let x4 : Nat := n + 1; let x5 : Int := v.fdiv ((2 : Int) ^ Min.min x3.toNat 64); let x6 : Int := Go.IntKind.u8.wrap x5; (∀ (y : Nat × Nat), closedB (slotsAt 23 [(0, SV.one (SA.sc (SC.slw 2 1 0 (n + y.fst) (n + y.fst + y.snd)))), (1, SV.one (sI Go.IntKind.i64 v)), (7, SV.one (sI Go.IntKind.i64 (x1 - (↑y.fst : Int))))]) [SO.dead, SO.dead, SO.row (5 : Go.TypeId) 1 (n + y.fst) (u8R (catB n h (bigAt z v))) (y.snd * 1)] = Bool.true) ∧ (∀ (y : Nat × Nat), (1 ≤ y.fst ∧ y.fst ≤ z) ∧ n + y.fst + y.snd ≤ Go.maxLen → (Decidable.decide (x1 - (↑y.fst : Int) ≥ (0 : Int)) = Bool.true → (0 : Int) ≤ Go.IntKind.i64.wrap ((8 : Int) * (x1 - (↑y.fst : Int))) ∧ 0 = 0 ∧ n + y.fst = n + y.fst ∧ (n + y.fst ≤ n + y.fst + y.snd ∧ n + y.fst + y.snd ≤ Go.maxLen ∧ (n + y.fst + y.snd) * 1 = (n + y.fst) * 1 + y.snd * 1) ∧ (n + y.fst + 1 ≤ Go.maxLen ∧ (n + y.fst + 1) * 1 ≤ 140737488355328) ∧ ∀ (c : Nat), n + y.fst + 1 + c ≤ Go.maxLen → ∃ (y' : Nat × Nat), ((1 ≤ y'.fst ∧ y'.fst ≤ z) ∧ n + y'.fst + y'.snd ≤ Go.maxLen) ∧ (2 = 2 ∧ 1 = 1 ∧ 0 = 0 ∧ n + y.fst + 1 = n + y'.fst ∧ n + y.fst + 1 + c = n + y'.fst + y'.snd) ∧ v = v ∧ Go.IntKind.i64.wrap (x1 - (↑y.fst : Int) - (1 : Int)) = x1 - (↑y'.fst : Int) ∧ n + y.fst + 1 = n + y'.fst ∧ c * 1 = y'.snd * 1 ∧ (∀ (i : Nat), i < n + y.fst + 1 → (bif Decidable.decide (i < n + y.fst) then catB n h (bigAt z v) i else Go.IntKind.u8.wrap (v.fdiv ((2 : Int) ^ Min.min (Go.IntKind.i64.wrap ((8 : Int) * (x1 - (↑y.fst : Int)))).toNat 64))) = catB n h (bigAt z v) i) ∧ ((invPut v n z h).less y').succ.le ((invPut v n z h).less y)) ∧ (Decidable.decide (x1 - (↑y.fst : Int) ≥ (0 : Int)) = Bool.false → 0 = 0 ∧ n + y.fst = m ∧ n + y.fst = m ∧ capOK 1 (n + y.fst) (n + y.fst + y.snd) (y.snd * 1) ∧ (∀ (i : Nat), i < m → catB n h (bigAt z v) i = k i) ∧ True)) ∧ (Decidable.decide (x2 ≥ (0 : Int)) = Bool.true → (0 : Int) ≤ x3 ∧ 0 = 0 ∧ n = n ∧ (n ≤ cap ∧ cap ≤ Go.maxLen ∧ cap * 1 = n * 1 + sp) ∧ (x4 ≤ Go.maxLen ∧ x4 * 1 ≤ 140737488355328) ∧ ∀ (c : Nat), x4 + c ≤ Go.maxLen → ∃ (y' : Nat × Nat), ((1 ≤ y'.fst ∧ y'.fst ≤ z) ∧ n + y'.fst + y'.snd ≤ Go.maxLen) ∧ (2 = 2 ∧ 1 = 1 ∧ 0 = 0 ∧ x4 = n + y'.fst ∧ x4 + c = n + y'.fst + y'.snd) ∧ v = v ∧ Go.IntKind.i64.wrap (x2 - (1 : Int)) = x1 - (↑y'.fst : Int) ∧ x4 = n + y'.fst ∧ c * 1 = y'.snd * 1 ∧ (∀ (i : Nat), i < x4 → (bif Decidable.decide (i < n) then h i else x6) = catB n h (bigAt z v) i) ∧ True) ∧ (Decidable.decide (x2 ≥ (0 : Int)) = Bool.false → 0 = 0 ∧ n = m ∧ n = m ∧ capOK 1 n cap sp ∧ (∀ (i : Nat), i < m → h i = k i) ∧ True)) := by kernel_rfl
theorem vc_put0 (v : Int) (z m : Nat) (k : Nat → Int) :
    OwesT0 Try.prog cxAp [] [] [(2, .inv1 (invPut0 v z))] 20 Try.f43 [sI .i64 v, sI .i64 (z : Int)] tPut m (u8R k) [] =
    (let x1 : Int := (↑z : Int) - (1 : Int); let x2 : Int := Go.IntKind.i64.wrap x1; let x3 : Int := Go.IntKind.i64.wrap ((8 : Int) * x2); let x4 : Int := v.fdiv ((2 : Int) ^ Min.min x3.toNat 64); let x5 : Int := Go.IntKind.u8.wrap x4; (∀ (y : Nat × Nat), closedB (slotsAt 23 [(0, SV.one (SA.sc (SC.slw 1 1 0 y.fst (y.fst + y.snd)))), (1, SV.one (sI Go.IntKind.i64 v)), (7, SV.one (sI Go.IntKind.i64 (x1 - (↑y.fst : Int))))]) [SO.dead, SO.row (5 : Go.TypeId) 1 y.fst (u8R (bigAt z v)) (y.snd * 1)] = Bool.true) ∧ (∀ (y : Nat × Nat), (1 ≤ y.fst ∧ y.fst ≤ z) ∧ y.fst + y.snd ≤ Go.maxLen → (Decidable.decide (x1 - (↑y.fst : Int) ≥ (0 : Int)) = Bool.true → (0 : Int) ≤ Go.IntKind.i64.wrap ((8 : Int) * (x1 - (↑y.fst : Int))) ∧ 0 = 0 ∧ y.fst = y.fst ∧ (y.fst ≤ y.fst + y.snd ∧ y.fst + y.snd ≤ Go.maxLen ∧ (y.fst + y.snd) * 1 = y.fst * 1 + y.snd * 1) ∧ (y.fst + 1 ≤ Go.maxLen ∧ (y.fst + 1) * 1 ≤ 140737488355328) ∧ ∀ (c : Nat), y.fst + 1 + c ≤ Go.maxLen → ∃ (y' : Nat × Nat), ((1 ≤ y'.fst ∧ y'.fst ≤ z) ∧ y'.fst + y'.snd ≤ Go.maxLen) ∧ (1 = 1 ∧ 1 = 1 ∧ 0 = 0 ∧ y.fst + 1 = y'.fst ∧ y.fst + 1 + c = y'.fst + y'.snd) ∧ v = v ∧ Go.IntKind.i64.wrap (x1 - (↑y.fst : Int) - (1 : Int)) = x1 - (↑y'.fst : Int) ∧ y.fst + 1 = y'.fst ∧ c * 1 = y'.snd * 1 ∧ (∀ (i : Nat), i < y.fst + 1 → (bif Decidable.decide (i < y.fst) then bigAt z v i else Go.IntKind.u8.wrap (v.fdiv ((2 : Int) ^ Min.min (Go.IntKind.i64.wrap ((8 : Int) * (x1 - (↑y.fst : Int)))).toNat 64))) = bigAt z v i) ∧ ((invPut0 v z).less y').succ.le ((invPut0 v z).less y)) ∧ (Decidable.decide (x1 - (↑y.fst : Int) ≥ (0 : Int)) = Bool.false → 0 = 0 ∧ y.fst = m ∧ y.fst = m ∧ capOK 1 y.fst (y.fst + y.snd) (y.snd * 1) ∧ (∀ (i : Nat), i < m → bigAt z v i = k i) ∧ True)) ∧ (Decidable.decide (x2 ≥ (0 : Int)) = Bool.true → (0 : Int) ≤ x3 ∧ (1 ≤ Go.maxLen ∧ 1 ≤ 140737488355328) ∧ ∀ (c : Nat), 1 + c ≤ Go.maxLen → ∃ (y' : Nat × Nat), ((1 ≤ y'.fst ∧ y'.fst ≤ z) ∧ y'.fst + y'.snd ≤ Go.maxLen) ∧ (1 = 1 ∧ 1 = 1 ∧ 0 = 0 ∧ 1 = y'.fst ∧ 1 + c = y'.fst + y'.snd) ∧ v = v ∧ Go.IntKind.i64.wrap (x2 - (1 : Int)) = x1 - (↑y'.fst : Int) ∧ 1 = y'.fst ∧ c * 1 = y'.snd * 1 ∧ (∀ (i : Nat), i < 1 → x5 = bigAt z v i) ∧ True) ∧ (Decidable.decide (x2 ≥ (0 : Int)) = Bool.false → StuckAt "result")) := by kernel_rfl
end Go.Proofs.Ytpebkgbelifdgaa
end

section
namespace Go.Proofs.Ytpebkgbelifdgaa
open Go.Sx
theorem byte_at {v : Int} {z j : Nat} {s : Int} (hj : j < z) (hz : z ≤ 8) (hs : s = (z : Int) - 1 - (j : Int)) : IntKind.u8.wrap (v.fdiv ((2 : Int) ^ min (IntKind.i64.wrap (8 * s)).toNat 64)) = bigAt z v j := by
  have e1 : IntKind.i64.wrap (8 * s) = ((8 * (z - 1 - j) : Nat) : Int) := by rw [IntKind.wrap_i64]; omega
  have e2 : min (8 * (z - 1 - j)) 64 = 8 * (z - 1 - j) := by omega
  have e3 : (2 : Int) ^ (8 * (z - 1 - j)) = 256 ^ (z - 1 - j) := by rw [Int.pow_mul]; rfl
  rw [e1, Int.toNat_natCast, e2, e3, Int.fdiv_eq_ediv_of_nonneg _ (Int.pow_nonneg (by decide)), IntKind.wrap_u8]
  rfl
theorem max_len : maxLen = 9223372036854775807 := by decide
theorem ok_put {v : Int} {z n cap sp : Nat} {h : Nat → Int} (hz : 1 ≤ z ∧ z ≤ 8) (hn : n + 8 ≤ 140737488355328) (hc : capOK 1 n cap sp) :
    OwesT Try.prog cxAp [] [] [(2, .inv1 (invPut v n z h))] 20 Try.f43 [sI .i64 v, sI .i64 (z : Int)] tPut n cap sp (u8R h) (n + z) (u8R (catB n h (bigAt z v))) [] := by
  rw [vc_put]
  simp only [eq_self, implies_true, and_self, true_and, and_true, Nat.mul_one]
  obtain ⟨c1, c2, c3⟩ := hc
  have hm := max_len
  have w1 : IntKind.i64.wrap ((z : Int) - 1) = (z : Int) - 1 := by rw [IntKind.wrap_i64]; omega
  have hy2 : ∀ {y : Nat × Nat}, decide ((z : Int) - 1 - (y.1 : Int) ≥ 0) = true → y.1 < z := fun h => by have := of_decide_eq_true h; omega
  refine ⟨fun _ => rfl, fun y hy => ⟨fun h1 => ?_, fun h1 => ?_⟩, fun _ => ?_, fun h1 => ?_⟩
  · have hlt := hy2 h1
    refine ⟨by rw [IntKind.wrap_i64]; omega, by omega, by omega, fun c hcl => ⟨(y.1 + 1, c), by dsimp only; omega, by dsimp only; omega, by dsimp only; rw [IntKind.wrap_i64]; omega, by dsimp only; omega, rfl, fun i hi => ?_, ?_⟩⟩
    · rw [byte_at hlt hz.2 rfl]
      unfold catB
      by_cases e : i < n + y.1
      · simp [e]
      · have : i - n = y.1 := by omega
        simp [e, show ¬ i < n by omega, this]
    · show z - (y.1 + 1) < z - y.1
      omega
  · have h1 := of_decide_eq_false h1
    have e : y.1 = z := by omega
    rw [e]
    exact ⟨rfl, rfl, by omega, by omega, by omega⟩
  · refine ⟨by rw [w1, IntKind.wrap_i64]; omega, ⟨c1, c2, by omega⟩, by omega, fun c hcl => ⟨(1, c), by dsimp only; omega, by dsimp only; omega, by dsimp only; rw [w1, IntKind.wrap_i64]; omega, rfl, rfl, fun i hi => ?_⟩⟩
    rw [byte_at (j := 0) hz.1 hz.2 (by rw [w1]; omega)]
    unfold catB
    by_cases e : i < n
    · simp [e]
    · have : i - n = 0 := by omega
      simp [e, this]
  · rw [w1] at h1
    have h1 := of_decide_eq_false h1
    omega
theorem ok_put0 {v : Int} {z : Nat} (hz : 1 ≤ z ∧ z ≤ 8) :
    OwesT0 Try.prog cxAp [] [] [(2, .inv1 (invPut0 v z))] 20 Try.f43 [sI .i64 v, sI .i64 (z : Int)] tPut z (u8R (bigAt z v)) [] := by
  rw [vc_put0]
  simp only [eq_self, implies_true, and_self, true_and, and_true, Nat.mul_one]
  have hm := max_len
  have w1 : IntKind.i64.wrap ((z : Int) - 1) = (z : Int) - 1 := by rw [IntKind.wrap_i64]; omega
  have hy2 : ∀ {y : Nat × Nat}, decide ((z : Int) - 1 - (y.1 : Int) ≥ 0) = true → y.1 < z := fun h => by have := of_decide_eq_true h; omega
  refine ⟨fun _ => rfl, fun y hy => ⟨fun h1 => ?_, fun h1 => ?_⟩, fun _ => ?_, fun h1 => ?_⟩
  · have hlt := hy2 h1
    refine ⟨by rw [IntKind.wrap_i64]; omega, by omega, by omega, fun c hcl => ⟨(y.1 + 1, c), by dsimp only; omega, by dsimp only; omega, by dsimp only; rw [IntKind.wrap_i64]; omega, rfl, rfl, fun i hi => ?_, ?_⟩⟩
    · rw [byte_at hlt hz.2 rfl]
      by_cases e : i < y.1
      · simp [e]
      · have : i = y.1 := by omega
        simp [this]
    · show z - (y.1 + 1) < z - y.1
      omega
  · have h1 := of_decide_eq_false h1
    have e : y.1 = z := by omega
    rw [e]
    exact ⟨rfl, rfl, by omega, by omega, by omega⟩
  · refine ⟨by rw [w1, IntKind.wrap_i64]; omega, by omega, fun c hcl => ⟨(1, c), by dsimp only; omega, by dsimp only; omega, by dsimp only; rw [w1, IntKind.wrap_i64]; omega, rfl, rfl, fun i hi => ?_⟩⟩
    have : i = 0 := by omega
    rw [byte_at (j := 0) hz.1 hz.2 (by rw [w1]; omega), this]
  · rw [w1] at h1
    have h1 := of_decide_eq_false h1
    omega
theorem catB_zero (h k : Nat → Int) : catB 0 h k = k := by
  funext i; unfold catB; simp
theorem tl_nil {gl : Globs} : ∀ p ∈ ([] : List (Nat × TSpec)), FnOKt Try.prog gl p.1 p.2 := fun _ h => (by cases h)
theorem sl_nil {gl : Globs} : ∀ p ∈ ([] : List (Nat × SSpec)), FnOKs Try.prog gl p.1 p.2 := fun _ h => (by cases h)
theorem cxok_Ap : CxOK Try.prog cxAp := ⟨fun p hp => by rw [List.mem_singleton.1 hp]; exact fun _ _ _ h => (by cases h), fun _ h => (by cases h)⟩
theorem card_put {gl : Globs} : FnOKt Try.prog gl 43 tPut := by
  refine FnOKt.up0 (FnOKt_Q (cx := cxAp) cxok_Ap (sl := []) sl_nil (tl := []) tl_nil Try.func43 (by kernel_rfl) (by kernel_rfl) fun ls n g hc => ?_) gl
  unfold putC at hc
  split at hc
  · rename_i _ v z
    obtain ⟨hr, hz, _⟩ := hc
    obtain ⟨m, rfl⟩ : ∃ m : Nat, z = m := ⟨z.toNat, by omega⟩
    have hz : 1 ≤ m ∧ m ≤ 8 := by omega
    refine ⟨fun _ h => (by cases h), closed_u8R _ _, fun h0 => ?_, fun cap sp hcap => ?_⟩
    · have := ok_put0 (v := v) hz
      refine ⟨[(2, .inv1 (invPut0 v m))], 20, ?_⟩
      show OwesT0 _ _ _ _ _ _ _ _ _ (0 + ((m : Nat) : Int).toNat) (u8R (catB 0 _ _)) _
      rw [catB_zero, Int.toNat_natCast, Nat.zero_add]
      exact this
    · have := ok_put (v := v) hz hr.le hcap (h := hOf g)
      rw [← hr.u8] at this
      exact ⟨_, _, this⟩
  · exact hc.1.elim
end Go.Proofs.Ytpebkgbelifdgaa
end

section
namespace Go.Proofs.Ytpebkgbelifdgaa
open Go.Sx
set_option maxRecDepth 100000
def shPw : List AQ := [.st [.u]]
def pwC : List (List FD) → Nat → (Nat → Nat → SC) → List Prop
  | [[.u _]], n, g => [rowP g n 32]
  | _, _, _ => [False]
def pwM : List (List FD) → Nat → Nat
  | [[.u _]], n => n + 32
  | _, n => n
def pwG : List (List FD) → Nat → (Nat → Nat → SC) → Nat → Nat → SC
  | [[.u a]], n, g => u8R (catB n (hOf g) (fun j => by8 a (31 - j)))
  | _, _, g => g
def tPw : TSpec := specT 5 1 shPw id pwC pwM pwG fun _ => []
def cxPw : Cx := ⟨[(60, specU bytesG), (1000000007, fun _ => none)], [], 0, []⟩
def tlPs : List (Nat × TSpec) := [(43, tPut), (54, tPw)]
theorem vc_pw (a n cap sp m : Nat) (h k : Nat → Int) :
    OwesT Try.prog cxPw [] [] [] 20 Try.f54 [sU a] tPw n cap sp (u8R h) m (u8R k) [] =
    (let x1 : Nat := n + 32; 0 = 0 ∧ n = n ∧ (n ≤ cap ∧ cap ≤ Go.maxLen ∧ cap * 1 = n * 1 + sp) ∧ (x1 ≤ Go.maxLen ∧ x1 * 1 ≤ 140737488355328) ∧ ∀ (c : Nat), x1 + c ≤ Go.maxLen → 0 = 0 ∧ x1 = m ∧ x1 = m ∧ capOK 1 x1 (x1 + c) (c * 1) ∧ (∀ (i : Nat), i < m → (bif Decidable.decide (i < n) then h i else by8 a (31 - (i - n))) = k i) ∧ True) := by kernel_rfl
theorem vc_pw0 (a m : Nat) (k : Nat → Int) :
    OwesT0 Try.prog cxPw [] [] [] 20 Try.f54 [sU a] tPw m (u8R k) [] =
    ((32 ≤ Go.maxLen ∧ 32 ≤ 140737488355328) ∧ ∀ (c : Nat), 32 + c ≤ Go.maxLen → 0 = 0 ∧ 32 = m ∧ 32 = m ∧ capOK 1 32 (32 + c) (c * 1) ∧ (∀ (i : Nat), i < m → by8 a (31 - i) = k i) ∧ True) := by kernel_rfl
end Go.Proofs.Ytpebkgbelifdgaa
end

section
namespace Go.Proofs.Ytpebkgbelifdgaa
open Go.Sx
theorem putM_4 (v : Int) (n : Nat) : putM [[.i v], [.i 4]] n = n + 4 := rfl
theorem putM_2 (v : Int) (n : Nat) : putM [[.i v], [.i 2]] n = n + 2 := rfl
theorem putM_1 (v : Int) (n : Nat) : putM [[.i v], [.i 1]] n = n + 1 := rfl
theorem pwM_e (a n : Nat) : pwM [[.u a]] n = n + 32 := rfl
theorem bif_if {b : Prop} [Decidable b] {x y : Int} : (bif decide b then x else y) = if b then x else y := by
  by_cases h : b <;> simp [h]
theorem cap_mk {n c : Nat} (h : n + c ≤ maxLen) : capOK 1 n (n + c) c := ⟨by omega, h, by omega⟩
theorem ok_pw {a n cap sp : Nat} {h : Nat → Int} (hn : n + 32 ≤ 140737488355328) (hc : capOK 1 n cap sp) :
    OwesT Try.prog cxPw [] [] [] 20 Try.f54 [sU a] tPw n cap sp (u8R h) (n + 32) (u8R (catB n h (fun j => by8 a (31 - j)))) [] := by
  rw [vc_pw]
  simp only [eq_self, implies_true, and_self, true_and, and_true, Nat.mul_one]
  have hm := max_len
  obtain ⟨c1, c2, c3⟩ := hc
  exact ⟨⟨c1, c2, by omega⟩, by omega, fun c hcl => ⟨cap_mk hcl, fun i hi => bif_if⟩⟩
theorem ok_pw0 {a : Nat} : OwesT0 Try.prog cxPw [] [] [] 20 Try.f54 [sU a] tPw 32 (u8R (fun j => by8 a (31 - j))) [] := by
  rw [vc_pw0]
  simp only [eq_self, implies_true, and_self, true_and, and_true, Nat.mul_one]
  have hm := max_len
  exact ⟨by omega, fun c hcl => cap_mk hcl⟩
theorem cxok_Pw : CxOK Try.prog cxPw := pgl_cons card_Bytes ⟨fun p hp => by rw [List.mem_singleton.1 hp]; exact fun _ _ _ h => (by cases h), fun _ h => (by cases h)⟩
theorem card_pw {gl : Globs} : FnOKt Try.prog gl 54 tPw := by
  refine FnOKt.up0 (FnOKt_Q (cx := cxPw) cxok_Pw (sl := []) sl_nil (tl := []) tl_nil Try.func54 (by kernel_rfl) (by kernel_rfl) fun ls n g hc => ?_) gl
  unfold pwC at hc
  split at hc
  · rename_i _ a
    obtain ⟨hr, _⟩ := hc
    refine ⟨fun _ h => (by cases h), closed_u8R _ _, fun h0 => ⟨[], 20, ?_⟩, fun cap sp hcap => ⟨[], 20, ?_⟩⟩
    · show OwesT0 _ _ _ _ _ _ _ _ _ (0 + 32) (u8R (catB 0 _ _)) _
      rw [catB_zero]
      exact ok_pw0
    · have := ok_pw (a := a) hr.le hcap (h := hOf g)
      rw [← hr.u8] at this
      exact this
  · exact hc.1.elim
theorem bigAt_one (v : Int) (i : Nat) (h : i = 0) : bigAt 1 v i = v % 256 := by
  subst h; unfold bigAt; simp
theorem tl_cons {gl : Globs} {f : Nat} {s : TSpec} {l : List (Nat × TSpec)} (h : FnOKt Try.prog gl f s) (hl : ∀ p ∈ l, FnOKt Try.prog gl p.1 p.2) : ∀ p ∈ (f, s) :: l, FnOKt Try.prog gl p.1 p.2 := fun p hp => by
  rcases List.mem_cons.1 hp with rfl | hp
  · exact h
  · exact hl p hp
end Go.Proofs.Ytpebkgbelifdgaa
end
