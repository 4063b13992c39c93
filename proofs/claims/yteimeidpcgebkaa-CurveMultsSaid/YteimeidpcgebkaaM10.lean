/-
  Texts: V73, V6, V4, P1, P2, P3, P4, P5, P6, P7, C1, C2, P9, P12, P13, P14, P15, P16, P18, P19.
-/
import Derived.Test.YteimeidpcgebkaaM1
import Derived.Test.YteimeidpcgebkaaM2
import Derived.Test.YteimeidpcgebkaaM3
import Derived.Test.YteimeidpcgebkaaM4
import Derived.Test.YteimeidpcgebkaaM5
import Derived.Test.YteimeidpcgebkaaM6
import Derived.Test.YteimeidpcgebkaaM7
import Derived.Test.YteimeidpcgebkaaM8
import Derived.Test.YteimeidpcgebkaaM9
import Derived.Lib.Mul64
section
namespace Go.Proofs.Yteimeidpcgebkaa
open Go.Sx
set_option maxRecDepth 100000
def nt (b : Bool) (n : Int) : Int := cond b n 16
def okF (a b m : Nat) : Bool := fE a b m == 0
def okI (b m : Nat) : Bool := finvE b m == 0
def hAV (m a b : Nat) : Nat := if fE a b m = 0 then (a % M256 + b % M256) % (m % M256) else 0
def hSV (m a b : Nat) : Nat := if fE a b m = 0 then (a % M256 + m % M256 - b % M256) % (m % M256) else 0
def hMV (m a b : Nat) : Nat := if fE a b m = 0 then a % M256 * (b % M256) % (m % M256) else 0
def hIV (m b : Nat) : Nat := if finvE b m = 0 then invN (b % M256) (m % M256) else 0
def hDV (m a b : Nat) : Nat := hMV m a (hIV m b)
def hDT (m a b : Nat) (n : Int) : Int := nt (okF a (hIV m b) m) (nt (okI b m) n)
def h3V (m a : Nat) : Nat := hAV m a (hAV m a a)
def h3T (m a : Nat) (n : Int) : Int := nt (okF a (hAV m a a) m) (nt (okF a a m) n)
def rgtV (m A B x : Nat) : Nat := hAV m (hAV m (hMV m x (hMV m x x)) (hMV m A x)) B
def rgtT (m A B x : Nat) (n : Int) : Int := nt (okF (hAV m (hMV m x (hMV m x x)) (hMV m A x)) B m) (nt (okF (hMV m x (hMV m x x)) (hMV m A x) m) (nt (okF A x m) (nt (okF x (hMV m x x) m) (nt (okF x x m) n))))
def slpV (m A B : Nat) : Nat := hAV m (hAV m (hAV m (hMV m A (hMV m A A)) (hMV m A (hMV m A A))) (hAV m (hMV m A (hMV m A A)) (hMV m A (hMV m A A)))) (h3V m (h3V m (h3V m (hMV m B B))))
def slpT (m A B : Nat) (n : Int) : Int :=
 nt (okF (hAV m (hAV m (hMV m A (hMV m A A)) (hMV m A (hMV m A A))) (hAV m (hMV m A (hMV m A A)) (hMV m A (hMV m A A)))) (h3V m (h3V m (h3V m (hMV m B B)))) m)
  (h3T m (h3V m (h3V m (hMV m B B))) (h3T m (h3V m (hMV m B B)) (h3T m (hMV m B B)
   (nt (okF (hAV m (hMV m A (hMV m A A)) (hMV m A (hMV m A A))) (hAV m (hMV m A (hMV m A A)) (hMV m A (hMV m A A))) m) (nt (okF (hMV m A (hMV m A A)) (hMV m A (hMV m A A)) m)
    (nt (okF B B m) (nt (okF A (hMV m A A) m) (nt (okF A A m) n))))))))
def havT (m A B : Nat) (x y : Nat) (f : Bool) (n : Int) : Int := cond f (nt (x % M256 == 0 && y % M256 == 0) n) (nt (hMV m y y % M256 == rgtV m A B x % M256) (rgtT m A B x (nt (okF y y m) n)))
def mbeT (m P A B N X Y : Nat) (F : Bool) (n : Int) : Int :=
 havT m A B X Y F (nt (!F) (nt (!(slpV m A B % M256 == 0)) (slpT m A B (nt (decide (1 < N % M256)) (nt (decide (3 < P % M256) && decide (P % M256 % 4 = 3)) n)))))
def mustC : List (List At) → List Prop
 | [[.u _], [.b _]] => []
 | _ => [False]
def mustT : List (List At) → Int → Int
 | [[.u _], [.b x]], n => nt x n
 | _, n => n
def wKeptC : List (List At) → List Prop
 | [[.u _], [.u _], [.i _]] => []
 | _ => [False]
def wKeptT : List (List At) → Int → Int
 | [[.u _], [.u _], [.i e]], n => nt (e == 0) n
 | _, n => n
def w2C : List (List At) → List Prop
 | [[.u _], [.u _], [.u _]] => []
 | _ => [False]
def w1C : List (List At) → List Prop
 | [[.u _], [.u _]] => []
 | _ => [False]
def w2T : List (List At) → Int → Int
 | [[.u m], [.u a], [.u b]], n => nt (okF a b m) n
 | _, n => n
def wAddG : List (List At) → SV
 | [[.u m], [.u a], [.u b]] => .one (sU (hAV m a b))
 | _ => .tup []
def wSubG : List (List At) → SV
 | [[.u m], [.u a], [.u b]] => .one (sU (hSV m a b))
 | _ => .tup []
def wMulG : List (List At) → SV
 | [[.u m], [.u a], [.u b]] => .one (sU (hMV m a b))
 | _ => .tup []
def wDivG : List (List At) → SV
 | [[.u m], [.u a], [.u b]] => .one (sU (hDV m a b))
 | _ => .tup []
def wDivT : List (List At) → Int → Int
 | [[.u m], [.u a], [.u b]], n => hDT m a b n
 | _, n => n
def wTwG : List (List At) → SV
 | [[.u m], [.u a]] => .one (sU (hAV m a a))
 | _ => .tup []
def wTwT : List (List At) → Int → Int
 | [[.u m], [.u a]], n => nt (okF a a m) n
 | _, n => n
def wThG : List (List At) → SV
 | [[.u m], [.u a]] => .one (sU (h3V m a))
 | _ => .tup []
def wThT : List (List At) → Int → Int
 | [[.u m], [.u a]], n => h3T m a n
 | _, n => n
def wRgC : List (List At) → List Prop
 | [[.u _], [.u _, .u _, .u _, .u _, .u _, .u _, .b _], [.u _]] => []
 | _ => [False]
def wRgG : List (List At) → SV
 | [[.u m], [.u _, .u A, .u B, .u _, .u _, .u _, .b _], [.u x]] => .one (sU (rgtV m A B x))
 | _ => .tup []
def wRgT : List (List At) → Int → Int
 | [[.u m], [.u _, .u A, .u B, .u _, .u _, .u _, .b _], [.u x]], n => rgtT m A B x n
 | _, n => n
def wCvC : List (List At) → List Prop
 | [[.u _], [.u _, .u _, .u _, .u _, .u _, .u _, .b _]] => []
 | _ => [False]
def wSlG : List (List At) → SV
 | [[.u m], [.u _, .u A, .u B, .u _, .u _, .u _, .b _]] => .one (sU (slpV m A B))
 | _ => .tup []
def wSlT : List (List At) → Int → Int
 | [[.u m], [.u _, .u A, .u B, .u _, .u _, .u _, .b _]], n => slpT m A B n
 | _, n => n
def wHvC : List (List At) → List Prop
 | [[.u _], [.u _, .u _, .u _, .u _, .u _, .u _, .b _], [.u _, .u _, .b _]] => []
 | _ => [False]
def wHvT : List (List At) → Int → Int
 | [[.u m], [.u _, .u A, .u B, .u _, .u _, .u _, .b _], [.u x, .u y, .b f]], n => havT m A B x y f n
 | _, n => n
def wBeT : List (List At) → Int → Int
 | [[.u m], [.u P, .u A, .u B, .u N, .u X, .u Y, .b F]], n => mbeT m P A B N X Y F n
 | _, n => n
abbrev shCv : List AP := [.hand, .str pCv]
def wMust : WSpec := specWr tErr .i64 [.hand, .bit] mustC voidG mustT
def wKept : WSpec := specWr tErr .i64 [.hand, .str [.u], .int .i64] wKeptC keptG wKeptT
def wAdd : WSpec := specWr tErr .i64 shH2 w2C wAddG w2T
def wSub : WSpec := specWr tErr .i64 shH2 w2C wSubG w2T
def wMul : WSpec := specWr tErr .i64 shH2 w2C wMulG w2T
def wDiv : WSpec := specWr tErr .i64 shH2 w2C wDivG wDivT
def wTwice : WSpec := specWr tErr .i64 shH1 w1C wTwG wTwT
def wThrice : WSpec := specWr tErr .i64 shH1 w1C wThG wThT
def wRight : WSpec := specWr tErr .i64 [.hand, .str pCv, .str [.u]] wRgC wRgG wRgT
def wSlopes : WSpec := specWr tErr .i64 shCv wCvC wSlG wSlT
def wHave : WSpec := specWr tErr .i64 [.hand, .str pCv, .str pPt] wHvC voidG wHvT
def wBe : WSpec := specWr tErr .i64 shCv wCvC voidG wBeT
def cyKept : Cx := ⟨[], [], 0, [(27, wMust)]⟩
def cyAdd : Cx := ⟨[(58, specUUU noC faddG)], [], 0, [(47, wKept)]⟩
def cySub : Cx := ⟨[(49, specUUU noC fsubG)], [], 0, [(47, wKept)]⟩
def cyMul : Cx := ⟨[(57, specUUU noC fmulG)], [], 0, [(47, wKept)]⟩
def cyDiv : Cx := ⟨[(71, specUU finvG)], [], 0, [(47, wKept), (37, wMul)]⟩
def cyTwice : Cx := ⟨[], [], 0, [(38, wAdd)]⟩
def cyThrice : Cx := ⟨[], [], 0, [(38, wAdd), (55, wTwice)]⟩
def cyRight : Cx := ⟨[], [], 0, [(38, wAdd), (37, wMul)]⟩
def cySlopes : Cx := ⟨[], [], 0, [(38, wAdd), (37, wMul), (55, wTwice), (56, wThrice)]⟩
def cyHave : Cx := ⟨[(19, spec0 farG)], [], 0, [(37, wMul), (24, wRight), (27, wMust)]⟩
def cyBe : Cx := ⟨[(22, specUU cmpG)], [], 0, [(36, wSlopes), (13, wHave), (27, wMust)]⟩
theorem wc_must (m : Nat) (x : Bool) (n : Int) :
  OwesW Try.prog .none [] [] 10 Try.f27 [sHd m, sB x] tErr .i64 n (.tup []) (nt x n) =
  (((!x) = Bool.true → True ∧ (16 : Int) = nt x n) ∧ ((!x) = Bool.false → True ∧ n = nt x n)) := by kernel_rfl
theorem wc_kept (m a : Nat) (e : Int) (n : Int) :
  OwesW Try.prog cyKept [] [] 10 Try.f47 [sHd m, sU a, sI .i64 e] tErr .i64 n (.one (sU a)) (nt (e == 0) n) =
  (let x1 : Nat := a % M256; let x2 : Bool := e == (0 : Int); (x1 = x1 ∧ True) ∧ mustT [[At.u m], [At.b x2]] n = nt x2 n) := by kernel_rfl
theorem wc_add (m a b : Nat) (n : Int) :
  OwesW Try.prog cyAdd [] [] 10 Try.f38 [sHd m, sU a, sU b] tErr .i64 n (.one (sU (hAV m a b))) (nt (okF a b m) n) =
  (let x1 : Nat := if fE a b m = (0 : Int) then (a % M256 + b % M256) % (m % M256) else 0; (x1 % M256 = hAV m a b % M256 ∧ True) ∧ wKeptT [[At.u m], [At.u x1], [At.i (fE a b m)]] n = nt (okF a b m) n) := by kernel_rfl
theorem wc_sub (m a b : Nat) (n : Int) :
  OwesW Try.prog cySub [] [] 10 Try.f26 [sHd m, sU a, sU b] tErr .i64 n (.one (sU (hSV m a b))) (nt (okF a b m) n) =
  (let x1 : Nat := m % M256; let x2 : Nat := if fE a b m = (0 : Int) then (a % M256 + x1 - b % M256) % x1 else 0; (x2 % M256 = hSV m a b % M256 ∧ True) ∧ wKeptT [[At.u m], [At.u x2], [At.i (fE a b m)]] n = nt (okF a b m) n) := by kernel_rfl
theorem wc_mul (m a b : Nat) (n : Int) :
  OwesW Try.prog cyMul [] [] 10 Try.f37 [sHd m, sU a, sU b] tErr .i64 n (.one (sU (hMV m a b))) (nt (okF a b m) n) =
  (let x1 : Nat := if fE a b m = (0 : Int) then a % M256 * (b % M256) % (m % M256) else 0; (x1 % M256 = hMV m a b % M256 ∧ True) ∧ wKeptT [[At.u m], [At.u x1], [At.i (fE a b m)]] n = nt (okF a b m) n) := by kernel_rfl
theorem wc_div (m a b : Nat) (n : Int) :
  OwesW Try.prog cyDiv [] [] 10 Try.f59 [sHd m, sU a, sU b] tErr .i64 n (.one (sU (hDV m a b))) (hDT m a b n) =
  (let x1 : Nat := if finvE b m = (0 : Int) then invN (b % M256) (m % M256) else 0; (hMV m a x1 % M256 = hDV m a b % M256 ∧ True) ∧ w2T [[At.u m], [At.u a], [At.u x1]] (wKeptT [[At.u m], [At.u x1], [At.i (finvE b m)]] n) = hDT m a b n) := by kernel_rfl
theorem wc_twice (m a : Nat) (n : Int) :
  OwesW Try.prog cyTwice [] [] 10 Try.f55 [sHd m, sU a] tErr .i64 n (.one (sU (hAV m a a))) (nt (okF a a m) n) =
  (let x1 : Nat := hAV m a a % M256; (x1 = x1 ∧ True) ∧ w2T [[At.u m], [At.u a], [At.u a]] n = nt (okF a a m) n) := by kernel_rfl
theorem wc_thrice (m a : Nat) (n : Int) :
  OwesW Try.prog cyThrice [] [] 10 Try.f56 [sHd m, sU a] tErr .i64 n (.one (sU (h3V m a))) (h3T m a n) =
  ((hAV m a (hAV m a a) % M256 = h3V m a % M256 ∧ True) ∧ w2T [[At.u m], [At.u a], [At.u (hAV m a a)]] (wTwT [[At.u m], [At.u a]] n) = h3T m a n) := by kernel_rfl
theorem wc_right (m P A B N X Y x : Nat) (F : Bool) (n : Int) :
  OwesW Try.prog cyRight [] [] 10 Try.f24 [sHd m, sCv P A B N X Y F, sU x] tErr .i64 n (.one (sU (rgtV m A B x))) (rgtT m A B x n) =
  (let x1 : Nat := hAV m (hMV m x (hMV m x x)) (hMV m A x); (hAV m x1 B % M256 = rgtV m A B x % M256 ∧ True) ∧ w2T [[At.u m], [At.u x1], [At.u B]] (w2T [[At.u m], [At.u (hMV m x (hMV m x x))], [At.u (hMV m A x)]] (w2T [[At.u m], [At.u A], [At.u x]] (w2T [[At.u m], [At.u x], [At.u (hMV m x x)]] (w2T [[At.u m], [At.u x], [At.u x]] n)))) = rgtT m A B x n) := by kernel_rfl
theorem wc_slopes (m P A B N X Y : Nat) (F : Bool) (n : Int) :
  OwesW Try.prog cySlopes [] [] 10 Try.f36 [sHd m, sCv P A B N X Y F] tErr .i64 n (.one (sU (slpV m A B))) (slpT m A B n) =
  (let x1 : Nat := hAV m (hMV m A (hMV m A A)) (hMV m A (hMV m A A)); let x2 : Nat := hAV m x1 x1; let x3 : Nat := h3V m (h3V m (h3V m (hMV m B B))); (hAV m x2 x3 % M256 = slpV m A B % M256 ∧ True) ∧ w2T [[At.u m], [At.u x2], [At.u x3]] (wThT [[At.u m], [At.u (h3V m (h3V m (hMV m B B)))]] (wThT [[At.u m], [At.u (h3V m (hMV m B B))]] (wThT [[At.u m], [At.u (hMV m B B)]] (wTwT [[At.u m], [At.u x1]] (wTwT [[At.u m], [At.u (hMV m A (hMV m A A))]] (w2T [[At.u m], [At.u B], [At.u B]] (w2T [[At.u m], [At.u A], [At.u (hMV m A A)]] (w2T [[At.u m], [At.u A], [At.u A]] n)))))))) = slpT m A B n) := by kernel_rfl
theorem wc_have (m P A B N X Y x y : Nat) (F f : Bool) (n : Int) :
  OwesW Try.prog cyHave [] [] 10 Try.f13 [sHd m, sCv P A B N X Y F, sPt x y f] tErr .i64 n (.tup []) (havT m A B x y f n) =
  ((f = Bool.true → True ∧ mustT [[At.u m], [At.b (conj [x % M256 == 0, y % M256 == 0, f == Bool.true])]] n = havT m A B x y f n) ∧ (f = Bool.false → True ∧ mustT [[At.u m], [At.b (conj [hMV m y y % M256 == rgtV m A B x % M256])]] (wRgT [[At.u m], [At.u P, At.u A, At.u B, At.u N, At.u X, At.u Y, At.b F], [At.u x]] (w2T [[At.u m], [At.u y], [At.u y]] n)) = havT m A B x y f n)) := by kernel_rfl
theorem wc_be (m P A B N X Y : Nat) (F : Bool) (n : Int) :
  OwesW Try.prog cyBe [] [] 10 Try.f12 [sHd m, sCv P A B N X Y F] tErr .i64 n (.tup []) (mbeT m P A B N X Y F n) =
  (let x1 : Bool := Decidable.decide (cmpN P 3 > (0 : Int)); (x1 = Bool.true → x1 = Bool.true) ∧ (x1 = Bool.true → x1 = Bool.true) ∧ (x1 = Bool.true → x1 = Bool.true) ∧ (x1 = Bool.true → x1 = Bool.true) ∧ (x1 = Bool.true → x1 = Bool.true) ∧ True ∧ wHvT [[At.u m], [At.u P, At.u A, At.u B, At.u N, At.u X, At.u Y, At.b F], [At.u X, At.u Y, At.b F]] (mustT [[At.u m], [At.b !F]] (mustT [[At.u m], [At.b !conj [slpV m A B % M256 == 0]]] (wSlT [[At.u m], [At.u P, At.u A, At.u B, At.u N, At.u X, At.u Y, At.b F]] (mustT [[At.u m], [At.b (Decidable.decide (cmpN N 1 > (0 : Int)))]] (mustT [[At.u m], [At.b (x1 && (limb P 0).tmod (4 : Int) == (3 : Int))]] n))))) = mbeT m P A B N X Y F n) := by kernel_rfl
end Go.Proofs.Yteimeidpcgebkaa
end

section
namespace Go.Proofs.Yteimeidpcgebkaa
open Go.Sx
set_option maxRecDepth 100000
end Go.Proofs.Yteimeidpcgebkaa
end

section
namespace Go.Proofs.Yteimeidpcgebkaa
open Go.Sx
set_option maxRecDepth 100000
end Go.Proofs.Yteimeidpcgebkaa
end

section
namespace Go.Proofs.Yteimeidpcgebkaa
open Go.Sx
theorem split4 (n : Nat) : ∃ a b c d : Nat, limb n 0 = a ∧ limb n 1 = b ∧ limb n 2 = c ∧ limb n 3 = d ∧ a < 18446744073709551616 ∧ b < 18446744073709551616 ∧ c < 18446744073709551616 ∧ d < 18446744073709551616 ∧
  n % M256 = a + 18446744073709551616 * b + 340282366920938463463374607431768211456 * c + 6277101735386680763835789423207666416102355444464034512896 * d := by
 refine ⟨n / 2 ^ (64 * 0) % 2 ^ 64, n / 2 ^ (64 * 1) % 2 ^ 64, n / 2 ^ (64 * 2) % 2 ^ 64, n / 2 ^ (64 * 3) % 2 ^ 64, rfl, rfl, rfl, rfl, Nat.mod_lt _ (by decide), Nat.mod_lt _ (by decide), Nat.mod_lt _ (by decide), Nat.mod_lt _ (by decide), ?_⟩
 rw [limbs_sum]
 simp only [Nat.mul_zero, Nat.pow_zero, Nat.div_one, Nat.mul_one, Nat.reduceMul, Nat.reducePow]
theorem M256_eq : M256 = 115792089237316195423570985008687907853269984665640564039457584007913129639936 := by decide
theorem carry_step (x y c : Nat) (hx : x < 18446744073709551616) (hy : y < 18446744073709551616) (hc : c ≤ 1) :
  ∃ s d : Nat, ((x : Int) + y + c) % 18446744073709551616 = s ∧ ((x : Int) + y + c) / 18446744073709551616 = d ∧ s < 18446744073709551616 ∧ d ≤ 1 ∧ x + y + c = s + 18446744073709551616 * d :=
 ⟨(x + y + c) % 18446744073709551616, (x + y + c) / 18446744073709551616, by omega, by omega, by omega, by omega, by omega⟩
theorem divmod_of {A S c M : Nat} (h : A = S + M * c) (hS : S < M) : A % M = S ∧ A / M = c := by
 subst h
 rw [Nat.add_mul_mod_self_left, Nat.mod_eq_of_lt hS, Nat.add_mul_div_left _ _ (by omega), Nat.div_eq_of_lt hS]
 exact ⟨rfl, by omega⟩
theorem ok_plus : ∀ a b, Owes Try.prog cxPlus [] 100 Try.f62 [sU a, sU b] (plusG a b) := by
 intro a b
 rw [vc_plus]
 have hab := Nat.add_mod a b M256
 obtain ⟨a0, a1, a2, a3, e0, e1, e2, e3, h0, h1, h2, h3, ha⟩ := split4 a
 obtain ⟨b0, b1, b2, b3, f0, f1, f2, f3, k0, k1, k2, k3, hb⟩ := split4 b
 rw [e0, e1, e2, e3, f0, f1, f2, f3]
 rw [ha, hb] at hab
 rw [ha, hb]
 obtain ⟨s0, c0, p0, q0, r0, t0, w0⟩ := carry_step a0 b0 0 h0 k0 (by omega)
 obtain ⟨s1, c1, p1, q1, r1, t1, w1⟩ := carry_step a1 b1 c0 h1 k1 t0
 obtain ⟨s2, c2, p2, q2, r2, t2, w2⟩ := carry_step a2 b2 c1 h2 k2 t1
 obtain ⟨s3, c3, p3, q3, r3, t3, w3⟩ := carry_step a3 b3 c2 h3 k3 t2
 simp only [Int.natCast_zero] at p0 q0
 obtain ⟨m1, m2⟩ := divmod_of (A := a0 + 18446744073709551616 * a1 + 340282366920938463463374607431768211456 * a2 + 6277101735386680763835789423207666416102355444464034512896 * a3 +
  (b0 + 18446744073709551616 * b1 + 340282366920938463463374607431768211456 * b2 + 6277101735386680763835789423207666416102355444464034512896 * b3))
  (S := s0 + 2 ^ 64 * s1 + 2 ^ 128 * s2 + 2 ^ 192 * s3) (c := c3) (M := M256) (by rw [M256_eq]; omega) (by rw [M256_eq]; omega)
 rw [m1] at hab
 have hS : (s0 + 2 ^ 64 * s1 + 2 ^ 128 * s2 + 2 ^ 192 * s3) % M256 = s0 + 2 ^ 64 * s1 + 2 ^ 128 * s2 + 2 ^ 192 * s3 := Nat.mod_eq_of_lt (by rw [M256_eq]; omega)
 simp only [q0, q1, q2, q3, p0, p1, p2, p3, join, Int.toNat_natCast, and_true, hab, hS, m2]
 clear ha hb hab hS m1 m2 p0 p1 p2 p3 q0 q1 q2 q3 w0 w1 w2 w3 e0 e1 e2 e3 f0 f1 f2 f3
 refine ⟨?_, ?_, ?_, ?_, ?_, ?_, ?_, ?_, ?_, ?_, ?_, ?_, ?_, ?_, ?_, ?_⟩ <;> omega
theorem borrow_step (x y c : Nat) (hx : x < 18446744073709551616) (hy : y < 18446744073709551616) (hc : c ≤ 1) :
  ∃ s d : Nat, ((x : Int) - y - c) % 18446744073709551616 = s ∧ -(((x : Int) - y - c) / 18446744073709551616) = d ∧ s < 18446744073709551616 ∧ d ≤ 1 ∧ x + 18446744073709551616 * d = s + y + c :=
 ⟨(((x : Int) - y - c) % 18446744073709551616).toNat, (-(((x : Int) - y - c) / 18446744073709551616)).toNat, by omega, by omega, by omega, by omega, by omega⟩
theorem ok_less : ∀ a b, Owes Try.prog cxLess [] 100 Try.f88 [sU a, sU b] (lessG a b) := by
 intro a b
 rw [vc_less]
 obtain ⟨a0, a1, a2, a3, e0, e1, e2, e3, h0, h1, h2, h3, ha⟩ := split4 a
 obtain ⟨b0, b1, b2, b3, f0, f1, f2, f3, k0, k1, k2, k3, hb⟩ := split4 b
 rw [e0, e1, e2, e3, f0, f1, f2, f3, ha, hb]
 obtain ⟨s0, c0, p0, q0, r0, t0, w0⟩ := borrow_step a0 b0 0 h0 k0 (by omega)
 obtain ⟨s1, c1, p1, q1, r1, t1, w1⟩ := borrow_step a1 b1 c0 h1 k1 t0
 obtain ⟨s2, c2, p2, q2, r2, t2, w2⟩ := borrow_step a2 b2 c1 h2 k2 t1
 obtain ⟨s3, c3, p3, q3, r3, t3, w3⟩ := borrow_step a3 b3 c2 h3 k3 t2
 simp only [Int.natCast_zero] at p0 q0
 have key : a0 + 18446744073709551616 * a1 + 340282366920938463463374607431768211456 * a2 + 6277101735386680763835789423207666416102355444464034512896 * a3 + M256 * c3 =
  (s0 + 2 ^ 64 * s1 + 2 ^ 128 * s2 + 2 ^ 192 * s3) + (b0 + 18446744073709551616 * b1 + 340282366920938463463374607431768211456 * b2 + 6277101735386680763835789423207666416102355444464034512896 * b3) := by
  rw [M256_eq]; omega
 simp only [q0, q1, q2, q3, p0, p1, p2, p3, join, Int.toNat_natCast, and_true]
 generalize hA : a0 + 18446744073709551616 * a1 + 340282366920938463463374607431768211456 * a2 + 6277101735386680763835789423207666416102355444464034512896 * a3 = A at *
 generalize hB : b0 + 18446744073709551616 * b1 + 340282366920938463463374607431768211456 * b2 + 6277101735386680763835789423207666416102355444464034512896 * b3 = B at *
 have hA' : A < M256 := by rw [M256_eq]; omega
 have hB' : B < M256 := by rw [M256_eq]; omega
 have hS' : s0 + 2 ^ 64 * s1 + 2 ^ 128 * s2 + 2 ^ 192 * s3 < M256 := by rw [M256_eq]; omega
 generalize s0 + 2 ^ 64 * s1 + 2 ^ 128 * s2 + 2 ^ 192 * s3 = S at *
 rw [Nat.mod_eq_of_lt hS']
 have hc3 : c3 = 0 ∨ c3 = 1 := by omega
 have fin : S = (A + M256 - B) % M256 ∧ (c3 : Int) = if A < B then 1 else 0 := by
  rcases hc3 with rfl | rfl
  ·have : ¬ A < B := by omega
   rw [if_neg this]
   refine ⟨?_, rfl⟩
   rw [show A + M256 - B = S + M256 by omega, Nat.add_mod_right, Nat.mod_eq_of_lt hS']
  ·have : A < B := by omega
   rw [if_pos this]
   refine ⟨?_, rfl⟩
   rw [show A + M256 - B = S by omega, Nat.mod_eq_of_lt hS']
 obtain ⟨g1, g2⟩ := fin
 rw [← g1, ← g2]
 clear ha hb hA hB key hA' hB' hS' g1 g2 p0 p1 p2 p3 q0 q1 q2 q3 w0 w1 w2 w3 e0 e1 e2 e3 f0 f1 f2 f3
 repeat' apply And.intro
 all_goals first | rfl | omega
theorem ok_Add : ∀ a b, Owes Try.prog cxAdd [] 100 Try.f46 [sU a, sU b] (addG a b) := by
 intro a b
 rw [vc_Add]
 refine ⟨⟨rfl, trivial⟩, ?_⟩
 have hM : 0 < M256 := by decide
 have h1 := Nat.mod_lt a hM
 have h2 := Nat.mod_lt b hM
 rw [Bool.eq_iff_iff]
 simp only [bne_iff_ne, ne_eq, decide_eq_true_eq]
 by_cases h : M256 ≤ a % M256 + b % M256
 ·have : (a % M256 + b % M256) / M256 ≠ 0 := by
   have := Nat.div_pos h hM
   omega
  simp only [h, iff_true]; omega
 ·have : (a % M256 + b % M256) / M256 = 0 := Nat.div_eq_of_lt (by omega)
  simp [h, this]
theorem ok_Sub : ∀ a b, Owes Try.prog cxSub [] 100 Try.f79 [sU a, sU b] (subG a b) := by
 intro a b
 rw [vc_Sub]
 refine ⟨⟨rfl, trivial⟩, ?_⟩
 by_cases h : a % M256 < b % M256 <;> simp [h]
theorem ok_Cmp : ∀ a b, Owes Try.prog Cx.none [] 100 Try.f22 [sU a, sU b] (cmpG a b) := by
 intro a b
 rw [vc_Cmp]
 obtain ⟨a0, a1, a2, a3, e0, e1, e2, e3, h0, h1, h2, h3, ha⟩ := split4 a
 obtain ⟨b0, b1, b2, b3, f0, f1, f2, f3, k0, k1, k2, k3, hb⟩ := split4 b
 rw [e0, e1, e2, e3, f0, f1, f2, f3]
 simp only [cmpN, ha, hb, decide_eq_true_eq, decide_eq_false_iff_not]
 clear e0 e1 e2 e3 f0 f1 f2 f3 ha hb
 refine ⟨fun h => ?_, fun h => ⟨fun h' => ?_, fun h' => ⟨fun g => ?_, fun g => ⟨fun g' => ?_, fun g' => ⟨fun i => ?_, fun i => ⟨fun i' => ?_, fun i' => ⟨fun j => ?_, fun j => ⟨fun j' => ?_, fun j' => ?_⟩⟩⟩⟩⟩⟩⟩⟩
 all_goals
  split
  ·omega
  ·first
   | omega
   | (split <;> omega)
end Go.Proofs.Yteimeidpcgebkaa
end

section
namespace Go.Proofs.Yteimeidpcgebkaa
open Go.Sx
end Go.Proofs.Yteimeidpcgebkaa
end

section
namespace Go.Proofs.Yteimeidpcgebkaa
open Go.Sx
theorem wrap_id {n : Int} (h : 0 ≤ n ∧ n < 18446744073709551616) : IntKind.u64.wrap n = n := by
 unfold IntKind.wrap
 simp [IntKind.signed, IntKind.bits]
 omega
theorem limbs_int (a : Nat) : ((a % M256 : Nat) : Int) = limb a 0 + 18446744073709551616 * limb a 1 + 340282366920938463463374607431768211456 * limb a 2 + 6277101735386680763835789423207666416102355444464034512896 * limb a 3 := by
 obtain ⟨a0, a1, a2, a3, e0, e1, e2, e3, _, _, _, _, ha⟩ := split4 a
 rw [ha, e0, e1, e2, e3]
 omega
theorem mul_fin (a b : Nat) (c0 c1 c2 c3 c4 c5 c6 c7 : Int) (h0 : 0 ≤ c0 ∧ c0 < 18446744073709551616) (h1 : 0 ≤ c1 ∧ c1 < 18446744073709551616) (h2 : 0 ≤ c2 ∧ c2 < 18446744073709551616) (h3 : 0 ≤ c3 ∧ c3 < 18446744073709551616)
  (h4 : 0 ≤ c4 ∧ c4 < 18446744073709551616) (h5 : 0 ≤ c5 ∧ c5 < 18446744073709551616) (h6 : 0 ≤ c6 ∧ c6 < 18446744073709551616) (h7 : 0 ≤ c7 ∧ c7 < 18446744073709551616)
  (h : ((a % M256 : Nat) : Int) * ((b % M256 : Nat) : Int) = c0 + 18446744073709551616 * c1 + 340282366920938463463374607431768211456 * c2 + 6277101735386680763835789423207666416102355444464034512896 * c3 + 115792089237316195423570985008687907853269984665640564039457584007913129639936 * (c4 + 18446744073709551616 * c5 + 340282366920938463463374607431768211456 * c6 + 6277101735386680763835789423207666416102355444464034512896 * c7)) :
  join c0 c1 c2 c3 % M256 = a * b % M256 ∧ join c4 c5 c6 c7 % M256 = a % M256 * (b % M256) / M256 % M256 := by
 obtain ⟨c0, rfl⟩ := Int.eq_ofNat_of_zero_le h0.1
 obtain ⟨c1, rfl⟩ := Int.eq_ofNat_of_zero_le h1.1
 obtain ⟨c2, rfl⟩ := Int.eq_ofNat_of_zero_le h2.1
 obtain ⟨c3, rfl⟩ := Int.eq_ofNat_of_zero_le h3.1
 obtain ⟨c4, rfl⟩ := Int.eq_ofNat_of_zero_le h4.1
 obtain ⟨c5, rfl⟩ := Int.eq_ofNat_of_zero_le h5.1
 obtain ⟨c6, rfl⟩ := Int.eq_ofNat_of_zero_le h6.1
 obtain ⟨c7, rfl⟩ := Int.eq_ofNat_of_zero_le h7.1
 have hm := Nat.mul_mod a b M256
 rw [← Int.natCast_mul] at h
 generalize a % M256 * (b % M256) = g at h hm
 have e : g = join c0 c1 c2 c3 + M256 * join c4 c5 c6 c7 := by
  unfold join
  rw [M256_eq]
  simp only [Int.toNat_natCast, Nat.reducePow]
  omega
 have hlt : join c0 c1 c2 c3 < M256 := join_lt (by omega) (by omega) (by omega) (by omega)
 obtain ⟨k1, k2⟩ := divmod_of e hlt
 refine ⟨by rw [hm, k1, Nat.mod_eq_of_lt hlt], by rw [k2]⟩
theorem mac (X O P : Int) (hX : 0 ≤ X ∧ X ≤ 340282366920938463426481119284349108225) (hO : 0 ≤ O ∧ O < 18446744073709551616) (hP : 0 ≤ P ∧ P < 18446744073709551616) :
    X + O + P = (P + (X % 18446744073709551616 + O + 0) % 18446744073709551616 + 0) % 18446744073709551616 +
      18446744073709551616 * IntKind.u64.wrap (IntKind.u64.wrap (X / 18446744073709551616 + (X % 18446744073709551616 + O + 0) / 18446744073709551616) + (P + (X % 18446744073709551616 + O + 0) % 18446744073709551616 + 0) / 18446744073709551616) ∧
    (0 ≤ (P + (X % 18446744073709551616 + O + 0) % 18446744073709551616 + 0) % 18446744073709551616 ∧ (P + (X % 18446744073709551616 + O + 0) % 18446744073709551616 + 0) % 18446744073709551616 < 18446744073709551616) ∧
    (0 ≤ IntKind.u64.wrap (IntKind.u64.wrap (X / 18446744073709551616 + (X % 18446744073709551616 + O + 0) / 18446744073709551616) + (P + (X % 18446744073709551616 + O + 0) % 18446744073709551616 + 0) / 18446744073709551616) ∧
     IntKind.u64.wrap (IntKind.u64.wrap (X / 18446744073709551616 + (X % 18446744073709551616 + O + 0) / 18446744073709551616) + (P + (X % 18446744073709551616 + O + 0) % 18446744073709551616 + 0) / 18446744073709551616) < 18446744073709551616) := by
  have h1 : IntKind.u64.wrap (X / 18446744073709551616 + (X % 18446744073709551616 + O + 0) / 18446744073709551616) = X / 18446744073709551616 + (X % 18446744073709551616 + O + 0) / 18446744073709551616 := wrap_id (by omega)
  rw [h1, wrap_id (by omega)]
  omega
theorem limb_mul (a b : Nat) (i j : Nat) : 0 ≤ limb a i * limb b j ∧ limb a i * limb b j ≤ 340282366920938463426481119284349108225 := by
 have h1 := limb_nonneg a i
 have h2 := limb_nonneg b j
 have h3 := limb_lt a i
 have h4 := limb_lt b j
 refine ⟨Int.mul_nonneg h1 h2, ?_⟩
 have : limb a i * limb b j ≤ 18446744073709551615 * 18446744073709551615 := Int.mul_le_mul (by omega) (by omega) h2 (by decide)
 omega
theorem mul_weigh (a b c0 c1 c2 c3 c4 c5 c6 c7 : Int) (a0 a1 a2 a3 b0 b1 b2 b3 : Int) (ha : a = a0 + 18446744073709551616 * a1 + 340282366920938463463374607431768211456 * a2 + 6277101735386680763835789423207666416102355444464034512896 * a3)
  (hb : b = b0 + 18446744073709551616 * b1 + 340282366920938463463374607431768211456 * b2 + 6277101735386680763835789423207666416102355444464034512896 * b3)
  (h : a0 * b0 + 18446744073709551616 * (a0 * b1 + a1 * b0) + 340282366920938463463374607431768211456 * (a0 * b2 + a1 * b1 + a2 * b0) + 6277101735386680763835789423207666416102355444464034512896 * (a0 * b3 + a1 * b2 + a2 * b1 + a3 * b0) +
   115792089237316195423570985008687907853269984665640564039457584007913129639936 * (a1 * b3 + a2 * b2 + a3 * b1) + 2135987035920910082395021706169552114602704522356652769947041607822219725780640550022962086936576 * (a2 * b3 + a3 * b2) + 39402006196394479212279040100143613805079739270465446667948293404245721771497210611414266254884915640806627990306816 * (a3 * b3) =
   c0 + 18446744073709551616 * c1 + 340282366920938463463374607431768211456 * c2 + 6277101735386680763835789423207666416102355444464034512896 * c3 + 115792089237316195423570985008687907853269984665640564039457584007913129639936 * c4 + 2135987035920910082395021706169552114602704522356652769947041607822219725780640550022962086936576 * c5 + 39402006196394479212279040100143613805079739270465446667948293404245721771497210611414266254884915640806627990306816 * c6 + 726838724295606890549323807888004534353641360687318060281490199180639288113397923326191050713763565560762521606266177933534601628614656 * c7) :
  a * b = c0 + 18446744073709551616 * c1 + 340282366920938463463374607431768211456 * c2 + 6277101735386680763835789423207666416102355444464034512896 * c3 + 115792089237316195423570985008687907853269984665640564039457584007913129639936 * (c4 + 18446744073709551616 * c5 + 340282366920938463463374607431768211456 * c6 + 6277101735386680763835789423207666416102355444464034512896 * c7) := by
 subst ha hb
 simp only [Int.add_mul, Int.mul_add, Int.mul_assoc] at h ⊢
 have e : ∀ (x y : Int) (k : Int), x * (k * y) = k * (x * y) := fun x y k => Int.mul_left_comm x k y
 simp only [e a0, e a1, e a2, e a3] at h ⊢
 omega
set_option maxRecDepth 100000 in
theorem ok_Mul : ∀ a b, Owes Try.prog cxMul2 [] 100 Try.f82 [sU a, sU b] (mulG a b) := by
 intro a b
 rw [vc_Mul]
 have hm := limb_mul a b
 have h01 : (0 : Int) ≤ 1 := by decide
 have hz : (0 : Int) ≤ 0 ∧ (0 : Int) < 18446744073709551616 := by decide
 have hl : ∀ n i, (0 : Int) ≤ limb n i ∧ limb n i < 18446744073709551616 := fun n i => ⟨limb_nonneg n i, limb_lt n i⟩
 intro x1 x2 x3 x4 x5 x6 x7 x8 x9 x10 x11 x12 x13 x14 x15 x16 x17 x18 x19 x20 x21 x22 x23 x24 x25 x26 x27 x28 x29 x30 x31 x32 x33 x34 x35 x36 x37 x38 x39 x40 x41 x42 x43 x44 x45 x46 x47 x48 x49 x50 x51 x52 x53 x54 x55 x56 x57 x58 x59 x60 x61 x62 x63 x64 x65 x66 x67 x68 x69 x70 x71 x72 x73 x74 x75 x76 x77 x78 x79 x80 x81 x82 x83 x84 x85 x86 x87 x88 x89 x90 x91 x92 x93 x94 x95 x96 x97 x98 x99 x100 x101 x102 x103 x104 x105 x106 x107 x108 x109 x110 x111 x112
 obtain ⟨f0_0, p0_0, r0_0⟩ : x1 + 0 + 0 = x104 + 18446744073709551616 * x8 ∧ (0 ≤ x104 ∧ x104 < 18446744073709551616) ∧ (0 ≤ x8 ∧ x8 < 18446744073709551616) := mac x1 0 0 (hm 0 0) hz hz
 obtain ⟨f0_1, p0_1, r0_1⟩ : x5 + x8 + 0 = x25 + 18446744073709551616 * x14 ∧ (0 ≤ x25 ∧ x25 < 18446744073709551616) ∧ (0 ≤ x14 ∧ x14 < 18446744073709551616) := mac x5 x8 0 (hm 0 1) r0_0 hz
 obtain ⟨f0_2, p0_2, r0_2⟩ : x11 + x14 + 0 = x32 + 18446744073709551616 * x20 ∧ (0 ≤ x32 ∧ x32 < 18446744073709551616) ∧ (0 ≤ x20 ∧ x20 < 18446744073709551616) := mac x11 x14 0 (hm 0 2) r0_1 hz
 obtain ⟨f0_3, p0_3, r0_3⟩ : x17 + x20 + 0 = x40 + 18446744073709551616 * x47 ∧ (0 ≤ x40 ∧ x40 < 18446744073709551616) ∧ (0 ≤ x47 ∧ x47 < 18446744073709551616) := mac x17 x20 0 (hm 0 3) r0_2 hz
 obtain ⟨f1_0, p1_0, r1_0⟩ : x23 + 0 + x25 = x105 + 18446744073709551616 * x31 ∧ (0 ≤ x105 ∧ x105 < 18446744073709551616) ∧ (0 ≤ x31 ∧ x31 < 18446744073709551616) := mac x23 0 x25 (hm 1 0) hz p0_1
 obtain ⟨f1_1, p1_1, r1_1⟩ : x28 + x31 + x32 = x52 + 18446744073709551616 * x38 ∧ (0 ≤ x52 ∧ x52 < 18446744073709551616) ∧ (0 ≤ x38 ∧ x38 < 18446744073709551616) := mac x28 x31 x32 (hm 1 1) r1_0 p0_2
 obtain ⟨f1_2, p1_2, r1_2⟩ : x35 + x38 + x40 = x59 + 18446744073709551616 * x46 ∧ (0 ≤ x59 ∧ x59 < 18446744073709551616) ∧ (0 ≤ x46 ∧ x46 < 18446744073709551616) := mac x35 x38 x40 (hm 1 2) r1_1 p0_3
 obtain ⟨f1_3, p1_3, r1_3⟩ : x43 + x46 + x47 = x67 + 18446744073709551616 * x74 ∧ (0 ≤ x67 ∧ x67 < 18446744073709551616) ∧ (0 ≤ x74 ∧ x74 < 18446744073709551616) := mac x43 x46 x47 (hm 1 3) r1_2 r0_3
 obtain ⟨f2_0, p2_0, r2_0⟩ : x50 + 0 + x52 = x106 + 18446744073709551616 * x58 ∧ (0 ≤ x106 ∧ x106 < 18446744073709551616) ∧ (0 ≤ x58 ∧ x58 < 18446744073709551616) := mac x50 0 x52 (hm 2 0) hz p1_1
 obtain ⟨f2_1, p2_1, r2_1⟩ : x55 + x58 + x59 = x79 + 18446744073709551616 * x65 ∧ (0 ≤ x79 ∧ x79 < 18446744073709551616) ∧ (0 ≤ x65 ∧ x65 < 18446744073709551616) := mac x55 x58 x59 (hm 2 1) r2_0 p1_2
 obtain ⟨f2_2, p2_2, r2_2⟩ : x62 + x65 + x67 = x86 + 18446744073709551616 * x73 ∧ (0 ≤ x86 ∧ x86 < 18446744073709551616) ∧ (0 ≤ x73 ∧ x73 < 18446744073709551616) := mac x62 x65 x67 (hm 2 2) r2_1 p1_3
 obtain ⟨f2_3, p2_3, r2_3⟩ : x70 + x73 + x74 = x94 + 18446744073709551616 * x101 ∧ (0 ≤ x94 ∧ x94 < 18446744073709551616) ∧ (0 ≤ x101 ∧ x101 < 18446744073709551616) := mac x70 x73 x74 (hm 2 3) r2_2 r1_3
 obtain ⟨f3_0, p3_0, r3_0⟩ : x77 + 0 + x79 = x107 + 18446744073709551616 * x85 ∧ (0 ≤ x107 ∧ x107 < 18446744073709551616) ∧ (0 ≤ x85 ∧ x85 < 18446744073709551616) := mac x77 0 x79 (hm 3 0) hz p2_1
 obtain ⟨f3_1, p3_1, r3_1⟩ : x82 + x85 + x86 = x108 + 18446744073709551616 * x92 ∧ (0 ≤ x108 ∧ x108 < 18446744073709551616) ∧ (0 ≤ x92 ∧ x92 < 18446744073709551616) := mac x82 x85 x86 (hm 3 1) r3_0 p2_2
 obtain ⟨f3_2, p3_2, r3_2⟩ : x89 + x92 + x94 = x109 + 18446744073709551616 * x100 ∧ (0 ≤ x109 ∧ x109 < 18446744073709551616) ∧ (0 ≤ x100 ∧ x100 < 18446744073709551616) := mac x89 x92 x94 (hm 3 2) r3_1 p2_3
 obtain ⟨f3_3, p3_3, r3_3⟩ : x97 + x100 + x101 = x111 + 18446744073709551616 * x112 ∧ (0 ≤ x111 ∧ x111 < 18446744073709551616) ∧ (0 ≤ x112 ∧ x112 < 18446744073709551616) := mac x97 x100 x101 (hm 3 3) r3_2 r2_3
 have n_x2 : 0 ≤ x2 := Int.emod_nonneg _ (by decide)
 have n_x4 : 0 ≤ x4 := Int.emod_nonneg _ (by decide)
 have n_x6 : 0 ≤ x6 := Int.emod_nonneg _ (by decide)
 have n_x10 : 0 ≤ x10 := Int.emod_nonneg _ (by decide)
 have n_x12 : 0 ≤ x12 := Int.emod_nonneg _ (by decide)
 have n_x16 : 0 ≤ x16 := Int.emod_nonneg _ (by decide)
 have n_x18 : 0 ≤ x18 := Int.emod_nonneg _ (by decide)
 have n_x22 : 0 ≤ x22 := Int.emod_nonneg _ (by decide)
 have n_x24 : 0 ≤ x24 := Int.emod_nonneg _ (by decide)
 have n_x25 : 0 ≤ x25 := Int.emod_nonneg _ (by decide)
 have n_x27 : 0 ≤ x27 := Int.emod_nonneg _ (by decide)
 have n_x29 : 0 ≤ x29 := Int.emod_nonneg _ (by decide)
 have n_x32 : 0 ≤ x32 := Int.emod_nonneg _ (by decide)
 have n_x34 : 0 ≤ x34 := Int.emod_nonneg _ (by decide)
 have n_x36 : 0 ≤ x36 := Int.emod_nonneg _ (by decide)
 have n_x40 : 0 ≤ x40 := Int.emod_nonneg _ (by decide)
 have n_x42 : 0 ≤ x42 := Int.emod_nonneg _ (by decide)
 have n_x44 : 0 ≤ x44 := Int.emod_nonneg _ (by decide)
 have n_x49 : 0 ≤ x49 := Int.emod_nonneg _ (by decide)
 have n_x51 : 0 ≤ x51 := Int.emod_nonneg _ (by decide)
 have n_x52 : 0 ≤ x52 := Int.emod_nonneg _ (by decide)
 have n_x54 : 0 ≤ x54 := Int.emod_nonneg _ (by decide)
 have n_x56 : 0 ≤ x56 := Int.emod_nonneg _ (by decide)
 have n_x59 : 0 ≤ x59 := Int.emod_nonneg _ (by decide)
 have n_x61 : 0 ≤ x61 := Int.emod_nonneg _ (by decide)
 have n_x63 : 0 ≤ x63 := Int.emod_nonneg _ (by decide)
 have n_x67 : 0 ≤ x67 := Int.emod_nonneg _ (by decide)
 have n_x69 : 0 ≤ x69 := Int.emod_nonneg _ (by decide)
 have n_x71 : 0 ≤ x71 := Int.emod_nonneg _ (by decide)
 have n_x76 : 0 ≤ x76 := Int.emod_nonneg _ (by decide)
 have n_x78 : 0 ≤ x78 := Int.emod_nonneg _ (by decide)
 have n_x79 : 0 ≤ x79 := Int.emod_nonneg _ (by decide)
 have n_x81 : 0 ≤ x81 := Int.emod_nonneg _ (by decide)
 have n_x83 : 0 ≤ x83 := Int.emod_nonneg _ (by decide)
 have n_x86 : 0 ≤ x86 := Int.emod_nonneg _ (by decide)
 have n_x88 : 0 ≤ x88 := Int.emod_nonneg _ (by decide)
 have n_x90 : 0 ≤ x90 := Int.emod_nonneg _ (by decide)
 have n_x94 : 0 ≤ x94 := Int.emod_nonneg _ (by decide)
 have n_x96 : 0 ≤ x96 := Int.emod_nonneg _ (by decide)
 have n_x98 : 0 ≤ x98 := Int.emod_nonneg _ (by decide)
 have n_x103 : 0 ≤ x103 := Int.emod_nonneg _ (by decide)
 have n_x104 : 0 ≤ x104 := Int.emod_nonneg _ (by decide)
 have n_x105 : 0 ≤ x105 := Int.emod_nonneg _ (by decide)
 have n_x106 : 0 ≤ x106 := Int.emod_nonneg _ (by decide)
 have n_x107 : 0 ≤ x107 := Int.emod_nonneg _ (by decide)
 have n_x108 : 0 ≤ x108 := Int.emod_nonneg _ (by decide)
 have n_x109 : 0 ≤ x109 := Int.emod_nonneg _ (by decide)
 have n_x111 : 0 ≤ x111 := Int.emod_nonneg _ (by decide)
 have g0_0 : limb a 0 * limb b 0 = x1 := rfl
 have g0_1 : limb a 0 * limb b 1 = x5 := rfl
 have g0_2 : limb a 0 * limb b 2 = x11 := rfl
 have g0_3 : limb a 0 * limb b 3 = x17 := rfl
 have g1_0 : limb a 1 * limb b 0 = x23 := rfl
 have g1_1 : limb a 1 * limb b 1 = x28 := rfl
 have g1_2 : limb a 1 * limb b 2 = x35 := rfl
 have g1_3 : limb a 1 * limb b 3 = x43 := rfl
 have g2_0 : limb a 2 * limb b 0 = x50 := rfl
 have g2_1 : limb a 2 * limb b 1 = x55 := rfl
 have g2_2 : limb a 2 * limb b 2 = x62 := rfl
 have g2_3 : limb a 2 * limb b 3 = x70 := rfl
 have g3_0 : limb a 3 * limb b 0 = x77 := rfl
 have g3_1 : limb a 3 * limb b 1 = x82 := rfl
 have g3_2 : limb a 3 * limb b 2 = x89 := rfl
 have g3_3 : limb a 3 * limb b 3 = x97 := rfl
 clear_value x112 x111 x110 x109 x108 x107 x106 x105 x104 x103 x102 x101 x100 x99 x98 x97 x96 x95 x94 x93 x92 x91 x90 x89 x88 x87 x86 x85 x84 x83 x82 x81 x80 x79 x78 x77 x76 x75 x74 x73 x72 x71 x70 x69 x68 x67 x66 x65 x64 x63 x62 x61 x60 x59 x58 x57 x56 x55 x54 x53 x52 x51 x50 x49 x48 x47 x46 x45 x44 x43 x42 x41 x40 x39 x38 x37 x36 x35 x34 x33 x32 x31 x30 x29 x28 x27 x26 x25 x24 x23 x22 x21 x20 x19 x18 x17 x16 x15 x14 x13 x12 x11 x10 x9 x8 x7 x6 x5 x4 x3 x2 x1
 have hw := mul_weigh ((a % M256 : Nat) : Int) ((b % M256 : Nat) : Int) x104 x105 x106 x107 x108 x109 x111 x112 (limb a 0) (limb a 1) (limb a 2) (limb a 3) (limb b 0) (limb b 1) (limb b 2) (limb b 3) (limbs_int a) (limbs_int b)
  (by rw [g0_0, g0_1, g0_2, g0_3, g1_0, g1_1, g1_2, g1_3, g2_0, g2_1, g2_2, g2_3, g3_0, g3_1, g3_2, g3_3]; clear hm hl n_x2 n_x4 n_x6 n_x10 n_x12 n_x16 n_x18 n_x22 n_x24 n_x25 n_x27 n_x29 n_x32 n_x34 n_x36 n_x40 n_x42 n_x44 n_x49 n_x51 n_x52 n_x54 n_x56 n_x59 n_x61 n_x63 n_x67 n_x69 n_x71 n_x76 n_x78 n_x79 n_x81 n_x83 n_x86 n_x88 n_x90 n_x94 n_x96 n_x98 n_x103 n_x104 n_x105 n_x106 n_x107 n_x108 n_x109 n_x111; omega)
 obtain ⟨q1, q2⟩ := mul_fin a b x104 x105 x106 x107 x108 x109 x111 x112 p0_0 p1_0 p2_0 p3_0 p3_1 p3_2 p3_3 r3_3 hw
 have o_x8 := r0_0.1
 have o_x14 := r0_1.1
 have o_x20 := r0_2.1
 have o_x47 := r0_3.1
 have o_x31 := r1_0.1
 have o_x38 := r1_1.1
 have o_x46 := r1_2.1
 have o_x74 := r1_3.1
 have o_x58 := r2_0.1
 have o_x65 := r2_1.1
 have o_x73 := r2_2.1
 have o_x101 := r2_3.1
 have o_x85 := r3_0.1
 have o_x92 := r3_1.1
 have o_x100 := r3_2.1
 have o_x112 := r3_3.1
 exact ⟨⟨(limb_nonneg _ _), (limb_lt _ _)⟩, ⟨(limb_nonneg _ _), (limb_lt _ _)⟩, n_x2, hz.1, ⟨hz.1, h01⟩, hz.1, n_x4, ⟨hz.1, h01⟩, ⟨(limb_nonneg _ _), (limb_lt _ _)⟩, ⟨(limb_nonneg _ _), (limb_lt _ _)⟩, n_x6, r0_0.1, ⟨hz.1, h01⟩, hz.1, n_x10, ⟨hz.1, h01⟩, ⟨(limb_nonneg _ _), (limb_lt _ _)⟩, ⟨(limb_nonneg _ _), (limb_lt _ _)⟩, n_x12, r0_1.1, ⟨hz.1, h01⟩, hz.1, n_x16, ⟨hz.1, h01⟩, ⟨(limb_nonneg _ _), (limb_lt _ _)⟩, ⟨(limb_nonneg _ _), (limb_lt _ _)⟩, n_x18, r0_2.1, ⟨hz.1, h01⟩, hz.1, n_x22, ⟨hz.1, h01⟩, ⟨(limb_nonneg _ _), (limb_lt _ _)⟩, ⟨(limb_nonneg _ _), (limb_lt _ _)⟩, n_x24, hz.1, ⟨hz.1, h01⟩, p0_1.1, n_x27, ⟨hz.1, h01⟩, ⟨(limb_nonneg _ _), (limb_lt _ _)⟩, ⟨(limb_nonneg _ _), (limb_lt _ _)⟩, n_x29, r1_0.1, ⟨hz.1, h01⟩, p0_2.1, n_x34, ⟨hz.1, h01⟩, ⟨(limb_nonneg _ _), (limb_lt _ _)⟩, ⟨(limb_nonneg _ _), (limb_lt _ _)⟩, n_x36, r1_1.1, ⟨hz.1, h01⟩, p0_3.1, n_x42, ⟨hz.1, h01⟩, ⟨(limb_nonneg _ _), (limb_lt _ _)⟩, ⟨(limb_nonneg _ _), (limb_lt _ _)⟩, n_x44, r1_2.1, ⟨hz.1, h01⟩, r0_3.1, n_x49, ⟨hz.1, h01⟩, ⟨(limb_nonneg _ _), (limb_lt _ _)⟩, ⟨(limb_nonneg _ _), (limb_lt _ _)⟩, n_x51, hz.1, ⟨hz.1, h01⟩, p1_1.1, n_x54, ⟨hz.1, h01⟩, ⟨(limb_nonneg _ _), (limb_lt _ _)⟩, ⟨(limb_nonneg _ _), (limb_lt _ _)⟩, n_x56, r2_0.1, ⟨hz.1, h01⟩, p1_2.1, n_x61, ⟨hz.1, h01⟩, ⟨(limb_nonneg _ _), (limb_lt _ _)⟩, ⟨(limb_nonneg _ _), (limb_lt _ _)⟩, n_x63, r2_1.1, ⟨hz.1, h01⟩, p1_3.1, n_x69, ⟨hz.1, h01⟩, ⟨(limb_nonneg _ _), (limb_lt _ _)⟩, ⟨(limb_nonneg _ _), (limb_lt _ _)⟩, n_x71, r2_2.1, ⟨hz.1, h01⟩, r1_3.1, n_x76, ⟨hz.1, h01⟩, ⟨(limb_nonneg _ _), (limb_lt _ _)⟩, ⟨(limb_nonneg _ _), (limb_lt _ _)⟩, n_x78, hz.1, ⟨hz.1, h01⟩, p2_1.1, n_x81, ⟨hz.1, h01⟩, ⟨(limb_nonneg _ _), (limb_lt _ _)⟩, ⟨(limb_nonneg _ _), (limb_lt _ _)⟩, n_x83, r3_0.1, ⟨hz.1, h01⟩, p2_2.1, n_x88, ⟨hz.1, h01⟩, ⟨(limb_nonneg _ _), (limb_lt _ _)⟩, ⟨(limb_nonneg _ _), (limb_lt _ _)⟩, n_x90, r3_1.1, ⟨hz.1, h01⟩, p2_3.1, n_x96, ⟨hz.1, h01⟩, ⟨(limb_nonneg _ _), (limb_lt _ _)⟩, ⟨(limb_nonneg _ _), (limb_lt _ _)⟩, n_x98, r3_2.1, ⟨hz.1, h01⟩, r2_3.1, n_x103, ⟨hz.1, h01⟩, ⟨⟨p0_0.1, p0_0.2⟩, ⟨p1_0.1, p1_0.2⟩, ⟨p2_0.1, p2_0.2⟩, ⟨p3_0.1, p3_0.2⟩, q1, trivial⟩, ⟨p3_1.1, p3_1.2⟩, ⟨p3_2.1, p3_2.2⟩, ⟨p3_3.1, p3_3.2⟩, ⟨r3_3.1, r3_3.2⟩, q2, trivial⟩
end Go.Proofs.Yteimeidpcgebkaa
end

section
namespace Go.Proofs.Yteimeidpcgebkaa
open Go.Sx
theorem times_step (l n c : Nat) (hl : l < 18446744073709551616) (hn : n < 18446744073709551616) (hc : c < 18446744073709551616) :
  ∃ s d : Nat, ((l : Int) * n % 18446744073709551616 + c + 0) % 18446744073709551616 = s ∧ IntKind.u64.wrap ((l : Int) * n / 18446744073709551616 + ((l : Int) * n % 18446744073709551616 + c + 0) / 18446744073709551616) = d ∧
   s < 18446744073709551616 ∧ d < 18446744073709551616 ∧ l * n + c = s + 18446744073709551616 * d := by
 have hm : l * n ≤ 18446744073709551615 * 18446744073709551615 := Nat.mul_le_mul (by omega) (by omega)
 have e : (l : Int) * n = ((l * n : Nat) : Int) := (Int.natCast_mul l n).symm
 rw [e]
 generalize l * n = g at *
 refine ⟨(g + c) % 18446744073709551616, (g + c) / 18446744073709551616, by omega, ?_, by omega, by omega, by omega⟩
 rw [wrap_id (by omega)]
 omega
theorem ok_times : ∀ a n, 0 ≤ n ∧ n < 18446744073709551616 → Owes Try.prog cxTimes2 [] 100 Try.f87 [sU a, sI .u64 n] (timesG a n) := by
 intro a n hn
 rw [vc_times]
 obtain ⟨q, rfl⟩ := Int.eq_ofNat_of_zero_le hn.1
 have hq : q < 18446744073709551616 := by omega
 intro x1 x2 x3 x4 x5 x6 x7 x8 x9 x10 x11 x12 x13 x14 x15 x16 x17 x18 x19
 obtain ⟨a0, a1, a2, a3, e0, e1, e2, e3, h0, h1, h2, h3, ha⟩ := split4 a
 obtain ⟨s0, d0, p0, q0, r0, t0, w0⟩ := times_step a0 q 0 h0 hq (by omega)
 obtain ⟨s1, d1, p1, q1, r1, t1, w1⟩ := times_step a1 q d0 h1 hq t0
 obtain ⟨s2, d2, p2, q2, r2, t2, w2⟩ := times_step a2 q d1 h2 hq t1
 obtain ⟨s3, d3, p3, q3, r3, t3, w3⟩ := times_step a3 q d2 h3 hq t2
 have m15 : x15 = s0 := by simp only [x15, x5, x2, x1, e0]; exact p0
 have m6 : x6 = d0 := by simp only [x6, x5, x2, x1, e0]; exact q0
 have m17 : x16 = s1 := by simp only [x16, x9, x4, x3, m6, e1]; exact p1
 have m10 : x10 = d1 := by simp only [x10, x9, x4, x3, m6, e1]; exact q1
 have m18 : x17 = s2 := by simp only [x17, x13, x8, x7, m10, e2]; exact p2
 have m14 : x14 = d2 := by simp only [x14, x13, x8, x7, m10, e2]; exact q2
 have m20 : x19 = s3 := by simp only [x19, x18, x12, x11, m14, e3]; exact p3
 have m21 : IntKind.u64.wrap (x11 / 18446744073709551616 + x18 / 18446744073709551616) = d3 := by simp only [x18, x12, x11, m14, e3]; exact q3
 have n2 : 0 ≤ x2 := Int.emod_nonneg _ (by decide)
 have n4 : 0 ≤ x4 := Int.emod_nonneg _ (by decide)
 have n8 : 0 ≤ x8 := Int.emod_nonneg _ (by decide)
 have n12 : 0 ≤ x12 := Int.emod_nonneg _ (by decide)
 clear_value x19 x18 x17 x16 x15 x14 x13 x12 x11 x10 x9 x8 x7 x6 x5 x4 x3 x2 x1
 have key : a % M256 * q = s0 + 18446744073709551616 * s1 + 340282366920938463463374607431768211456 * s2 + 6277101735386680763835789423207666416102355444464034512896 * s3 + M256 * d3 := by
  have e : a % M256 * q = a0 * q + 18446744073709551616 * (a1 * q) + 340282366920938463463374607431768211456 * (a2 * q) + 6277101735386680763835789423207666416102355444464034512896 * (a3 * q) := by
   rw [ha, Nat.add_mul, Nat.add_mul, Nat.add_mul, Nat.mul_assoc, Nat.mul_assoc, Nat.mul_assoc]
  rw [e, M256_eq]
  generalize a0 * q = g0 at *
  generalize a1 * q = g1 at *
  generalize a2 * q = g2 at *
  generalize a3 * q = g3 at *
  omega
 have hlt : s0 + 18446744073709551616 * s1 + 340282366920938463463374607431768211456 * s2 + 6277101735386680763835789423207666416102355444464034512896 * s3 < M256 := by
  rw [M256_eq]; omega
 have hmod : a * q % M256 = (a % M256 * q) % M256 := by rw [Nat.mod_mul_mod]
 rw [m21, m15, m17, m18, m20, m6, m10, m14, e0, e1, e2, e3]
 simp only [Int.toNat_natCast]
 refine ⟨by omega, by omega, n2, by omega, by omega, by omega, by omega, n4, by omega, by omega, by omega, by omega, n8, by omega, by omega, by omega, by omega, n12, by omega, by omega, ⟨by omega, by omega, by omega, by omega, ?_, trivial⟩, ?_⟩
 ·rw [hmod, key, Nat.add_mul_mod_self_left]
  rfl
 ·rw [key, Nat.add_mul_div_left _ _ (by rw [M256_eq]; decide), Nat.div_eq_of_lt hlt, Nat.zero_add]
end Go.Proofs.Yteimeidpcgebkaa
end

section
namespace Go.Proofs.Yteimeidpcgebkaa
open Go.Sx
theorem and_low (p : Nat) (hp : p < 18446744073709551616) : (BitVec.ofInt 64 (p : Int) &&& BitVec.ofInt 64 (4294967295 : Int)).toNat = p % 4294967296 := by
 have h1 : (BitVec.ofInt 64 (p : Int)).toNat = p := by
  rw [BitVec.toNat_ofInt]
  omega
 have h2 : (BitVec.ofInt 64 (4294967295 : Int)).toNat = 2 ^ 32 - 1 := by decide
 rw [BitVec.toNat_and, h1, h2, Nat.and_two_pow_sub_one_eq_mod]
theorem fdiv_low (p : Nat) : (p : Int).fdiv 4294967296 = ((p / 4294967296 : Nat) : Int) := by
 rw [Int.fdiv_eq_ediv_of_nonneg _ (show (0 : Int) ≤ 4294967296 by decide)]; rfl
theorem wrap_natP {n : Nat} (h : n < 18446744073709551616) : IntKind.u64.wrap (n : Int) = n := wrap_id ⟨Int.natCast_nonneg _, Int.ofNat_lt.2 h⟩
theorem ok_Mul64 : ∀ a b, w64ok a → w64ok b → Owes Try.prog Cx.none [] 100 Try.f90 [sI .u64 a, sI .u64 b] (mul64G a b) := by
 intro a b ha hb
 rw [vc_Mul64]
 obtain ⟨p, rfl⟩ := Int.eq_ofNat_of_zero_le ha.1
 obtain ⟨q, rfl⟩ := Int.eq_ofNat_of_zero_le hb.1
 have hp : p < 18446744073709551616 := Int.ofNat_lt.1 ha.2
 have hq : q < 18446744073709551616 := Int.ofNat_lt.1 hb.2
 intro x1 x2 x3
 have e1 : x1 = ((q % 4294967296 : Nat) : Int) := by simp only [x1]; rw [and_low q hq]; exact wrap_natP (by omega)
 obtain ⟨m1, m2, m3, m4⟩ := Lib.mul64_hi p q hp hq
 have e2 : x2 = (((p / 4294967296) * (q % 4294967296) + (p % 4294967296) * (q % 4294967296) / 4294967296 : Nat) : Int) := by
  simp only [x2, e1]
  rw [fdiv_low, and_low p hp, wrap_natP (show p % 4294967296 < 18446744073709551616 by omega), ← Int.natCast_mul, ← Int.natCast_mul, wrap_natP m1, fdiv_low]
  have : (p / 4294967296) * (q % 4294967296) < 18446744073709551616 := Nat.lt_of_le_of_lt (Nat.le_add_right _ _) m2
  rw [wrap_natP this, ← Int.natCast_add, wrap_natP m2]
 have e3 : x3 = ((p * q : Nat) : Int) := (Int.natCast_mul p q).symm
 have hpq : p * q / 18446744073709551616 < 18446744073709551616 := by
  have : p * q ≤ 18446744073709551615 * 18446744073709551615 := Nat.mul_le_mul (by omega) (by omega)
  omega
 clear_value x3 x2 x1
 subst e1 e2 e3
 constructor
 ·rw [fdiv_low, fdiv_low, fdiv_low, and_low p hp, and_low _ m2, wrap_natP (show p % 4294967296 < 18446744073709551616 by omega), ← Int.natCast_mul, ← Int.natCast_mul]
  have k1 : (p / 4294967296) * (q / 4294967296) < 18446744073709551616 := by rw [← m4] at hpq; omega
  have k2 : (p % 4294967296) * (q / 4294967296) < 18446744073709551616 := Nat.lt_of_le_of_lt (Nat.le_add_left _ _) m3
  rw [wrap_natP k1, wrap_natP k2, wrap_natP (show _ % 4294967296 < 18446744073709551616 by omega), ← Int.natCast_add, ← Int.natCast_add, wrap_natP m3, fdiv_low]
  have k3 : (p / 4294967296) * (q / 4294967296) + ((p / 4294967296) * (q % 4294967296) + (p % 4294967296) * (q % 4294967296) / 4294967296) / 4294967296 < 18446744073709551616 := by rw [← m4] at hpq; exact Nat.lt_of_le_of_lt (Nat.le_add_right _ _) hpq
  rw [wrap_natP k3, ← Int.natCast_add, m4, wrap_natP hpq]
  rfl
 ·unfold IntKind.wrap
  simp [IntKind.signed, IntKind.bits]
end Go.Proofs.Yteimeidpcgebkaa
end

section
namespace Go.Proofs.Yteimeidpcgebkaa
open Go.Sx
end Go.Proofs.Yteimeidpcgebkaa
end

section
namespace Go.Proofs.Yteimeidpcgebkaa
open Go.Sx
end Go.Proofs.Yteimeidpcgebkaa
end

section
namespace Go.Proofs.Yteimeidpcgebkaa
open Go.Sx
theorem CxOK_nil : CxOK Try.prog Cx.none := ⟨fun _ h => (by cases h), fun _ h => (by cases h)⟩
theorem CxOK_wnil {gl : Globs} : CxOK Try.prog ⟨[], gl, 0, []⟩ := ⟨fun _ h => (by cases h), fun _ h => (by cases h)⟩
theorem CxOK_cons {f : Nat} {s : FSpec} {l : List (Nat × FSpec)} {gl : Globs} {wf : List (Nat × WSpec)} (h : FnOKg Try.prog gl f s) (hs : CxOK Try.prog ⟨l, gl, 0, wf⟩) : CxOK Try.prog ⟨(f, s) :: l, gl, 0, wf⟩ := by
 refine ⟨fun p hp => ?_, hs.2⟩
 rcases List.mem_cons.1 hp with rfl | hp
 ·exact h
 ·exact hs.1 p hp
theorem CxOK_wcons {f : Nat} {s : WSpec} {gl : Globs} {wf : List (Nat × WSpec)} (h : FnOKw Try.prog gl f s) (hs : CxOK Try.prog ⟨[], gl, 0, wf⟩) : CxOK Try.prog ⟨[], gl, 0, (f, s) :: wf⟩ := by
 refine ⟨hs.1, fun p hp => ?_⟩
 rcases List.mem_cons.1 hp with rfl | hp
 ·exact h
 ·exact hs.2 p hp
theorem bnd_U (n : Nat) : SA.bnd none0 (sU n) := by
 intro k hk; simp only [List.mem_singleton] at hk; subst hk; trivial
theorem bnd_I (k : IntKind) (n : Int) : SA.bnd none0 (sI k n) := trivial
theorem bnd_B (b : Bool) : SA.bnd none0 (sB b) := trivial
theorem bnd_one {x : SA} (h : x.bnd none0) : SV.bnd none0 (.one x) := h
theorem bnd_two {x y : SA} (h : x.bnd none0) (h' : y.bnd none0) : SV.bnd none0 (.tup [x, y]) := by
 intro z hz
 simp only [List.mem_cons, List.not_mem_nil, or_false] at hz
 rcases hz with rfl | rfl
 ·exact h
 ·exact h'
theorem card_Add64 : FnOK Try.prog 76 specAdd64 := FnOK_add64 Try.func76 (by kernel_rfl) (by kernel_rfl) (by kernel_rfl) (by kernel_rfl)
theorem card_Sub64 : FnOK Try.prog 97 specSub64 := FnOK_sub64 Try.func97 (by kernel_rfl) (by kernel_rfl) (by kernel_rfl) (by kernel_rfl)
theorem cxok_plus : CxOK Try.prog cxPlus := CxOK_cons card_Add64 CxOK_nil
theorem card_plus : FnOK Try.prog 62 (specUU plusG) :=
 FnOK_UU cxok_plus (iv := []) (N := 100) Try.func62 (by kernel_rfl) (by kernel_rfl) (fun a b => by unfold plusG; exact bnd_two (bnd_U _) (bnd_I _ _)) ok_plus
theorem cxok_less : CxOK Try.prog cxLess := CxOK_cons card_Sub64 CxOK_nil
theorem card_less : FnOK Try.prog 88 (specUU lessG) :=
 FnOK_UU cxok_less (iv := []) (N := 100) Try.func88 (by kernel_rfl) (by kernel_rfl) (fun a b => by unfold lessG; exact bnd_two (bnd_U _) (bnd_I _ _)) ok_less
theorem cxok_Add : CxOK Try.prog cxAdd := CxOK_cons card_plus CxOK_nil
theorem card_Add : FnOK Try.prog 46 (specUU addG) :=
 FnOK_UU cxok_Add (iv := []) (N := 100) Try.func46 (by kernel_rfl) (by kernel_rfl) (fun a b => by unfold addG; exact bnd_two (bnd_U _) (bnd_B _)) ok_Add
theorem cxok_Sub : CxOK Try.prog cxSub := CxOK_cons card_less CxOK_nil
theorem card_Sub : FnOK Try.prog 79 (specUU subG) :=
 FnOK_UU cxok_Sub (iv := []) (N := 100) Try.func79 (by kernel_rfl) (by kernel_rfl) (fun a b => by unfold subG; exact bnd_two (bnd_U _) (bnd_B _)) ok_Sub
theorem card_Cmp : FnOK Try.prog 22 (specUU cmpG) :=
 FnOK_UU CxOK_nil (iv := []) (N := 100) Try.func22 (by kernel_rfl) (by kernel_rfl) (fun a b => by unfold cmpG; exact bnd_one (bnd_I _ _)) ok_Cmp
end Go.Proofs.Yteimeidpcgebkaa
end

section
namespace Go.Proofs.Yteimeidpcgebkaa
open Go.Sx
theorem card_Mul64 : FnOK Try.prog 90 (specWW mul64G) :=
 FnOK_WW CxOK_nil (iv := []) (N := 100) Try.func90 (by kernel_rfl) (by kernel_rfl) (fun a b => by unfold mul64G; exact bnd_two (bnd_I _ _) (bnd_I _ _)) ok_Mul64
theorem cxok_times : CxOK Try.prog cxTimes2 := CxOK_cons card_Mul64 (CxOK_cons card_Add64 CxOK_nil)
theorem card_times : FnOK Try.prog 87 (specUI timesG) :=
 FnOK_UI cxok_times (iv := []) (N := 100) Try.func87 (by kernel_rfl) (by kernel_rfl) (fun a n => by unfold timesG; exact bnd_two (bnd_U _) (bnd_I _ _)) ok_times
theorem cxok_Mul : CxOK Try.prog cxMul2 := CxOK_cons card_Mul64 (CxOK_cons card_Add64 CxOK_nil)
theorem card_Mul : FnOK Try.prog 82 (specUU mulG) :=
 FnOK_UU cxok_Mul (iv := []) (N := 100) Try.func82 (by kernel_rfl) (by kernel_rfl) (fun a b => by unfold mulG; exact bnd_two (bnd_U _) (bnd_U _)) ok_Mul
end Go.Proofs.Yteimeidpcgebkaa
end

section
namespace Go.Proofs.Yteimeidpcgebkaa
open Go.Sx
theorem u8_wrap (n : Nat) : IntKind.u8.wrap (n : Int) = ((n % 256 : Nat) : Int) := by
 unfold IntKind.wrap
 simp [IntKind.signed, IntKind.bits]
end Go.Proofs.Yteimeidpcgebkaa
end

section
namespace Go.Proofs.Yteimeidpcgebkaa
open Go.Sx
theorem table_len : ∀ m : Fin 256, ((lit_650f3990.data.getD m.val 0).toNat : Int) = if m.val = 0 then 0 else ((Nat.log2 m.val + 1 : Nat) : Int) := by decide +kernel
theorem log2_shift (n k : Nat) (h : 1 ≤ n / 2 ^ k) : Nat.log2 n = k + Nat.log2 (n / 2 ^ k) := by
 have hp : 0 < 2 ^ k := Nat.two_pow_pos k
 have hn : n ≠ 0 := by rintro rfl; simp at h
 have hm : n / 2 ^ k ≠ 0 := by omega
 obtain ⟨a, b⟩ := (Nat.log2_eq_iff hm).1 rfl
 rw [Nat.log2_eq_iff hn]
 rw [Nat.le_div_iff_mul_le hp] at a
 rw [Nat.div_lt_iff_lt_mul hp] at b
 refine ⟨by rw [Nat.pow_add, Nat.mul_comm]; exact a, ?_⟩
 have : 2 ^ (k + (n / 2 ^ k).log2 + 1) = 2 ^ ((n / 2 ^ k).log2 + 1) * 2 ^ k := by rw [← Nat.pow_add]; congr 1; omega
 rw [this]; exact b
theorem u8_small (m : Nat) (h : m < 256) : IntKind.u8.wrap (m : Int) = m := by rw [u8_wrap, Nat.mod_eq_of_lt h]
theorem lenN_le (n : Nat) (h : n < 18446744073709551616) : 0 ≤ lenN n ∧ lenN n ≤ 64 := by
 unfold lenN
 rw [Int.toNat_natCast]
 split
 ·decide
 ·rename_i h0
  have := (Nat.log2_lt h0 (k := 64)).2 (by omega)
  omega
theorem len_leaf (n k : Nat) (c : Int) (m : Nat) (hc : c = k) (hk : k ≤ 56) (hm : m = n / 2 ^ k) (h : m < 256) (h1 : k = 0 ∨ 1 ≤ m) (hn : n < 18446744073709551616) :
  (0 ≤ IntKind.u8.wrap (m : Int) ∧ (IntKind.u8.wrap (m : Int)).toNat < 256) ∧ IntKind.i64.wrap (c + IntKind.i64.wrap ((lit_650f3990.data.getD (IntKind.u8.wrap (m : Int)).toNat 0).toNat : Int)) = lenN n := by
 rw [u8_small m h, Int.toNat_natCast]
 refine ⟨⟨by omega, h⟩, ?_⟩
 have ht := table_len ⟨m, h⟩
 simp only at ht
 rw [ht]
 have hl : lenN n = c + if m = 0 then 0 else ((Nat.log2 m + 1 : Nat) : Int) := by
  unfold lenN
  rw [Int.toNat_natCast, hc]
  rcases h1 with rfl | h1
  ·rw [Nat.pow_zero, Nat.div_one] at hm
   subst hm
   simp
  ·have hn0 : n ≠ 0 := by rintro rfl; simp at hm; omega
   rw [if_neg hn0, if_neg (by omega), log2_shift n k (by omega), ← hm]
   omega
 have hb := lenN_le n hn
 rw [hl] at hb ⊢
 have hi : 0 ≤ (if m = 0 then 0 else ((Nat.log2 m + 1 : Nat) : Int)) := by split <;> omega
 have e1 := IntWalk.i64_in (if m = 0 then 0 else ((Nat.log2 m + 1 : Nat) : Int)) (by omega)
 rw [e1, IntWalk.i64_in _ (by omega)]
theorem fd32 (n : Nat) : (n : Int).fdiv 4294967296 = ((n / 4294967296 : Nat) : Int) := fdiv_low n
theorem fd16 (n : Nat) : (n : Int).fdiv 65536 = ((n / 65536 : Nat) : Int) := by
 rw [Int.fdiv_eq_ediv_of_nonneg _ (show (0 : Int) ≤ 65536 by decide)]; rfl
theorem fd8 (n : Nat) : (n : Int).fdiv 256 = ((n / 256 : Nat) : Int) := by
 rw [Int.fdiv_eq_ediv_of_nonneg _ (show (0 : Int) ≤ 256 by decide)]; rfl
theorem ok_Len64 : ∀ x, w64ok x → Owes Try.prog Cx.none [] 100 Try.f95 [sI .u64 x] (lenG x) := by
 intro x hx
 rw [vc_Len64]
 obtain ⟨n, rfl⟩ := Int.eq_ofNat_of_zero_le hx.1
 have hn : n < 18446744073709551616 := Int.ofNat_lt.1 hx.2
 dsimp only
 simp only [fd32, fd16, fd8, Nat.div_div_eq_div_mul, Nat.reduceMul, decide_eq_true_eq, decide_eq_false_iff_not]
 refine ⟨fun a => ⟨fun b => ⟨fun c => ?_, fun c => ?_⟩, fun b => ⟨fun c => ?_, fun c => ?_⟩⟩, fun a => ⟨fun b => ⟨fun c => ?_, fun c => ?_⟩, fun b => ⟨fun c => ?_, fun c => ?_⟩⟩⟩
 ·exact len_leaf n 56 _ _ rfl (by decide) rfl (by omega) (.inr (by omega)) hn
 ·exact len_leaf n 48 _ _ rfl (by decide) rfl (by omega) (.inr (by omega)) hn
 ·exact len_leaf n 40 _ _ rfl (by decide) rfl (by omega) (.inr (by omega)) hn
 ·exact len_leaf n 32 _ _ rfl (by decide) rfl (by omega) (.inr (by omega)) hn
 ·exact len_leaf n 24 _ _ rfl (by decide) rfl (by omega) (.inr (by omega)) hn
 ·exact len_leaf n 16 _ _ rfl (by decide) rfl (by omega) (.inr (by omega)) hn
 ·exact len_leaf n 8 _ _ rfl (by decide) rfl (by omega) (.inr (by omega)) hn
 ·exact len_leaf n 0 _ _ rfl (by decide) (by simp) (by omega) (.inl rfl) hn
theorem ok_LZ64 : ∀ x, w64ok x → Owes Try.prog cxLz [] 100 Try.f85 [sI .u64 x] (lzG x) := by
 intro x hx
 rw [vc_LZ64]
 obtain ⟨n, rfl⟩ := Int.eq_ofNat_of_zero_le hx.1
 have hb := lenN_le n (Int.ofNat_lt.1 hx.2)
 exact ⟨hx, IntWalk.i64_in _ (by omega)⟩
theorem card_Len64 : FnOK Try.prog 95 (specW lenG) :=
 FnOK_W CxOK_nil (iv := fun _ => []) (N := 100) Try.func95 (by kernel_rfl) (by kernel_rfl) (fun a => bnd_one (bnd_I _ _)) ok_Len64
theorem card_LZ64 : FnOK Try.prog 85 (specW lzG) :=
 FnOK_W (CxOK_cons card_Len64 CxOK_nil) (iv := fun _ => []) (N := 100) Try.func85 (by kernel_rfl) (by kernel_rfl) (fun a => bnd_one (bnd_I _ _)) ok_LZ64
end Go.Proofs.Yteimeidpcgebkaa
end

section
namespace Go.Proofs.Yteimeidpcgebkaa
open Go.Sx
structure Dig (Y y1 y0 U w : Nat) : Prop where
 hY : Y = y1 * 4294967296 + y0
 h0 : y0 < 4294967296
 h1 : 2147483648 ≤ y1
 h1' : y1 < 4294967296
 hU : U < Y
 hw : w < 4294967296
structure DigAt (Y y1 y0 U w q r : Nat) : Prop extends Dig Y y1 y0 U w where
 hq : q * y1 + r = U
 hr : r < 4294967296
 hQ : (U * 4294967296 + w) / Y ≤ q
 hq' : q ≤ 4294967297
theorem Dig.pos {Y y1 y0 U w : Nat} (h : Dig Y y1 y0 U w) : 0 < Y := by have := h.hU; omega
theorem Dig.lt {Y y1 y0 U w : Nat} (h : Dig Y y1 y0 U w) : (U * 4294967296 + w) / Y < 4294967296 := by
 rw [Nat.div_lt_iff_lt_mul h.pos]
 have a := h.hU
 have b := h.hw
 omega
theorem Dig.start {Y y1 y0 U w : Nat} (h : Dig Y y1 y0 U w) : DigAt Y y1 y0 U w (U / y1) (U % y1) := by
 have hy := h.h1
 have hy' := h.h1'
 have hU := h.hU
 have hw := h.hw
 have hY := h.hY
 have h0 := h.h0
 have hp : 0 < y1 := by omega
 have hm := Nat.mod_lt U hp
 refine ⟨h, by rw [Nat.mul_comm]; exact Nat.div_add_mod U y1, by omega, ?_, ?_⟩
 ·rw [Nat.le_div_iff_mul_le hp]
  have a := Nat.div_mul_le_self (U * 4294967296 + w) Y
  generalize (U * 4294967296 + w) / Y = Q at *
  have b : Q * Y = Q * y1 * 4294967296 + Q * y0 := by rw [hY, Nat.mul_add, Nat.mul_assoc]
  generalize Q * y1 = A at *
  generalize Q * y0 = B at *
  omega
 ·have : U / y1 < 4294967298 := by
   rw [Nat.div_lt_iff_lt_mul hp]
   omega
  omega
theorem DigAt.mul {Y y1 y0 U w q r : Nat} (h : DigAt Y y1 y0 U w q r) : q * Y + r * 4294967296 = U * 4294967296 + q * y0 := by
 have hq := h.hq
 have : q * Y = q * y1 * 4294967296 + q * y0 := by rw [h.hY, Nat.mul_add, Nat.mul_assoc]
 generalize q * y1 = A at *
 omega
theorem DigAt.done {Y y1 y0 U w q r : Nat} (h : DigAt Y y1 y0 U w q r) (hc : q * y0 ≤ 4294967296 * r + w) : q = (U * 4294967296 + w) / Y := by
 have a := h.mul
 have hQ := h.hQ
 have : q ≤ (U * 4294967296 + w) / Y := by
  rw [Nat.le_div_iff_mul_le h.pos]
  omega
 exact Nat.le_antisymm this hQ
theorem DigAt.more {Y y1 y0 U w q r : Nat} (h : DigAt Y y1 y0 U w q r) (hc : 4294967296 ≤ q ∨ 4294967296 * r + w < q * y0) : (U * 4294967296 + w) / Y + 1 ≤ q := by
 rcases hc with hc | hc
 ·exact Nat.le_trans h.lt hc
 ·have a := h.mul
  rw [Nat.succ_le_iff, Nat.div_lt_iff_lt_mul h.pos]
  omega
theorem DigAt.pred {Y y1 y0 U w q r : Nat} (h : DigAt Y y1 y0 U w q r) (hc : 4294967296 ≤ q ∨ 4294967296 * r + w < q * y0) : (q - 1) * y1 + (r + y1) = U ∧ 1 ≤ q ∧ (U * 4294967296 + w) / Y ≤ q - 1 := by
 have a := h.more hc
 have hq := h.hq
 generalize (U * 4294967296 + w) / Y = Q at *
 obtain ⟨p, rfl⟩ : ∃ p, q = p + 1 := ⟨q - 1, by omega⟩
 rw [Nat.add_mul, Nat.one_mul] at hq
 rw [Nat.add_sub_cancel]
 refine ⟨by omega, by omega, by omega⟩
theorem DigAt.last {Y y1 y0 U w q r : Nat} (h : DigAt Y y1 y0 U w q r) (hc : 4294967296 ≤ q ∨ 4294967296 * r + w < q * y0) (hs : 4294967296 ≤ r + y1) : q - 1 = (U * 4294967296 + w) / Y := by
 obtain ⟨b, b1, b2⟩ := h.pred hc
 have c : (q - 1) * Y + (r + y1) * 4294967296 = U * 4294967296 + (q - 1) * y0 := by
  have : (q - 1) * Y = (q - 1) * y1 * 4294967296 + (q - 1) * y0 := by rw [h.hY, Nat.mul_add, Nat.mul_assoc]
  generalize (q - 1) * y1 = A at *
  omega
 have h0 := h.h0
 have hq' := h.hq'
 have d : (q - 1) * y0 ≤ 4294967296 * 4294967295 := Nat.mul_le_mul (by omega) (by omega)
 have : q - 1 ≤ (U * 4294967296 + w) / Y := by
  rw [Nat.le_div_iff_mul_le h.pos]
  generalize (q - 1) * Y = A at *
  generalize (q - 1) * y0 = B at *
  omega
 exact Nat.le_antisymm this b2
theorem DigAt.step {Y y1 y0 U w q r : Nat} (h : DigAt Y y1 y0 U w q r) (hc : 4294967296 ≤ q ∨ 4294967296 * r + w < q * y0) (hs : r + y1 < 4294967296) : DigAt Y y1 y0 U w (q - 1) (r + y1) := by
 obtain ⟨b, b1, b2⟩ := h.pred hc
 exact ⟨h.toDig, b, hs, b2, by have := h.hq'; omega⟩
theorem two_digits_of {Y U L H : Nat} (hY : 0 < Y) : (U * (H * H) + L) / Y = (U * H + L / H) / Y * H + ((U * H + L / H) % Y * H + L % H) / Y ∧ (U * (H * H) + L) % Y = ((U * H + L / H) % Y * H + L % H) % Y := by
 have e0 := Nat.div_add_mod L H
 have e : U * (H * H) + L = (U * H + L / H) * H + L % H := by
  rw [Nat.add_mul, Nat.mul_assoc, Nat.mul_comm (L / H), Nat.add_assoc, e0]
 rw [e]
 have d := Nat.div_add_mod (U * H + L / H) Y
 generalize U * H + L / H = A at *
 have e2 : A * H + L % H = (A % Y * H + L % H) + Y * (A / Y * H) := by
  have : A * H = Y * (A / Y * H) + A % Y * H := by
   conv => lhs; rw [← d]
   rw [Nat.add_mul, Nat.mul_assoc]
  omega
 rw [e2, Nat.add_mul_div_left _ _ hY, Nat.add_mul_mod_self_left]
 exact ⟨by rw [Nat.add_comm], rfl⟩
theorem two_digits {Y U L : Nat} (hY : 0 < Y) : (U * 18446744073709551616 + L) / Y = (U * 4294967296 + L / 4294967296) / Y * 4294967296 + ((U * 4294967296 + L / 4294967296) % Y * 4294967296 + L % 4294967296) / Y ∧
  (U * 18446744073709551616 + L) % Y = ((U * 4294967296 + L / 4294967296) % Y * 4294967296 + L % 4294967296) % Y := by
 have h := two_digits_of (Y := Y) (U := U) (L := L) (H := 4294967296) hY
 simp only [Nat.reduceMul] at h
 exact h
theorem len_two (y : Nat) (h0 : 0 < y) (h : y < 18446744073709551616) : ∃ s : Nat, s ≤ 63 ∧ 64 - lenN y = (s : Int) ∧ lenN y = ((64 - s : Nat) : Int) ∧ 9223372036854775808 ≤ y * 2 ^ s ∧ y * 2 ^ s < 18446744073709551616 := by
 have hy : y ≠ 0 := by omega
 have hb := (Nat.log2_lt hy (k := 64)).2 (by omega)
 obtain ⟨a, b⟩ := (Nat.log2_eq_iff hy).1 rfl
 refine ⟨63 - y.log2, by omega, ?_, ?_, ?_, ?_⟩
 ·unfold lenN
  rw [Int.toNat_natCast, if_neg hy]
  omega
 ·unfold lenN
  rw [Int.toNat_natCast, if_neg hy]
  omega
 ·have := Nat.mul_le_mul_right (2 ^ (63 - y.log2)) a
  rw [← Nat.pow_add, show y.log2 + (63 - y.log2) = 63 by omega] at this
  exact this
 ·have := Nat.mul_lt_mul_of_pos_right b (Nat.two_pow_pos (63 - y.log2))
  rw [← Nat.pow_add, show y.log2 + 1 + (63 - y.log2) = 64 by omega] at this
  exact this
theorem moved_all (h l y D E : Nat) (hDE : D * E = 18446744073709551616) (hl : l < 18446744073709551616) (hh : h < y) :
  h * D + l / E < y * D ∧ (h * 18446744073709551616 + l) * D = (h * D + l / E) * 18446744073709551616 + l * D % 18446744073709551616 ∧ l / E < D := by
 have hE : 0 < E := by rcases Nat.eq_zero_or_pos E with e | e; subst e; omega; exact e
 have hD : 0 < D := by rcases Nat.eq_zero_or_pos D with e | e; subst e; omega; exact e
 have hlE : l / E < D := by rw [Nat.div_lt_iff_lt_mul hE, hDE]; exact hl
 have e := Nat.div_add_mod l E
 have hm := Nat.mod_lt l hE
 have e2 : l * D = l / E * 18446744073709551616 + l % E * D := by
  conv => lhs; rw [← e]
  rw [Nat.add_mul, Nat.mul_comm E, Nat.mul_assoc, Nat.mul_comm E D, hDE]
 have e3 : l % E * D < 18446744073709551616 := by
  have := Nat.mul_lt_mul_of_pos_right hm hD
  rw [Nat.mul_comm E D, hDE] at this
  exact this
 refine ⟨?_, ?_, hlE⟩
 ·have := Nat.mul_le_mul_right D (show h + 1 ≤ y by omega)
  rw [Nat.add_mul, Nat.one_mul] at this
  omega
 ·rw [Nat.add_mul, Nat.add_mul, e2, Nat.mul_assoc, Nat.mul_comm 18446744073709551616 D, ← Nat.mul_assoc, Nat.mul_comm (l / E) 18446744073709551616, Nat.mul_add_mod, Nat.mod_eq_of_lt e3]
  omega
theorem div_moved (A y D : Nat) (hD : 0 < D) : A / y = A * D / (y * D) ∧ A % y = A * D % (y * D) / D := by
 refine ⟨(Nat.mul_div_mul_right A y hD).symm, ?_⟩
 rw [Nat.mul_mod_mul_right, Nat.mul_div_cancel _ hD]
end Go.Proofs.Yteimeidpcgebkaa
end

section
namespace Go.Proofs.Yteimeidpcgebkaa
open Go.Sx
theorem wrap_mod (n : Int) : IntKind.u64.wrap n = n % 18446744073709551616 := by
 unfold IntKind.wrap
 simp [IntKind.signed, IntKind.bits]
theorem wsub {a b c v : Int} (h : a + b - c = v) (hv : 0 ≤ v ∧ v < 18446744073709551616) : IntKind.u64.wrap (IntKind.u64.wrap (IntKind.u64.wrap a + b) - IntKind.u64.wrap c) = v := by
 simp only [wrap_mod]
 omega
theorem wsub1 {a c v : Int} (h : a - c = v) (hv : 0 ≤ v ∧ v < 18446744073709551616) : IntKind.u64.wrap (a - IntKind.u64.wrap c) = v := by
 simp only [wrap_mod]
 omega
theorem dig_iff {Y y1 y0 U w q r : Nat} (H : Dig Y y1 y0 U w) : ((q : Int) * (y1 : Int) + (r : Int) = (U : Int) ∧ r < 4294967296 ∧ (((U * 4294967296 : Nat) : Int) + (w : Int)) / (Y : Int) ≤ (q : Int) ∧ q ≤ 4294967297) ↔ DigAt Y y1 y0 U w q r := by
 have e1 : (q : Int) * (y1 : Int) + (r : Int) = ((q * y1 + r : Nat) : Int) := by rw [Int.natCast_add, Int.natCast_mul]
 have e2 : (((U * 4294967296 : Nat) : Int) + (w : Int)) / (Y : Int) = (((U * 4294967296 + w) / Y : Nat) : Int) := by rw [Int.natCast_ediv, Int.natCast_add]
 rw [e1, e2]
 constructor
 ·rintro ⟨a, b, c, d⟩
  exact ⟨H, Int.ofNat.inj a, b, Int.ofNat_le.1 c, d⟩
 ·intro h
  exact ⟨congrArg _ h.hq, h.hr, Int.ofNat_le.2 h.hQ, h.hq'⟩
theorem cond_iff {q r w y0 : Nat} (hr : r < 4294967296) (hw : w < 4294967296) (h0 : y0 < 4294967296) :
  (decide ((q : Int) ≥ 4294967296) || decide (IntKind.u64.wrap ((q : Int) * (y0 : Int)) > IntKind.u64.wrap (IntKind.u64.wrap (4294967296 * (r : Int)) + (w : Int)))) = true ↔ 4294967296 ≤ q ∨ 4294967296 * r + w < q * y0 := by
 rw [Bool.or_eq_true, decide_eq_true_eq, decide_eq_true_eq]
 have e2 : IntKind.u64.wrap (IntKind.u64.wrap (4294967296 * (r : Int)) + (w : Int)) = 4294967296 * (r : Int) + w := by simp only [wrap_mod]; omega
 rw [e2]
 rcases Nat.lt_or_ge q 4294967296 with hq | hq
 ·have hm : q * y0 ≤ 4294967295 * 4294967295 := Nat.mul_le_mul (by omega) (by omega)
  rw [← Int.natCast_mul, wrap_id ⟨Int.natCast_nonneg _, by omega⟩]
  omega
 ·exact ⟨fun _ => .inl hq, fun _ => .inl (by omega)⟩
theorem words {h l y s : Nat} (e1 : 64 - lenN y = (s : Int)) (e2 : lenN y = ((64 - s : Nat) : Int)) :
  shY y = ((y * 2 ^ s : Nat) : Int) ∧ shU h l y = ((h * 2 ^ s + l / 2 ^ (64 - s) : Nat) : Int) ∧ shL l y = ((l * 2 ^ s % 18446744073709551616 : Nat) : Int) := by
 unfold shY shU shL
 rw [e1, e2, Int.toNat_natCast, Int.toNat_natCast]
 refine ⟨?_, ?_, ?_⟩
 ·rw [Int.natCast_mul, Int.natCast_pow]; rfl
 ·rw [Int.natCast_add, Int.natCast_mul, Int.natCast_ediv, Int.natCast_pow, Int.natCast_pow]; rfl
 ·rw [Int.natCast_emod, Int.natCast_mul, Int.natCast_pow]; rfl
theorem or_add (a b k : Nat) (hb : b < 2 ^ k) (h : a * 2 ^ k + b < 18446744073709551616) : IntKind.u64.wrap ((BitVec.ofInt 64 ((a * 2 ^ k : Nat) : Int) ||| BitVec.ofInt 64 (b : Int)).toNat : Int) = ((a * 2 ^ k + b : Nat) : Int) := by
 have b1 : (BitVec.ofInt 64 ((a * 2 ^ k : Nat) : Int)).toNat = a * 2 ^ k := by rw [BitVec.toNat_ofInt]; omega
 have b2 : (BitVec.ofInt 64 (b : Int)).toNat = b := by rw [BitVec.toNat_ofInt]; omega
 rw [BitVec.toNat_or, b1, b2, Nat.mul_comm, ← Nat.two_pow_add_eq_or_of_lt hb, wrap_id ⟨Int.natCast_nonneg _, by rw [Nat.mul_comm]; omega⟩]
theorem two_min (n : Nat) (h : n ≤ 64) : (2 : Int) ^ Min.min ((n : Int).toNat) 64 = ((2 ^ n : Nat) : Int) := by
 rw [Int.toNat_natCast, Nat.min_eq_left h, Int.natCast_pow]; rfl
theorem fdiv_nat (a b : Nat) : (a : Int).fdiv (b : Int) = ((a / b : Nat) : Int) := by
 rw [Int.fdiv_eq_ediv_of_nonneg _ (Int.natCast_nonneg _), Int.natCast_ediv]
theorem tdiv_nat (a b : Nat) : (a : Int).tdiv (b : Int) = ((a / b : Nat) : Int) := by
 rw [Int.tdiv_eq_ediv_of_nonneg (Int.natCast_nonneg _), Int.natCast_ediv]
theorem zero_case (h l y : Nat) (e : h = 0) (hl : l < 18446744073709551616) : IntKind.u64.wrap ((l : Int).tdiv (y : Int)) = (((h * 18446744073709551616 + l) / y : Nat) : Int) ∧ (l : Int).tmod (y : Int) = (((h * 18446744073709551616 + l) % y : Nat) : Int) := by
 subst e
 rw [Nat.zero_mul, Nat.zero_add, tdiv_nat, Int.tmod_eq_emod_of_nonneg (Int.natCast_nonneg _), Int.natCast_emod]
 exact ⟨wrap_id ⟨Int.natCast_nonneg _, by have := Nat.div_le_self l y; omega⟩, rfl⟩
@[irreducible] def qd (U L Y : Nat) : Nat := (U * 4294967296 + L / 4294967296) / Y
@[irreducible] def rd (U L Y : Nat) : Nat := (U * 4294967296 + L / 4294967296) % Y
@[irreducible] def qe (V L Y : Nat) : Nat := (V * 4294967296 + L % 4294967296) / Y
@[irreducible] def re (V L Y : Nat) : Nat := (V * 4294967296 + L % 4294967296) % Y
theorem two_of {Y U L : Nat} (hY : 0 < Y) : (U * 18446744073709551616 + L) / Y = qd U L Y * 4294967296 + qe (rd U L Y) L Y ∧ (U * 18446744073709551616 + L) % Y = re (rd U L Y) L Y := by
 unfold qd qe re rd
 exact two_digits hY
theorem dm_of {U L Y : Nat} (hY : 0 < Y) : Y * qd U L Y + rd U L Y = U * 4294967296 + L / 4294967296 ∧ rd U L Y < Y := by
 unfold qd rd
 exact ⟨Nat.div_add_mod _ _, Nat.mod_lt _ hY⟩
theorem dm_of2 {V L Y : Nat} (hY : 0 < Y) : Y * qe V L Y + re V L Y = V * 4294967296 + L % 4294967296 ∧ re V L Y < Y := by
 unfold qe re
 exact ⟨Nat.div_add_mod _ _, Nat.mod_lt _ hY⟩
theorem lt_of {Y y1 y0 U L : Nat} (h : Dig Y y1 y0 U (L / 4294967296)) : qd U L Y < 4294967296 := by
 unfold qd
 exact h.lt
theorem lt_of2 {Y y1 y0 V L : Nat} (h : Dig Y y1 y0 V (L % 4294967296)) : qe V L Y < 4294967296 := by
 unfold qe
 exact h.lt
theorem is_qd {U L Y q : Nat} (h : q = (U * 4294967296 + L / 4294967296) / Y) : q = qd U L Y := by
 unfold qd
 exact h
theorem is_qe {V L Y q : Nat} (h : q = (V * 4294967296 + L % 4294967296) / Y) : q = qe V L Y := by
 unfold qe
 exact h
theorem cast_two (U L Y : Nat) : ((U : Int) * 4294967296 + (L : Int) / 4294967296) / (Y : Int) = ((qd U L Y : Nat) : Int) ∧
  ((U : Int) * 4294967296 + (L : Int) / 4294967296) % (Y : Int) = ((rd U L Y : Nat) : Int) := by
 have e : (U : Int) * 4294967296 + (L : Int) / 4294967296 = ((U * 4294967296 + L / 4294967296 : Nat) : Int) := by
  rw [Int.natCast_add, Int.natCast_mul, Int.natCast_ediv]; rfl
 rw [e]
 unfold qd rd
 exact ⟨(Int.natCast_ediv _ _).symm, (Int.natCast_emod _ _).symm⟩
set_option maxRecDepth 10000 in
theorem ok_Div64 : ∀ h l y, Ok (divC h l y) → Owes Try.prog cxDiv64 (ivDiv h l y) 100 Try.f96 [sI .u64 h, sI .u64 l, sI .u64 y] (divG h l y) := by
 intro h l y hc
 obtain ⟨hh, hl, hy, hlt, _⟩ := hc
 rw [vc_Div64]
 obtain ⟨h, rfl⟩ := Int.eq_ofNat_of_zero_le hh.1
 obtain ⟨l, rfl⟩ := Int.eq_ofNat_of_zero_le hl.1
 obtain ⟨y, rfl⟩ := Int.eq_ofNat_of_zero_le hy.1
 have bh : h < 18446744073709551616 := Int.ofNat_lt.1 hh.2
 have bl : l < 18446744073709551616 := Int.ofNat_lt.1 hl.2
 have bY : y < 18446744073709551616 := Int.ofNat_lt.1 hy.2
 have hlt' : h < y := Int.ofNat_lt.1 hlt
 have hy0 : 0 < y := by omega
 obtain ⟨s, hs, e1, e2, f1, f2⟩ := len_two y hy0 bY
 obtain ⟨w1, w2, w3⟩ := words (h := h) (l := l) e1 e2
 have hDE : 2 ^ s * 2 ^ (64 - s) = 18446744073709551616 := by
  rw [← Nat.pow_add, show s + (64 - s) = 64 by omega]
 obtain ⟨m1, m2, m3⟩ := moved_all h l y (2 ^ s) (2 ^ (64 - s)) hDE bl hlt'
 obtain ⟨g1, g2⟩ := div_moved (h * 18446744073709551616 + l) y (2 ^ s) (Nat.two_pow_pos s)
 rw [m2] at g1 g2
 have hYp : 0 < y * 2 ^ s := by omega
 obtain ⟨t1, t2⟩ := two_of (Y := y * 2 ^ s) (U := h * 2 ^ s + l / 2 ^ (64 - s)) (L := l * 2 ^ s % 18446744073709551616) hYp
 rw [t1] at g1
 rw [t2] at g2
 have hor := or_add h (l / 2 ^ (64 - s)) s m3 (by omega)
 intro x1 x2 x3 x4 x5 x6 x7 x8 x9 x10 x11 x12 x13 x14 x15 x16 x17 x18 x19
 have E4 : x4 = ((s : Nat) : Int) := e1
 have E5 : x5 = ((s : Nat) : Int) := by simp only [x5, E4]; exact wrap_id ⟨Int.natCast_nonneg _, by omega⟩
 have E6 : x6 = ((64 - s : Nat) : Int) := by
  simp only [x6, E5]
  have : (64 : Int) - (s : Int) = ((64 - s : Nat) : Int) := by omega
  rw [this]; exact wrap_id ⟨Int.natCast_nonneg _, by omega⟩
 have E7 : x7 = ((2 ^ s : Nat) : Int) := by simp only [x7, E5]; exact two_min s (by omega)
 have E8 : x8 = ((y * 2 ^ s : Nat) : Int) := by
  simp only [x8, E7]
  rw [← Int.natCast_mul]; exact wrap_id ⟨Int.natCast_nonneg _, by omega⟩
 have E9 : x9 = ((y * 2 ^ s / 4294967296 : Nat) : Int) := by simp only [x9, E8]; exact fdiv_low _
 have E10 : x10 = ((y * 2 ^ s / 4294967296 : Nat) : Int) := by simp only [x10, w1]; rfl
 have E11 : x11 = ((y * 2 ^ s % 4294967296 : Nat) : Int) := by simp only [x11, w1]; rfl
 have E12 : x12 = ((l * 2 ^ s % 18446744073709551616 / 4294967296 : Nat) : Int) := by simp only [x12, w3]; rfl
 have E13 : x13 = ((l * 2 ^ s % 18446744073709551616 % 4294967296 : Nat) : Int) := by simp only [x13, w3]; rfl
 have E14 : x14 = (((h * 2 ^ s + l / 2 ^ (64 - s)) * 4294967296 : Nat) : Int) := by simp only [x14, w2]; rw [Int.natCast_mul]; rfl
 have E15 : x15 = ((h * 2 ^ s + l / 2 ^ (64 - s) : Nat) : Int) := by
  simp only [x15, E7, E6]
  rw [← Int.natCast_mul, wrap_id (n := ((h * 2 ^ s : Nat) : Int)) ⟨Int.natCast_nonneg _, Int.ofNat_lt.2 (Nat.lt_of_le_of_lt (Nat.le_add_right _ _) (Nat.lt_trans m1 f2))⟩, two_min (64 - s) (by omega), fdiv_nat]
  exact hor
 have E16 : x16 = ((l * 2 ^ s % 18446744073709551616 : Nat) : Int) := by
  simp only [x16, E7]
  rw [← Int.natCast_mul, wrap_mod]; rfl
 have E17 : x17 = (((h * 2 ^ s + l / 2 ^ (64 - s)) / (y * 2 ^ s / 4294967296) : Nat) : Int) := by
  simp only [x17, E15, E9]
  rw [tdiv_nat]
  refine wrap_id ⟨Int.natCast_nonneg _, ?_⟩
  have := Nat.div_le_self (h * 2 ^ s + l / 2 ^ (64 - s)) (y * 2 ^ s / 4294967296)
  omega
 have E18 : x18 = ((rd (h * 2 ^ s + l / 2 ^ (64 - s)) (l * 2 ^ s % 18446744073709551616) (y * 2 ^ s) * 4294967296 : Nat) : Int) := by
  simp only [x18, dV, w1, w2, w3]
  rw [(cast_two _ _ _).2, Int.natCast_mul]; rfl
 have E19 : x19 = ((2 ^ s : Nat) : Int) := by simp only [x19, E4]; exact two_min s (by omega)
 have E2 : x2 = (((h * 18446744073709551616 + l) / y : Nat) : Int) := by simp only [x2, x1]; rw [Int.natCast_ediv, Int.natCast_add, Int.natCast_mul]; rfl
 have E3 : x3 = (((h * 18446744073709551616 + l) % y : Nat) : Int) := by simp only [x3, x1]; rw [Int.natCast_emod, Int.natCast_add, Int.natCast_mul]; rfl
 have Q1 : dq1 h l y = ((qd (h * 2 ^ s + l / 2 ^ (64 - s)) (l * 2 ^ s % 18446744073709551616) (y * 2 ^ s) : Nat) : Int) := by
  simp only [dq1, w1, w2, w3]
  exact (cast_two _ _ _).1
 have V1 : dV h l y = ((rd (h * 2 ^ s + l / 2 ^ (64 - s)) (l * 2 ^ s % 18446744073709551616) (y * 2 ^ s) : Nat) : Int) := by
  simp only [dV, w1, w2, w3]
  exact (cast_two _ _ _).2
 have zero := fun e => zero_case h l y e bl
 rw [g1, g2] at zero
 rw [g1] at E2
 rw [g2] at E3
 clear_value x1 x2 x3 x4 x5 x6 x7 x8 x9 x10 x11 x12 x13 x14 x15 x16 x17 x18 x19
 rw [w1, w2, w3, Q1, V1]
 subst E2 E3 E4 E5 E6 E7 E8 E9 E10 E11 E12 E13 E14 E15 E16 E17 E18 E19
 have bL : l * 2 ^ s % 18446744073709551616 < 18446744073709551616 := Nat.mod_lt _ (by decide)
 have hD0 : 0 < 2 ^ s := Nat.two_pow_pos s
 have hRD : ∀ R : Nat, R < y * 2 ^ s → (R : Int).fdiv ((2 ^ s : Nat) : Int) = ((R / 2 ^ s : Nat) : Int) := fun R _ => fdiv_nat R _
 clear hor g1 g2 t1 t2 w1 w2 w3 Q1 V1 m2 hDE
 generalize h * 2 ^ s + l / 2 ^ (64 - s) = U at *
 generalize hLd : l * 2 ^ s % 18446744073709551616 = L at *
 generalize y * 2 ^ s = Y at *
 have A1 : Dig Y (Y / 4294967296) (Y % 4294967296) U (L / 4294967296) := ⟨by omega, by omega, by omega, by omega, m1, by omega⟩
 obtain ⟨dm1, hV⟩ := dm_of (U := U) (L := L) hYp
 have A2 : Dig Y (Y / 4294967296) (Y % 4294967296) (rd U L Y) (L % 4294967296) := ⟨by omega, by omega, by omega, by omega, hV, by omega⟩
 have lt1 := lt_of A1
 have st1 := A1.start
 have last1 := fun q => @is_qd U L Y q
 generalize qd U L Y = Q at *
 generalize rd U L Y = V at *
 have st2 := A2.start
 have lt2 := lt_of2 A2
 obtain ⟨dm2, hR⟩ := dm_of2 (V := V) (L := L) hYp
 have last2 := fun q => @is_qe V L Y q
 generalize qe V L Y = Q2 at *
 generalize re V L Y = R2 at *
 have final : ∀ q : Nat, q = Q2 → IntKind.u64.wrap (IntKind.u64.wrap ((Q : Int) * 4294967296) + (q : Int)) = ((Q * 4294967296 + Q2 : Nat) : Int) ∧
   (IntKind.u64.wrap (IntKind.u64.wrap (IntKind.u64.wrap ((V * 4294967296 : Nat) : Int) + ((L % 4294967296 : Nat) : Int)) - IntKind.u64.wrap ((q : Int) * (Y : Int)))).fdiv ((2 ^ s : Nat) : Int) = ((R2 / 2 ^ s : Nat) : Int) := by
  rintro q rfl
  refine ⟨?_, ?_⟩
  ·simp only [wrap_mod]
   omega
  ·rw [← hRD _ hR]
   congr 1
   refine wsub ?_ ⟨Int.natCast_nonneg _, by omega⟩
   rw [← Int.natCast_mul, Nat.mul_comm q Y]
   generalize Y * q = T at *
   omega
 have part : ∀ q : Nat, q = Q → IntKind.u64.wrap (IntKind.u64.wrap (IntKind.u64.wrap ((U * 4294967296 : Nat) : Int) + ((L / 4294967296 : Nat) : Int)) - IntKind.u64.wrap ((q : Int) * (Y : Int))) = (V : Int) := by
  rintro q rfl
  refine wsub ?_ ⟨Int.natCast_nonneg _, by omega⟩
  rw [← Int.natCast_mul, Nat.mul_comm q Y]
  generalize Y * q = T at *
  omega
 have guess2 : IntKind.u64.wrap ((V : Int).tdiv ((Y / 4294967296 : Nat) : Int)) = ((V / (Y / 4294967296) : Nat) : Int) := by
  rw [tdiv_nat]
  have := Nat.div_le_self V (Y / 4294967296)
  exact wrap_id ⟨Int.natCast_nonneg _, by omega⟩
 have rest : ∀ a : Nat, a < 18446744073709551616 → IntKind.u64.wrap ((a : Int) - IntKind.u64.wrap (((a / (Y / 4294967296) : Nat) : Int) * ((Y / 4294967296 : Nat) : Int))) = ((a % (Y / 4294967296) : Nat) : Int) := by
  intro a ha
  have hm := Nat.mod_le a (Y / 4294967296)
  refine wsub1 ?_ ⟨Int.natCast_nonneg _, by omega⟩
  rw [← Int.natCast_mul, Nat.mul_comm]
  have := Nat.div_add_mod a (Y / 4294967296)
  omega
 have low : ∀ a : Nat, a < 18446744073709551616 → IntKind.u64.wrap ((BitVec.ofInt 64 (a : Int) &&& BitVec.ofInt 64 (4294967295 : Int)).toNat : Int) = ((a % 4294967296 : Nat) : Int) := by
  intro a ha
  rw [and_low a ha]; exact wrap_id ⟨Int.natCast_nonneg _, by omega⟩
 have dec : ∀ q : Nat, 1 ≤ q → q ≤ 4294967297 → IntKind.u64.wrap ((q : Int) - 1) = ((q - 1 : Nat) : Int) := by
  intro q hq hq'
  rw [wrap_mod]; omega
 have inc : ∀ r : Nat, r < 4294967296 → IntKind.u64.wrap ((r : Int) + ((Y / 4294967296 : Nat) : Int)) = ((r + Y / 4294967296 : Nat) : Int) := by
  intro r hr
  rw [wrap_mod]; omega
 have nb : ∀ b : Bool, b = false → (!b) = true := by rintro _ rfl; rfl
 have hd1 : (Y / 4294967296 : Nat) ≠ 0 := by omega
 have h9 : ((Y / 4294967296 : Nat) : Int) ≠ 0 := by omega
 have second : ∀ (y_4 : DivAt), (↑y_4.q : Int) * ((Y / 4294967296 : Nat) : Int) + (↑y_4.r : Int) = (V : Int) ∧ y_4.r < (4294967296 : Nat) ∧ (((V * 4294967296 : Nat) : Int) + ((L % 4294967296 : Nat) : Int)) / (Y : Int) ≤ (↑y_4.q : Int) ∧ y_4.q ≤ (4294967297 : Nat) → ((!Decidable.decide ((↑y_4.q : Int) ≥ (4294967296 : Int))) = Bool.true → (!Decidable.decide ((↑y_4.q : Int) ≥ (4294967296 : Int))) = Bool.true) ∧ ((!Decidable.decide ((↑y_4.q : Int) ≥ (4294967296 : Int))) = Bool.true → (!Decidable.decide ((↑y_4.q : Int) ≥ (4294967296 : Int))) = Bool.true) ∧ ((!Decidable.decide ((↑y_4.q : Int) ≥ (4294967296 : Int))) = Bool.true → (!Decidable.decide ((↑y_4.q : Int) ≥ (4294967296 : Int))) = Bool.true) ∧ ((!Decidable.decide ((↑y_4.q : Int) ≥ (4294967296 : Int))) = Bool.true → (!Decidable.decide ((↑y_4.q : Int) ≥ (4294967296 : Int))) = Bool.true) ∧ ((!Decidable.decide ((↑y_4.q : Int) ≥ (4294967296 : Int))) = Bool.true → (!Decidable.decide ((↑y_4.q : Int) ≥ (4294967296 : Int))) = Bool.true) ∧ ((!Decidable.decide ((↑y_4.q : Int) ≥ (4294967296 : Int))) = Bool.true → (!Decidable.decide ((↑y_4.q : Int) ≥ (4294967296 : Int))) = Bool.true) ∧ ((!Decidable.decide ((↑y_4.q : Int) ≥ (4294967296 : Int))) = Bool.true → (!Decidable.decide ((↑y_4.q : Int) ≥ (4294967296 : Int))) = Bool.true) ∧ (Decidable.decide ((↑y_4.q : Int) ≥ (4294967296 : Int)) = Bool.false → (!Decidable.decide ((↑y_4.q : Int) ≥ (4294967296 : Int))) = Bool.true) ∧ ((Decidable.decide ((↑y_4.q : Int) ≥ (4294967296 : Int)) || Decidable.decide (Go.IntKind.u64.wrap ((↑y_4.q : Int) * ((Y % 4294967296 : Nat) : Int)) > Go.IntKind.u64.wrap (Go.IntKind.u64.wrap ((4294967296 : Int) * (↑y_4.r : Int)) + ((L % 4294967296 : Nat) : Int)))) = Bool.true → (Decidable.decide (Go.IntKind.u64.wrap ((↑y_4.r : Int) + ((Y / 4294967296 : Nat) : Int)) ≥ (4294967296 : Int)) = Bool.true → (0 : Int) ≤ ((s : Nat) : Int) ∧ Go.IntKind.u64.wrap (Go.IntKind.u64.wrap ((Q : Int) * (4294967296 : Int)) + Go.IntKind.u64.wrap ((↑y_4.q : Int) - (1 : Int))) = ((Q * 4294967296 + Q2 : Nat) : Int) ∧ (Go.IntKind.u64.wrap (Go.IntKind.u64.wrap (Go.IntKind.u64.wrap ((V * 4294967296 : Nat) : Int) + ((L % 4294967296 : Nat) : Int)) - Go.IntKind.u64.wrap (Go.IntKind.u64.wrap ((↑y_4.q : Int) - (1 : Int)) * (Y : Int)))).fdiv ((2 ^ s : Nat) : Int) = ((R2 / 2 ^ s : Nat) : Int)) ∧ (Decidable.decide (Go.IntKind.u64.wrap ((↑y_4.r : Int) + ((Y / 4294967296 : Nat) : Int)) ≥ (4294967296 : Int)) = Bool.false → ∃ (y' : DivAt), ((↑y'.q : Int) * ((Y / 4294967296 : Nat) : Int) + (↑y'.r : Int) = (V : Int) ∧ y'.r < (4294967296 : Nat) ∧ (((V * 4294967296 : Nat) : Int) + ((L % 4294967296 : Nat) : Int)) / (Y : Int) ≤ (↑y'.q : Int) ∧ y'.q ≤ (4294967297 : Nat)) ∧ (h : Int) = (h : Int) ∧ (l : Int) = (l : Int) ∧ (Y : Int) = (Y : Int) ∧ ((s : Nat) : Int) = ((s : Nat) : Int) ∧ ((Y / 4294967296 : Nat) : Int) = ((Y / 4294967296 : Nat) : Int) ∧ ((Y % 4294967296 : Nat) : Int) = ((Y % 4294967296 : Nat) : Int) ∧ (U : Int) = (U : Int) ∧ (L : Int) = (L : Int) ∧ ((L / 4294967296 : Nat) : Int) = ((L / 4294967296 : Nat) : Int) ∧ ((L % 4294967296 : Nat) : Int) = ((L % 4294967296 : Nat) : Int) ∧ (Q : Int) = (Q : Int) ∧ Go.IntKind.u64.wrap ((↑y_4.r : Int) + ((Y / 4294967296 : Nat) : Int)) = (↑y'.r : Int) ∧ (V : Int) = (V : Int) ∧ Go.IntKind.u64.wrap ((↑y_4.q : Int) - (1 : Int)) = (↑y'.q : Int) ∧ y'.q < y_4.q)) ∧ ((Decidable.decide ((↑y_4.q : Int) ≥ (4294967296 : Int)) || Decidable.decide (Go.IntKind.u64.wrap ((↑y_4.q : Int) * ((Y % 4294967296 : Nat) : Int)) > Go.IntKind.u64.wrap (Go.IntKind.u64.wrap ((4294967296 : Int) * (↑y_4.r : Int)) + ((L % 4294967296 : Nat) : Int)))) = Bool.false → (0 : Int) ≤ ((s : Nat) : Int) ∧ Go.IntKind.u64.wrap (Go.IntKind.u64.wrap ((Q : Int) * (4294967296 : Int)) + (↑y_4.q : Int)) = ((Q * 4294967296 + Q2 : Nat) : Int) ∧ (Go.IntKind.u64.wrap (Go.IntKind.u64.wrap (Go.IntKind.u64.wrap ((V * 4294967296 : Nat) : Int) + ((L % 4294967296 : Nat) : Int)) - Go.IntKind.u64.wrap ((↑y_4.q : Int) * (Y : Int)))).fdiv ((2 ^ s : Nat) : Int) = ((R2 / 2 ^ s : Nat) : Int)) := by
  rintro ⟨q, r⟩ i2
  have D2 : DigAt Y (Y / 4294967296) (Y % 4294967296) V (L % 4294967296) q r := (dig_iff A2).1 i2
  have hr := D2.hr
  refine ⟨id, id, id, id, id, id, id, nb _, fun hc => ⟨fun hs => ?_, fun hs => ?_⟩, fun hc => ?_⟩
  ·have c := (cond_iff hr A2.hw A2.h0).1 hc
   rw [inc r hr] at hs
   have p := D2.pred c
   have e := last2 _ (D2.last c (by have := of_decide_eq_true hs; omega))
   rw [dec q p.2.1 D2.hq', e]
   exact ⟨Int.natCast_nonneg _, final _ rfl⟩
  ·have c := (cond_iff hr A2.hw A2.h0).1 hc
   rw [inc r hr] at hs
   have p := D2.pred c
   refine ⟨⟨q - 1, r + Y / 4294967296⟩, (dig_iff A2).2 (D2.step c (by have := of_decide_eq_false hs; omega)), rfl, rfl, rfl, rfl, rfl, rfl, rfl, rfl, rfl, rfl, rfl, inc r hr, rfl, dec q p.2.1 D2.hq', ?_⟩
   exact Nat.sub_lt p.2.1 Nat.one_pos
  ·have c : q * (Y % 4294967296) ≤ 4294967296 * r + L % 4294967296 := by
    have c := mt (cond_iff hr A2.hw A2.h0).2 (by rw [hc]; exact Bool.false_ne_true)
    exact Nat.le_of_not_lt fun x => c (.inr x)
   have e := last2 _ (D2.done c)
   rw [e]
   exact ⟨Int.natCast_nonneg _, final _ rfl⟩
 refine ⟨fun e => absurd (beq_iff_eq.1 e) (by omega), fun _ => ⟨fun e => absurd (of_decide_eq_true e) (by omega), fun _ => ⟨fun e => ?_, fun _ => ?_⟩⟩⟩
 ·obtain ⟨z1, z2⟩ := zero (Int.ofNat.inj (beq_iff_eq.1 e))
  exact ⟨by omega, by omega, z1, z2⟩
 refine ⟨⟨Int.natCast_nonneg _, by omega⟩, Int.natCast_nonneg _, Int.natCast_nonneg _, Int.natCast_nonneg _, Int.natCast_nonneg _, h9, fun _ => rfl,
  ⟨U / (Y / 4294967296), U % (Y / 4294967296)⟩, (dig_iff A1).2 st1, rfl, rfl, rfl, rfl, rfl, low _ f2, rfl, rfl, fdiv_low _, low _ bL, rfl, rest _ (by omega), fun y2 i2 => ?_⟩
 obtain ⟨q, r⟩ := y2
 have D2 : DigAt Y (Y / 4294967296) (Y % 4294967296) U (L / 4294967296) q r := (dig_iff A1).1 i2
 have hr := D2.hr
 refine ⟨id, id, id, id, id, id, id, nb _, fun hc => ⟨fun hs => ?_, fun hs => ?_⟩, fun hc => ?_⟩
 rotate_left
 ·have c := (cond_iff hr A1.hw A1.h0).1 hc
  rw [inc r hr] at hs
  have p := D2.pred c
  refine ⟨⟨q - 1, r + Y / 4294967296⟩, (dig_iff A1).2 (D2.step c (by have := of_decide_eq_false hs; omega)), rfl, rfl, rfl, rfl, rfl, rfl, rfl, rfl, rfl, rfl, dec q p.2.1 D2.hq', inc r hr, ?_⟩
  exact Nat.sub_lt p.2.1 Nat.one_pos
 rotate_left
 ·have c := (cond_iff hr A1.hw A1.h0).1 hc
  rw [inc r hr] at hs
  have p := D2.pred c
  have e := last1 _ (D2.last c (by have := of_decide_eq_true hs; omega))
  rw [dec q p.2.1 D2.hq', e]
  exact ⟨h9, fun _ => rfl, ⟨V / (Y / 4294967296), V % (Y / 4294967296)⟩, (dig_iff A2).2 st2, rfl, rfl, rfl, rfl, rfl, rfl, rfl, rfl, rfl, rfl, rfl, (by rw [part _ rfl, guess2]; exact rest _ (by omega)), part _ rfl, (by rw [part _ rfl]; exact guess2), fun y4 i4 => second y4 i4⟩
 ·have c : q * (Y % 4294967296) ≤ 4294967296 * r + L / 4294967296 := by
   have c := mt (cond_iff hr A1.hw A1.h0).2 (by rw [hc]; exact Bool.false_ne_true)
   exact Nat.le_of_not_lt fun x => c (.inr x)
  have e := last1 _ (D2.done c)
  rw [e]
  exact ⟨h9, fun _ => rfl, ⟨V / (Y / 4294967296), V % (Y / 4294967296)⟩, (dig_iff A2).2 st2, rfl, rfl, rfl, rfl, rfl, rfl, rfl, rfl, rfl, rfl, rfl, (by rw [part _ rfl, guess2]; exact rest _ (by omega)), part _ rfl, (by rw [part _ rfl]; exact guess2), fun y4 i4 => second y4 i4⟩
theorem card_Div64 : FnOK Try.prog 96 (specWWW divC divG) :=
 FnOK_WWW (CxOK_cons card_LZ64 CxOK_nil) (iv := ivDiv) (N := 100) Try.func96 (by kernel_rfl) (by kernel_rfl) (fun a b d => bnd_two (bnd_I _ _) (bnd_I _ _)) ok_Div64
end Go.Proofs.Yteimeidpcgebkaa
end

section
namespace Go.Proofs.Yteimeidpcgebkaa
open Go.Sx
theorem long_step {X H c N : Nat} (hN : 0 < N) : (X * H + c) / N = X / N * H + (X % N * H + c) / N ∧ (X * H + c) % N = (X % N * H + c) % N := by
 have d := Nat.div_add_mod X N
 have e : X * H + c = N * (X / N * H) + (X % N * H + c) := by
  conv => lhs; rw [← d]
  rw [Nat.add_mul, Nat.mul_assoc, Nat.add_assoc]
 rw [e, Nat.mul_add_div hN, Nat.mul_add_mod]
 exact ⟨rfl, rfl⟩
theorem long_lt {r H c N : Nat} (hN : 0 < N) (hr : r < N) (hc : c < H) : (r * H + c) / N < H := by
 rw [Nat.div_lt_iff_lt_mul hN]
 have := Nat.mul_le_mul_right H (show r + 1 ≤ N from hr)
 rw [Nat.add_mul, Nat.one_mul] at this
 rw [Nat.mul_comm H N]
 omega
theorem long_div (H c0 c1 c2 c3 N : Nat) (hN : 0 < N) :
  (((c3 * H + c2) * H + c1) * H + c0) / N = ((c3 / N * H + (c3 % N * H + c2) / N) * H + ((c3 % N * H + c2) % N * H + c1) / N) * H + (((c3 % N * H + c2) % N * H + c1) % N * H + c0) / N ∧
  (((c3 * H + c2) * H + c1) * H + c0) % N = (((c3 % N * H + c2) % N * H + c1) % N * H + c0) % N := by
 have s1 := long_step (X := c3) (H := H) (c := c2) hN
 have s2 := long_step (X := c3 * H + c2) (H := H) (c := c1) hN
 have s3 := long_step (X := (c3 * H + c2) * H + c1) (H := H) (c := c0) hN
 rw [s3.1, s3.2, s2.1, s2.2, s1.1, s1.2]
 exact ⟨rfl, rfl⟩
end Go.Proofs.Yteimeidpcgebkaa
end

section
namespace Go.Proofs.Yteimeidpcgebkaa
open Go.Sx
theorem limb_is (a i : Nat) : ∃ c : Nat, limb a i = (c : Int) ∧ c < 18446744073709551616 := by
 refine ⟨(limb a i).toNat, (Int.toNat_of_nonneg (limb_nonneg a i)).symm, ?_⟩
 have := limb_lt a i
 have := limb_nonneg a i
 omega
theorem horner_is (a c0 c1 c2 c3 : Nat) (h0 : limb a 0 = (c0 : Int)) (h1 : limb a 1 = (c1 : Int)) (h2 : limb a 2 = (c2 : Int)) (h3 : limb a 3 = (c3 : Int)) :
  a % M256 = ((c3 * 18446744073709551616 + c2) * 18446744073709551616 + c1) * 18446744073709551616 + c0 := by
 rw [← join_limbs, h0, h1, h2, h3]
 unfold join
 simp only [Int.toNat_natCast]
 omega
theorem join_nat (q0 q1 q2 q3 : Nat) : join (q0 : Int) (q1 : Int) (q2 : Int) (q3 : Int) = ((q3 * 18446744073709551616 + q2) * 18446744073709551616 + q1) * 18446744073709551616 + q0 := by
 unfold join
 simp only [Int.toNat_natCast]
 omega
theorem word_nat {n : Nat} (h : n < 18446744073709551616) : (0 : Int) ≤ (n : Int) ∧ (n : Int) < 18446744073709551616 := by omega
end Go.Proofs.Yteimeidpcgebkaa
end

section
namespace Go.Proofs.Yteimeidpcgebkaa
open Go.Sx
theorem ok_guess : ∀ h l y : Int, Ok (guessC h l y) → Owes Try.prog cxGuess [] 100 Try.f86 [sI .u64 h, sI .u64 l, sI .u64 y] (guessG h l y) := by
 intro h l y hc
 obtain ⟨hh, hl, hy, hp, _⟩ := hc
 rw [vc_guess]
 refine ⟨fun c => ?_, fun c => ?_⟩
 ·have c := of_decide_eq_true c
  unfold guessN
  rw [if_neg (by omega)]
 ·have c := of_decide_eq_false c
  refine ⟨hh, hl, hy, by omega, ?_⟩
  unfold guessN
  rw [if_pos (by omega)]
theorem card_guess : FnOK Try.prog 86 (specWWW guessC guessG) :=
 FnOK_WWW (CxOK_cons card_Div64 CxOK_nil) (iv := fun _ _ _ => []) (N := 100) Try.func86 (by kernel_rfl) (by kernel_rfl) (fun _ _ _ => bnd_one (bnd_I _ _)) ok_guess
theorem bitsN_le {n k : Nat} (h : n < 2 ^ k) : bitsN n ≤ k := by
 unfold bitsN
 split
 ·exact Nat.zero_le _
 ·rename_i h0
  exact (Nat.log2_lt h0).2 h
theorem bitsN_two (n : Nat) (h : n ≠ 0) : n < 2 ^ bitsN n ∧ 2 ^ bitsN n ≤ 2 * n := by
 unfold bitsN
 rw [if_neg h]
 obtain ⟨a, b⟩ := (Nat.log2_eq_iff h).1 rfl
 refine ⟨b, ?_⟩
 rw [Nat.pow_succ]
 omega
theorem bitsN_shift {c l k : Nat} (h : c ≠ 0) (hl : l < 2 ^ k) : bitsN (c * 2 ^ k + l) = bitsN c + k := by
 have hp := Nat.two_pow_pos k
 have hc : 0 < c * 2 ^ k := Nat.mul_pos (by omega) hp
 unfold bitsN
 rw [if_neg (by omega), if_neg h]
 obtain ⟨a, b⟩ := (Nat.log2_eq_iff h).1 rfl
 have : (c * 2 ^ k + l).log2 = c.log2 + k := by
  rw [Nat.log2_eq_iff (by omega)]
  rw [show c.log2 + k + 1 = c.log2 + 1 + k by omega, Nat.pow_add, Nat.pow_add 2 (c.log2 + 1)]
  have h1 := Nat.mul_le_mul_right (2 ^ k) a
  have h2 := Nat.mul_le_mul_right (2 ^ k) (show c + 1 ≤ 2 ^ (c.log2 + 1) from b)
  rw [Nat.add_mul, Nat.one_mul] at h2
  omega
 omega
theorem lenN_is (c : Nat) : lenN (c : Int) = ((bitsN c : Nat) : Int) := by
 unfold lenN bitsN
 rw [Int.toNat_natCast]
 split <;> rfl
theorem ok_noughts : ∀ a : Nat, Owes Try.prog cxNoughts [] 100 Try.f72 [sU a] (noughtsG a) := by
 intro a
 rw [vc_noughts]
 obtain ⟨c0, h0, b0⟩ := limb_is a 0
 obtain ⟨c1, h1, b1⟩ := limb_is a 1
 obtain ⟨c2, h2, b2⟩ := limb_is a 2
 obtain ⟨c3, h3, b3⟩ := limb_is a 3
 have hA := horner_is a c0 c1 c2 c3 h0 h1 h2 h3
 rw [h0, h1, h2, h3, hA]
 rw [lenN_is c3, lenN_is c2, lenN_is c1, lenN_is c0]
 have l3 := bitsN_le (n := c3) (k := 64) b3
 have l2 := bitsN_le (n := c2) (k := 64) b2
 have l1 := bitsN_le (n := c1) (k := 64) b1
 have l0 := bitsN_le (n := c0) (k := 64) b0
 have z : bitsN 0 = 0 := rfl
 have e3 : c3 ≠ 0 → bitsN (((c3 * 18446744073709551616 + c2) * 18446744073709551616 + c1) * 18446744073709551616 + c0) = bitsN c3 + 192 := fun h => by
  have e : ((c3 * 18446744073709551616 + c2) * 18446744073709551616 + c1) * 18446744073709551616 + c0 = c3 * 2 ^ 192 + ((c2 * 18446744073709551616 + c1) * 18446744073709551616 + c0) := by omega
  exact (congrArg bitsN e).trans (bitsN_shift h (by omega))
 have e2 : c3 = 0 → c2 ≠ 0 → bitsN (((c3 * 18446744073709551616 + c2) * 18446744073709551616 + c1) * 18446744073709551616 + c0) = bitsN c2 + 128 := fun h' h => by
  have e : ((c3 * 18446744073709551616 + c2) * 18446744073709551616 + c1) * 18446744073709551616 + c0 = c2 * 2 ^ 128 + (c1 * 18446744073709551616 + c0) := by omega
  exact (congrArg bitsN e).trans (bitsN_shift h (by omega))
 have e1 : c3 = 0 → c2 = 0 → c1 ≠ 0 → bitsN (((c3 * 18446744073709551616 + c2) * 18446744073709551616 + c1) * 18446744073709551616 + c0) = bitsN c1 + 64 := fun h' h'' h => by
  have e : ((c3 * 18446744073709551616 + c2) * 18446744073709551616 + c1) * 18446744073709551616 + c0 = c1 * 2 ^ 64 + (c0) := by omega
  exact (congrArg bitsN e).trans (bitsN_shift h (by omega))
 have e0 : c3 = 0 → c2 = 0 → c1 = 0 → bitsN (((c3 * 18446744073709551616 + c2) * 18446744073709551616 + c1) * 18446744073709551616 + c0) = bitsN c0 := fun h' h'' h => by
  exact congrArg bitsN (by omega)
 generalize bitsN (((c3 * 18446744073709551616 + c2) * 18446744073709551616 + c1) * 18446744073709551616 + c0) = L at *
 have z3 : c3 = 0 → bitsN c3 = 0 := fun h => by rw [h]; rfl
 have z2 : c2 = 0 → bitsN c2 = 0 := fun h => by rw [h]; rfl
 have z1 : c1 = 0 → bitsN c1 = 0 := fun h => by rw [h]; rfl
 generalize bitsN c3 = m3 at *
 generalize bitsN c2 = m2 at *
 generalize bitsN c1 = m1 at *
 generalize bitsN c0 = m0 at *
 intro x1 x2 x3 x4
 have E1 : x1 = 64 - (m3 : Int) := by
  simp only [x1]
  rw [Int.zero_add, IntWalk.i64_in _ (by omega)]
 have E3 : x3 = 64 - (m3 : Int) + (64 - (m2 : Int)) := by
  simp only [x3, E1]
  rw [IntWalk.i64_in _ (by omega)]
 have E4 : x4 = 64 - (m3 : Int) + (64 - (m2 : Int)) + (64 - (m1 : Int)) := by
  simp only [x4, E3]
  rw [IntWalk.i64_in _ (by omega)]
 have E5 : IntKind.i64.wrap (x4 + (64 - (m0 : Int))) = 64 - (m3 : Int) + (64 - (m2 : Int)) + (64 - (m1 : Int)) + (64 - (m0 : Int)) := by
  rw [E4, IntWalk.i64_in _ (by omega)]
 have E2 : x2 = ((256 - L : Nat) : Int) := rfl
 rw [E5]
 clear_value x1 x2 x3 x4
 subst E1 E2 E3 E4
 have nz : ∀ c : Nat, ((c : Int) != 0) = true → c ≠ 0 := fun c h e => by rw [e] at h; exact absurd h (by decide)
 have zz : ∀ c : Nat, ((c : Int) != 0) = false → c = 0 := fun c h => by
  rw [bne_eq_false_iff_eq] at h
  exact Int.ofNat.inj h
 refine ⟨word_nat b3, fun h => ?_, fun h => ⟨word_nat b2, fun h' => ?_, fun h' => ⟨word_nat b1, fun h'' => ?_, fun h'' => ⟨word_nat b0, fun h4 => ?_, fun h4 => ?_⟩⟩⟩⟩
 ·have := e3 (nz _ h)
  omega
 ·have := e2 (zz _ h) (nz _ h')
  have := z3 (zz _ h)
  omega
 ·have := e1 (zz _ h) (zz _ h') (nz _ h'')
  have := z3 (zz _ h)
  have := z2 (zz _ h')
  omega
 ·have := e0 (zz _ h) (zz _ h') (zz _ h'')
  have := z3 (zz _ h)
  have := z2 (zz _ h')
  have := z1 (zz _ h'')
  omega
 ·have := e0 (zz _ h) (zz _ h') (zz _ h'')
  have := z3 (zz _ h)
  have := z2 (zz _ h')
  have := z1 (zz _ h'')
  omega
theorem card_noughts : FnOK Try.prog 72 (specU noughtsG) :=
 FnOK_U (CxOK_cons card_LZ64 CxOK_nil) (iv := []) (N := 100) Try.func72 (by kernel_rfl) (by kernel_rfl) (fun _ => bnd_one (bnd_I _ _)) ok_noughts
end Go.Proofs.Yteimeidpcgebkaa
end

section
namespace Go.Proofs.Yteimeidpcgebkaa
open Go.Sx
theorem W_two (t : Nat) (h : t ≤ 64) : 2 ^ t * 2 ^ (64 - t) = 18446744073709551616 := by
 rw [← Nat.pow_add, show t + (64 - t) = 64 by omega]
theorem word_up (c D E : Nat) (h : D * E = 18446744073709551616) : c * D = c % E * D + c / E * 18446744073709551616 ∧ c % E * D < 18446744073709551616 ∧ (c < 18446744073709551616 → c / E < D) := by
 have hE : 0 < E := by rcases Nat.eq_zero_or_pos E with e | e; subst e; omega; exact e
 have hD : 0 < D := by rcases Nat.eq_zero_or_pos D with e | e; subst e; omega; exact e
 have e := Nat.div_add_mod c E
 have m := Nat.mod_lt c hE
 refine ⟨?_, ?_, fun hc => ?_⟩
 ·conv => lhs; rw [← e]
  rw [Nat.add_mul, Nat.mul_comm E, Nat.mul_assoc, Nat.mul_comm E D, h, Nat.add_comm]
 ·have := Nat.mul_lt_mul_of_pos_right m hD
  rw [Nat.mul_comm E D, h] at this
  exact this
 ·rw [Nat.div_lt_iff_lt_mul hE, h]
  exact hc
theorem wrap_up (c D E : Nat) (h : D * E = 18446744073709551616) : IntKind.u64.wrap ((c : Int) * (D : Int)) = ((c % E * D : Nat) : Int) := by
 obtain ⟨a, b, _⟩ := word_up c D E h
 rw [← Int.natCast_mul, a, wrap_mod]
 generalize c % E * D = p at *
 omega
theorem or_up (c d t : Nat) (ht : t ≤ 64) (hd : d < 18446744073709551616) :
  IntKind.u64.wrap ((BitVec.ofInt 64 (IntKind.u64.wrap ((c : Int) * ((2 ^ t : Nat) : Int))) ||| BitVec.ofInt 64 ((d : Int).fdiv ((2 ^ (64 - t) : Nat) : Int))).toNat : Int) = ((c % 2 ^ (64 - t) * 2 ^ t + d / 2 ^ (64 - t) : Nat) : Int) ∧ c % 2 ^ (64 - t) * 2 ^ t + d / 2 ^ (64 - t) < 18446744073709551616 := by
 have hW := W_two t ht
 obtain ⟨a, b, _⟩ := word_up c _ _ hW
 obtain ⟨_, _, e⟩ := word_up d _ _ hW
 have e := e hd
 have hlt : c % 2 ^ (64 - t) * 2 ^ t + d / 2 ^ (64 - t) < 18446744073709551616 := by
  have m := Nat.mod_lt c (Nat.two_pow_pos (64 - t))
  have := Nat.mul_le_mul_right (2 ^ t) (show c % 2 ^ (64 - t) + 1 ≤ 2 ^ (64 - t) from m)
  rw [Nat.add_mul, Nat.one_mul, Nat.mul_comm (2 ^ (64 - t)) (2 ^ t), hW] at this
  omega
 rw [wrap_up c _ _ hW, fdiv_nat]
 exact ⟨or_add _ _ _ e hlt, hlt⟩
theorem or_down (c d t : Nat) (ht : t ≤ 64) (hc : c < 18446744073709551616) :
  IntKind.u64.wrap ((BitVec.ofInt 64 ((c : Int).fdiv ((2 ^ t : Nat) : Int)) ||| BitVec.ofInt 64 (IntKind.u64.wrap ((d : Int) * ((2 ^ (64 - t) : Nat) : Int)))).toNat : Int) = ((d % 2 ^ t * 2 ^ (64 - t) + c / 2 ^ t : Nat) : Int) ∧ d % 2 ^ t * 2 ^ (64 - t) + c / 2 ^ t < 18446744073709551616 := by
 have := or_up d c (64 - t) (by omega) hc
 rw [show 64 - (64 - t) = t by omega] at this
 rw [BitVec.or_comm]
 exact this
theorem M_val : M256 = 115792089237316195423570985008687907853269984665640564039457584007913129639936 := by rw [M256_eq]
theorem mod_mul_M (a K : Nat) : a * K % M256 = a % M256 * K % M256 := by rw [Nat.mul_mod a K, Nat.mul_mod (a % M256) K, Nat.mod_mod]
theorem two_split (p t : Nat) : 2 ^ (64 * p + t) = 2 ^ t * (2 ^ 64) ^ p := by rw [Nat.pow_add, Nat.pow_mul, Nat.mul_comm]
theorem up_sum (c0 c1 c2 c3 D E : Nat) (h : D * E = 18446744073709551616) :
  (((c3 * 18446744073709551616 + c2) * 18446744073709551616 + c1) * 18446744073709551616 + c0) * D =
   ((((c3 / E) * 18446744073709551616 + (c3 % E * D + c2 / E)) * 18446744073709551616 + (c2 % E * D + c1 / E)) * 18446744073709551616 + (c1 % E * D + c0 / E)) * 18446744073709551616 + c0 % E * D := by
 obtain ⟨a0, _⟩ := word_up c0 D E h
 obtain ⟨a1, _⟩ := word_up c1 D E h
 obtain ⟨a2, _⟩ := word_up c2 D E h
 obtain ⟨a3, _⟩ := word_up c3 D E h
 have e : (((c3 * 18446744073709551616 + c2) * 18446744073709551616 + c1) * 18446744073709551616 + c0) * D = ((c3 * D * 18446744073709551616 + c2 * D) * 18446744073709551616 + c1 * D) * 18446744073709551616 + c0 * D := by
  have k1 : ∀ X Y : Nat, (X * 18446744073709551616 + Y) * D = X * D * 18446744073709551616 + Y * D := fun X Y => by rw [Nat.add_mul, Nat.mul_right_comm]
  rw [k1, k1, k1]
 rw [e]
 generalize c0 * D = p0 at *
 generalize c1 * D = p1 at *
 generalize c2 * D = p2 at *
 generalize c3 * D = p3 at *
 generalize c0 % E * D = m0 at *
 generalize c1 % E * D = m1 at *
 generalize c2 % E * D = m2 at *
 generalize c3 % E * D = m3 at *
 generalize c0 / E = q0 at *
 generalize c1 / E = q1 at *
 generalize c2 / E = q2 at *
 generalize c3 / E = q3 at *
 omega
theorem down_sum (c0 c1 c2 c3 D E : Nat) (h : D * E = 18446744073709551616) (hD : 0 < D) :
  (((c3 * 18446744073709551616 + c2) * 18446744073709551616 + c1) * 18446744073709551616 + c0) / D =
   ((c3 / D * 18446744073709551616 + (c3 % D * E + c2 / D)) * 18446744073709551616 + (c2 % D * E + c1 / D)) * 18446744073709551616 + (c1 % D * E + c0 / D) := by
 have w : ∀ c : Nat, D * (c % D * E) = c % D * 18446744073709551616 := fun c => by rw [← h, Nat.mul_left_comm]
 have s0 := Nat.div_add_mod c0 D
 have s1 := Nat.div_add_mod c1 D
 have s2 := Nat.div_add_mod c2 D
 have s3 := Nat.div_add_mod c3 D
 have e : (((c3 * 18446744073709551616 + c2) * 18446744073709551616 + c1) * 18446744073709551616 + c0) =
   D * (((c3 / D * 18446744073709551616 + (c3 % D * E + c2 / D)) * 18446744073709551616 + (c2 % D * E + c1 / D)) * 18446744073709551616 + (c1 % D * E + c0 / D)) + c0 % D := by
  have k1 : ∀ X Y : Nat, D * (X * 18446744073709551616 + Y) = D * X * 18446744073709551616 + D * Y := fun X Y => by rw [Nat.mul_add, Nat.mul_assoc]
  rw [k1, k1, k1, Nat.mul_add D (c3 % D * E), Nat.mul_add D (c2 % D * E), Nat.mul_add D (c1 % D * E), w, w, w]
  clear k1 w h
  generalize D * (c0 / D) = p0 at *
  generalize D * (c1 / D) = p1 at *
  generalize D * (c2 / D) = p2 at *
  generalize D * (c3 / D) = p3 at *
  generalize c0 % D = r0 at *
  generalize c1 % D = r1 at *
  generalize c2 % D = r2 at *
  generalize c3 % D = r3 at *
  omega
 rw [e, Nat.mul_add_div hD, Nat.div_eq_of_lt (Nat.mod_lt _ hD), Nat.add_zero]
theorem n_parts {n : Int} (h : 0 ≤ n ∧ n ≤ 256) : ∃ p t : Nat, n = ((64 * p + t : Nat) : Int) ∧ t ≤ 63 ∧ p ≤ 4 ∧ IntKind.i64.wrap (n.tdiv 64) = (p : Int) ∧ n.tmod 64 = (t : Int) ∧ IntKind.i64.wrap (64 - n.tmod 64) = ((64 - t : Nat) : Int) ∧ (p = 4 → t = 0) := by
 obtain ⟨m, rfl⟩ := Int.eq_ofNat_of_zero_le h.1
 have e1 : (m : Int).tdiv 64 = ((m / 64 : Nat) : Int) := tdiv_nat m 64
 have e2 : (m : Int).tmod 64 = ((m % 64 : Nat) : Int) := by
  rw [Int.tmod_eq_emod_of_nonneg (Int.natCast_nonneg _)]
  exact (Int.natCast_emod m 64).symm
 have hm : m ≤ 256 := by omega
 refine ⟨m / 64, m % 64, by rw [Nat.div_add_mod], by omega, by omega, ?_, e2, ?_, by omega⟩
 ·rw [e1, IntWalk.i64_in _ (by omega)]
 ·rw [e2, IntWalk.i64_in _ (by omega)]
  omega
theorem nn (n : Nat) : (0 : Int) ≤ (n : Int) := Int.natCast_nonneg n
theorem zz64 : (0 : Int) ≤ 0 ∧ (0 : Int) < 18446744073709551616 := by decide
theorem ok_up : ∀ (a : Nat) (n : Int), Ok (moveC a n) → Owes Try.prog Cx.none [(2, .split 6 4)] 100 Try.f73 [sU a, sI .i64 n] (upG a n) := by
 intro a n hc
 obtain ⟨hn, _⟩ := hc
 rw [vc_up]
 obtain ⟨c0, h0, b0⟩ := limb_is a 0
 obtain ⟨c1, h1, b1⟩ := limb_is a 1
 obtain ⟨c2, h2, b2⟩ := limb_is a 2
 obtain ⟨c3, h3, b3⟩ := limb_is a 3
 have hA := horner_is a c0 c1 c2 c3 h0 h1 h2 h3
 obtain ⟨p, t, hnp, ht, hp, y1, y2, y3, y4⟩ := n_parts hn
 have hW := W_two t (by omega)
 have S := up_sum c0 c1 c2 c3 _ _ hW
 obtain ⟨o1, l1⟩ := or_up c1 c0 t (by omega) b0
 obtain ⟨o2, l2⟩ := or_up c2 c1 t (by omega) b1
 obtain ⟨o3, l3⟩ := or_up c3 c2 t (by omega) b2
 obtain ⟨_, l0, _⟩ := word_up c0 _ _ hW
 have o0 := wrap_up c0 _ _ hW
 intro x1 x2 x3 x4 x5 x6 x7 x8 x9
 have E1 : x1 = (p : Int) := y1
 have E2 : x2 = ((64 - t : Nat) : Int) := y3
 have E3 : x3 = ((2 ^ t : Nat) : Int) := by simp only [x3, y2]; exact two_min t (by omega)
 have E5 : x5 = ((2 ^ (64 - t) : Nat) : Int) := by simp only [x5, E2]; exact two_min (64 - t) (by omega)
 have E4 : x4 = ((c0 % 2 ^ (64 - t) * 2 ^ t : Nat) : Int) := by simp only [x4, E3, h0]; exact o0
 have E6 : x6 = ((c1 % 2 ^ (64 - t) * 2 ^ t + c0 / 2 ^ (64 - t) : Nat) : Int) := by simp only [x6, E3, E5, h0, h1]; exact o1
 have E7 : x7 = ((c2 % 2 ^ (64 - t) * 2 ^ t + c1 / 2 ^ (64 - t) : Nat) : Int) := by simp only [x7, E3, E5, h1, h2]; exact o2
 have E8 : x8 = ((c3 % 2 ^ (64 - t) * 2 ^ t + c2 / 2 ^ (64 - t) : Nat) : Int) := by simp only [x8, E3, E5, h2, h3]; exact o3
 have E9 : x9 = a % M256 * (2 ^ t * (2 ^ 64) ^ p) % M256 := by
  simp only [x9]
  rw [hnp, Int.toNat_natCast, two_split, mod_mul_M]
 rw [hA, ← Nat.mul_assoc, S] at E9
 have T4 : p = 4 → x9 = 0 := fun e => by
  simp only [x9]
  rw [hnp, Int.toNat_natCast, e, y4 e]
  exact Nat.mul_mod_left _ _
 have e1 : n.tmod 64 = (t : Int) := y2
 rw [e1]
 clear_value x1 x2 x3 x4 x5 x6 x7 x8 x9
 subst E1 E2 E4 E6 E7 E8
 clear o0 o1 o2 o3 S hA h0 h1 h2 h3
 generalize c0 % 2 ^ (64 - t) * 2 ^ t = w0 at *
 generalize c1 % 2 ^ (64 - t) * 2 ^ t + c0 / 2 ^ (64 - t) = w1 at *
 generalize c2 % 2 ^ (64 - t) * 2 ^ t + c1 / 2 ^ (64 - t) = w2 at *
 generalize c3 % 2 ^ (64 - t) * 2 ^ t + c2 / 2 ^ (64 - t) = w3 at *
 generalize c3 / 2 ^ (64 - t) = w4 at *
 have z := zz64
 have v0 := word_nat l0
 have v1 := word_nat l1
 have v2 := word_nat l2
 have v3 := word_nat l3
 refine ⟨⟨nn _, by omega⟩, ⟨⟨⟨fun e => ?_, fun e => ?_⟩, fun e => ?_⟩, fun e => ?_⟩, fun e => ?_⟩
 ·have e : p = 0 := Int.ofNat.inj e
  subst e
  refine ⟨nn _, nn _, nn _, nn _, nn _, nn _, nn _, v0, v1, v2, v3, ?_, trivial⟩
  rw [E9, join_nat, M_val]
  omega
 ·have e : p = 1 := Int.ofNat.inj e
  subst e
  refine ⟨nn _, nn _, nn _, nn _, nn _, z, v0, v1, v2, ?_, trivial⟩
  have j := join_nat 0 w0 w1 w2
  rw [E9, M_val]
  refine Eq.trans (congrArg (· % _) j) ?_
  omega
 ·have e : p = 2 := Int.ofNat.inj e
  subst e
  refine ⟨nn _, nn _, nn _, z, z, v0, v1, ?_, trivial⟩
  have j := join_nat 0 0 w0 w1
  rw [E9, M_val]
  refine Eq.trans (congrArg (· % _) j) ?_
  omega
 ·have e : p = 3 := Int.ofNat.inj e
  subst e
  refine ⟨nn _, z, z, z, v0, ?_, trivial⟩
  have j := join_nat 0 0 0 w0
  rw [E9, M_val]
  refine Eq.trans (congrArg (· % _) j) ?_
  omega
 ·exact ⟨(T4 (Int.ofNat.inj e)).symm, trivial⟩
theorem card_up : FnOK Try.prog 73 (specUJ moveC upG) :=
 FnOK_UJ CxOK_nil (iv := fun _ _ => [(2, .split 6 4)]) (N := 100) Try.func73 (by kernel_rfl) (by kernel_rfl) (fun _ _ => bnd_one (bnd_U _)) ok_up
theorem ok_down : ∀ (a : Nat) (n : Int), Ok (moveC a n) → Owes Try.prog Cx.none [(2, .split 6 4)] 100 Try.f74 [sU a, sI .i64 n] (downG a n) := by
 intro a n hc
 obtain ⟨hn, _⟩ := hc
 rw [vc_down]
 obtain ⟨c0, h0, b0⟩ := limb_is a 0
 obtain ⟨c1, h1, b1⟩ := limb_is a 1
 obtain ⟨c2, h2, b2⟩ := limb_is a 2
 obtain ⟨c3, h3, b3⟩ := limb_is a 3
 have hA := horner_is a c0 c1 c2 c3 h0 h1 h2 h3
 obtain ⟨p, t, hnp, ht, hp, y1, y2, y3, y4⟩ := n_parts hn
 have hW := W_two t (by omega)
 have S := down_sum c0 c1 c2 c3 _ _ hW (Nat.two_pow_pos t)
 obtain ⟨o1, l1⟩ := or_down c0 c1 t (by omega) b0
 obtain ⟨o2, l2⟩ := or_down c1 c2 t (by omega) b1
 obtain ⟨o3, l3⟩ := or_down c2 c3 t (by omega) b2
 have l4 : c3 / 2 ^ t < 18446744073709551616 := Nat.lt_of_le_of_lt (Nat.div_le_self _ _) b3
 intro x1 x2 x3 x4 x5 x6 x7 x8 x9
 have E1 : x1 = (p : Int) := y1
 have E2 : x2 = ((64 - t : Nat) : Int) := y3
 have E3 : x3 = ((2 ^ t : Nat) : Int) := by simp only [x3, y2]; exact two_min t (by omega)
 have E4 : x4 = ((2 ^ (64 - t) : Nat) : Int) := by simp only [x4, E2]; exact two_min (64 - t) (by omega)
 have E5 : x5 = ((c1 % 2 ^ t * 2 ^ (64 - t) + c0 / 2 ^ t : Nat) : Int) := by simp only [x5, E3, E4, h0, h1]; exact o1
 have E6 : x6 = ((c2 % 2 ^ t * 2 ^ (64 - t) + c1 / 2 ^ t : Nat) : Int) := by simp only [x6, E3, E4, h1, h2]; exact o2
 have E7 : x7 = ((c3 % 2 ^ t * 2 ^ (64 - t) + c2 / 2 ^ t : Nat) : Int) := by simp only [x7, E3, E4, h2, h3]; exact o3
 have E8 : x8 = ((c3 / 2 ^ t : Nat) : Int) := by simp only [x8, E3, h3]; exact fdiv_nat _ _
 have E9 : x9 = a % M256 / 2 ^ t / (2 ^ 64) ^ p % M256 := by
  simp only [x9]
  rw [hnp, Int.toNat_natCast, two_split, Nat.div_div_eq_div_mul]
 rw [hA, S] at E9
 have T4 : p = 4 → x9 = 0 := fun e => by
  simp only [x9]
  rw [hnp, Int.toNat_natCast, e, y4 e]
  rw [show a % M256 / 2 ^ (64 * 4 + 0) = 0 from Nat.div_eq_of_lt (Nat.mod_lt _ (Nat.two_pow_pos _))]
  exact Nat.zero_mod _
 have e1 : n.tmod 64 = (t : Int) := y2
 rw [e1]
 clear_value x1 x2 x3 x4 x5 x6 x7 x8 x9
 subst E1 E2 E5 E6 E7 E8
 clear o1 o2 o3 S hA h0 h1 h2 h3
 generalize c1 % 2 ^ t * 2 ^ (64 - t) + c0 / 2 ^ t = w0 at *
 generalize c2 % 2 ^ t * 2 ^ (64 - t) + c1 / 2 ^ t = w1 at *
 generalize c3 % 2 ^ t * 2 ^ (64 - t) + c2 / 2 ^ t = w2 at *
 generalize c3 / 2 ^ t = w3 at *
 have z := zz64
 have v0 := word_nat l1
 have v1 := word_nat l2
 have v2 := word_nat l3
 have v3 := word_nat l4
 refine ⟨⟨nn _, by omega⟩, ⟨⟨⟨fun e => ?_, fun e => ?_⟩, fun e => ?_⟩, fun e => ?_⟩, fun e => ?_⟩
 ·have e : p = 0 := Int.ofNat.inj e
  subst e
  refine ⟨nn _, nn _, nn _, nn _, nn _, nn _, nn _, v0, v1, v2, v3, ?_, trivial⟩
  rw [E9, join_nat, M_val]
  omega
 ·have e : p = 1 := Int.ofNat.inj e
  subst e
  refine ⟨nn _, nn _, nn _, nn _, nn _, v1, v2, v3, z, ?_, trivial⟩
  have j := join_nat w1 w2 w3 0
  rw [E9, M_val]
  refine Eq.trans (congrArg (· % _) j) ?_
  omega
 ·have e : p = 2 := Int.ofNat.inj e
  subst e
  refine ⟨nn _, nn _, nn _, v2, v3, z, z, ?_, trivial⟩
  have j := join_nat w2 w3 0 0
  rw [E9, M_val]
  refine Eq.trans (congrArg (· % _) j) ?_
  omega
 ·have e : p = 3 := Int.ofNat.inj e
  subst e
  refine ⟨nn _, v3, z, z, z, ?_, trivial⟩
  have j := join_nat w3 0 0 0
  rw [E9, M_val]
  refine Eq.trans (congrArg (· % _) j) ?_
  omega
 ·exact ⟨(T4 (Int.ofNat.inj e)).symm, trivial⟩
theorem card_down : FnOK Try.prog 74 (specUJ moveC downG) :=
 FnOK_UJ CxOK_nil (iv := fun _ _ => [(2, .split 6 4)]) (N := 100) Try.func74 (by kernel_rfl) (by kernel_rfl) (fun _ _ => bnd_one (bnd_U _)) ok_down
end Go.Proofs.Yteimeidpcgebkaa
end
