/-
  Texts: P42, V15, V50, P43, P44, P80, P11, V51, V16, P45, P46, P81, P82.
-/
import Derived.Test.YtohnkglcabfpjaaM1
import Derived.Test.YtohnkglcabfpjaaM2
import Derived.Test.YtohnkglcabfpjaaM3
import Derived.Test.YtohnkglcabfpjaaM4
import Derived.Test.YtohnkglcabfpjaaM5
import Derived.Test.YtohnkglcabfpjaaM6
import Derived.Test.YtohnkglcabfpjaaM7
import Derived.Test.YtohnkglcabfpjaaM8
import Derived.Test.YtohnkglcabfpjaaM9
import Derived.Test.YtohnkglcabfpjaaM10
import Derived.Test.YtohnkglcabfpjaaM11
import Derived.Test.YtohnkglcabfpjaaM12
import Derived.Laws.Strings
section
namespace Go.Proofs.Ytohnkglcabfpjaa
open Go.Sx
def ptOf (i j : Nat) : Pt := if j = 0 then (0, 0, true) else (((tabOf i).getD j (0, 0)).1, ((tabOf i).getD j (0, 0)).2, false)
def oneOK (p b n : Nat) (T : List (Nat × Nat)) (j : Nat) : Bool :=
  Nat.beq j 0 || (match T.getD j (0, 0), T.getD (n - j) (0, 0), T.getD (2 * j % n) (0, 0) with
    | (x, y), (x', y'), (z, w) =>
      (Nat.blt x p && (Nat.blt y p && (Nat.blt 0 y && Nat.beq (y * y % p) (rhsN p 0 b x)))) &&
      ((Nat.beq x' x && Nat.beq y' (p - y)) &&
      ((!Nat.beq ((y + y) % p) 0 && (Nat.beq ((z + x + x) * ((y + y) * (y + y)) % p) ((3 * x * x) * (3 * x * x) % p) && Nat.beq ((w + y) * (y + y) % p) (3 * x * x * (x + p - z) % p))) &&
      ((Nat.beq (rhsN p 0 b x ^ (p / 4 + 1) % p) y || Nat.beq (rhsN p 0 b x ^ (p / 4 + 1) % p) (p - y)) && Nat.beq (Nat.gcd j n) 1))))
theorem one_all : (List.range 8).all (fun i => (List.range (cN i)).all (oneOK (cP i) (cB i) (cN i) (tabOf i))) = true := by kernel_rfl
theorem len_all : (List.range 8).all (fun i => Nat.beq (tabOf i).length (cN i)) = true := by kernel_rfl
theorem len_of {i : Nat} (hi : i < 8) : (tabOf i).length = cN i := Nat.eq_of_beq_eq_true (List.all_eq_true.1 len_all i (List.mem_range.2 hi))
structure OneF (p b n : Nat) (q r t : Nat × Nat) (j : Nat) : Prop where
  lx : q.1 < p
  ly : q.2 < p
  y0 : 0 < q.2
  on : q.2 * q.2 % p = rhsN p 0 b q.1
  nx : r.1 = q.1
  ny : r.2 = p - q.2
  d0 : (q.2 + q.2) % p ≠ 0
  dx : (t.1 + q.1 + q.1) * ((q.2 + q.2) * (q.2 + q.2)) % p = (3 * q.1 * q.1) * (3 * q.1 * q.1) % p
  dy : (t.2 + q.2) * (q.2 + q.2) % p = 3 * q.1 * q.1 * (q.1 + p - t.1) % p
  rt : rhsN p 0 b q.1 ^ (p / 4 + 1) % p = q.2 ∨ rhsN p 0 b q.1 ^ (p / 4 + 1) % p = p - q.2
  gc : Nat.gcd j n = 1
theorem one_of {i j : Nat} (hi : i < 8) (h1 : 1 ≤ j) (h2 : j < cN i) : OneF (cP i) (cB i) (cN i) ((tabOf i).getD j (0, 0)) ((tabOf i).getD (cN i - j) (0, 0)) ((tabOf i).getD (2 * j % cN i) (0, 0)) j := by
  have h := List.all_eq_true.1 (List.all_eq_true.1 one_all i (List.mem_range.2 hi)) j (List.mem_range.2 h2)
  unfold oneOK at h
  generalize (tabOf i).getD j (0, 0) = q at *
  generalize (tabOf i).getD (cN i - j) (0, 0) = r at *
  generalize (tabOf i).getD (2 * j % cN i) (0, 0) = t at *
  obtain ⟨x, y⟩ := q
  obtain ⟨x', y'⟩ := r
  obtain ⟨z, w⟩ := t
  have hj : Nat.beq j 0 = false := by
    rcases Bool.eq_false_or_eq_true (Nat.beq j 0) with e | e
    · have := Nat.eq_of_beq_eq_true e; omega
    · exact e
  rw [hj, Bool.false_or] at h
  simp only [Bool.and_eq_true, Bool.or_eq_true, Bool.not_eq_true'] at h
  obtain ⟨⟨a1, a2, a3, a4⟩, ⟨b1, b2⟩, ⟨c1, c2, c3⟩, d, e⟩ := h
  refine ⟨?_, ?_, ?_, Nat.eq_of_beq_eq_true a4, Nat.eq_of_beq_eq_true b1, Nat.eq_of_beq_eq_true b2, fun h => ?_, Nat.eq_of_beq_eq_true c2, Nat.eq_of_beq_eq_true c3, ?_, Nat.eq_of_beq_eq_true e⟩
  · simpa using a1
  · simpa using a2
  · simpa using a3
  · rw [show (y + y) % cP i = 0 from h] at c1
    exact absurd c1 (by decide)
  · exact d.imp Nat.eq_of_beq_eq_true Nat.eq_of_beq_eq_true
theorem pt_zero (i : Nat) : ptOf i 0 = (0, 0, true) := rfl
theorem pt_pos (i : Nat) {j : Nat} (h : 1 ≤ j) : ptOf i j = (((tabOf i).getD j (0, 0)).1, ((tabOf i).getD j (0, 0)).2, false) := by
  unfold ptOf
  rw [if_neg (by omega)]
theorem tri_get {p n s : Nat} {T : List (Nat × Nat)} (h : triN p n (T.drop s) ((T ++ T).drop (2 * s)) = true) {a b : Nat} (hs : s ≤ a) (hn : a - s < n) (hab : a < b) (hb : b < T.length) :
    pairOK p (T.getD a (0, 0)).1 (T.getD a (0, 0)).2 (T.getD b (0, 0)) (T.getD ((a + b) % T.length) (0, 0)) = true := by
  have ga : ∀ j, j < T.length → T[j]? = some (T.getD j (0, 0)) := fun j hj => by
    rw [List.getD_eq_getElem?_getD, List.getElem?_eq_getElem hj]; rfl
  refine triN_spec n _ _ h (a - s) (b - a - 1) _ _ _ hn ?_ ?_ ?_
  · rw [List.getElem?_drop, show s + (a - s) = a by omega]
    exact ga a (by omega)
  · rw [List.getElem?_drop, show s + (a - s + 1 + (b - a - 1)) = b by omega]
    exact ga b hb
  · rw [List.getElem?_drop, show 2 * s + (2 * (a - s) + 1 + (b - a - 1)) = a + b by omega]
    rcases Nat.lt_or_ge (a + b) T.length with g | g
    · rw [List.getElem?_append_left g, Nat.mod_eq_of_lt g]
      exact ga _ g
    · rw [List.getElem?_append_right g, ← Nat.add_sub_cancel (a + b) T.length, Nat.sub_add_comm g, Nat.add_sub_cancel, Nat.add_mod_right, Nat.mod_eq_of_lt (by omega)]
      exact ga _ (by omega)
theorem pair_of {i a b : Nat} (hi : i < 8) (ha : 1 ≤ a) (hab : a < b) (hb : b < cN i) : pairOK (cP i) ((tabOf i).getD a (0, 0)).1 ((tabOf i).getD a (0, 0)).2 ((tabOf i).getD b (0, 0)) ((tabOf i).getD ((a + b) % cN i) (0, 0)) = true := by
  have hl := len_of hi
  rw [← hl] at hb ⊢
  match i, hi with
  | 0, _ => exact tri_get (s := 1) tri0 ha (by have : (tabOf 0).length = 31 := hl; omega) hab hb
  | 1, _ => exact tri_get (s := 1) tri1 ha (by have : (tabOf 1).length = 73 := hl; omega) hab hb
  | 2, _ => exact tri_get (s := 1) tri2 ha (by have : (tabOf 2).length = 67 := hl; omega) hab hb
  | 3, _ => exact tri_get (s := 1) tri3 ha (by have : (tabOf 3).length = 163 := hl; omega) hab hb
  | 4, _ => exact tri_get (s := 1) tri4 ha (by have : (tabOf 4).length = 181 := hl; omega) hab hb
  | 5, _ => exact tri_get (s := 1) tri5 ha (by have : (tabOf 5).length = 199 := hl; omega) hab hb
  | 6, _ => exact tri_get (s := 1) tri6 ha (by have : (tabOf 6).length = 409 := hl; omega) hab hb
  | 7, _ =>
    have hlen : (tabOf 7).length = 643 := hl
    rcases Nat.lt_or_ge a 111 with g | g
    · exact tri_get (s := 1) tri7a ha (by omega) hab hb
    · rcases Nat.lt_or_ge a 251 with g' | g'
      · exact tri_get (s := 111) tri7b g (by omega) hab hb
      · exact tri_get (s := 251) tri7c g' (by omega) hab hb
  | k + 8, h => omega
end Go.Proofs.Ytohnkglcabfpjaa
end

section
namespace Go.Proofs.Ytohnkglcabfpjaa
open Go.Sx
set_option maxRecDepth 100000
def ixP (p : Nat) : Nat := if p = 43 then 0 else if p = 67 then 1 else if p = 79 then 2 else if p = 139 then 3 else if p = 163 then 4 else if p = 211 then 5 else if p = 379 then 6 else 7
structure isCv (i P A B N X Y : Nat) (F : Bool) : Prop where
  lt : i < 8
  p : P % M256 = cP i
  a : A % M256 = 0
  b : B % M256 = cB i
  n : N % M256 = cN i
  x : X % M256 = cX i
  y : Y % M256 = cY i
  f : F = false
def pointC : List (List At) → List Prop
  | [[.u P, .u A, .u B, .u N, .u X, .u Y, .b F], [.i n]] => [isCv (ixP (P % M256)) P A B N X Y F, i64ok n]
  | _ => [False]
def secretG : List (List At) → SV
  | [[.u P, .u _, .u _, .u _, .u _, .u _, .b _], [.i n]] => .one (sU (1 + (n % ((cN (ixP (P % M256)) : Int) - 1)).toNat))
  | _ => .tup []
def liftY (m A B x : Nat) (odd : Bool) : Nat := if ((rhsN m A B x ^ (m / 4 + 1) % m % 2 == 1) != odd) = true then (0 + m - rhsN m A B x ^ (m / 4 + 1) % m) % m else rhsN m A B x ^ (m / 4 + 1) % m
def cAddS' : FSpec := specA [.str pCv, .str pPt, .str pPt] cAddC cAddG
def cMultS' : FSpec := specA [.str pCv, .str [.u], .str pPt] cMultC cMultG
def cOnS' : FSpec := specA [.str pCv, .str pPt] cOnC cOnG
def cSecret : FSpec := specA [.str pCv, .int .i64] pointC secretG
def cPick : FSpec := specII (fun a b => [i64ok a, 0 < b ∧ b ≤ 1048576]) pickedG
def cxSecret : Cx := [(21, cPick)]
theorem vc_Secret (P A B N X Y : Nat) (F : Bool) (n : Int) :
    Owes Try.prog cxSecret [] 100 Try.f22 [sCv P A B N X Y F, sI .i64 n] (secretG [[.u P, .u A, .u B, .u N, .u X, .u Y, .b F], [.i n]]) =
    (let x1 : Int := Go.IntKind.i64.wrap (Go.IntKind.i64.wrap (limb N 0) - (1 : Int)); let x2 : Int := Go.IntKind.u64.wrap ((1 : Int) + Go.IntKind.u64.wrap (n % x1)); ((-9223372036854775808 : Int) ≤ n ∧ n ≤ (9223372036854775807 : Int)) ∧ ((0 : Int) < x1 ∧ x1 ≤ (1048576 : Int)) ∧ ((0 : Int) ≤ x2 ∧ x2 < (18446744073709551616 : Int)) ∧ ((0 : Int) ≤ (0 : Int) ∧ (0 : Int) < (18446744073709551616 : Int)) ∧ ((0 : Int) ≤ (0 : Int) ∧ (0 : Int) < (18446744073709551616 : Int)) ∧ ((0 : Int) ≤ (0 : Int) ∧ (0 : Int) < (18446744073709551616 : Int)) ∧ join x2 (0 : Int) (0 : Int) (0 : Int) % M256 = (1 + (n % ((↑(cN (ixP (P % M256))) : Int) - (1 : Int))).toNat) % M256 ∧ True) := by kernel_rfl
end Go.Proofs.Ytohnkglcabfpjaa
end

section
namespace Go.Proofs.Ytohnkglcabfpjaa
open Go.Sx
set_option maxRecDepth 100000
abbrev pSg : List PK := [.u, .u, .i]
abbrev sSg (R S : Nat) (o : Int) : SA := .agg [.u R, .u S, .c (.val (.int .i64 o))]
def secB (n d : Nat) : Bool := !(d % M256 == 0) && decide (d % M256 < n % M256)
def secG (n d : Nat) : SV := .one (sB (secB n d))
def restN (n a : Nat) : Nat := if n % M256 = 0 then 0 else a % M256 % (n % M256)
def oRestG (n a : Nat) : SV := .one (sU (restN n a))
def minN (n a : Nat) : Nat := if fE 0 a n = 0 then (0 + n % M256 - a % M256) % (n % M256) else 0
def minG (n a : Nat) : SV := .one (sU (minN n a))
def mulN (n a b : Nat) : Nat := if fE a b n = 0 then a % M256 * (b % M256) % (n % M256) else 0
def oMulG (n a b : Nat) : SV := .one (sU (mulN n a b))
def ofSumC : List (List At) → List Prop
  | [[.u _], [.y 32 g]] => [byteOK 32 g]
  | _ => [False]
def ofSumG : List (List At) → SV
  | [[.u n], [.y 32 g]] => .one (sU (restN n (fromN g 32)))
  | _ => .tup []
def oinvN (n a : Nat) : Nat := if finvE a n = 0 then invN (a % M256) (n % M256) else 0
def oinvE (n a : Nat) : Int := if finvE a n = 0 then 0 else 16
def oinvG (n a : Nat) : SV := .tup [sU (oinvN n a), sI .i64 (oinvE n a)]
def highB (n s : Nat) : Bool := decide (minN n s % M256 < s % M256)
def oHighG (n s : Nat) : SV := .one (sB (highB n s))
def mayB (n R S : Nat) (o : Int) : Bool := secB n R && secB n S && !highB n S && decide (0 ≤ o) && decide (o ≤ 3)
def mayC : List (List At) → List Prop
  | [[.u _], [.u _, .u _, .i _]] => []
  | _ => [False]
def mayG' : List (List At) → SV
  | [[.u n], [.u R, .u S, .i o]] => .one (sB (mayB n R S o))
  | _ => .tup []
def ckC : List (List At) → List Prop
  | [[.u P, .u A, .u B, .u N, .u X, .u Y, .b F]] => [goodP (P % M256) (A % M256) (B % M256) (N % M256) (red X Y F)]
  | _ => [False]
def ckG : List (List At) → SV
  | [[.u _, .u _, .u _, .u _, .u _, .u _, .b _]] => .one (sI .i64 0)
  | _ => .tup []
def lookC : List (List At) → List Prop
  | [[.u P, .u A, .u B, .u N, .u X, .u Y, .b F], [.u _]] => [goodP (P % M256) (A % M256) (B % M256) (N % M256) (red X Y F)]
  | _ => [False]
def lookG : List (List At) → SV
  | [[.u _, .u _, .u _, .u N, .u _, .u _, .b _], [.u d]] => .one (sI .i64 (if secB N d = true then 0 else 6))
  | _ => .tup []
def pntC : List (List At) → List Prop
  | [[.u P, .u A, .u B, .u N, .u X, .u Y, .b F], [.u d]] => [goodP (P % M256) (A % M256) (B % M256) (N % M256) (red X Y F), secB N d = true, mulOK (P % M256) (A % M256) (d % M256) (red X Y F)]
  | _ => [False]
def pntG : List (List At) → SV
  | [[.u P, .u A, .u _, .u _, .u X, .u Y, .b F], [.u d]] => .tup [ptS (cmulR (P % M256) (A % M256) (d % M256) (red X Y F) 256), sI .i64 0]
  | _ => .tup []
structure bothOK (P A B N : Nat) (b : Pt) (k : Nat) (p : Pt) (l : Nat) : Prop where
  g : goodP P A B N b
  p0 : onP P A B p
  m1 : mulOK P A k b
  m2 : mulOK P A l p
  i1 : inM (cmulR P A k b 256) ∧ onP P A B (cmulR P A k b 256)
  i2 : inM (cmulR P A l p 256) ∧ onP P A B (cmulR P A l p 256)
  s : sumOK P A (cmulR P A k b 256) (cmulR P A l p 256)
def bothC : List (List At) → List Prop
  | [[.u P, .u A, .u B, .u N, .u X, .u Y, .b F], [.u k], [.u x, .u y, .b f], [.u l]] => [bothOK (P % M256) (A % M256) (B % M256) (N % M256) (red X Y F) (k % M256) (red x y f) (l % M256)]
  | _ => [False]
def bothP (P A : Nat) (b : Pt) (k : Nat) (p : Pt) (l : Nat) : Pt := csum P A (cmulR P A k b 256) (cmulR P A l p 256)
def bothG : List (List At) → SV
  | [[.u P, .u A, .u _, .u _, .u X, .u Y, .b F], [.u k], [.u x, .u y, .b f], [.u l]] => .tup [ptS (bothP (P % M256) (A % M256) (red X Y F) (k % M256) (red x y f) (l % M256)), sI .i64 0]
  | _ => .tup []
def liftB (m A B x : Nat) (odd : Bool) : Bool := ((liftY m A B x odd % 2 == 1) == odd) && (liftY m A B x odd * liftY m A B x odd % m == rhsN m A B x)
def liftE (m A B x : Nat) (odd : Bool) : Int := if m ≤ x then 6 else if liftB m A B x odd = true then 0 else 16
def lift2C : List (List At) → List Prop
  | [[.u P, .u A, .u B, .u N, .u X, .u Y, .b F], [.u _], [.b _]] => [goodP (P % M256) (A % M256) (B % M256) (N % M256) (red X Y F)]
  | _ => [False]
def lift2G : List (List At) → SV
  | [[.u P, .u A, .u B, .u _, .u _, .u _, .b _], [.u x], [.b odd]] => .tup [.agg [.u (if liftE (P % M256) (A % M256) (B % M256) (x % M256) odd = 0 then x % M256 else 0), .u (if liftE (P % M256) (A % M256) (B % M256) (x % M256) odd = 0 then liftY (P % M256) (A % M256) (B % M256) (x % M256) odd else 0), .c (.val (.bool false))], sI .i64 (liftE (P % M256) (A % M256) (B % M256) (x % M256) odd)]
  | _ => .tup []
def pofX (N R : Nat) (o : Int) : Nat := if 2 ≤ o then R + N else R
def pofO (N R : Nat) (o : Int) : Bool := decide (2 ≤ o) && decide (M256 ≤ R % M256 + N % M256)
def pofE (P A B N R : Nat) (o : Int) : Int := if pofO N R o = true then 10 else if liftE P A B (pofX N R o % M256) (o.tmod 2 == 1) = 0 then 0 else 10
def pofP (P A B N R : Nat) (o : Int) : Pt := (if pofE P A B N R o = 0 then pofX N R o % M256 else 0, if pofE P A B N R o = 0 then liftY P A B (pofX N R o % M256) (o.tmod 2 == 1) else 0, false)
def pofG : List (List At) → SV
  | [[.u P, .u A, .u B, .u N, .u _, .u _, .b _], [.u R, .u _, .i o]] => .tup [ptS (pofP (P % M256) (A % M256) (B % M256) N R o), sI .i64 (pofE (P % M256) (A % M256) (B % M256) N R o)]
  | _ => .tup []
def pofC : List (List At) → List Prop
  | [[.u P, .u A, .u B, .u N, .u X, .u Y, .b F], [.u _, .u _, .i _]] => [goodP (P % M256) (A % M256) (B % M256) (N % M256) (red X Y F)]
  | _ => [False]
def cOfSum : FSpec := specA [.str [.u], .str [.y 32]] ofSumC ofSumG
def cMay : FSpec := specA [.str [.u], .str pSg] mayC mayG'
def cCk : FSpec := specA [.str pCv] ckC ckG
def cLook : FSpec := specA [.str pCv, .str [.u]] lookC lookG
def cPnt : FSpec := specA [.str pCv, .str [.u]] pntC pntG
def cBoth : FSpec := specA [.str pCv, .str [.u], .str pPt, .str [.u]] bothC bothG
def cLift2 : FSpec := specA [.str pCv, .str [.u], .bit] lift2C lift2G
def cPof : FSpec := specA [.str pCv, .str pSg] pofC pofG
def cxSec : Cx := [(40, specUU cmpG)]
def cxORest : Cx := [(17, specUU dmG)]
def cxOMin : Cx := [(15, specUUU noC fsubG)]
def cxOMul : Cx := [(20, specUUU noC fmulG)]
def cxOfSum : Cx := [(77, specB fromG), (56, specUU oRestG)]
def cxOInv : Cx := [(76, specUU finvG)]
def cxHigh : Cx := [(51, specUU minG), (40, specUU cmpG)]
def cxMay : Cx := [(74, specUU secG), (75, specUU oHighG)]
def cxCk : Cx := [(30, cBe)]
def cxLook : Cx := [(46, cCk), (74, specUU secG)]
def cxPnt : Cx := [(78, cLook), (16, cMultS')]
def cxBoth : Cx := [(16, cMultS'), (12, cAddS')]
def cxLift2 : Cx := [(30, cBe), (42, cRight), (41, cRoot), (44, cHsub), (58, cHmul), (43, specU oddG), (40, specUU cmpG)]
def cxPof : Cx := [(63, specUU addG), (23, cLift2)]
theorem vc_isSecret (n d : Nat) :
    Owes Try.prog cxSec [] 100 Try.f74 [sU n, sU d] (secG n d) =
    (let x1 : Bool := !conj [d % M256 == 0]; (x1 = Bool.true → x1 = Bool.true) ∧ (x1 = Bool.true → x1 = Bool.true) ∧ (x1 = Bool.true → x1 = Bool.true) ∧ (x1 = Bool.true → x1 = Bool.true) ∧ (x1 && Decidable.decide (cmpN d n < (0 : Int))) = secB n d) := by kernel_rfl
theorem vc_oRest (n a : Nat) :
    Owes Try.prog cxORest [] 100 Try.f56 [sU n, sU a] (oRestG n a) =
    (let x1 : Nat := n % M256; (if x1 = 0 then 0 else a % M256 % x1) % M256 = restN n a % M256 ∧ True) := by kernel_rfl
theorem vc_oMinus (n a : Nat) :
    Owes Try.prog cxOMin [] 100 Try.f51 [sU n, sU a] (minG n a) =
    (let x1 : Nat := n % M256; (if fE 0 a n = (0 : Int) then (0 + x1 - a % M256) % x1 else 0) % M256 = minN n a % M256 ∧ True) := by kernel_rfl
theorem vc_oMul (n a b : Nat) :
    Owes Try.prog cxOMul [] 100 Try.f52 [sU n, sU a, sU b] (oMulG n a b) =
    ((if fE a b n = (0 : Int) then a % M256 * (b % M256) % (n % M256) else 0) % M256 = mulN n a b % M256 ∧ True) := by kernel_rfl
theorem vc_ofSum (n : Nat) (g : Nat → Int) :
    Owes Try.prog cxOfSum [] 100 Try.f53 [sU n, sBy 32 g] (ofSumG [[.u n], [.y 32 g]]) =
    (let x1 : Nat := restN n (fromN g 32) % M256; (∀ (j : Nat), j < 32 → (0 : Int) ≤ g j ∧ g j < (256 : Int)) ∧ x1 = x1 ∧ True) := by kernel_rfl
theorem vc_oInv (n a : Nat) :
    Owes Try.prog cxOInv [] 100 Try.f49 [sU n, sU a] (oinvG n a) =
    (let x1 : Nat := oinvN n a % M256; ((finvE a n != (0 : Int)) = Bool.true → (0 = x1 ∧ True) ∧ (16 : Int) = oinvE n a) ∧ ((finvE a n != (0 : Int)) = Bool.false → ((if finvE a n = (0 : Int) then invN (a % M256) (n % M256) else 0) % M256 = x1 ∧ True) ∧ (0 : Int) = oinvE n a)) := by kernel_rfl
theorem vc_oHigh (n s : Nat) :
    Owes Try.prog cxHigh [] 100 Try.f75 [sU n, sU s] (oHighG n s) =
    (Decidable.decide (cmpN s (minN n s) > (0 : Int)) = highB n s) := by kernel_rfl
theorem vc_mayBe (n R S : Nat) (o : Int) :
    Owes Try.prog cxMay [] 100 Try.f47 [sU n, sSg R S o] (mayG' [[.u n], [.u R, .u S, .i o]]) =
    (let x1 : Bool := secB n R && secB n S && !highB n S; let x2 : Bool := x1 && Decidable.decide (o ≥ (0 : Int)); (secB n R = Bool.true → secB n R = Bool.true) ∧ (secB n R = Bool.true → secB n R = Bool.true) ∧ (secB n R = Bool.true → secB n R = Bool.true) ∧ (secB n R = Bool.true → secB n R = Bool.true) ∧ ((secB n R && secB n S) = Bool.true → (secB n R && secB n S) = Bool.true) ∧ ((secB n R && secB n S) = Bool.true → (secB n R && secB n S) = Bool.true) ∧ ((secB n R && secB n S) = Bool.true → (secB n R && secB n S) = Bool.true) ∧ ((secB n R && secB n S) = Bool.true → (secB n R && secB n S) = Bool.true) ∧ ((secB n R && secB n S) = Bool.true → (secB n R && secB n S) = Bool.true) ∧ (x1 = Bool.true → x1 = Bool.true) ∧ (x1 = Bool.true → x1 = Bool.true) ∧ (x1 = Bool.true → x1 = Bool.true) ∧ (x2 = Bool.true → x2 = Bool.true) ∧ (x2 = Bool.true → x2 = Bool.true) ∧ (x2 = Bool.true → x2 = Bool.true) ∧ (x2 && Decidable.decide (o ≤ (3 : Int))) = mayB n R S o) := by kernel_rfl
theorem vc_cCheck (P A B N X Y : Nat) (F : Bool) :
    Owes Try.prog cxCk [] 100 Try.f46 [sCv P A B N X Y F] (ckG [[.u P, .u A, .u B, .u N, .u X, .u Y, .b F]]) =
    (let x1 : Nat := P % M256; x1 = x1 ∧ goodP x1 (A % M256) (B % M256) (N % M256) (red X Y F) ∧ (0 : Int) = (0 : Int)) := by kernel_rfl
theorem vc_look (P A B N X Y d : Nat) (F : Bool) :
    Owes Try.prog cxLook [] 100 Try.f78 [sCv P A B N X Y F, sU d] (lookG [[.u P, .u A, .u B, .u N, .u X, .u Y, .b F], [.u d]]) =
    (let x1 : Int := if secB N d = Bool.true then (0 : Int) else (6 : Int); goodP (P % M256) (A % M256) (B % M256) (N % M256) (red X Y F) ∧ (((0 : Int) != (0 : Int)) = Bool.true → (0 : Int) = x1) ∧ (((0 : Int) != (0 : Int)) = Bool.false → ((!secB N d) = Bool.true → (6 : Int) = x1) ∧ ((!secB N d) = Bool.false → (0 : Int) = x1))) := by kernel_rfl
theorem vc_sPoint (P A B N X Y d : Nat) (F : Bool) :
    Owes Try.prog cxPnt [] 100 Try.f55 [sCv P A B N X Y F, sU d] (pntG [[.u P, .u A, .u B, .u N, .u X, .u Y, .b F], [.u d]]) =
    (let x1 : Nat := P % M256; let x2 : Nat := A % M256; let x3 : Nat := B % M256; let x4 : Int := if secB N d = Bool.true then (0 : Int) else (6 : Int); let x5 : Nat := d % M256; let x6 : Nat := (cmulR x1 x2 x5 (red X Y F) 256).fst % M256; let x7 : Nat := (cmulR x1 x2 x5 (red X Y F) 256).snd.fst % M256; let x8 : Bool := (cmulR x1 x2 x5 (red X Y F) 256).snd.snd; goodP x1 x2 x3 (N % M256) (red X Y F) ∧ ((x4 != (0 : Int)) = Bool.true → (0 = x6 ∧ 0 = x7 ∧ Bool.false = x8 ∧ True) ∧ x4 = (0 : Int)) ∧ ((x4 != (0 : Int)) = Bool.false → goodP x1 x2 x3 (N % M256) (red X Y F) ∧ onP x1 x2 x3 (red X Y F) ∧ mulOK x1 x2 x5 (red X Y F) ∧ (x6 = x6 ∧ x7 = x7 ∧ x8 = x8 ∧ True) ∧ (0 : Int) = (0 : Int))) := by kernel_rfl
theorem vc_both (P A B N X Y k x y l : Nat) (F f : Bool) :
    Owes Try.prog cxBoth [] 100 Try.f50 [sCv P A B N X Y F, sU k, sPt x y f, sU l] (bothG [[.u P, .u A, .u B, .u N, .u X, .u Y, .b F], [.u k], [.u x, .u y, .b f], [.u l]]) =
    (let x1 : Nat := P % M256; let x2 : Nat := A % M256; let x3 : Nat := B % M256; let x4 : Nat := k % M256; let x5 : Nat := l % M256; goodP x1 x2 x3 (N % M256) (red X Y F) ∧ onP x1 x2 x3 (red X Y F) ∧ mulOK x1 x2 x4 (red X Y F) ∧ goodP x1 x2 x3 (N % M256) (red X Y F) ∧ onP x1 x2 x3 (red x y f) ∧ mulOK x1 x2 x5 (red x y f) ∧ goodP x1 x2 x3 (N % M256) (red X Y F) ∧ onP x1 x2 x3 (red (cmulR x1 x2 x4 (red X Y F) 256).fst (cmulR x1 x2 x4 (red X Y F) 256).snd.fst (cmulR x1 x2 x4 (red X Y F) 256).snd.snd) ∧ onP x1 x2 x3 (red (cmulR x1 x2 x5 (red x y f) 256).fst (cmulR x1 x2 x5 (red x y f) 256).snd.fst (cmulR x1 x2 x5 (red x y f) 256).snd.snd) ∧ sumOK x1 x2 (red (cmulR x1 x2 x4 (red X Y F) 256).fst (cmulR x1 x2 x4 (red X Y F) 256).snd.fst (cmulR x1 x2 x4 (red X Y F) 256).snd.snd) (red (cmulR x1 x2 x5 (red x y f) 256).fst (cmulR x1 x2 x5 (red x y f) 256).snd.fst (cmulR x1 x2 x5 (red x y f) 256).snd.snd) ∧ ((csum x1 x2 (red (cmulR x1 x2 x4 (red X Y F) 256).fst (cmulR x1 x2 x4 (red X Y F) 256).snd.fst (cmulR x1 x2 x4 (red X Y F) 256).snd.snd) (red (cmulR x1 x2 x5 (red x y f) 256).fst (cmulR x1 x2 x5 (red x y f) 256).snd.fst (cmulR x1 x2 x5 (red x y f) 256).snd.snd)).fst % M256 = (bothP x1 x2 (red X Y F) x4 (red x y f) x5).fst % M256 ∧ (csum x1 x2 (red (cmulR x1 x2 x4 (red X Y F) 256).fst (cmulR x1 x2 x4 (red X Y F) 256).snd.fst (cmulR x1 x2 x4 (red X Y F) 256).snd.snd) (red (cmulR x1 x2 x5 (red x y f) 256).fst (cmulR x1 x2 x5 (red x y f) 256).snd.fst (cmulR x1 x2 x5 (red x y f) 256).snd.snd)).snd.fst % M256 = (bothP x1 x2 (red X Y F) x4 (red x y f) x5).snd.fst % M256 ∧ (csum x1 x2 (red (cmulR x1 x2 x4 (red X Y F) 256).fst (cmulR x1 x2 x4 (red X Y F) 256).snd.fst (cmulR x1 x2 x4 (red X Y F) 256).snd.snd) (red (cmulR x1 x2 x5 (red x y f) 256).fst (cmulR x1 x2 x5 (red x y f) 256).snd.fst (cmulR x1 x2 x5 (red x y f) 256).snd.snd)).snd.snd = (bothP x1 x2 (red X Y F) x4 (red x y f) x5).snd.snd ∧ True) ∧ (0 : Int) = (0 : Int)) := by kernel_rfl
theorem vc_Lift2 (P A B N X Y x : Nat) (F odd : Bool) :
    Owes Try.prog cxLift2 [] 100 Try.f23 [sCv P A B N X Y F, sU x, sB odd] (lift2G [[.u P, .u A, .u B, .u N, .u X, .u Y, .b F], [.u x], [.b odd]]) =
    (let x1 : Nat := P % M256; let x2 : Nat := A % M256; let x3 : Nat := B % M256; let x4 : Nat := x % M256; let x5 : Int := liftE x1 x2 x3 x4 odd; let x6 : Nat := (if x5 = (0 : Int) then x4 else 0) % M256; let x7 : Nat := (if x5 = (0 : Int) then liftY x1 x2 x3 x4 odd else 0) % M256; let x8 : Nat := rhsN x1 x2 x3 x4 % M256; let x9 : Nat := x8 ^ (x1 / 4 + 1) % x1 % M256; let x10 : Nat := (0 + x1 - x9) % x1 % M256; x1 = x1 ∧ goodP x1 x2 x3 (N % M256) (red X Y F) ∧ (Decidable.decide (cmpN x P ≥ (0 : Int)) = Bool.true → (0 = x6 ∧ 0 = x7 ∧ Bool.false = Bool.false ∧ True) ∧ (6 : Int) = x5) ∧ (Decidable.decide (cmpN x P ≥ (0 : Int)) = Bool.false → x2 < x1 ∧ x3 < x1 ∧ x4 < x1 ∧ x8 < x1 ∧ ((!(x9 % 2 == 1) == odd) = Bool.true → 0 < x1 ∧ x9 < x1 ∧ ((!(x10 % 2 == 1) == odd) = Bool.true → x10 < x1 ∧ x10 < x1 ∧ x2 < x1 ∧ x3 < x1 ∧ x4 < x1 ∧ ((!conj [x10 * x10 % x1 % M256 == x8]) = Bool.true → (0 = x6 ∧ 0 = x7 ∧ Bool.false = Bool.false ∧ True) ∧ (16 : Int) = x5) ∧ ((!conj [x10 * x10 % x1 % M256 == x8]) = Bool.false → (0 = x6 ∧ 0 = x7 ∧ Bool.false = Bool.false ∧ True) ∧ (16 : Int) = x5)) ∧ ((!(x10 % 2 == 1) == odd) = Bool.false → x10 < x1 ∧ x10 < x1 ∧ x2 < x1 ∧ x3 < x1 ∧ x4 < x1 ∧ ((!conj [x10 * x10 % x1 % M256 == x8]) = Bool.true → (0 = x6 ∧ 0 = x7 ∧ Bool.false = Bool.false ∧ True) ∧ (16 : Int) = x5) ∧ ((!conj [x10 * x10 % x1 % M256 == x8]) = Bool.false → (x4 = x6 ∧ x10 = x7 ∧ Bool.false = Bool.false ∧ True) ∧ (0 : Int) = x5))) ∧ ((!(x9 % 2 == 1) == odd) = Bool.false → ((!(x9 % 2 == 1) == odd) = Bool.true → x9 < x1 ∧ x9 < x1 ∧ x2 < x1 ∧ x3 < x1 ∧ x4 < x1 ∧ ((!conj [x9 * x9 % x1 % M256 == x8]) = Bool.true → (0 = x6 ∧ 0 = x7 ∧ Bool.false = Bool.false ∧ True) ∧ (16 : Int) = x5) ∧ ((!conj [x9 * x9 % x1 % M256 == x8]) = Bool.false → (0 = x6 ∧ 0 = x7 ∧ Bool.false = Bool.false ∧ True) ∧ (16 : Int) = x5)) ∧ ((!(x9 % 2 == 1) == odd) = Bool.false → x9 < x1 ∧ x9 < x1 ∧ x2 < x1 ∧ x3 < x1 ∧ x4 < x1 ∧ ((!conj [x9 * x9 % x1 % M256 == x8]) = Bool.true → (0 = x6 ∧ 0 = x7 ∧ Bool.false = Bool.false ∧ True) ∧ (16 : Int) = x5) ∧ ((!conj [x9 * x9 % x1 % M256 == x8]) = Bool.false → (x4 = x6 ∧ x9 = x7 ∧ Bool.false = Bool.false ∧ True) ∧ (0 : Int) = x5))))) := by kernel_rfl
theorem vc_pointOf (P A B N X Y R S : Nat) (F : Bool) (o : Int) :
    Owes Try.prog cxPof [] 100 Try.f48 [sCv P A B N X Y F, sSg R S o] (pofG [[.u P, .u A, .u B, .u N, .u X, .u Y, .b F], [.u R, .u S, .i o]]) =
    (let x1 : Nat := P % M256; let x2 : Nat := A % M256; let x3 : Nat := B % M256; let x4 : Nat := N % M256; let x5 : Nat := R % M256; let x6 : Nat := x5 + x4; let x7 : Bool := Decidable.decide (M256 ≤ x6); let x8 : Nat := (R + N) % M256; let x9 : Bool := o.tmod (2 : Int) == (1 : Int); let x10 : Int := liftE x1 x2 x3 x8 x9; let x11 : Nat := (pofP x1 x2 x3 N R o).fst % M256; let x12 : Nat := (pofP x1 x2 x3 N R o).snd.fst % M256; let x13 : Int := pofE x1 x2 x3 N R o; let x14 : Int := liftE x1 x2 x3 x5 x9; (Decidable.decide (o ≥ (2 : Int)) = Bool.true → goodP x1 x2 x3 x4 (red X Y F) ∧ ((!x7) = Bool.true → (!x7) = Bool.true) ∧ (x7 = Bool.false → (!x7) = Bool.true) ∧ ((x7 || x10 != (0 : Int)) = Bool.true → (0 = x11 ∧ 0 = x12 ∧ Bool.false = (pofP x1 x2 x3 N R o).snd.snd ∧ True) ∧ (10 : Int) = x13) ∧ ((x7 || x10 != (0 : Int)) = Bool.false → ((if x10 = (0 : Int) then x8 else 0) % M256 = x11 ∧ (if x10 = (0 : Int) then liftY x1 x2 x3 x8 x9 else 0) % M256 = x12 ∧ Bool.false = (pofP x1 x2 x3 N R o).snd.snd ∧ True) ∧ (0 : Int) = x13)) ∧ (Decidable.decide (o ≥ (2 : Int)) = Bool.false → goodP x1 x2 x3 x4 (red X Y F) ∧ ((x14 != (0 : Int)) = Bool.true → (0 = x11 ∧ 0 = x12 ∧ Bool.false = (pofP x1 x2 x3 N R o).snd.snd ∧ True) ∧ (10 : Int) = x13) ∧ ((x14 != (0 : Int)) = Bool.false → ((if x14 = (0 : Int) then x5 else 0) % M256 = x11 ∧ (if x14 = (0 : Int) then liftY x1 x2 x3 x5 x9 else 0) % M256 = x12 ∧ Bool.false = (pofP x1 x2 x3 N R o).snd.snd ∧ True) ∧ (0 : Int) = x13))) := by kernel_rfl
end Go.Proofs.Ytohnkglcabfpjaa
end

section
namespace Go.Proofs.Ytohnkglcabfpjaa
open Go.Sx
theorem pair_dvd {p x1 y1 : Nat} {q r : Nat × Nat} (h : pairOK p x1 y1 q r = true) (hr : r.2 ≠ 0) (h1 : x1 ≤ p) (h2 : y1 ≤ p) (h3 : r.1 ≤ p) :
    x1 ≠ q.1 ∧ (p : Int) ∣ ((r.1 : Int) + x1 + q.1) * (((q.1 : Int) - x1) * ((q.1 : Int) - x1)) - ((q.2 : Int) - y1) * ((q.2 : Int) - y1) ∧ (p : Int) ∣ ((r.2 : Int) + y1) * ((q.1 : Int) - x1) - ((q.2 : Int) - y1) * ((x1 : Int) - r.1) := by
  obtain ⟨x2, y2⟩ := q
  obtain ⟨x3, y3⟩ := r
  unfold pairOK at h
  have h3' : x3 ≤ p := h3
  have e : Nat.beq y3 0 = false := by
    rcases Bool.eq_false_or_eq_true (Nat.beq y3 0) with e | e
    · exact absurd (Nat.eq_of_beq_eq_true e) hr
    · exact e
  simp only [e, Bool.false_or, Bool.and_eq_true, Bool.not_eq_true'] at h
  obtain ⟨g1, g2, g3⟩ := h
  have cd := Cg.sub (Cg.self p x2) (Cg.self p x1) h1
  have ce := Cg.sub (Cg.self p y2) (Cg.self p y1) h2
  have cz := Cg.sub (Cg.self p x1) (Cg.self p x3) h3'
  refine ⟨fun h => ?_, ?_, ?_⟩
  · have h : x1 = x2 := h
    rw [h, Nat.beq_refl] at g1
    cases g1
  · exact Cg.of_eq (Nat.eq_of_beq_eq_true g2) (((Cg.self p x3).add (Cg.self p x1)).add (Cg.self p x2) |>.mul (cd.mul cd)) (ce.mul ce)
  · exact Cg.of_eq (Nat.eq_of_beq_eq_true g3) (((Cg.self p y3).add (Cg.self p y1)).mul cd) (ce.mul cz)
theorem through_is {p s x1 y1 x2 y2 x3 y3 : Nat} {f g : Bool} {D E u : Int} (hs : Cg p s (E * u)) (hx1 : x1 < p) (hy1 : y1 < p) (hx2 : x2 < p) (hx3 : x3 < p) (hy3 : y3 < p)
    (hu : (p : Int) ∣ D * u - 1) (h1 : (p : Int) ∣ ((x3 : Int) + x1 + x2) * (D * D) - E * E) (h2 : (p : Int) ∣ ((y3 : Int) + y1) * D - E * ((x1 : Int) - x3)) :
    throughN p s (x1, y1, f) (x2, y2, g) = (x3, y3, false) := by
  have h0 := lt_pos hx1
  have cx : Cg p (((s * s % p + p - x1) % p + p - x2) % p) (x3 : Int) := by
    have c := ((((hs.mul hs).md.sub (Cg.self p x1) (by omega)).md.sub (Cg.self p x2) (by omega)).md)
    refine c.to ?_
    have := line_x h1 hu
    rw [show E * u * (E * u) - (x1 : Int) - (x2 : Int) - (x3 : Int) = E * u * (E * u) - ((x3 : Int) + x1 + x2) by omega]
    exact this
  have ex : ((s * s % p + p - x1) % p + p - x2) % p = x3 := cx.eq (Cg.self p x3) (Nat.mod_lt _ h0) hx3
  unfold throughN
  dsimp only
  rw [ex]
  have cy : Cg p ((s * ((x1 + p - x3) % p) % p + p - y1) % p) (y3 : Int) := by
    have c := ((hs.mul ((Cg.self p x1).sub (Cg.self p x3) (by omega)).md).md.sub (Cg.self p y1) (by omega)).md
    refine c.to ?_
    have := line_y h2 hu
    rw [show E * u * ((x1 : Int) - x3) - (y1 : Int) - (y3 : Int) = E * u * ((x1 : Int) - x3) - ((y3 : Int) + y1) by omega]
    exact this
  have ey : (s * ((x1 + p - x3) % p) % p + p - y1) % p = y3 := cy.eq (Cg.self p y3) (Nat.mod_lt _ h0) hy3
  rw [ey]
theorem diff_ne {p x1 x2 : Nat} (h1 : x1 < p) (h2 : x2 < p) (h : x1 ≠ x2) : 1 ≤ (x2 + p - x1) % p ∧ (x2 + p - x1) % p < p := by
  have hlt := Nat.mod_lt (x2 + p - x1) (lt_pos h1)
  refine ⟨?_, hlt⟩
  rcases Nat.eq_zero_or_pos ((x2 + p - x1) % p) with e | e
  · obtain ⟨k, hk⟩ := Nat.dvd_of_mod_eq_zero e
    have : k = 1 := by
      rcases Nat.lt_or_ge k 1 with g | g
      · have : k = 0 := by omega
        subst this; omega
      · rcases Nat.lt_or_ge 1 k with g' | g'
        · have := Nat.mul_le_mul_left p g'
          omega
        · omega
    subst this
    omega
  · exact e
theorem csum_pt {i a b : Nat} (hi : i < 8) (ha : a < cN i) (hb : b < cN i) : sumOK (cP i) 0 (ptOf i a) (ptOf i b) ∧ csum (cP i) 0 (ptOf i a) (ptOf i b) = ptOf i ((a + b) % cN i) := by
  obtain ⟨r1, r2⟩ := cP_range hi
  have inp : ∀ j, j < cN i → inP (cP i) (ptOf i j) := by
    intro j hj
    refine ⟨fun h => ?_⟩
    rcases Nat.eq_zero_or_pos j with e | e
    · subst e; cases h
    · rw [pt_pos i e]
      have F := one_of hi e hj
      exact ⟨F.lx, F.ly⟩
  have odd : cN i % 2 = 1 := by
    have : ∀ i : Fin 8, cN i.val % 2 = 1 := by decide
    exact this ⟨i, hi⟩
  have ia := inp a ha
  have ib := inp b hb
  rcases Nat.eq_zero_or_pos a with e | ea
  · subst e
    refine ⟨⟨by omega, ia, ib, fun h => by cases h⟩, ?_⟩
    rw [Nat.zero_add, Nat.mod_eq_of_lt hb]
    rfl
  rcases Nat.eq_zero_or_pos b with e | eb
  · subst e
    refine ⟨⟨by omega, ia, ib, fun _ h => by cases h⟩, ?_⟩
    rw [Nat.add_zero, Nat.mod_eq_of_lt ha, pt_pos i ea]
    rfl
  have Fa := one_of hi ea ha
  have Fb := one_of hi eb hb
  by_cases hab : a + b = cN i
  · have eb' : cN i - a = b := by omega
    have nx := Fa.nx
    have ny := Fa.ny
    rw [eb'] at nx ny
    have hlt := Fa.ly
    have hc : (ptOf i a).1 = (ptOf i b).1 ∧ ((ptOf i a).2.1 + (ptOf i b).2.1) % cP i = 0 := by
      rw [pt_pos i ea, pt_pos i eb]
      refine ⟨nx.symm, ?_⟩
      show (((tabOf i).getD a (0, 0)).2 + ((tabOf i).getD b (0, 0)).2) % cP i = 0
      rw [ny, Nat.add_sub_cancel' (Nat.le_of_lt hlt), Nat.mod_self]
    refine ⟨⟨by omega, ia, ib, fun _ _ h => absurd hc h⟩, ?_⟩
    rw [hab, Nat.mod_self, pt_zero]
    unfold csum
    rw [if_neg (by rw [pt_pos i ea]; exact Bool.false_ne_true), if_neg (by rw [pt_pos i eb]; exact Bool.false_ne_true), if_pos hc]
  have hc0 : 1 ≤ (a + b) % cN i := by
    rcases Nat.lt_or_ge (a + b) (cN i) with g | g
    · rw [Nat.mod_eq_of_lt g]; omega
    · rw [← Nat.sub_add_cancel g, Nat.add_mod_right, Nat.mod_eq_of_lt (by omega)]
      omega
  have hcN : (a + b) % cN i < cN i := Nat.mod_lt _ (by omega)
  have Fc := one_of hi hc0 hcN
  have rel : a ≠ b → ((tabOf i).getD a (0, 0)).1 ≠ ((tabOf i).getD b (0, 0)).1 ∧ ((cP i : Nat) : Int) ∣ ((((tabOf i).getD ((a + b) % cN i) (0, 0)).1 : Int) + (((tabOf i).getD a (0, 0)).1 : Int) + (((tabOf i).getD b (0, 0)).1 : Int)) * (((((tabOf i).getD b (0, 0)).1 : Int) - (((tabOf i).getD a (0, 0)).1 : Int)) * ((((tabOf i).getD b (0, 0)).1 : Int) - (((tabOf i).getD a (0, 0)).1 : Int))) - ((((tabOf i).getD b (0, 0)).2 : Int) - (((tabOf i).getD a (0, 0)).2 : Int)) * ((((tabOf i).getD b (0, 0)).2 : Int) - (((tabOf i).getD a (0, 0)).2 : Int)) ∧
      ((cP i : Nat) : Int) ∣ ((((tabOf i).getD ((a + b) % cN i) (0, 0)).2 : Int) + (((tabOf i).getD a (0, 0)).2 : Int)) * ((((tabOf i).getD b (0, 0)).1 : Int) - (((tabOf i).getD a (0, 0)).1 : Int)) - ((((tabOf i).getD b (0, 0)).2 : Int) - (((tabOf i).getD a (0, 0)).2 : Int)) * ((((tabOf i).getD a (0, 0)).1 : Int) - (((tabOf i).getD ((a + b) % cN i) (0, 0)).1 : Int)) := by
    intro hne
    rcases Nat.lt_or_ge a b with g | g
    · exact pair_dvd (pair_of hi ea g hb) (by have := Fc.y0; omega) (Nat.le_of_lt Fa.lx) (Nat.le_of_lt Fa.ly) (Nat.le_of_lt Fc.lx)
    · have h := pair_of hi eb (show b < a by omega) ha
      rw [Nat.add_comm b a] at h
      obtain ⟨k1, k2, k3⟩ := pair_dvd h (by have := Fc.y0; omega) (Nat.le_of_lt Fb.lx) (Nat.le_of_lt Fb.ly) (Nat.le_of_lt Fc.lx)
      refine ⟨fun h => k1 h.symm, ?_, ?_⟩
      · obtain ⟨z, hz⟩ := k2
        exact ⟨z, by rw [← hz]; grind⟩
      · obtain ⟨z, hz⟩ := k3
        exact ⟨-z, by rw [Int.mul_neg, ← hz]; grind⟩
  have g1 : ∀ A, 1 ≤ A → A < cP i → Nat.gcd A (cP i) = 1 := fun A h1 h2 => (pp_fact hi h1 h2).2.2
  have pa := pt_pos i ea
  have pb := pt_pos i eb
  have pc := pt_pos i hc0
  have dxa := Fa.dx
  have dya := Fa.dy
  by_cases hne : a = b
  · subst hne
    rw [← Nat.two_mul] at pc Fc ⊢
    rw [pa, pc]
    have hd : Nat.gcd ((((tabOf i).getD a (0, 0)).2 + ((tabOf i).getD a (0, 0)).2) % cP i) (cP i) = 1 := g1 _ (by have := Fa.d0; omega) (Nat.mod_lt _ (by omega))
    have lx := Fa.lx
    have ly := Fa.ly
    have zx := Fc.lx
    have zy := Fc.ly
    have d0 := Fa.d0
    rw [pa] at ia
    generalize (tabOf i).getD (2 * a % cN i) (0, 0) = t at *
    generalize (tabOf i).getD a (0, 0) = q at *
    obtain ⟨x, y⟩ := q
    obtain ⟨z, w⟩ := t
    have hn : ¬ (x = x ∧ (y + y) % cP i = 0) := fun h => d0 h.2
    refine ⟨⟨by omega, ia, ia, fun _ _ _ => ⟨fun _ => hd, fun h => absurd rfl h⟩⟩, ?_⟩
    have e : csum (cP i) 0 (x, y, false) (x, y, false) = throughN (cP i) (slopeN (cP i) 0 (x, y, false) (x, y, false)) (x, y, false) (x, y, false) := by
      unfold csum
      rw [if_neg Bool.false_ne_true, if_neg Bool.false_ne_true, if_neg hn]
    have cy2 := (Cg.self (cP i) y).add (Cg.self (cP i) y)
    have cxx := ((Cg.self (cP i) x).mul (Cg.self (cP i) x)).md
    have c3 : Cg (cP i) (tw3 (cP i) (x * x % cP i)) ((x : Int) * x + ((x : Int) * x + (x : Int) * x)) := (cxx.add (cxx.add cxx).md).md
    have hu := inv_cg (Nat.mod_lt _ (by omega)) hd cy2.md
    have cs : Cg (cP i) (slopeN (cP i) 0 (x, y, false) (x, y, false)) (((x : Int) * x + ((x : Int) * x + (x : Int) * x)) * ((invN ((y + y) % cP i) (cP i) : Nat) : Int)) := by
      unfold slopeN
      rw [if_pos rfl]
      exact ((c3.add (Cg.self (cP i) 0)).md.mul (Cg.self _ _)).md.to ⟨0, by simp⟩
    have c33 : Cg (cP i) (3 * x * x) ((x : Int) * x + ((x : Int) * x + (x : Int) * x)) := ⟨⟨0, by rw [Int.natCast_mul, Int.natCast_mul]; grind⟩⟩
    have h1 := Cg.of_eq dxa ((((Cg.self (cP i) z).add (Cg.self (cP i) x)).add (Cg.self (cP i) x)).mul (cy2.mul cy2)) (c33.mul c33)
    have h2 := Cg.of_eq dya (((Cg.self (cP i) w).add (Cg.self (cP i) y)).mul cy2) (c33.mul ((Cg.self (cP i) x).sub (Cg.self (cP i) z) (Nat.le_of_lt zx)))
    rw [e]
    exact through_is cs lx ly lx zx zy hu h1 h2
  · obtain ⟨k1, k2, k3⟩ := rel hne
    rw [pa, pb, pc]
    obtain ⟨dn1, dn2⟩ := diff_ne Fa.lx Fb.lx k1
    have hd := g1 _ dn1 dn2
    have lx := Fa.lx
    have ly := Fa.ly
    have lx2 := Fb.lx
    have zx := Fc.lx
    have zy := Fc.ly
    rw [pa] at ia
    rw [pb] at ib
    generalize (tabOf i).getD ((a + b) % cN i) (0, 0) = t at *
    generalize (tabOf i).getD a (0, 0) = q at *
    generalize (tabOf i).getD b (0, 0) = r at *
    obtain ⟨x1, y1⟩ := q
    obtain ⟨x2, y2⟩ := r
    obtain ⟨x3, y3⟩ := t
    have hne' : ¬ ((x1, y1, false) : Pt) = (x2, y2, false) := fun h => k1 (congrArg (·.1) h)
    have hn : ¬ (x1 = x2 ∧ (y1 + y2) % cP i = 0) := fun h => k1 h.1
    refine ⟨⟨by omega, ia, ib, fun _ _ _ => ⟨fun h => absurd h hne', fun _ => hd⟩⟩, ?_⟩
    have e : csum (cP i) 0 (x1, y1, false) (x2, y2, false) = throughN (cP i) (slopeN (cP i) 0 (x1, y1, false) (x2, y2, false)) (x1, y1, false) (x2, y2, false) := by
      unfold csum
      rw [if_neg Bool.false_ne_true, if_neg Bool.false_ne_true, if_neg hn]
    have cD := ((Cg.self (cP i) x2).sub (Cg.self (cP i) x1) (Nat.le_of_lt lx)).md
    have cE := ((Cg.self (cP i) y2).sub (Cg.self (cP i) y1) (Nat.le_of_lt ly)).md
    have hu := inv_cg dn2 hd cD
    have cs : Cg (cP i) (slopeN (cP i) 0 (x1, y1, false) (x2, y2, false)) (((y2 : Int) - y1) * ((invN ((x2 + cP i - x1) % cP i) (cP i) : Nat) : Int)) := by
      unfold slopeN
      rw [if_neg hne']
      exact (cE.mul (Cg.self _ _)).md
    rw [e]
    exact through_is cs lx ly lx2 zx zy hu k2 k3
end Go.Proofs.Ytohnkglcabfpjaa
end

section
namespace Go.Proofs.Ytohnkglcabfpjaa
open Go.Sx
theorem good_all {i : Nat} (hi : i < 8) : goodP (cP i) 0 (cB i) (cN i) (cX i, cY i, false) := by
  match i, hi with
  | 0, _ | 1, _ | 2, _ | 3, _ | 4, _ | 5, _ | 6, _ | 7, _ => exact ⟨by decide, by decide, by decide, by decide, by decide, by decide +kernel, rfl, ⟨fun h => (by cases h), fun _ => by decide +kernel⟩⟩
  | k + 8, h => omega
theorem base_pt {i : Nat} (hi : i < 8) : (cX i, cY i, false) = ptOf i 1 := by
  match i, hi with
  | 0, _ | 1, _ | 2, _ | 3, _ | 4, _ | 5, _ | 6, _ | 7, _ => rfl
  | k + 8, h => omega
theorem cN_range {i : Nat} (h : i < 8) : 31 ≤ cN i ∧ cN i ≤ 643 := by
  have : ∀ i : Fin 8, 31 ≤ cN i.val ∧ cN i.val ≤ 643 := by decide
  exact this ⟨i, h⟩
theorem ixP_of {i : Nat} (hi : i < 8) : ixP (cP i) = i := by
  have : ∀ i : Fin 8, ixP (cP i.val) = i.val := by decide
  exact this ⟨i, hi⟩
theorem onP_pt {i j : Nat} (hi : i < 8) (hj : j < cN i) : onP (cP i) 0 (cB i) (ptOf i j) := by
  rcases Nat.eq_zero_or_pos j with e | e
  · subst e
    exact ⟨fun _ => ⟨rfl, rfl⟩, fun h => by cases h⟩
  · have F := one_of hi e hj
    rw [pt_pos i e]
    exact ⟨fun h => (by cases h), fun _ => ⟨F.lx, F.ly, F.on⟩⟩
theorem inM_pt {i j : Nat} (hi : i < 8) (hj : j < cN i) : inM (ptOf i j) := by
  have hM := M256_eq
  obtain ⟨_, r2⟩ := cP_range hi
  rcases Nat.eq_zero_or_pos j with e | e
  · subst e
    exact ⟨M_pos, M_pos⟩
  · have F := one_of hi e hj
    have h1 := F.lx
    have h2 := F.ly
    rw [pt_pos i e]
    exact ⟨by dsimp only; omega, by dsimp only; omega⟩
theorem cmul_at {i j k : Nat} (hi : i < 8) (hj : j < cN i) (hk : k < M256) : ∀ n, n ≤ 256 → cmulR (cP i) 0 k (ptOf i j) n = ptOf i (k / 2 ^ (256 - n) * j % cN i)
  | 0, _ => by
    rw [show k / 2 ^ (256 - 0) = 0 from Nat.div_eq_of_lt hk, Nat.zero_mul, Nat.zero_mod]
    rfl
  | n + 1, hn => by
    obtain ⟨r1, _⟩ := cN_range hi
    have ih := cmul_at hi hj hk n (by omega)
    obtain ⟨t, ht⟩ : ∃ t, t = 255 - n := ⟨_, rfl⟩
    rw [show 256 - n = t + 1 by omega] at ih
    have hs := half_step k t
    have lt : ∀ v, v % cN i < cN i := fun v => Nat.mod_lt v (by omega)
    have h1 := (csum_pt hi (lt (k / 2 ^ (t + 1) * j)) (lt (k / 2 ^ (t + 1) * j))).2
    have h2 := (csum_pt hi (lt (k / 2 ^ (t + 1) * j % cN i + k / 2 ^ (t + 1) * j % cN i)) hj).2
    rw [cmulR, ih, h1, h2, show 256 - (n + 1) = t by omega, show 255 - n = t by omega]
    have e1 : (k / 2 ^ (t + 1) * j % cN i + k / 2 ^ (t + 1) * j % cN i) % cN i = 2 * (k / 2 ^ (t + 1)) * j % cN i := by
      rw [← Nat.add_mod, ← Nat.two_mul, Nat.mul_assoc]
    by_cases hb : k.testBit t = true
    · rw [if_pos hb, e1, Nat.mod_add_mod, hs, hb, Bool.toNat_true, Nat.add_mul, Nat.one_mul]
    · rw [if_neg hb, e1, hs, Bool.eq_false_iff.2 hb, Bool.toNat_false]
      simp only [Nat.add_zero]
theorem cmul_pt {i j k : Nat} (hi : i < 8) (hj : j < cN i) (hk : k < M256) : mulOK (cP i) 0 k (ptOf i j) ∧ cmulR (cP i) 0 k (ptOf i j) 256 = ptOf i (k * j % cN i) := by
  obtain ⟨r1, _⟩ := cN_range hi
  have lt : ∀ v, v % cN i < cN i := fun v => Nat.mod_lt v (by omega)
  refine ⟨⟨fun n hn => ?_, fun n hn _ => ?_⟩, ?_⟩
  · rw [cmul_at hi hj hk n (by omega)]
    exact (csum_pt hi (lt _) (lt _)).1
  · rw [cmul_at hi hj hk n (by omega), (csum_pt hi (lt _) (lt _)).2]
    exact (csum_pt hi (lt _) hj).1
  · rw [cmul_at hi hj hk 256 (Nat.le_refl _), Nat.sub_self, Nat.pow_zero, Nat.div_one]
theorem isCv.good {i P A B N X Y : Nat} {F : Bool} (h : isCv i P A B N X Y F) : P % M256 = cP i ∧ A % M256 = 0 ∧ B % M256 = cB i ∧ N % M256 = cN i ∧ red X Y F = ptOf i 1 ∧ goodP (P % M256) (A % M256) (B % M256) (N % M256) (red X Y F) := by
  have e : red X Y F = (cX i, cY i, false) := by
    unfold red
    rw [h.x, h.y, h.f]
  refine ⟨h.p, h.a, h.b, h.n, by rw [e, base_pt h.lt], ?_⟩
  rw [h.p, h.a, h.b, h.n, e]
  exact good_all h.lt
theorem limb_low (N : Nat) : limb N 0 = ((N % M256 % 18446744073709551616 : Nat) : Int) := by
  have e : limb N 0 = ((N / 2 ^ (64 * 0) % 2 ^ 64 : Nat) : Int) := rfl
  rw [e, limb_mod N 0 (by decide), Nat.mul_zero, Nat.pow_zero, Nat.div_one]
theorem ok_Secret : ∀ (ls : List (List At)) (vs : List (Option Addr)), Ok (pointC ls) → Owes Try.prog cxSecret [] 100 Try.f22 (mkArgs [.str pCv, .int .i64] ls vs) (secretG ls) := by
  intro ls vs hc
  unfold pointC at hc
  split at hc
  · rename_i P A B N X Y F n
    have h : Owes Try.prog cxSecret [] 100 Try.f22 [sCv P A B N X Y F, sI .i64 n] (secretG [[.u P, .u A, .u B, .u N, .u X, .u Y, .b F], [.i n]]) := by
      rw [vc_Secret]
      obtain ⟨hcv, hn, _⟩ := hc
      obtain ⟨eP, eA, eB, eN, eb, hg⟩ := hcv.good
      have hi := hcv.lt
      obtain ⟨r1, r2⟩ := cN_range hi
      have hL := limb_low N
      rw [eN] at hL
      generalize ixP (P % M256) = i at *
      have m1 := Int.emod_nonneg n (show ((cN i : Nat) : Int) - 1 ≠ 0 by omega)
      have m2 := Int.emod_lt_of_pos n (show (0 : Int) < ((cN i : Nat) : Int) - 1 by omega)
      obtain ⟨a, ha⟩ := Int.eq_ofNat_of_zero_le m1
      intro x1 x2
      have E1 : x1 = ((cN i : Nat) : Int) - 1 := by
        simp only [x1]
        rw [hL, Nat.mod_eq_of_lt (by omega), IntWalk.i64_in ((cN i : Nat) : Int) (by omega), IntWalk.i64_in _ (by omega)]
      have E2 : x2 = ((1 + a : Nat) : Int) := by
        simp only [x2]
        rw [E1, ha, wrap_id (n := (a : Int)) (by omega), wrap_id (by omega)]
        omega
      clear_value x2 x1
      rw [E1, ha, E2, Int.toNat_natCast]
      refine ⟨hn, by omega, by omega, by decide, by decide, by decide, ?_, trivial⟩
      rw [join_one (by omega), Int.toNat_natCast, small_mod (by omega)]
    exact h
  · exact hc.1.elim
theorem card_Secret : FnOK Try.prog 22 cSecret :=
  FnOK_A (CxOK_cons card_pickBig CxOK_nil) (iv := fun _ => []) (N := 100) Try.func22 (by kernel_rfl) (by kernel_rfl) (fun ls => by unfold secretG; split; exact bnd_one (bnd_U _); exact bnd_none) ok_Secret
end Go.Proofs.Ytohnkglcabfpjaa
end

section
namespace Go.Proofs.Ytohnkglcabfpjaa
open Go.Sx
theorem beq_conj1 (a b : Nat) : conj [a == b] = (a == b) := by
  rw [conj_all]
  simp
theorem cmp_below {a b : Nat} : decide (cmpN a b < 0) = decide (a % M256 < b % M256) := by
  unfold cmpN
  split
  · rename_i h; rw [decide_eq_true h]; rfl
  · rename_i h
    rw [decide_eq_false h]
    split <;> rfl
theorem cmp_pos {a b : Nat} : decide (cmpN a b > 0) = decide (b % M256 < a % M256) := by
  unfold cmpN
  split
  · rename_i h; rw [decide_eq_false (show ¬ b % M256 < a % M256 by omega)]; rfl
  · split
    · rename_i h; rw [decide_eq_true h]; rfl
    · rename_i h; rw [decide_eq_false h]; rfl
theorem ok_isSecret : ∀ n d : Nat, Owes Try.prog cxSec [] 100 Try.f74 [sU n, sU d] (secG n d) := by
  intro n d
  rw [vc_isSecret]
  intro x1
  refine ⟨id, id, id, id, ?_⟩
  simp only [x1, beq_conj1, cmp_below]
  rfl
theorem ok_oRest : ∀ n a : Nat, Owes Try.prog cxORest [] 100 Try.f56 [sU n, sU a] (oRestG n a) := by
  intro n a
  rw [vc_oRest]
  exact ⟨rfl, trivial⟩
theorem ok_oMinus : ∀ n a : Nat, Owes Try.prog cxOMin [] 100 Try.f51 [sU n, sU a] (minG n a) := by
  intro n a
  rw [vc_oMinus]
  exact ⟨rfl, trivial⟩
theorem ok_oMul : ∀ n a b : Nat, Ok (noC n a b) → Owes Try.prog cxOMul [] 100 Try.f52 [sU n, sU a, sU b] (oMulG n a b) := by
  intro n a b _
  rw [vc_oMul]
  exact ⟨rfl, trivial⟩
theorem ok_ofSum : ∀ (ls : List (List At)) (vs : List (Option Addr)), Ok (ofSumC ls) → Owes Try.prog cxOfSum [] 100 Try.f53 (mkArgs [.str [.u], .str [.y 32]] ls vs) (ofSumG ls) := by
  intro ls vs hc
  unfold ofSumC at hc
  split at hc
  · rename_i n g
    have h : Owes Try.prog cxOfSum [] 100 Try.f53 [sU n, sBy 32 g] (ofSumG [[.u n], [.y 32 g]]) := by
      rw [vc_ofSum]
      exact ⟨hc.1, rfl, trivial⟩
    exact h
  · exact hc.1.elim
theorem ok_oInv : ∀ n a : Nat, Owes Try.prog cxOInv [] 100 Try.f49 [sU n, sU a] (oinvG n a) := by
  intro n a
  rw [vc_oInv]
  intro x1
  refine ⟨fun h => ?_, fun h => ?_⟩
  · have e : ¬ finvE a n = 0 := by simpa using h
    refine ⟨⟨?_, trivial⟩, ?_⟩
    · simp only [x1]; unfold oinvN; rw [if_neg e, Nat.zero_mod]
    · unfold oinvE; rw [if_neg e]
  · have e : finvE a n = 0 := by simpa using h
    refine ⟨⟨rfl, trivial⟩, ?_⟩
    unfold oinvE; rw [if_pos e]
theorem ok_oHigh : ∀ n s : Nat, Owes Try.prog cxHigh [] 100 Try.f75 [sU n, sU s] (oHighG n s) := by
  intro n s
  rw [vc_oHigh]
  exact cmp_pos
theorem ok_mayBe : ∀ (ls : List (List At)) (vs : List (Option Addr)), Ok (mayC ls) → Owes Try.prog cxMay [] 100 Try.f47 (mkArgs [.str [.u], .str pSg] ls vs) (mayG' ls) := by
  intro ls vs hc
  unfold mayC at hc
  split at hc
  · rename_i n R S o
    have h : Owes Try.prog cxMay [] 100 Try.f47 [sU n, sSg R S o] (mayG' [[.u n], [.u R, .u S, .i o]]) := by
      rw [vc_mayBe]
      exact ⟨id, id, id, id, id, id, id, id, id, id, id, id, id, id, id, rfl⟩
    exact h
  · exact hc.1.elim
theorem ok_cCheck : ∀ (ls : List (List At)) (vs : List (Option Addr)), Ok (ckC ls) → Owes Try.prog cxCk [] 100 Try.f46 (mkArgs [.str pCv] ls vs) (ckG ls) := by
  intro ls vs hc
  unfold ckC at hc
  split at hc
  · rename_i P A B N X Y F
    have h : Owes Try.prog cxCk [] 100 Try.f46 [sCv P A B N X Y F] (ckG [[.u P, .u A, .u B, .u N, .u X, .u Y, .b F]]) := by
      rw [vc_cCheck]
      exact ⟨rfl, hc.1, rfl⟩
    exact h
  · exact hc.1.elim
theorem ok_look : ∀ (ls : List (List At)) (vs : List (Option Addr)), Ok (lookC ls) → Owes Try.prog cxLook [] 100 Try.f78 (mkArgs [.str pCv, .str [.u]] ls vs) (lookG ls) := by
  intro ls vs hc
  unfold lookC at hc
  split at hc
  · rename_i P A B N X Y F d
    have h : Owes Try.prog cxLook [] 100 Try.f78 [sCv P A B N X Y F, sU d] (lookG [[.u P, .u A, .u B, .u N, .u X, .u Y, .b F], [.u d]]) := by
      rw [vc_look]
      intro x1
      refine ⟨hc.1, fun h => (by cases h), fun _ => ⟨fun h => ?_, fun h => ?_⟩⟩
      · have e : secB N d = false := by simpa using h
        simp only [x1]
        rw [if_neg (by rw [e]; exact Bool.false_ne_true)]
      · have e : secB N d = true := by simpa using h
        simp only [x1]
        rw [if_pos e]
    exact h
  · exact hc.1.elim
theorem ok_sPoint : ∀ (ls : List (List At)) (vs : List (Option Addr)), Ok (pntC ls) → Owes Try.prog cxPnt [] 100 Try.f55 (mkArgs [.str pCv, .str [.u]] ls vs) (pntG ls) := by
  intro ls vs hc
  unfold pntC at hc
  split at hc
  · rename_i P A B N X Y F d
    have h : Owes Try.prog cxPnt [] 100 Try.f55 [sCv P A B N X Y F, sU d] (pntG [[.u P, .u A, .u B, .u N, .u X, .u Y, .b F], [.u d]]) := by
      rw [vc_sPoint]
      obtain ⟨h1, h2, h3, _⟩ := hc
      intro x1 x2 x3 x4 x5 x6 x7 x8
      have E4 : x4 = 0 := if_pos h2
      rw [E4]
      exact ⟨h1, fun h => (by cases h), fun _ => ⟨h1, h1.on, h3, ⟨rfl, rfl, rfl, trivial⟩, rfl⟩⟩
    exact h
  · exact hc.1.elim
theorem ok_both : ∀ (ls : List (List At)) (vs : List (Option Addr)), Ok (bothC ls) → Owes Try.prog cxBoth [] 100 Try.f50 (mkArgs [.str pCv, .str [.u], .str pPt, .str [.u]] ls vs) (bothG ls) := by
  intro ls vs hc
  unfold bothC at hc
  split at hc
  · rename_i P A B N X Y F k x y f l
    have h : Owes Try.prog cxBoth [] 100 Try.f50 [sCv P A B N X Y F, sU k, sPt x y f, sU l] (bothG [[.u P, .u A, .u B, .u N, .u X, .u Y, .b F], [.u k], [.u x, .u y, .b f], [.u l]]) := by
      rw [vc_both]
      obtain ⟨h1, _⟩ := hc
      have r1 := red_same h1.i1.1
      have r2 := red_same h1.i2.1
      intro x1 x2 x3 x4 x5
      have r1 : red (cmulR x1 x2 x4 (red X Y F) 256).1 (cmulR x1 x2 x4 (red X Y F) 256).2.1 (cmulR x1 x2 x4 (red X Y F) 256).2.2 = cmulR x1 x2 x4 (red X Y F) 256 := r1
      have r2 : red (cmulR x1 x2 x5 (red x y f) 256).1 (cmulR x1 x2 x5 (red x y f) 256).2.1 (cmulR x1 x2 x5 (red x y f) 256).2.2 = cmulR x1 x2 x5 (red x y f) 256 := r2
      rw [r1, r2]
      exact ⟨h1.g, h1.g.on, h1.m1, h1.g, h1.p0, h1.m2, h1.g, h1.i1.2, h1.i2.2, h1.s, ⟨rfl, rfl, rfl, trivial⟩, rfl⟩
    exact h
  · exact hc.1.elim
theorem ok_Lift2 : ∀ (ls : List (List At)) (vs : List (Option Addr)), Ok (lift2C ls) → Owes Try.prog cxLift2 [] 100 Try.f23 (mkArgs [.str pCv, .str [.u], .bit] ls vs) (lift2G ls) := by
  intro ls vs hc
  unfold lift2C at hc
  split at hc
  · rename_i P A B N X Y F x odd
    have h : Owes Try.prog cxLift2 [] 100 Try.f23 [sCv P A B N X Y F, sU x, sB odd] (lift2G [[.u P, .u A, .u B, .u N, .u X, .u Y, .b F], [.u x], [.b odd]]) := by
      rw [vc_Lift2]
      obtain ⟨hg, _⟩ := hc
      have h0 := lt_pos hg.A0
      have mM := md_M h0
      have lt := fun v => Nat.mod_lt v h0
      have cg : decide (cmpN x P ≥ 0) = decide (P % M256 ≤ x % M256) := by
        rw [Bool.eq_iff_iff, decide_eq_true_eq, decide_eq_true_eq]
        exact cmp_ge
      intro x1 x2 x3 x4 x5 x6 x7 x8 x9 x10
      have cg : decide (cmpN x P ≥ 0) = decide (x1 ≤ x4) := cg
      have hg : goodP x1 x2 x3 (N % M256) (red X Y F) := hg
      have hA : x2 < x1 := hg.A0
      have hB : x3 < x1 := hg.B0
      have h0 : 0 < x1 := h0
      have E8 : x8 = rhsN x1 x2 x3 x4 := mM _
      have l8 : x8 < x1 := by rw [E8]; exact lt _
      have E9 : x9 = rhsN x1 x2 x3 x4 ^ (x1 / 4 + 1) % x1 := by simp only [x9]; rw [E8]; exact mM _
      have l9 : x9 < x1 := by rw [E9]; exact lt _
      have E10 : x10 = (0 + x1 - x9) % x1 := mM _
      have l10 : x10 < x1 := by rw [E10]; exact lt _
      have q9 : x9 * x9 % x1 % M256 = x9 * x9 % x1 := mM _
      have q10 : x10 * x10 % x1 % M256 = x10 * x10 % x1 := mM _
      have Y9 : ((x9 % 2 == 1) == odd) = true → liftY x1 x2 x3 x4 odd = x9 := by
        intro hb
        unfold liftY
        rw [← E9, if_neg]
        rw [beq_iff_eq] at hb
        rw [hb]
        simp
      have Y10 : ((x9 % 2 == 1) == odd) = false → liftY x1 x2 x3 x4 odd = x10 := by
        intro hb
        unfold liftY
        rw [← E9, if_pos, E10]
        rw [bne, hb]
        rfl
      have E5 : x5 = liftE x1 x2 x3 x4 odd := rfl
      have L5 : x4 < x1 → ∀ v, liftY x1 x2 x3 x4 odd = v → x5 = if (((v % 2 == 1) == odd) && (v * v % x1 == rhsN x1 x2 x3 x4)) = true then 0 else 16 := by
        intro hl v hv
        rw [E5]
        unfold liftE liftB
        rw [if_neg (by omega), hv]
      have N6 : x5 ≠ 0 → 0 = x6 ∧ 0 = x7 := by
        intro h
        simp only [x6, x7]
        rw [if_neg h, if_neg h]
        exact ⟨(Nat.zero_mod _).symm, (Nat.zero_mod _).symm⟩
      have m4 : x4 % M256 = x4 := Nat.mod_mod _ _
      have Z6 : x5 = 0 → ∀ v, v < x1 → liftY x1 x2 x3 x4 odd = v → x4 = x6 ∧ v = x7 := by
        intro h v hv e
        simp only [x6, x7]
        rw [if_pos h, if_pos h, m4, e]
        exact ⟨rfl, (mod_M (m := P) hv).symm⟩
      clear_value x10 x9 x8 x7 x6 x5 x4 x3 x2 x1
      rw [q9, q10, E8, beq_conj1, beq_conj1, cg]
      refine ⟨rfl, hg, fun h => ?_, fun h => ?_⟩
      · have hge : x1 ≤ x4 := of_decide_eq_true h
        have e : x5 = 6 := by rw [E5]; unfold liftE; rw [if_pos hge]
        obtain ⟨z1, z2⟩ := N6 (by rw [e]; decide)
        exact ⟨⟨z1, z2, rfl, trivial⟩, e.symm⟩
      · have hlt : x4 < x1 := Nat.lt_of_not_le (of_decide_eq_false h)
        have bad : ∀ v, liftY x1 x2 x3 x4 odd = v → (((v % 2 == 1) == odd) && (v * v % x1 == rhsN x1 x2 x3 x4)) = false → (0 = x6 ∧ 0 = x7 ∧ false = false ∧ True) ∧ (16 : Int) = x5 := by
          intro v hv hb
          have e := L5 hlt v hv
          rw [hb, if_neg Bool.false_ne_true] at e
          obtain ⟨z1, z2⟩ := N6 (by rw [e]; decide)
          exact ⟨⟨z1, z2, rfl, trivial⟩, e.symm⟩
        have good : ∀ v, v < x1 → liftY x1 x2 x3 x4 odd = v → (((v % 2 == 1) == odd) && (v * v % x1 == rhsN x1 x2 x3 x4)) = true → (x4 = x6 ∧ v = x7 ∧ false = false ∧ True) ∧ (0 : Int) = x5 := by
          intro v hl hv hb
          have e := L5 hlt v hv
          rw [hb, if_pos rfl] at e
          obtain ⟨z1, z2⟩ := Z6 e v hl hv
          exact ⟨⟨z1, z2, rfl, trivial⟩, e.symm⟩
        refine ⟨hA, hB, hlt, by rw [← E8]; exact l8, fun h1 => ⟨h0, l9, fun h2 => ?_, fun h2 => ?_⟩, fun h1 => ⟨fun h2 => ?_, fun h2 => ?_⟩⟩
        · have e := Y10 (by simpa using h1)
          have h2 : ((x10 % 2 == 1) == odd) = false := by simpa using h2
          exact ⟨l10, l10, hA, hB, hlt, fun _ => bad _ e (by rw [h2]; rfl), fun _ => bad _ e (by rw [h2]; rfl)⟩
        · have e := Y10 (by simpa using h1)
          have h2 : ((x10 % 2 == 1) == odd) = true := by simpa using h2
          refine ⟨l10, l10, hA, hB, hlt, fun h3 => bad _ e ?_, fun h3 => good _ l10 e ?_⟩
          · rw [h2, Bool.true_and]; simpa using h3
          · rw [h2, Bool.true_and]; simpa using h3
        · rw [h1] at h2; cases h2
        · have h1 : ((x9 % 2 == 1) == odd) = true := by simpa using h1
          have e := Y9 h1
          refine ⟨l9, l9, hA, hB, hlt, fun h3 => bad _ e ?_, fun h3 => good _ l9 e ?_⟩
          · rw [h1, Bool.true_and]; simpa using h3
          · rw [h1, Bool.true_and]; simpa using h3
    exact h
  · exact hc.1.elim
theorem ok_pointOf : ∀ (ls : List (List At)) (vs : List (Option Addr)), Ok (pofC ls) → Owes Try.prog cxPof [] 100 Try.f48 (mkArgs [.str pCv, .str pSg] ls vs) (pofG ls) := by
  intro ls vs hc
  unfold pofC at hc
  split at hc
  · rename_i P A B N X Y F R S o
    have h : Owes Try.prog cxPof [] 100 Try.f48 [sCv P A B N X Y F, sSg R S o] (pofG [[.u P, .u A, .u B, .u N, .u X, .u Y, .b F], [.u R, .u S, .i o]]) := by
      rw [vc_pointOf]
      obtain ⟨hg, _⟩ := hc
      intro x1 x2 x3 x4 x5 x6 x7 x8 x9 x10 x11 x12 x13 x14
      have E13 : x13 = pofE x1 x2 x3 N R o := rfl
      have N13 : x13 ≠ 0 → 0 = x11 ∧ 0 = x12 := by
        intro h
        simp only [x11, x12]
        unfold pofP
        rw [← E13, if_neg h, if_neg h]
        exact ⟨(Nat.zero_mod _).symm, (Nat.zero_mod _).symm⟩
      have bad : x13 = 10 → (0 = x11 ∧ 0 = x12 ∧ false = (pofP x1 x2 x3 N R o).2.2 ∧ True) ∧ (10 : Int) = x13 := by
        intro e
        obtain ⟨z1, z2⟩ := N13 (by rw [e]; decide)
        exact ⟨⟨z1, z2, rfl, trivial⟩, e.symm⟩
      refine ⟨fun h => ⟨hg, id, fun h => by rw [h]; rfl, fun h2 => bad ?_, fun h2 => ?_⟩, fun h => ⟨hg, fun h2 => bad ?_, fun h2 => ?_⟩⟩
      · have ho : 2 ≤ o := of_decide_eq_true h
        rw [E13]
        unfold pofE pofO pofX
        rw [decide_eq_true ho, Bool.true_and, if_pos ho]
        show (if x7 = true then (10 : Int) else if x10 = 0 then 0 else 10) = 10
        rw [Bool.or_eq_true] at h2
        rcases h2 with h2 | h2
        · rw [if_pos h2]
        · split
          · rfl
          · rw [if_neg (by simpa using h2)]
      · have ho : 2 ≤ o := of_decide_eq_true h
        rw [Bool.or_eq_false_iff] at h2
        have h10 : x10 = 0 := by simpa using h2.2
        have e : x13 = 0 := by
          rw [E13]
          unfold pofE pofO pofX
          rw [decide_eq_true ho, Bool.true_and, if_pos ho]
          show (if x7 = true then (10 : Int) else if x10 = 0 then 0 else 10) = 0
          rw [if_neg (by rw [h2.1]; exact Bool.false_ne_true), if_pos h10]
        have e12 : pofX N R o % M256 = x8 := by unfold pofX; rw [if_pos ho]
        refine ⟨⟨?_, ?_, rfl, trivial⟩, e.symm⟩
        · simp only [x11]
          unfold pofP
          rw [if_pos h10, ← E13, if_pos e, e12]
        · simp only [x12]
          unfold pofP
          rw [if_pos h10, ← E13, if_pos e, if_pos e, e12]
      · have ho : ¬ 2 ≤ o := of_decide_eq_false h
        rw [E13]
        unfold pofE pofO pofX
        rw [decide_eq_false ho, Bool.false_and, if_neg Bool.false_ne_true, if_neg ho]
        show (if x14 = 0 then (0 : Int) else 10) = 10
        rw [if_neg (by simpa using h2)]
      · have ho : ¬ 2 ≤ o := of_decide_eq_false h
        have h10 : x14 = 0 := by simpa using h2
        have e : x13 = 0 := by
          rw [E13]
          unfold pofE pofO pofX
          rw [decide_eq_false ho, Bool.false_and, if_neg Bool.false_ne_true, if_neg ho]
          show (if x14 = 0 then (0 : Int) else 10) = 0
          rw [if_pos h10]
        have e12 : pofX N R o % M256 = x5 := by unfold pofX; rw [if_neg ho]
        refine ⟨⟨?_, ?_, rfl, trivial⟩, e.symm⟩
        · simp only [x11]
          unfold pofP
          rw [if_pos h10, ← E13, if_pos e, e12]
        · simp only [x12]
          unfold pofP
          rw [if_pos h10, ← E13, if_pos e, if_pos e, e12]
    exact h
  · exact hc.1.elim
theorem card_isSecret : FnOK Try.prog 74 (specUU secG) :=
  FnOK_UU (CxOK_cons card_Cmp CxOK_nil) (iv := []) (N := 100) Try.func74 (by kernel_rfl) (by kernel_rfl) (fun _ _ => bnd_one (bnd_B _)) ok_isSecret
theorem card_oRest : FnOK Try.prog 56 (specUU oRestG) :=
  FnOK_UU (CxOK_cons card_DivMod CxOK_nil) (iv := []) (N := 100) Try.func56 (by kernel_rfl) (by kernel_rfl) (fun _ _ => bnd_one (bnd_U _)) ok_oRest
theorem card_oMinus : FnOK Try.prog 51 (specUU minG) :=
  FnOK_UU (CxOK_cons card_fSub CxOK_nil) (iv := []) (N := 100) Try.func51 (by kernel_rfl) (by kernel_rfl) (fun _ _ => bnd_one (bnd_U _)) ok_oMinus
theorem card_oMul : FnOK Try.prog 52 (specUUU noC oMulG) :=
  FnOK_UUU (CxOK_cons card_fMul CxOK_nil) (iv := fun _ _ _ => []) (N := 100) Try.func52 (by kernel_rfl) (by kernel_rfl) (fun _ _ _ => bnd_one (bnd_U _)) ok_oMul
theorem card_ofSum : FnOK Try.prog 53 cOfSum :=
  FnOK_A (CxOK_cons card_From (CxOK_cons card_oRest CxOK_nil)) (iv := fun _ => []) (N := 100) Try.func53 (by kernel_rfl) (by kernel_rfl) (fun ls => by unfold ofSumG; split; exact bnd_one (bnd_U _); exact bnd_none) ok_ofSum
theorem card_oInv : FnOK Try.prog 49 (specUU oinvG) :=
  FnOK_UU (CxOK_cons card_fInv CxOK_nil) (iv := []) (N := 100) Try.func49 (by kernel_rfl) (by kernel_rfl) (fun _ _ => bnd_two (bnd_U _) (bnd_I _ _)) ok_oInv
theorem card_oHigh : FnOK Try.prog 75 (specUU oHighG) :=
  FnOK_UU (CxOK_cons card_oMinus (CxOK_cons card_Cmp CxOK_nil)) (iv := []) (N := 100) Try.func75 (by kernel_rfl) (by kernel_rfl) (fun _ _ => bnd_one (bnd_B _)) ok_oHigh
theorem card_mayBe : FnOK Try.prog 47 cMay :=
  FnOK_A (CxOK_cons card_isSecret (CxOK_cons card_oHigh CxOK_nil)) (iv := fun _ => []) (N := 100) Try.func47 (by kernel_rfl) (by kernel_rfl) (fun ls => by unfold mayG'; split; exact bnd_one (bnd_B _); exact bnd_none) ok_mayBe
theorem card_cCheck : FnOK Try.prog 46 cCk :=
  FnOK_A (CxOK_cons card_be CxOK_nil) (iv := fun _ => []) (N := 100) Try.func46 (by kernel_rfl) (by kernel_rfl) (fun ls => by unfold ckG; split; exact bnd_one (bnd_I _ _); exact bnd_none) ok_cCheck
theorem card_look : FnOK Try.prog 78 cLook :=
  FnOK_A (CxOK_cons card_cCheck (CxOK_cons card_isSecret CxOK_nil)) (iv := fun _ => []) (N := 100) Try.func78 (by kernel_rfl) (by kernel_rfl) (fun ls => by unfold lookG; split; exact bnd_one (bnd_I _ _); exact bnd_none) ok_look
theorem card_sPoint : FnOK Try.prog 55 cPnt :=
  FnOK_A (CxOK_cons card_look (CxOK_cons card_cMult CxOK_nil)) (iv := fun _ => []) (N := 100) Try.func55 (by kernel_rfl) (by kernel_rfl) (fun ls => by
    unfold pntG
    split
    · exact bnd_two (bnd_pt _) (bnd_I _ _)
    · exact bnd_none) ok_sPoint
theorem card_both : FnOK Try.prog 50 cBoth :=
  FnOK_A (CxOK_cons card_cMult (CxOK_cons card_cAdd CxOK_nil)) (iv := fun _ => []) (N := 100) Try.func50 (by kernel_rfl) (by kernel_rfl) (fun ls => by
    unfold bothG
    split
    · exact bnd_two (bnd_pt _) (bnd_I _ _)
    · exact bnd_none) ok_both
theorem card_Lift2 : FnOK Try.prog 23 cLift2 :=
  FnOK_A (CxOK_cons card_be (CxOK_cons card_right (CxOK_cons card_root (CxOK_cons card_hsub (CxOK_cons card_hmul (CxOK_cons card_isOdd (CxOK_cons card_Cmp CxOK_nil))))))) (iv := fun _ => []) (N := 100) Try.func23 (by kernel_rfl) (by kernel_rfl) (fun ls => by
    unfold lift2G
    split
    · exact bnd_two (bnd_pt (_, _, _)) (bnd_I _ _)
    · exact bnd_none) ok_Lift2
theorem card_pointOf : FnOK Try.prog 48 cPof :=
  FnOK_A (CxOK_cons card_Add (CxOK_cons card_Lift2 CxOK_nil)) (iv := fun _ => []) (N := 100) Try.func48 (by kernel_rfl) (by kernel_rfl) (fun ls => by
    unfold pofG
    split
    · exact bnd_two (bnd_pt (_, _, _)) (bnd_I _ _)
    · exact bnd_none) ok_pointOf
end Go.Proofs.Ytohnkglcabfpjaa
end

section
namespace Go.Proofs.Ytohnkglcabfpjaa
open Go.Sx
theorem ok_word : ∀ k a b s, i64ok k → i64ok a → i64ok b → Owes Try.prog Cx.none [] 400 Try.f54 [sRaw k a b s] (wordG k a b s) := by
  intro k a b s _ _ _
  rw [vc_word]
  exact ⟨rfl, rfl, rfl, rfl, rfl, rfl, rfl, rfl, rfl, rfl, rfl, rfl, rfl, rfl, rfl, rfl, rfl, rfl, rfl, rfl, rfl, rfl, rfl, rfl, rfl, rfl, rfl, rfl, rfl, rfl, rfl, rfl, trivial⟩
theorem card_word : FnOK Try.prog 54 (specRaw wordG) :=
  FnOK_Raw CxOK_nil (iv := []) (N := 400) Try.func54 (by kernel_rfl) (by kernel_rfl) (fun k a b s => by unfold wordG; intro k hk; simp only [List.mem_singleton] at hk; subst hk; trivial) ok_word
end Go.Proofs.Ytohnkglcabfpjaa
end

section
namespace Go.Proofs.Ytohnkglcabfpjaa
open Go.Sx
set_option maxRecDepth 100000
def recQ (P A B N : Nat) (b : Pt) (g : Nat → Int) (R S : Nat) (o : Int) : Pt :=
  bothP P A b (minN N (mulN N (restN N (fromN g 32)) (oinvN N R)) % M256) (red (pofP P A B N R o).1 (pofP P A B N R o).2.1 (pofP P A B N R o).2.2) (mulN N S (oinvN N R) % M256)
def recE (P A B N : Nat) (b : Pt) (g : Nat → Int) (R S : Nat) (o : Int) : Int :=
  if mayB N R S o = true then if pofE P A B N R o = 0 then if oinvE N R = 0 then if (recQ P A B N b g R S o).2.2 = true then 10 else 0 else 16 else 10 else 10
def recA (P A B N : Nat) (b : Pt) (g : Nat → Int) (R S : Nat) (o : Int) : Pt := if recE P A B N b g R S o = 0 then recQ P A B N b g R S o else (0, 0, false)
structure recOK (P A B N : Nat) (b : Pt) (g : Nat → Int) (R S : Nat) (o : Int) : Prop where
  good : goodP P A B (N % M256) b
  b32 : byteOK 32 g
  both : mayB N R S o = true → pofE P A B N R o = 0 → oinvE N R = 0 ∧ bothOK P A B (N % M256) b (minN N (mulN N (restN N (fromN g 32)) (oinvN N R)) % M256) (red (pofP P A B N R o).1 (pofP P A B N R o).2.1 (pofP P A B N R o).2.2) (mulN N S (oinvN N R) % M256)
def recC : List (List At) → List Prop
  | [[.u P, .u A, .u B, .u N, .u X, .u Y, .b F], [.y 32 g], [.u R, .u S, .i o]] => [recOK (P % M256) (A % M256) (B % M256) N (red X Y F) g R S o]
  | _ => [False]
def recG : List (List At) → SV
  | [[.u P, .u A, .u B, .u N, .u X, .u Y, .b F], [.y 32 g], [.u R, .u S, .i o]] => .tup [ptS (recA (P % M256) (A % M256) (B % M256) N (red X Y F) g R S o), sI .i64 (recE (P % M256) (A % M256) (B % M256) N (red X Y F) g R S o)]
  | _ => .tup []
def chkQ (P A N : Nat) (b : Pt) (q : Pt) (g : Nat → Int) (R S : Nat) : Pt :=
  bothP P A b (mulN N (restN N (fromN g 32)) (oinvN N S) % M256) q (mulN N R (oinvN N S) % M256)
def chkE (P A N : Nat) (b : Pt) (q : Pt) (g : Nat → Int) (R S : Nat) (o : Int) : Int :=
  if (q.2.2 || !mayB N R S o) = true then 10 else if oinvE N S = 0 then if ((chkQ P A N b q g R S).2.2 || !(restN N (chkQ P A N b q g R S).1 % M256 == R % M256)) = true then 10 else 0 else 16
structure chkOK (P A B N : Nat) (b : Pt) (q : Pt) (g : Nat → Int) (R S : Nat) (o : Int) : Prop where
  good : goodP P A B (N % M256) b
  on : onP P A B q
  b32 : byteOK 32 g
  both : q.2.2 = false → mayB N R S o = true → oinvE N S = 0 ∧ bothOK P A B (N % M256) b (mulN N (restN N (fromN g 32)) (oinvN N S) % M256) q (mulN N R (oinvN N S) % M256)
def chkC : List (List At) → List Prop
  | [[.u P, .u A, .u B, .u N, .u X, .u Y, .b F], [.u x, .u y, .b f], [.y 32 g], [.u R, .u S, .i o]] => [chkOK (P % M256) (A % M256) (B % M256) N (red X Y F) (red x y f) g R S o]
  | _ => [False]
def chkG : List (List At) → SV
  | [[.u P, .u A, .u _, .u N, .u X, .u Y, .b F], [.u x, .u y, .b f], [.y 32 g], [.u R, .u S, .i o]] => .one (sI .i64 (chkE (P % M256) (A % M256) N (red X Y F) (red x y f) g R S o))
  | _ => .tup []
def cRec : FSpec := specA [.str pCv, .str [.y 32], .str pSg] recC recG
def cChk : FSpec := specA [.str pCv, .str pPt, .str [.y 32], .str pSg] chkC chkG
def cxRec : Cx := [(46, cCk), (47, cMay), (48, cPof), (49, specUU oinvG), (53, cOfSum), (52, specUUU noC oMulG), (51, specUU minG), (50, cBoth)]
def cxChk : Cx := [(14, cOnS'), (47, cMay), (56, specUU oRestG), (49, specUU oinvG), (53, cOfSum), (52, specUUU noC oMulG), (50, cBoth)]
def cxSumR : Cx := [(54, specRaw wordG)]
def zero32 : List SK := List.replicate 32 (.c (.num .u8 0))
def invSumR (k a b : Int) (s : ByteArray) (f : Nat → Int) : Inv where
  X := Nat
  tm i := slotsAt 30 [(1, .one (.sc (.ptr 0 0))), (2, .one (.sc (.ptr 1 0))), (3, .one (.sc (.ptr 2 0))), (7, .one (sI .i64 i))]
  ob i := [.cells 42 [.c (.val (.int .i64 k)), .c (.val (.int .i64 a)), .c (.val (.int .i64 b)), .c (.val (.string s))] 0, .cells 57 zero32 0, .cells 57 [.f .u8 32 (fun j => if j < i then f j else wordF a b s j)] 0]
  holds i := i ≤ 32
  less i := 32 - i
def cxSTells : Cx := [(10, specA [.int .i64] curveC curveG), (55, cPnt)]
def cSumR (f : Int → Int → ByteArray → Nat → Int) : FSpec := specRaw fun _ a b s => .one (sBy 32 (f a b s))
def cxRR (f : Int → Int → ByteArray → Nat → Int) : Cx := [(10, specA [.int .i64] curveC curveG), (21, cPick), (22, cSecret), (26, cSumR f), (27, spec0 yes), (25, cRec), (28, cChk)]
theorem vc_Recover (P A B N X Y R S : Nat) (F : Bool) (o : Int) (g : Nat → Int) :
    Owes Try.prog cxRec [] 100 Try.f25 [sCv P A B N X Y F, sBy 32 g, sSg R S o] (recG [[.u P, .u A, .u B, .u N, .u X, .u Y, .b F], [.y 32 g], [.u R, .u S, .i o]]) =
    (let x1 : Nat := P % M256; let x2 : Nat := A % M256; let x3 : Nat := B % M256; let x4 : Nat := N % M256; let x5 : Nat := (recA x1 x2 x3 N (red X Y F) g R S o).fst % M256; let x6 : Nat := (recA x1 x2 x3 N (red X Y F) g R S o).snd.fst % M256; let x7 : Bool := (recA x1 x2 x3 N (red X Y F) g R S o).snd.snd; let x8 : Int := recE x1 x2 x3 N (red X Y F) g R S o; let x9 : Int := pofE x1 x2 x3 N R o; let x10 : Nat := mulN N S (oinvN N R) % M256; let x11 : Bool := (0 : Int) == (0 : Int); let x12 : Bool := (bothP x1 x2 (red X Y F) (minN N (mulN N (restN N (fromN g 32)) (oinvN N R)) % M256) (red (pofP x1 x2 x3 N R o).fst (pofP x1 x2 x3 N R o).snd.fst (pofP x1 x2 x3 N R o).snd.snd) x10).snd.snd; goodP x1 x2 x3 x4 (red X Y F) ∧ (((0 : Int) != (0 : Int)) = Bool.true → (0 = x5 ∧ 0 = x6 ∧ Bool.false = x7 ∧ True) ∧ (0 : Int) = x8) ∧ (((0 : Int) != (0 : Int)) = Bool.false → ((!mayB N R S o) = Bool.true → (0 = x5 ∧ 0 = x6 ∧ Bool.false = x7 ∧ True) ∧ (10 : Int) = x8) ∧ ((!mayB N R S o) = Bool.false → goodP x1 x2 x3 x4 (red X Y F) ∧ ((x9 != (0 : Int)) = Bool.true → (0 = x5 ∧ 0 = x6 ∧ Bool.false = x7 ∧ True) ∧ x9 = x8) ∧ ((x9 != (0 : Int)) = Bool.false → ((oinvE N R != (0 : Int)) = Bool.true → (0 = x5 ∧ 0 = x6 ∧ Bool.false = x7 ∧ True) ∧ oinvE N R = x8) ∧ ((oinvE N R != (0 : Int)) = Bool.false → (∀ (j : Nat), j < 32 → (0 : Int) ≤ g j ∧ g j < (256 : Int)) ∧ bothOK x1 x2 x3 x4 (red X Y F) (minN N (mulN N (restN N (fromN (selG [SK.f Go.IntKind.u8 32 g]) 32)) (oinvN N R)) % M256) (red (pofP x1 x2 x3 N R o).fst (pofP x1 x2 x3 N R o).snd.fst (pofP x1 x2 x3 N R o).snd.snd) x10 ∧ (x11 = Bool.true → x11 = Bool.true) ∧ (x11 = Bool.true → x11 = Bool.true) ∧ ((x11 && x12) = Bool.true → (0 = x5 ∧ 0 = x6 ∧ Bool.false = x7 ∧ True) ∧ (10 : Int) = x8) ∧ ((x11 && x12) = Bool.false → ((bothP x1 x2 (red X Y F) (minN N (mulN N (restN N (fromN g 32)) (oinvN N R)) % M256) (red (pofP x1 x2 x3 N R o).fst (pofP x1 x2 x3 N R o).snd.fst (pofP x1 x2 x3 N R o).snd.snd) x10).fst % M256 = x5 ∧ (bothP x1 x2 (red X Y F) (minN N (mulN N (restN N (fromN g 32)) (oinvN N R)) % M256) (red (pofP x1 x2 x3 N R o).fst (pofP x1 x2 x3 N R o).snd.fst (pofP x1 x2 x3 N R o).snd.snd) x10).snd.fst % M256 = x6 ∧ x12 = x7 ∧ True) ∧ (0 : Int) = x8)))))) := by kernel_rfl
theorem vc_Check (P A B N X Y x y R S : Nat) (F f : Bool) (o : Int) (g : Nat → Int) :
    Owes Try.prog cxChk [] 100 Try.f28 [sCv P A B N X Y F, sPt x y f, sBy 32 g, sSg R S o] (chkG [[.u P, .u A, .u B, .u N, .u X, .u Y, .b F], [.u x, .u y, .b f], [.y 32 g], [.u R, .u S, .i o]]) =
    (let x1 : Nat := P % M256; let x2 : Nat := A % M256; let x3 : Nat := B % M256; let x4 : Nat := N % M256; let x5 : Nat := x % M256; let x6 : Nat := y % M256; let x7 : Int := onE x1 x2 x3 (red x y f); let x8 : Int := chkE x1 x2 N (red X Y F) (red x y f) g R S o; let x9 : Nat := mulN N R (oinvN N S) % M256; let x10 : Bool := (bothP x1 x2 (red X Y F) (mulN N (restN N (fromN g 32)) (oinvN N S) % M256) (red x y f) x9).snd.snd; goodP x1 x2 x3 x4 (red X Y F) ∧ (f = Bool.true → x5 = 0 ∧ x6 = 0) ∧ (f = Bool.false → x5 < x1 ∧ x6 < x1) ∧ ((x7 != (0 : Int)) = Bool.true → x7 = x8) ∧ ((x7 != (0 : Int)) = Bool.false → ((!f) = Bool.true → (!f) = Bool.true) ∧ ((!f) = Bool.true → (!f) = Bool.true) ∧ ((!f) = Bool.true → (!f) = Bool.true) ∧ (f = Bool.false → (!f) = Bool.true) ∧ ((f || !mayB N R S o) = Bool.true → (10 : Int) = x8) ∧ ((f || !mayB N R S o) = Bool.false → ((oinvE N S != (0 : Int)) = Bool.true → oinvE N S = x8) ∧ ((oinvE N S != (0 : Int)) = Bool.false → (∀ (j : Nat), j < 32 → (0 : Int) ≤ g j ∧ g j < (256 : Int)) ∧ bothOK x1 x2 x3 x4 (red X Y F) (mulN N (restN N (fromN (selG [SK.f Go.IntKind.u8 32 g]) 32)) (oinvN N S) % M256) (red x y f) x9 ∧ (((0 : Int) != (0 : Int)) = Bool.true → (0 : Int) = x8) ∧ (((0 : Int) != (0 : Int)) = Bool.false → ((!x10) = Bool.true → (!x10) = Bool.true) ∧ ((!x10) = Bool.true → (!x10) = Bool.true) ∧ ((!x10) = Bool.true → (!x10) = Bool.true) ∧ ((!x10) = Bool.true → (!x10) = Bool.true) ∧ ((!x10) = Bool.true → (!x10) = Bool.true) ∧ ((!x10) = Bool.true → (!x10) = Bool.true) ∧ (x10 = Bool.false → (!x10) = Bool.true) ∧ ((x10 || !conj [restN N (bothP x1 x2 (red X Y F) (mulN N (restN N (fromN g 32)) (oinvN N S) % M256) (red x y f) x9).fst % M256 == R % M256]) = Bool.true → (10 : Int) = x8) ∧ ((x10 || !conj [restN N (bothP x1 x2 (red X Y F) (mulN N (restN N (fromN g 32)) (oinvN N S) % M256) (red x y f) x9).fst % M256 == R % M256]) = Bool.false → (0 : Int) = x8)))))) := by kernel_rfl
theorem vc_sumR (k a b : Int) (s : ByteArray) (f : Nat → Int) :
    Owes Try.prog cxSumR [(3, .inv (invSumR k a b s f))] 100 Try.f26 [sRaw k a b s] (.one (sBy 32 f)) =
    (((-9223372036854775808 : Int) ≤ k ∧ k ≤ (9223372036854775807 : Int)) ∧ ((-9223372036854775808 : Int) ≤ a ∧ a ≤ (9223372036854775807 : Int)) ∧ ((-9223372036854775808 : Int) ≤ b ∧ b ≤ (9223372036854775807 : Int)) ∧ (∀ (y : Nat), closedB (slotsAt 30 [(1, SV.one (SA.sc (SC.ptr 0 0))), (2, SV.one (SA.sc (SC.ptr 1 0))), (3, SV.one (SA.sc (SC.ptr 2 0))), (7, SV.one (sI Go.IntKind.i64 (↑y : Int)))]) [SO.cells (42 : Go.TypeId) [SK.c (SC.val (Go.Value.int Go.IntKind.i64 k)), SK.c (SC.val (Go.Value.int Go.IntKind.i64 a)), SK.c (SC.val (Go.Value.int Go.IntKind.i64 b)), SK.c (SC.val (Go.Value.string s))] 0, SO.cells (57 : Go.TypeId) zero32 0, SO.cells (57 : Go.TypeId) [SK.f Go.IntKind.u8 32 fun (j : Nat) => if j < y then f j else wordF a b s j] 0] = Bool.true) ∧ ∃ (y : Nat), y ≤ 32 ∧ (0 : Int) = (↑y : Int) ∧ k = k ∧ a = a ∧ b = b ∧ s = s ∧ 0 = 0 ∧ 0 = 0 ∧ ((∀ (j : Nat), j < 32 → wordF a b s j = if j < y then f j else wordF a b s j) ∧ True) ∧ 0 = 0 ∧ ∀ (y : Nat), y ≤ 32 → (Decidable.decide ((↑y : Int) < (32 : Int)) = Bool.true → ((0 : Int) ≤ (↑y : Int) ∧ (↑y : Int) < (32 : Int)) ∧ ((0 : Int) ≤ (↑y : Int) ∧ (↑y : Int) < (32 : Int)) ∧ (0 : Int) ≤ Go.IntKind.i64.wrap ((↑y : Int).tmod (7 : Int) * (8 : Int)) ∧ ((0 : Int) ≤ (↑y : Int) ∧ (↑y : Int) < (32 : Int)) ∧ ((0 : Int) ≤ (↑y : Int) ∧ (↑y : Int) < (32 : Int)) ∧ ∃ (y' : Nat), y' ≤ 32 ∧ Go.IntKind.i64.wrap ((↑y : Int) + (1 : Int)) = (↑y' : Int) ∧ k = k ∧ a = a ∧ b = b ∧ s = s ∧ 0 = 0 ∧ 0 = 0 ∧ ((∀ (j : Nat), j < 32 → (if j = (↑y : Int).toNat then Go.IntKind.u8.wrap (↑(BitVec.ofInt 8 (if (↑y : Int).toNat < y then f (↑y : Int).toNat else wordF a b s (↑y : Int).toNat) ^^^ BitVec.ofInt 8 (Go.IntKind.u8.wrap (Go.IntKind.u8.wrap (a.fdiv ((2 : Int) ^ Min.min (Go.IntKind.i64.wrap ((↑y : Int).tmod (7 : Int) * (8 : Int))).toNat 64)) + Go.IntKind.u8.wrap (Go.IntKind.i64.wrap ((↑y : Int) * b))))).toNat : Int) else if j < y then f j else wordF a b s j) = if j < y' then f j else wordF a b s j) ∧ True) ∧ 0 = 0 ∧ 32 - y' < 32 - y) ∧ (Decidable.decide ((↑y : Int) < (32 : Int)) = Bool.false → (∀ (j : Nat), j < 32 → (if j < y then f j else wordF a b s j) = f j) ∧ True)) := by kernel_rfl
theorem vc_sTells  :
    Owes Try.prog cxSTells [] 100 Try.f27 [] yes =
    (let x1 : Bool := (0 : Int) == (0 : Int); ((-9223372036854775808 : Int) ≤ (0 : Int) ∧ (0 : Int) ≤ (9223372036854775807 : Int)) ∧ goodP 43 0 7 31 (red 2 12 Bool.false) ∧ secB 31 1 = Bool.true ∧ mulOK 43 0 1 (red 2 12 Bool.false) ∧ (x1 = Bool.true → x1 = Bool.true) ∧ (x1 = Bool.true → x1 = Bool.true) ∧ (x1 = Bool.true → x1 = Bool.true) ∧ (x1 = Bool.true → x1 = Bool.true) ∧ (x1 && conj [2 == 2, 12 == 12, (cmulR 43 0 1 (red 2 12 Bool.false) 256).snd.snd == Bool.false]) = Bool.true) := by kernel_rfl
theorem vc_RecoverRight (fs : Int → Int → ByteArray → Nat → Int) (n : Int) (k a b : Int) (s : ByteArray) (i j o : Int) :
    Owes Try.prog (cxRR fs) [] 100 Try.f9 [sI .i64 n, sRaw k a b s, sI .i64 i, sI .i64 j, sI .i64 o] yes =
    (let x1 : Nat := cP (ixN n) % M256; let x2 : Nat := ixP x1; let x3 : Int := Go.IntKind.i64.wrap ((Go.IntKind.i64.wrap (limb (cN (ixN n)) 0)).tdiv (2 : Int)); let x4 : Int := Go.IntKind.u64.wrap ((1 : Int) + Go.IntKind.u64.wrap (j % x3)); let x5 : Nat := cB (ixN n) % M256; let x6 : Nat := 1 + (i % ((↑(cN x2) : Int) - (1 : Int))).toNat; let x7 : Nat := join x4 (0 : Int) (0 : Int) (0 : Int); let x8 : Int := o % (5 : Int); let x9 : Int := recE x1 0 x5 (cN (ixN n)) (red (cX (ixN n)) (cY (ixN n)) Bool.false) (fs a b s) x6 x7 x8; ((-9223372036854775808 : Int) ≤ n ∧ n ≤ (9223372036854775807 : Int)) ∧ isCv x2 (cP (ixN n)) 0 (cB (ixN n)) (cN (ixN n)) (cX (ixN n)) (cY (ixN n)) Bool.false ∧ ((-9223372036854775808 : Int) ≤ i ∧ i ≤ (9223372036854775807 : Int)) ∧ ((-9223372036854775808 : Int) ≤ j ∧ j ≤ (9223372036854775807 : Int)) ∧ ((0 : Int) < x3 ∧ x3 ≤ (1048576 : Int)) ∧ ((-9223372036854775808 : Int) ≤ o ∧ o ≤ (9223372036854775807 : Int)) ∧ ((0 : Int) < (5 : Int) ∧ (5 : Int) ≤ (1048576 : Int)) ∧ ((-9223372036854775808 : Int) ≤ k ∧ k ≤ (9223372036854775807 : Int)) ∧ ((-9223372036854775808 : Int) ≤ a ∧ a ≤ (9223372036854775807 : Int)) ∧ ((-9223372036854775808 : Int) ≤ b ∧ b ≤ (9223372036854775807 : Int)) ∧ ((0 : Int) ≤ x4 ∧ x4 < (18446744073709551616 : Int)) ∧ ((0 : Int) ≤ (0 : Int) ∧ (0 : Int) < (18446744073709551616 : Int)) ∧ ((0 : Int) ≤ (0 : Int) ∧ (0 : Int) < (18446744073709551616 : Int)) ∧ ((0 : Int) ≤ (0 : Int) ∧ (0 : Int) < (18446744073709551616 : Int)) ∧ recOK x1 0 x5 (cN (ixN n)) (red (cX (ixN n)) (cY (ixN n)) Bool.false) (selG [SK.f Go.IntKind.u8 32 (fs a b s)]) x6 x7 x8 ∧ ((x9 != (0 : Int)) = Bool.true → (Bool.true = Bool.true → Bool.true = Bool.true) ∧ (Bool.true = Bool.true → Bool.true = Bool.true) ∧ (Bool.true && x9 == (10 : Int)) = Bool.true) ∧ ((x9 != (0 : Int)) = Bool.false → (Bool.true = Bool.true → Bool.true = Bool.true) ∧ (Bool.true = Bool.true → (-9223372036854775808 : Int) ≤ k ∧ k ≤ (9223372036854775807 : Int)) ∧ (Bool.true = Bool.true → (-9223372036854775808 : Int) ≤ a ∧ a ≤ (9223372036854775807 : Int)) ∧ (Bool.true = Bool.true → (-9223372036854775808 : Int) ≤ b ∧ b ≤ (9223372036854775807 : Int)) ∧ (Bool.true = Bool.true → Bool.true = Bool.true) ∧ (Bool.true = Bool.true → Bool.true = Bool.true) ∧ (Bool.true = Bool.true → Bool.true = Bool.true) ∧ (Bool.true = Bool.true → Bool.true = Bool.true) ∧ (Bool.true = Bool.true → (0 : Int) ≤ x4 ∧ x4 < (18446744073709551616 : Int)) ∧ (Bool.true = Bool.true → (0 : Int) ≤ (0 : Int) ∧ (0 : Int) < (18446744073709551616 : Int)) ∧ (Bool.true = Bool.true → (0 : Int) ≤ (0 : Int) ∧ (0 : Int) < (18446744073709551616 : Int)) ∧ (Bool.true = Bool.true → (0 : Int) ≤ (0 : Int) ∧ (0 : Int) < (18446744073709551616 : Int)) ∧ (Bool.true = Bool.true → chkOK x1 0 x5 (cN (ixN n)) (red (cX (ixN n)) (cY (ixN n)) Bool.false) (red (recA x1 0 x5 (cN (ixN n)) (red (cX (ixN n)) (cY (ixN n)) Bool.false) (selG [SK.f Go.IntKind.u8 32 (fs a b s)]) x6 x7 x8).fst (recA x1 0 x5 (cN (ixN n)) (red (cX (ixN n)) (cY (ixN n)) Bool.false) (selG [SK.f Go.IntKind.u8 32 (fs a b s)]) x6 x7 x8).snd.fst (recA x1 0 x5 (cN (ixN n)) (red (cX (ixN n)) (cY (ixN n)) Bool.false) (selG [SK.f Go.IntKind.u8 32 (fs a b s)]) x6 x7 x8).snd.snd) (selG [SK.f Go.IntKind.u8 32 (fs a b s)]) x6 x7 x8) ∧ (Bool.true = Bool.true → Bool.true = Bool.true) ∧ (Bool.true = Bool.true → Bool.true = Bool.true) ∧ (Bool.true && chkE x1 0 (cN (ixN n)) (red (cX (ixN n)) (cY (ixN n)) Bool.false) (red (recA x1 0 x5 (cN (ixN n)) (red (cX (ixN n)) (cY (ixN n)) Bool.false) (fs a b s) x6 x7 x8).fst (recA x1 0 x5 (cN (ixN n)) (red (cX (ixN n)) (cY (ixN n)) Bool.false) (fs a b s) x6 x7 x8).snd.fst (recA x1 0 x5 (cN (ixN n)) (red (cX (ixN n)) (cY (ixN n)) Bool.false) (fs a b s) x6 x7 x8).snd.snd) (fs a b s) x6 x7 x8 == (0 : Int)) = Bool.true)) := by kernel_rfl
end Go.Proofs.Ytohnkglcabfpjaa
end

section
namespace Go.Proofs.Ytohnkglcabfpjaa
open Go.Sx
set_option maxRecDepth 100000
end Go.Proofs.Ytohnkglcabfpjaa
end

section
namespace Go.Proofs.Ytohnkglcabfpjaa
open Go.Sx
theorem cx_facts {I : Nat} (hi : I < 8) : cP I % M256 = cP I ∧ cB I % M256 = cB I ∧ cN I % M256 = cN I ∧ red (cX I) (cY I) false = ptOf I 1 ∧ ixP (cP I) = I ∧ isCv I (cP I) 0 (cB I) (cN I) (cX I) (cY I) false ∧ goodP (cP I) 0 (cB I) (cN I) (ptOf I 1) := by
  obtain ⟨r1, r2⟩ := cP_range hi
  obtain ⟨n1, n2⟩ := cN_range hi
  have hg := good_all hi
  have hB := hg.B0
  have hxy : cX I < 1000 ∧ cY I < 1000 := by
    have : ∀ i : Fin 8, cX i.val < 1000 ∧ cY i.val < 1000 := by decide
    exact this ⟨I, hi⟩
  have mP := small_mod (v := cP I) (by omega)
  have mB := small_mod (v := cB I) (by omega)
  have mN := small_mod (v := cN I) (by omega)
  have mX := small_mod (v := cX I) (by omega)
  have mY := small_mod (v := cY I) (by omega)
  have e : red (cX I) (cY I) false = ptOf I 1 := by
    unfold red
    rw [mX, mY, base_pt hi]
  refine ⟨mP, mB, mN, e, ixP_of hi, ⟨hi, mP, Nat.zero_mod _, mB, mN, mX, mY, rfl⟩, ?_⟩
  rw [base_pt hi] at hg
  exact hg
theorem red_pt {I a : Nat} (hi : I < 8) (ha : a < cN I) : red (ptOf I a).1 (ptOf I a).2.1 (ptOf I a).2.2 = ptOf I a := red_same (inM_pt hi ha)
end Go.Proofs.Ytohnkglcabfpjaa
end

section
namespace Go.Proofs.Ytohnkglcabfpjaa
open Go.Sx
theorem neg_pt {I a : Nat} (hi : I < 8) (h1 : 1 ≤ a) (ha : a < cN I) : (ptOf I (cN I - a)).1 = (ptOf I a).1 ∧ (ptOf I (cN I - a)).2.1 = cP I - (ptOf I a).2.1 ∧ (ptOf I (cN I - a)).2.2 = false ∧ (ptOf I a).2.2 = false ∧ 0 < (ptOf I a).2.1 ∧ (ptOf I a).2.1 < cP I ∧ (ptOf I a).1 < cP I := by
  have F := one_of hi h1 ha
  rw [pt_pos I h1, pt_pos I (show 1 ≤ cN I - a by omega)]
  exact ⟨F.nx, F.ny, rfl, rfl, F.y0, F.ly, F.lx⟩
theorem pick_one {I : Nat} (hi : I < 8) (i : Int) : IntKind.i64.wrap (IntKind.i64.wrap (limb (cN I) 0) - 1) = ((cN I : Nat) : Int) - 1 ∧ ∃ a : Nat, 1 ≤ a ∧ a < cN I ∧ IntKind.i64.wrap (1 + i % (((cN I : Nat) : Int) - 1)) = (a : Int) ∧ ((a : Int) % ((cN I : Nat) : Int)).toNat = a ∧ 1 + (i % (((cN I : Nat) : Int) - 1)).toNat = a := by
  obtain ⟨n1, n2⟩ := cN_range hi
  have m1 := Int.emod_nonneg i (show ((cN I : Nat) : Int) - 1 ≠ 0 by omega)
  have m2 := Int.emod_lt_of_pos i (show (0 : Int) < ((cN I : Nat) : Int) - 1 by omega)
  refine ⟨?_, (1 + i % (((cN I : Nat) : Int) - 1)).toNat, by omega, by omega, ?_, ?_, by omega⟩
  · rw [limb_small (by omega), IntWalk.i64_in ((cN I : Nat) : Int) (by omega), IntWalk.i64_in _ (by omega)]
  · rw [IntWalk.i64_in _ (by omega)]
    omega
  · rw [Int.emod_eq_of_lt (by omega) (by omega), Int.toNat_natCast]
theorem lift_pt {I a : Nat} (hi : I < 8) (h1 : 1 ≤ a) (ha : a < cN I) : liftY (cP I) 0 (cB I) (ptOf I a).1 ((ptOf I a).2.1 % 2 == 1) = (ptOf I a).2.1 := by
  have F := one_of hi h1 ha
  obtain ⟨p1, p2⟩ := cP_range hi
  have h4 := (good_all hi).P4
  rw [pt_pos I h1]
  have rt := F.rt
  have ly := F.ly
  have y0 := F.y0
  generalize (tabOf I).getD a (0, 0) = q at *
  obtain ⟨x, y⟩ := q
  dsimp only at *
  unfold liftY
  rcases rt with e | e
  · rw [e, if_neg (by simp)]
  · rw [e, if_pos]
    · rw [Nat.zero_add, Nat.sub_sub_self (Nat.le_of_lt ly), Nat.mod_eq_of_lt ly]
    · rw [bne_iff_ne]
      intro h
      rw [Bool.eq_iff_iff, beq_iff_eq, beq_iff_eq] at h
      omega
end Go.Proofs.Ytohnkglcabfpjaa
end

section
namespace Go.Proofs.Ytohnkglcabfpjaa
open Go.Sx
def maskOf : List (Nat × Nat) → Nat
  | [] => 0
  | p :: r => maskOf r ||| 2 ^ (2 * p.1 + p.2 % 2)
theorem mask_bit : ∀ {T : List (Nat × Nat)} {i : Nat}, (maskOf T).testBit i = true → ∃ k, k < T.length ∧ 2 * (T.getD k (0, 0)).1 + (T.getD k (0, 0)).2 % 2 = i
  | [], i, h => by
    rw [maskOf, Nat.zero_testBit] at h
    cases h
  | p :: r, i, h => by
    rw [maskOf, Nat.testBit_or, Bool.or_eq_true, Nat.testBit_two_pow, decide_eq_true_eq] at h
    rcases h with h | h
    · obtain ⟨k, hk, e⟩ := mask_bit h
      exact ⟨k + 1, by simp only [List.length_cons]; omega, e⟩
    · exact ⟨0, by simp only [List.length_cons]; omega, h⟩
def maskN (i : Nat) : Nat := [61943042216213499145666608,16350755386209670637837268068732563946736,278317824748488038108415795075368563390443371520,371748300639222274833588721256350589995660647350489427555730583502168421269979856832,26139121896523509934180959486650982931616814117354699440113715184384803129958051456990037171974156,136869605310890499577081601113157077800854084472896922355310342895398424947205738590738252438926392329117689693292887668621564,1142725630746375391907508529639141481907567457297698098862260461548743259221795697286422896323692448805038250324667508868570637085633937817954221448128428121822220940529290582908684325477304794541396774291320799429041055327861760,410765636653253766367752136886031397979840515713510672906121187891044624975986473525505468496405969802336867381627825178855163522009025774872468804686458048434157417270924682328090837681092033992840297201089404488215555271698182687092069584818089369154746063884620300765740005458906469603892117770933210512231106116325320836232983018158051888045187422575038211194374973686745314215972626545468950744926406750449868].getD i 0
theorem mask_all : (List.range 8).all (fun i => Nat.beq (maskOf ((tabOf i).drop 1)) (maskN i)) = true := by kernel_rfl
theorem lift_allB : (List.range 8).all (fun i => (List.range (cP i)).all fun x => (!liftB (cP i) 0 (cB i) x false || Nat.testBit (maskN i) (2 * x)) && (!liftB (cP i) 0 (cB i) x true || Nat.testBit (maskN i) (2 * x + 1))) = true := by kernel_rfl
theorem lift_bit {i x : Nat} {odd : Bool} (hi : i < 8) (hx : x < cP i) (h : liftB (cP i) 0 (cB i) x odd = true) : ∃ k, k < ((tabOf i).drop 1).length ∧ 2 * (((tabOf i).drop 1).getD k (0, 0)).1 + (((tabOf i).drop 1).getD k (0, 0)).2 % 2 = 2 * x + odd.toNat := by
  have h1 := List.all_eq_true.1 (List.all_eq_true.1 lift_allB i (List.mem_range.2 hi)) x (List.mem_range.2 hx)
  have hm := Nat.eq_of_beq_eq_true (List.all_eq_true.1 mask_all i (List.mem_range.2 hi))
  rw [← hm, Bool.and_eq_true] at h1
  cases odd with
  | false =>
    have h2 := h1.1
    rw [h, Bool.not_true, Bool.false_or] at h2
    exact mask_bit h2
  | true =>
    have h2 := h1.2
    rw [h, Bool.not_true, Bool.false_or] at h2
    exact mask_bit h2
theorem lift_some {i x : Nat} {odd : Bool} (hi : i < 8) (hx : x < cP i) (h : liftB (cP i) 0 (cB i) x odd = true) : ∃ K, 1 ≤ K ∧ K < cN i ∧ (x, liftY (cP i) 0 (cB i) x odd, false) = ptOf i K := by
  obtain ⟨k, hk, e⟩ := lift_bit hi hx h
  have hl := len_of hi
  rw [List.length_drop, hl] at hk
  have eg : ((tabOf i).drop 1).getD k (0, 0) = (tabOf i).getD (k + 1) (0, 0) := by
    rw [List.getD_eq_getElem?_getD, List.getElem?_drop, List.getD_eq_getElem?_getD, Nat.add_comm]
  rw [eg] at e
  have hK : k + 1 < cN i := by omega
  have hp := pt_pos i (show 1 ≤ k + 1 by omega)
  have hb : odd.toNat ≤ 1 := by cases odd <;> decide
  have e1 : ((tabOf i).getD (k + 1) (0, 0)).1 = x := by omega
  have e2 : ((tabOf i).getD (k + 1) (0, 0)).2 % 2 = odd.toNat := by omega
  have hy := lift_pt hi (show 1 ≤ k + 1 by omega) hK
  rw [hp] at hy
  dsimp only at hy
  have e3 : (((tabOf i).getD (k + 1) (0, 0)).2 % 2 == 1) = odd := by
    rw [e2]
    cases odd <;> rfl
  rw [e1, e3] at hy
  refine ⟨k + 1, by omega, hK, ?_⟩
  rw [hp, hy, e1]
theorem near_pt {i a : Nat} (h : (ptOf i a).2.2 = false) : 1 ≤ a := by
  rcases Nat.eq_zero_or_pos a with e | e
  · subst e
    cases h
  · exact e
theorem cN_M {I : Nat} (hi : I < 8) : cN I % M256 = cN I := small_mod (by have := (cN_range hi).2; omega)
theorem lt_M {I v : Nat} (hi : I < 8) (h : v < cN I) : v % M256 = v := small_mod (by have := (cN_range hi).2; omega)
theorem rest_is {I : Nat} (hi : I < 8) (v : Nat) : restN (cN I) v = v % M256 % cN I := by
  have := (cN_range hi).1
  unfold restN
  rw [cN_M hi, if_neg (by omega)]
theorem mul_is {I a b : Nat} (hi : I < 8) (ha : a < cN I) (hb : b < cN I) : mulN (cN I) a b = a * b % cN I := by
  unfold mulN
  rw [if_pos (fE_ok (cN_M hi) ha hb), cN_M hi, lt_M hi ha, lt_M hi hb]
theorem min_is {I a : Nat} (hi : I < 8) (ha : a < cN I) : minN (cN I) a = (0 + cN I - a) % cN I := by
  have := (cN_range hi).1
  unfold minN
  rw [if_pos (fE_ok (cN_M hi) (by omega) ha), cN_M hi, lt_M hi ha]
theorem sec_is {I a : Nat} (hi : I < 8) (h : secB (cN I) a = true) : 1 ≤ a % M256 ∧ a % M256 < cN I := by
  unfold secB at h
  rw [cN_M hi, Bool.and_eq_true] at h
  obtain ⟨h1, h2⟩ := h
  have h2 := of_decide_eq_true h2
  have h1 : ¬ a % M256 = 0 := by simpa using h1
  omega
theorem sec_of {I a : Nat} (hi : I < 8) (h1 : 1 ≤ a) (h2 : a < cN I) : secB (cN I) a = true := by
  unfold secB
  rw [cN_M hi, lt_M hi h2, decide_eq_true h2, Bool.and_true, beq_eq_false_iff_ne.2 (by omega)]
  rfl
theorem inv_sec {I a : Nat} (hi : I < 8) (h1 : 1 ≤ a) (h2 : a < cN I) : oinvE (cN I) a = 0 ∧ oinvN (cN I) a < cN I ∧ ((cN I : Nat) : Int) ∣ (a : Int) * ((oinvN (cN I) a : Nat) : Int) - 1 := by
  have hr := (cN_range hi).1
  have gc := (one_of hi h1 h2).gc
  have fe : finvE a (cN I) = 0 := by
    unfold finvE
    rw [cN_M hi, lt_M hi h2, if_neg (by omega), if_pos h2, invE_gcd, if_pos gc]
  have en : oinvN (cN I) a = invN a (cN I) := by
    unfold oinvN
    rw [if_pos fe, cN_M hi, lt_M hi h2]
  refine ⟨by unfold oinvE; rw [if_pos fe], ?_, ?_⟩
  · rw [en]
    exact (invN_spec h2 gc).1
  · rw [en]
    exact inv_cg h2 gc (Cg.self _ _)
theorem may_is {I R S : Nat} {o : Int} (hi : I < 8) (h : mayB (cN I) R S o = true) : 1 ≤ R % M256 ∧ R % M256 < cN I ∧ 1 ≤ S % M256 ∧ S % M256 < cN I ∧ 0 ≤ o ∧ o ≤ 3 := by
  unfold mayB at h
  simp only [Bool.and_eq_true] at h
  obtain ⟨⟨⟨⟨a, b⟩, _⟩, d⟩, e⟩ := h
  obtain ⟨a1, a2⟩ := sec_is hi a
  obtain ⟨b1, b2⟩ := sec_is hi b
  exact ⟨a1, a2, b1, b2, of_decide_eq_true d, of_decide_eq_true e⟩
theorem both_pt {I j k l : Nat} (hi : I < 8) (hj : j < cN I) (hk : k < M256) (hl : l < M256) : bothOK (cP I) 0 (cB I) (cN I) (ptOf I 1) k (ptOf I j) l ∧ bothP (cP I) 0 (ptOf I 1) k (ptOf I j) l = ptOf I ((k + l * j) % cN I) := by
  have hr := (cN_range hi).1
  have lt : ∀ v, v % cN I < cN I := fun v => Nat.mod_lt v (by omega)
  obtain ⟨k1, k2⟩ := cmul_pt hi (show 1 < cN I by omega) hk
  obtain ⟨l1, l2⟩ := cmul_pt hi hj hl
  obtain ⟨s1, s2⟩ := csum_pt hi (lt (k * 1)) (lt (l * j))
  obtain ⟨_, _, _, _, _, _, fg⟩ := cx_facts hi
  refine ⟨⟨fg, onP_pt hi hj, k1, l1, ?_, ?_, ?_⟩, ?_⟩
  · rw [k2]; exact ⟨inM_pt hi (lt _), onP_pt hi (lt _)⟩
  · rw [l2]; exact ⟨inM_pt hi (lt _), onP_pt hi (lt _)⟩
  · rw [k2, l2]; exact s1
  · unfold bothP
    rw [k2, l2, s2, ← Nat.add_mod, Nat.mul_one]
theorem pof_ok {I R : Nat} {o : Int} (hi : I < 8) (h2 : R < cN I) (h : pofE (cP I) 0 (cB I) (cN I) R o = 0) :
    ∃ K, 1 ≤ K ∧ K < cN I ∧ pofP (cP I) 0 (cB I) (cN I) R o = ptOf I K ∧ (ptOf I K).1 % cN I = R := by
  obtain ⟨r1, r2⟩ := cN_range hi
  obtain ⟨p1, p2⟩ := cP_range hi
  have e : liftE (cP I) 0 (cB I) (pofX (cN I) R o % M256) (o.tmod 2 == 1) = 0 := by
    unfold pofE at h
    split at h
    · cases h
    · split at h
      · assumption
      · cases h
  have hx : pofX (cN I) R o % M256 < cP I := by
    unfold liftE at e
    split at e
    · cases e
    · omega
  have hb : liftB (cP I) 0 (cB I) (pofX (cN I) R o % M256) (o.tmod 2 == 1) = true := by
    unfold liftE at e
    rw [if_neg (by omega)] at e
    split at e
    · assumption
    · cases e
  obtain ⟨K, k1, k2, hk⟩ := lift_some hi hx hb
  refine ⟨K, k1, k2, ?_, ?_⟩
  · unfold pofP
    rw [if_pos h, if_pos h, hk]
  · rw [← hk]
    dsimp only
    unfold pofX
    split
    · rw [small_mod (by omega), Nat.add_mod_right, Nat.mod_eq_of_lt h2]
    · rw [small_mod (by omega), Nat.mod_eq_of_lt h2]
end Go.Proofs.Ytohnkglcabfpjaa
end

section
namespace Go.Proofs.Ytohnkglcabfpjaa
open Go.Sx
theorem ok_Recover : ∀ (ls : List (List At)) (vs : List (Option Addr)), Ok (recC ls) → Owes Try.prog cxRec [] 100 Try.f25 (mkArgs [.str pCv, .str [.y 32], .str pSg] ls vs) (recG ls) := by
  intro ls vs hc
  unfold recC at hc
  split at hc
  · rename_i P A B N X Y F g R S o
    have h : Owes Try.prog cxRec [] 100 Try.f25 [sCv P A B N X Y F, sBy 32 g, sSg R S o] (recG [[.u P, .u A, .u B, .u N, .u X, .u Y, .b F], [.y 32 g], [.u R, .u S, .i o]]) := by
      rw [vc_Recover]
      obtain ⟨hk, _⟩ := hc
      have bo := hk.both
      intro x1 x2 x3 x4 x5 x6 x7 x8 x9 x10 x11 x12
      have E8 : x8 = recE x1 x2 x3 N (red X Y F) g R S o := rfl
      have E9 : x9 = pofE x1 x2 x3 N R o := rfl
      have E12 : x12 = (recQ x1 x2 x3 N (red X Y F) g R S o).2.2 := rfl
      have bad : x8 ≠ 0 → 0 = x5 ∧ 0 = x6 ∧ false = x7 ∧ True := by
        intro h
        simp only [x5, x6, x7]
        unfold recA
        rw [← E8, if_neg h]
        exact ⟨(Nat.zero_mod _).symm, (Nat.zero_mod _).symm, rfl, trivial⟩
      have good : x8 = 0 → (recQ x1 x2 x3 N (red X Y F) g R S o).1 % M256 = x5 ∧ (recQ x1 x2 x3 N (red X Y F) g R S o).2.1 % M256 = x6 ∧ x12 = x7 ∧ True := by
        intro h
        simp only [x5, x6, x7]
        unfold recA
        rw [← E8, if_pos h]
        exact ⟨rfl, rfl, E12, trivial⟩
      have bad10 : x8 = 10 → (0 = x5 ∧ 0 = x6 ∧ false = x7 ∧ True) ∧ (10 : Int) = x8 := fun e => ⟨bad (by rw [e]; decide), e.symm⟩
      refine ⟨hk.good, fun h => (by cases h), fun _ => ⟨fun h => bad10 ?_, fun h => ⟨hk.good, fun h2 => ?_, fun h2 => ⟨fun h3 => ?_, fun h3 => ⟨hk.b32, ?_, id, id, fun h4 => bad10 ?_, fun h4 => ?_⟩⟩⟩⟩⟩
      · have e : mayB N R S o = false := by simpa using h
        rw [E8]; unfold recE
        rw [if_neg (by rw [e]; exact Bool.false_ne_true)]
      · have e : mayB N R S o = true := by simpa using h
        have e2 : ¬ x9 = 0 := by simpa using h2
        have e3 : x8 = 10 := by rw [E8]; unfold recE; rw [if_pos e, ← E9, if_neg e2]
        have e4 : x9 = 10 := by
          rw [E9] at e2 ⊢
          unfold pofE at e2 ⊢
          split
          · rfl
          · rename_i g1
            rw [if_neg g1] at e2
            split
            · rename_i g2
              rw [if_pos g2] at e2
              exact absurd rfl e2
            · rfl
        rw [e4]
        exact bad10 e3
      · have e : mayB N R S o = true := by simpa using h
        have e2 : x9 = 0 := by simpa using h2
        have := (bo e e2).1
        rw [this] at h3
        cases h3
      · have e : mayB N R S o = true := by simpa using h
        have e2 : x9 = 0 := by simpa using h2
        exact (bo e e2).2
      · have e : mayB N R S o = true := by simpa using h
        have e2 : x9 = 0 := by simpa using h2
        have e4 : x12 = true := by simpa [x11] using h4
        rw [E8]; unfold recE
        rw [if_pos e, ← E9, if_pos e2, if_pos (bo e e2).1, ← E12, if_pos e4]
      · have e : mayB N R S o = true := by simpa using h
        have e2 : x9 = 0 := by simpa using h2
        have e4 : x12 = false := by simpa [x11] using h4
        have e8 : x8 = 0 := by
          rw [E8]; unfold recE
          rw [if_pos e, ← E9, if_pos e2, if_pos (bo e e2).1, ← E12, if_neg (by rw [e4]; exact Bool.false_ne_true)]
        exact ⟨good e8, e8.symm⟩
    exact h
  · exact hc.1.elim
theorem ok_Check : ∀ (ls : List (List At)) (vs : List (Option Addr)), Ok (chkC ls) → Owes Try.prog cxChk [] 100 Try.f28 (mkArgs [.str pCv, .str pPt, .str [.y 32], .str pSg] ls vs) (chkG ls) := by
  intro ls vs hc
  unfold chkC at hc
  split at hc
  · rename_i P A B N X Y F x y f g R S o
    have h : Owes Try.prog cxChk [] 100 Try.f28 [sCv P A B N X Y F, sPt x y f, sBy 32 g, sSg R S o] (chkG [[.u P, .u A, .u B, .u N, .u X, .u Y, .b F], [.u x, .u y, .b f], [.y 32 g], [.u R, .u S, .i o]]) := by
      rw [vc_Check]
      obtain ⟨hk, _⟩ := hc
      have bo := hk.both
      have hon := hk.on
      intro x1 x2 x3 x4 x5 x6 x7 x8 x9 x10
      have E8 : x8 = chkE x1 x2 N (red X Y F) (red x y f) g R S o := rfl
      have E10 : x10 = (chkQ x1 x2 N (red X Y F) (red x y f) g R S).2.2 := rfl
      have E7 : x7 = 0 := by
        simp only [x7]
        unfold onE
        split
        · rfl
        · rename_i hf
          have hf : (red x y f).2.2 = false := by simpa using hf
          rw [if_pos (hon.near hf).2.2]
      rw [E7, beq_conj1]
      refine ⟨hk.good, fun h => hon.far h, fun h => ⟨(hon.near h).1, (hon.near h).2.1⟩, fun h => (by cases h), fun _ => ⟨id, id, id, fun h => by rw [h]; rfl, fun h => ?_, fun h => ⟨fun h2 => ?_, fun h2 => ⟨hk.b32, ?_, fun h3 => (by cases h3), fun _ => ⟨id, id, id, id, id, id, fun h => by rw [h]; rfl, fun h3 => ?_, fun h3 => ?_⟩⟩⟩⟩⟩
      · rw [E8]; unfold chkE
        exact (if_pos h).symm
      · rw [Bool.or_eq_false_iff] at h
        have e : mayB N R S o = true := by simpa using h.2
        rw [(bo h.1 e).1] at h2
        cases h2
      · rw [Bool.or_eq_false_iff] at h
        have e : mayB N R S o = true := by simpa using h.2
        exact (bo h.1 e).2
      · rw [E8]; unfold chkE
        have e := h
        rw [Bool.or_eq_false_iff] at e
        have e1 : mayB N R S o = true := by simpa using e.2
        rw [if_neg (by rw [show (red x y f).2.2 = f from rfl, h]; exact Bool.false_ne_true), if_pos (bo e.1 e1).1]
        exact (if_pos h3).symm
      · rw [E8]; unfold chkE
        have e := h
        rw [Bool.or_eq_false_iff] at e
        have e1 : mayB N R S o = true := by simpa using e.2
        rw [if_neg (by rw [show (red x y f).2.2 = f from rfl, h]; exact Bool.false_ne_true), if_pos (bo e.1 e1).1]
        exact (if_neg (by rw [Bool.not_eq_true]; exact h3)).symm
    exact h
  · exact hc.1.elim
theorem card_Recover : FnOK Try.prog 25 cRec :=
  FnOK_A (CxOK_cons card_cCheck (CxOK_cons card_mayBe (CxOK_cons card_pointOf (CxOK_cons card_oInv (CxOK_cons card_ofSum (CxOK_cons card_oMul (CxOK_cons card_oMinus (CxOK_cons card_both CxOK_nil)))))))) (iv := fun _ => []) (N := 100) Try.func25 (by kernel_rfl) (by kernel_rfl) (fun ls => by
    unfold recG
    split
    · exact bnd_two (bnd_pt _) (bnd_I _ _)
    · exact bnd_none) ok_Recover
theorem card_Check : FnOK Try.prog 28 cChk :=
  FnOK_A (CxOK_cons card_cOn (CxOK_cons card_mayBe (CxOK_cons card_oRest (CxOK_cons card_oInv (CxOK_cons card_ofSum (CxOK_cons card_oMul (CxOK_cons card_both CxOK_nil))))))) (iv := fun _ => []) (N := 100) Try.func28 (by kernel_rfl) (by kernel_rfl) (fun ls => by
    unfold chkG
    split
    · exact bnd_one (bnd_I _ _)
    · exact bnd_none) ok_Check
def sumF (a b : Int) (s : ByteArray) (j : Nat) : Int :=
  IntKind.u8.wrap (((BitVec.ofInt 8 (wordF a b s j) ^^^ BitVec.ofInt 8 (IntKind.u8.wrap (IntKind.u8.wrap (a.fdiv (2 ^ Min.min (IntKind.i64.wrap ((j : Int).tmod 7 * 8)).toNat 64)) + IntKind.u8.wrap (IntKind.i64.wrap ((j : Int) * b))))).toNat : Nat) : Int)
theorem ok_sumR : ∀ k a b s, i64ok k → i64ok a → i64ok b → Owes Try.prog cxSumR [(3, .inv (invSumR k a b s (sumF a b s)))] 100 Try.f26 [sRaw k a b s] (.one (sBy 32 (sumF a b s))) := by
  intro k a b s hk ha hb
  rw [vc_sumR]
  refine ⟨hk, ha, hb, fun y => rfl, 0, by decide, rfl, rfl, rfl, rfl, rfl, rfl, rfl, ⟨fun j _ => ?_, trivial⟩, rfl, fun y hy => ⟨fun hc => ?_, fun hc => ?_⟩⟩
  · rw [if_neg (by omega)]
  · have hy2 : (y : Int) < 32 := of_decide_eq_true hc
    have h1 : (0 : Int) ≤ (y : Int) ∧ (y : Int) < 32 := by omega
    have hm : (y : Int).tmod 7 = ((y % 7 : Nat) : Int) := by
      rw [Int.tmod_eq_emod_of_nonneg (by omega)]
      omega
    have hw : 0 ≤ IntKind.i64.wrap ((y : Int).tmod 7 * 8) := by
      rw [hm, IntWalk.i64_in _ (by omega)]
      omega
    refine ⟨h1, h1, hw, h1, h1, y + 1, by omega, ?_, rfl, rfl, rfl, rfl, rfl, rfl, ⟨fun j hj => ?_, trivial⟩, rfl, by omega⟩
    · rw [IntWalk.i64_in _ (by omega)]; omega
    · rw [Int.toNat_natCast]
      by_cases e : j = y
      · subst e
        rw [if_pos rfl, if_neg (Nat.lt_irrefl _), if_pos (by omega)]
        rfl
      · rw [if_neg e]
        by_cases e2 : j < y
        · rw [if_pos e2, if_pos (by omega)]
        · rw [if_neg e2, if_neg (by omega)]
  · have hy2 : ¬ (y : Int) < 32 := of_decide_eq_false hc
    refine ⟨fun j hj => ?_, trivial⟩
    rw [if_pos (by omega)]
theorem u8_in (n : Int) : 0 ≤ IntKind.u8.wrap n ∧ IntKind.u8.wrap n < 256 := by
  have e : IntKind.u8.wrap n = n % 256 := rfl
  rw [e]
  omega
theorem sumF_ok (a b : Int) (s : ByteArray) : byteOK 32 (sumF a b s) := fun _ _ => u8_in _
theorem card_sumR : FnOK Try.prog 26 (cSumR sumF) := by
  refine FnOK_of Try.func26 (by kernel_rfl) (by kernel_rfl) fun args ps sv hs hp => ?_
  unfold cSumR specRaw at hs
  split at hs
  · rename_i k a b s
    simp only [Option.some.injEq, Prod.mk.injEq] at hs
    obtain ⟨rfl, rfl⟩ := hs
    obtain ⟨h1, h2, h3, _⟩ := hp
    have hb : SV.bnd none0 (.one (sBy 32 (sumF a b s))) := by intro k hk; simp only [List.mem_singleton] at hk; subst hk; trivial
    refine ⟨hb, fun ρ w hzz hgg _ => ?_⟩
    refine (calls_of_owes0 (CxOK_cons card_word CxOK_nil) Try.func26 (by kernel_rfl) (args := [sRaw k a b s]) ?_ (ok_sumR k a b s h1 h2 h3) ρ w hzz hgg).mono ?_
    · intro z hz
      simp only [List.mem_singleton] at hz
      subst hz
      intro q hq
      simp only [List.mem_cons, List.not_mem_nil, or_false] at hq
      rcases hq with rfl | rfl | rfl | rfl <;> trivial
    · rintro e w' ⟨v, rfl, ⟨ρ', hr⟩, hbl⟩
      exact ⟨v, rfl, rep_none0 hb hr, hbl⟩
  · cases hs
theorem ok_sTells : Owes Try.prog cxSTells [] 100 Try.f27 [] yes := by
  rw [vc_sTells]
  have hi : (0 : Nat) < 8 := by decide
  have hr : red 2 12 false = ptOf 0 1 := by
    unfold red
    rw [small_mod (by decide), small_mod (by decide)]
    rfl
  obtain ⟨_, _, _, _, _, _, fg⟩ := cx_facts hi
  have hg : goodP 43 0 7 31 (ptOf 0 1) := fg
  obtain ⟨k1, k2⟩ := cmul_pt hi (show 1 < cN 0 by decide) (show 1 < M256 by rw [M256_eq]; decide)
  have k1 : mulOK 43 0 1 (ptOf 0 1) := k1
  have k2 : cmulR 43 0 1 (ptOf 0 1) 256 = ptOf 0 1 := k2
  have sc : secB 31 1 = true := sec_of hi (show 1 ≤ 1 by decide) (show 1 < cN 0 by decide)
  rw [hr, k2]
  intro x1
  exact ⟨by decide, hg, sc, k1, id, id, id, id, rfl⟩
theorem card_sTells : FnOK Try.prog 27 (spec0 yes) :=
  FnOK_0 (CxOK_cons card_Curve (CxOK_cons card_sPoint CxOK_nil)) (iv := []) (N := 100) Try.func27 (by kernel_rfl) (by kernel_rfl) (bnd_one (bnd_B _)) ok_sTells
end Go.Proofs.Ytohnkglcabfpjaa
end
