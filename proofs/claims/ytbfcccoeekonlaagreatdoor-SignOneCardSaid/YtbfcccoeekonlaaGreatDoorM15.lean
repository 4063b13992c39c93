/-
  Texts: V52, P85, V53, P86, P87, P88.
-/
import Derived.Test.YtbfcccoeekonlaaGreatDoorM1
import Derived.Test.YtbfcccoeekonlaaGreatDoorM2
import Derived.Test.YtbfcccoeekonlaaGreatDoorM3
import Derived.Test.YtbfcccoeekonlaaGreatDoorM4
import Derived.Test.YtbfcccoeekonlaaGreatDoorM5
import Derived.Test.YtbfcccoeekonlaaGreatDoorM6
import Derived.Test.YtbfcccoeekonlaaGreatDoorM7
import Derived.Test.YtbfcccoeekonlaaGreatDoorM8
import Derived.Test.YtbfcccoeekonlaaGreatDoorM9
import Derived.Test.YtbfcccoeekonlaaGreatDoorM10
import Derived.Test.YtbfcccoeekonlaaGreatDoorM11
import Derived.Test.YtbfcccoeekonlaaGreatDoorM12
import Derived.Test.YtbfcccoeekonlaaGreatDoorM13
import Derived.Test.YtbfcccoeekonlaaGreatDoorM14
section
/-
  Package sign: numbers to try with; one try; all of them: reckoned by the kernel. (Laid by program.)
-/
namespace Go.Proofs.YtbfcccoeekonlaaGreatDoor
open Go.Sx
set_option maxRecDepth 100000
/-- A secret's bytes, a sum's, one more: 65 in all. -/
def trF (d : Nat) (g : Nat → Int) (t : Int) (j : Nat) : Int := (intsL [SK.f .u8 32 fun j => by8 d (31 - j), SK.f .u8 32 g, SK.c (SC.val (.int .u8 (IntKind.u8.wrap t)))]).getD j 0
def numN (d : Nat) (g : Nat → Int) (t : Int) : Nat := if 256 ≤ t then (t - 255).toNat else fromN (fun j => endB (addB sp0 (fun j => trF d g t j) 65) j) 32
def numC : List (List At) → List Prop
  | [[.u _], [.y 32 g], [.i t]] => [byteOK 32 g, 0 ≤ t ∧ t ≤ 271]
  | _ => [False]
def numbG (num : Nat → (Nat → Int) → Int → Nat) : List (List At) → SV
  | [[.u d], [.y 32 g], [.i t]] => .one (sU (num d g t))
  | _ => .tup []
def cNum (num : Nat → (Nat → Int) → Int → Nat) : FSpec := specA [.str [.u], .str [.y 32], .int .i64] numC (numbG num)
def cxNum : Cx := ⟨[(43, specU bytesG), (44, specBs (fun _ _ => []) kSumG), (17, specB fromG)], glK, 0⟩
def oaddN (n a b : Nat) : Nat := if fE a b n = 0 then (a % M256 + b % M256) % (n % M256) else 0
def oAddG (n a b : Nat) : SV := .one (sU (oaddN n a b))
def cxOAdd : Cx := [(72, specUUU noC faddG)]
def oddO (n x y : Nat) : Int := ((y % M256 % 2 : Nat) : Int) + if n % M256 ≤ x % M256 then 2 else 0
def oddC : List (List At) → List Prop
  | [[.u _], [.u _, .u _, .b _]] => []
  | _ => [False]
def oddOG : List (List At) → SV
  | [[.u n], [.u x, .u y, .b _]] => .one (sI .i64 (oddO n x y))
  | _ => .tup []
def cOdd : FSpec := specA [.str [.u], .str pPt] oddC oddOG
def lowS (n S : Nat) : Nat := if highB n S = true then minN n S else S
def lowO (n S : Nat) (o : Int) : Int := if highB n S = true then o + 1 - 2 * (o % 2) else o
def lowC : List (List At) → List Prop
  | [[.u _], [.u _, .u _, .i o]] => [0 ≤ o ∧ o ≤ 3]
  | _ => [False]
def lowG : List (List At) → SV
  | [[.u n], [.u R, .u S, .i o]] => .one (sSg R (lowS n S) (lowO n S o))
  | _ => .tup []
def cLow : FSpec := specA [.str [.u], .str pSg] lowC lowG
def cxOdd : Cx := [(15, specUU cmpG)]
def cxLow : Cx := [(49, specUU oHighG), (31, specUU minG)]
def swP (P A : Nat) (b : Pt) (k : Nat) : Pt := cmulR P A (k % M256) b 256
def swR (P A N : Nat) (b : Pt) (k : Nat) : Nat := restN N (swP P A b k).1
def swS (P A N : Nat) (b : Pt) (k d : Nat) (g : Nat → Int) : Nat := mulN N (oinvN N k) (oaddN N (restN N (fromN g 32)) (mulN N (swR P A N b k) d))
def swE (P A N : Nat) (b : Pt) (k d : Nat) (g : Nat → Int) : Int :=
  if k % M256 = 0 then 5 else if ((swP P A b k).2.2 || (swR P A N b k % M256 == 0)) = true then 5 else if oinvE N k = 0 then if swS P A N b k d g % M256 = 0 then 5 else 0 else oinvE N k
def swA (P A N : Nat) (b : Pt) (k d : Nat) (g : Nat → Int) : Nat × Nat × Int :=
  if swE P A N b k d g = 0 then (swR P A N b k, lowS N (swS P A N b k d g), lowO N (swS P A N b k d g) (oddO N (swP P A b k).1 (swP P A b k).2.1)) else (0, 0, 0)
structure swOK (P A B N : Nat) (b : Pt) (k : Nat) (g : Nat → Int) : Prop where
  good : goodP P A B (N % M256) b
  m1 : k % M256 ≠ 0 → mulOK P A (k % M256) b
  b32 : byteOK 32 g
def sgS (p : Nat × Nat × Int) : SA := sSg p.1 p.2.1 p.2.2
def swC : List (List At) → List Prop
  | [[.u P, .u A, .u B, .u N, .u X, .u Y, .b F], [.u k], [.u _], [.y 32 g]] => [swOK (P % M256) (A % M256) (B % M256) N (red X Y F) k g]
  | _ => [False]
def swG : List (List At) → SV
  | [[.u P, .u A, .u _, .u N, .u X, .u Y, .b F], [.u k], [.u d], [.y 32 g]] => .tup [sgS (swA (P % M256) (A % M256) N (red X Y F) k d g), sI .i64 (swE (P % M256) (A % M256) N (red X Y F) k d g)]
  | _ => .tup []
def cSw : FSpec := specA [.str pCv, .str [.u], .str [.u], .str [.y 32]] swC swG
def cxSw : Cx := [(21, cMultS'), (22, specUU oRestG), (29, specUU oinvG), (33, cOfSum), (32, specUUU noC oMulG), (46, specUUU noC oAddG), (48, cOdd), (47, cLow)]
/-- The first of which something comes. -/
def firstT (e : Nat → Int) : Nat → Nat → Option Nat
  | 0, _ => none
  | n + 1, i => if e i = 5 then firstT e n (i + 1) else some i
def tryK (num : Nat → (Nat → Int) → Int → Nat) (N d : Nat) (g : Nat → Int) (i : Nat) : Nat := restN N (num d g (i : Int))
def tryE (num : Nat → (Nat → Int) → Int → Nat) (P A N : Nat) (b : Pt) (d : Nat) (g : Nat → Int) (i : Nat) : Int := swE P A N b (tryK num N d g i) d g
def tryA (num : Nat → (Nat → Int) → Int → Nat) (P A N : Nat) (b : Pt) (d : Nat) (g : Nat → Int) (i : Nat) : Nat × Nat × Int := swA P A N b (tryK num N d g i) d g
def mkE (num : Nat → (Nat → Int) → Int → Nat) (P A N : Nat) (b : Pt) (d : Nat) (g : Nat → Int) : Int := match firstT (tryE num P A N b d g) 272 0 with
  | some i => tryE num P A N b d g i
  | none => 5
def mkA (num : Nat → (Nat → Int) → Int → Nat) (P A N : Nat) (b : Pt) (d : Nat) (g : Nat → Int) : Nat × Nat × Int := match firstT (tryE num P A N b d g) 272 0 with
  | some i => tryA num P A N b d g i
  | none => (0, 0, 0)
structure mkOK (P A B N : Nat) (b : Pt) (d : Nat) (g : Nat → Int) : Prop where
  good : goodP P A B (N % M256) b
  sec : secB N d = true
  b32 : byteOK 32 g
  m1 : ∀ v, mulOK P A (restN N v % M256) b
def mkC : List (List At) → List Prop
  | [[.u P, .u A, .u B, .u N, .u X, .u Y, .b F], [.u d], [.y 32 g]] => [mkOK (P % M256) (A % M256) (B % M256) N (red X Y F) d g]
  | _ => [False]
def mkG (a : Nat → Nat → Nat → Pt → Nat → (Nat → Int) → Nat × Nat × Int) (e : Nat → Nat → Nat → Pt → Nat → (Nat → Int) → Int) : List (List At) → SV
  | [[.u P, .u A, .u _, .u N, .u X, .u Y, .b F], [.u d], [.y 32 g]] => .tup [sgS (a (P % M256) (A % M256) N (red X Y F) d g), sI .i64 (e (P % M256) (A % M256) N (red X Y F) d g)]
  | _ => .tup []
def cMake (a : Nat → Nat → Nat → Pt → Nat → (Nat → Int) → Nat × Nat × Int) (e : Nat → Nat → Nat → Pt → Nat → (Nat → Int) → Int) : FSpec := specA [.str pCv, .str [.u], .str [.y 32]] mkC (mkG a e)
def cxMake (num : Nat → (Nat → Int) → Int → Nat) : Cx := ⟨[(20, cLook), (23, cNum num), (22, specUU oRestG), (24, cSw)], glK, 0⟩
def zeroSg : List SK := zeroU ++ zeroU ++ [.c (.num .i64 0)]
def invMake (num : Nat → (Nat → Int) → Int → Nat) (P A B N X Y : Nat) (F : Bool) (d : Nat) (g : Nat → Int) : Inv where
  X := Nat
  tm y := slotsAt 44 [(3, .one (.sc (.ptr 0 0))), (4, .one (.sc (.ptr 1 0))), (5, .one (.sc (.ptr 2 0))), (6, .one (.sc (.ptr 3 0))), (20, .one (sI .i64 y))]
  ob _ := [.cells 30 [.u P, .u A, .u B, .u N, .u X, .u Y, .c (.val (.bool F))] 0, .cells 26 [.u d] 0, .cells 40 [.f .u8 32 g] 0, .cells 37 zeroSg 0]
  holds y := y ≤ 272 ∧ firstT (tryE num (P % M256) (A % M256) N (red X Y F) d g) 272 0 = firstT (tryE num (P % M256) (A % M256) N (red X Y F) d g) (272 - y) y
  less y := 272 - y
-- VC vc_sNumber HASH 4fe245d034bde7cd
theorem vc_sNumber (d : Nat) (g : Nat → Int) (t : Int) :
    Owes Tryz.prog cxNum [] 100 Tryz.f23 [sU d, sBy 32 g, sI .i64 t] (numbG numN [[.u d], [.y 32 g], [.i t]]) =
    (let x1 : Int := Go.IntKind.u64.wrap (Go.IntKind.i64.wrap (Go.IntKind.i64.wrap (t - (256 : Int)) + (1 : Int))); let x2 : Nat := numN d g t % Go.Sx.M256; (Decidable.decide (t ≥ (256 : Int)) = Bool.true → ((0 : Int) ≤ x1 ∧ x1 < (18446744073709551616 : Int)) ∧ ((0 : Int) ≤ (0 : Int) ∧ (0 : Int) < (18446744073709551616 : Int)) ∧ ((0 : Int) ≤ (0 : Int) ∧ (0 : Int) < (18446744073709551616 : Int)) ∧ ((0 : Int) ≤ (0 : Int) ∧ (0 : Int) < (18446744073709551616 : Int)) ∧ Go.Sx.join x1 (0 : Int) (0 : Int) (0 : Int) % Go.Sx.M256 = x2 ∧ True) ∧ (Decidable.decide (t ≥ (256 : Int)) = Bool.false → ∀ (c : Nat), (65 : Nat) + c ≤ Go.maxLen → (0 : Nat) ≤ (65 : Nat) + c ∧ ((65 : Nat) + c - (0 : Nat) ≤ Go.maxLen ∧ ((65 : Nat) + c - (0 : Nat)) * (1 : Nat) = (65 : Nat) + c * (1 : Nat)) ∧ ∀ (c : Nat), (32 : Nat) + c ≤ Go.maxLen → ((32 : Nat) ≤ (32 : Nat) + c ∧ (32 : Nat) + c ≤ Go.maxLen ∧ ((32 : Nat) + c) * (1 : Nat) = (32 : Nat) + c * (1 : Nat)) ∧ ∀ (c : Nat), (64 : Nat) + c ≤ Go.maxLen → ((64 : Nat) ≤ (64 : Nat) + c ∧ (64 : Nat) + c ≤ Go.maxLen ∧ ((64 : Nat) + c) * (1 : Nat) = (64 : Nat) + c * (1 : Nat)) ∧ ∀ (c : Nat), (65 : Nat) + c ≤ Go.maxLen → (65 : Nat) ≤ (65 : Nat) + c ∧ ∀ (_ : Go.Addr), (∀ (_ : Nat), True) ∧ (∀ (j : Nat), j < (32 : Nat) → (0 : Int) ≤ Go.Sx.endB (Go.Sx.addB Go.Sx.sp0 (fun (j : Nat) => (Go.Sx.intsL [Go.Sx.SK.f Go.IntKind.u8 (32 : Nat) fun (j : Nat) => Go.Sx.by8 d ((31 : Nat) - j), Go.Sx.SK.f Go.IntKind.u8 (32 : Nat) g, Go.Sx.SK.c (Go.Sx.SC.val (Go.Value.int Go.IntKind.u8 (Go.IntKind.u8.wrap t)))]).getD j (0 : Int)) (65 : Nat)) j ∧ Go.Sx.endB (Go.Sx.addB Go.Sx.sp0 (fun (j : Nat) => (Go.Sx.intsL [Go.Sx.SK.f Go.IntKind.u8 (32 : Nat) fun (j : Nat) => Go.Sx.by8 d ((31 : Nat) - j), Go.Sx.SK.f Go.IntKind.u8 (32 : Nat) g, Go.Sx.SK.c (Go.Sx.SC.val (Go.Value.int Go.IntKind.u8 (Go.IntKind.u8.wrap t)))]).getD j (0 : Int)) (65 : Nat)) j < (256 : Int)) ∧ Go.Sx.fromN (fun (j : Nat) => Go.Sx.endB (Go.Sx.addB Go.Sx.sp0 (fun (j : Nat) => (Go.Sx.intsL [Go.Sx.SK.f Go.IntKind.u8 (32 : Nat) fun (j : Nat) => Go.Sx.by8 d ((31 : Nat) - j), Go.Sx.SK.f Go.IntKind.u8 (32 : Nat) g, Go.Sx.SK.c (Go.Sx.SC.val (Go.Value.int Go.IntKind.u8 (Go.IntKind.u8.wrap t)))]).getD j (0 : Int)) (65 : Nat)) j) (32 : Nat) % Go.Sx.M256 = x2 ∧ True)) := by kernel_rfl
-- END VC
-- VC vc_oAdd HASH f93c212b9e841f95
theorem vc_oAdd (n a b : Nat) :
    Owes Tryz.prog cxOAdd [] 100 Tryz.f46 [sU n, sU a, sU b] (oAddG n a b) =
    ((if fE a b n = (0 : Int) then (a % Go.Sx.M256 + b % Go.Sx.M256) % (n % Go.Sx.M256) else (0 : Nat)) % Go.Sx.M256 = oaddN n a b % Go.Sx.M256 ∧ True) := by kernel_rfl
-- END VC
-- VC vc_oddOf HASH 4fa0c68fc87136e1
theorem vc_oddOf (n x y : Nat) (f : Bool) :
    Owes Tryz.prog cxOdd [] 100 Tryz.f48 [sU n, sPt x y f] (oddOG [[.u n], [.u x, .u y, .b f]]) =
    (let x1 : Int := Go.IntKind.i64.wrap ((Go.Sx.limb y (0 : Nat)).tmod (2 : Int)); (Decidable.decide (Go.Sx.cmpN x n ≥ (0 : Int)) = Bool.true → Go.IntKind.i64.wrap (x1 + (2 : Int)) = oddO n x y) ∧ (Decidable.decide (Go.Sx.cmpN x n ≥ (0 : Int)) = Bool.false → x1 = oddO n x y)) := by kernel_rfl
-- END VC
-- VC vc_lowered HASH bb374faea6249be9
theorem vc_lowered (n R S : Nat) (o : Int) :
    Owes Tryz.prog cxLow [] 100 Tryz.f47 [sU n, sSg R S o] (lowG [[.u n], [.u R, .u S, .i o]]) =
    (let x1 : Nat := R % Go.Sx.M256; let x2 : Nat := lowS n S % Go.Sx.M256; (highB n S = Bool.true → x1 = x1 ∧ minN n S % Go.Sx.M256 = x2 ∧ Go.IntKind.i64.wrap (↑(BitVec.ofInt (64 : Nat) o ^^^ BitVec.ofInt (64 : Nat) (1 : Int)).toNat : Int) = lowO n S o ∧ True) ∧ (highB n S = Bool.false → x1 = x1 ∧ S % Go.Sx.M256 = x2 ∧ o = lowO n S o ∧ True)) := by kernel_rfl
-- END VC
-- VC vc_signWith HASH fcd9b1bf76da3357
theorem vc_signWith (P A B N X Y k d : Nat) (F : Bool) (g : Nat → Int) :
    Owes Tryz.prog cxSw [] 100 Tryz.f24 [sCv P A B N X Y F, sU k, sU d, sBy 32 g] (swG [[.u P, .u A, .u B, .u N, .u X, .u Y, .b F], [.u k], [.u d], [.y 32 g]]) =
    (let x1 : Nat := k % Go.Sx.M256; let x2 : Nat := P % Go.Sx.M256; let x3 : Nat := A % Go.Sx.M256; let x4 : Nat := (swA x2 x3 N (red X Y F) k d g).fst % Go.Sx.M256; let x5 : Nat := (swA x2 x3 N (red X Y F) k d g).snd.fst % Go.Sx.M256; let x6 : Int := (swA x2 x3 N (red X Y F) k d g).snd.snd; let x7 : Int := swE x2 x3 N (red X Y F) k d g; let x8 : Nat := B % Go.Sx.M256; let x9 : Bool := (cmulR x2 x3 x1 (red X Y F) (256 : Nat)).snd.snd; let x10 : Nat := (cmulR x2 x3 x1 (red X Y F) (256 : Nat)).fst; let x11 : Nat := restN N x10; let x12 : Nat := x11 % Go.Sx.M256; let x13 : Nat := mulN N (oinvN N k) (oaddN N (restN N (Go.Sx.fromN g (32 : Nat))) (mulN N x11 d)); let x14 : Int := oddO N x10 (cmulR x2 x3 x1 (red X Y F) (256 : Nat)).snd.fst; (Go.Sx.conj [x1 == (0 : Nat)] = Bool.true → ((0 : Nat) = x4 ∧ (0 : Nat) = x5 ∧ (0 : Int) = x6 ∧ True) ∧ (5 : Int) = x7) ∧ (Go.Sx.conj [x1 == (0 : Nat)] = Bool.false → goodP x2 x3 x8 (N % Go.Sx.M256) (red X Y F) ∧ onP x2 x3 x8 (red X Y F) ∧ mulOK x2 x3 x1 (red X Y F) ∧ ((!x9) = Bool.true → (!x9) = Bool.true) ∧ ((!x9) = Bool.true → (!x9) = Bool.true) ∧ (x9 = Bool.false → (!x9) = Bool.true) ∧ ((x9 || Go.Sx.conj [x12 == (0 : Nat)]) = Bool.true → ((0 : Nat) = x4 ∧ (0 : Nat) = x5 ∧ (0 : Int) = x6 ∧ True) ∧ (5 : Int) = x7) ∧ ((x9 || Go.Sx.conj [x12 == (0 : Nat)]) = Bool.false → ((oinvE N k != (0 : Int)) = Bool.true → ((0 : Nat) = x4 ∧ (0 : Nat) = x5 ∧ (0 : Int) = x6 ∧ True) ∧ oinvE N k = x7) ∧ ((oinvE N k != (0 : Int)) = Bool.false → (∀ (j : Nat), j < (32 : Nat) → (0 : Int) ≤ g j ∧ g j < (256 : Int)) ∧ (Go.Sx.conj [x13 % Go.Sx.M256 == (0 : Nat)] = Bool.true → ((0 : Nat) = x4 ∧ (0 : Nat) = x5 ∧ (0 : Int) = x6 ∧ True) ∧ (5 : Int) = x7) ∧ (Go.Sx.conj [x13 % Go.Sx.M256 == (0 : Nat)] = Bool.false → ((0 : Int) ≤ x14 ∧ x14 ≤ (3 : Int)) ∧ (x12 = x4 ∧ lowS N x13 % Go.Sx.M256 = x5 ∧ lowO N x13 x14 = x6 ∧ True) ∧ (0 : Int) = x7))))) := by kernel_rfl
-- END VC
-- VC vc_Make HASH 6effd60499fb2875
theorem vc_Make (num : Nat → (Nat → Int) → Int → Nat) (P A B N X Y d : Nat) (F : Bool) (g : Nat → Int) :
    Owes Tryz.prog (cxMake num) [(5, .inv (invMake num P A B N X Y F d g))] 100 Tryz.f9 [sCv P A B N X Y F, sU d, sBy 32 g] (mkG (mkA num) (mkE num) [[.u P, .u A, .u B, .u N, .u X, .u Y, .b F], [.u d], [.y 32 g]]) =
    (let x1 : Nat := P % Go.Sx.M256; let x2 : Nat := A % Go.Sx.M256; let x3 : Nat := B % Go.Sx.M256; let x4 : Nat := N % Go.Sx.M256; let x5 : Int := if secB N d = Bool.true then (0 : Int) else (6 : Int); let x6 : Nat := (mkA num x1 x2 N (red X Y F) d g).fst % Go.Sx.M256; let x7 : Nat := (mkA num x1 x2 N (red X Y F) d g).snd.fst % Go.Sx.M256; let x8 : Int := (mkA num x1 x2 N (red X Y F) d g).snd.snd; let x9 : Int := mkE num x1 x2 N (red X Y F) d g; let x10 : Nat := X % Go.Sx.M256; let x11 : Nat := Y % Go.Sx.M256; let x12 : Nat := d % Go.Sx.M256; goodP x1 x2 x3 x4 (red X Y F) ∧ ((x5 != (0 : Int)) = Bool.true → ((0 : Nat) = x6 ∧ (0 : Nat) = x7 ∧ (0 : Int) = x8 ∧ True) ∧ x5 = x9) ∧ ((x5 != (0 : Int)) = Bool.false → (∀ (y : Nat), Go.Sx.closedB (Go.Sx.slotsAt (44 : Nat) [((3 : Nat), Go.Sx.SV.one (Go.Sx.SA.sc (Go.Sx.SC.ptr (0 : Nat) (0 : Nat)))), ((4 : Nat), Go.Sx.SV.one (Go.Sx.SA.sc (Go.Sx.SC.ptr (1 : Nat) (0 : Nat)))), ((5 : Nat), Go.Sx.SV.one (Go.Sx.SA.sc (Go.Sx.SC.ptr (2 : Nat) (0 : Nat)))), ((6 : Nat), Go.Sx.SV.one (Go.Sx.SA.sc (Go.Sx.SC.ptr (3 : Nat) (0 : Nat)))), ((20 : Nat), Go.Sx.SV.one (Go.Sx.sI Go.IntKind.i64 (↑y : Int)))]) [Go.Sx.SO.cells (30 : Go.TypeId) [Go.Sx.SK.u P, Go.Sx.SK.u A, Go.Sx.SK.u B, Go.Sx.SK.u N, Go.Sx.SK.u X, Go.Sx.SK.u Y, Go.Sx.SK.c (Go.Sx.SC.val (Go.Value.bool F))] (0 : Nat), Go.Sx.SO.cells (26 : Go.TypeId) [Go.Sx.SK.u d] (0 : Nat), Go.Sx.SO.cells (40 : Go.TypeId) [Go.Sx.SK.f Go.IntKind.u8 (32 : Nat) g] (0 : Nat), Go.Sx.SO.cells (37 : Go.TypeId) zeroSg (0 : Nat)] = Bool.true) ∧ ∃ (y : Nat), (y ≤ (272 : Nat) ∧ firstT (tryE num x1 x2 N (red X Y F) d g) (272 : Nat) (0 : Nat) = firstT (tryE num x1 x2 N (red X Y F) d g) ((272 : Nat) - y) y) ∧ (0 : Int) = (↑y : Int) ∧ x1 = x1 ∧ x2 = x2 ∧ x3 = x3 ∧ x4 = x4 ∧ x10 = x10 ∧ x11 = x11 ∧ F = F ∧ (0 : Nat) = (0 : Nat) ∧ x12 = x12 ∧ (0 : Nat) = (0 : Nat) ∧ ((∀ (j : Nat), j < (32 : Nat) → g j = g j) ∧ True) ∧ (0 : Nat) = (0 : Nat) ∧ (0 : Nat) = (0 : Nat) ∧ ∀ (y : Nat), y ≤ (272 : Nat) ∧ firstT (tryE num x1 x2 N (red X Y F) d g) (272 : Nat) (0 : Nat) = firstT (tryE num x1 x2 N (red X Y F) d g) ((272 : Nat) - y) y → (Decidable.decide ((↑y : Int) < (272 : Int)) = Bool.true → (∀ (j : Nat), j < (32 : Nat) → (0 : Int) ≤ g j ∧ g j < (256 : Int)) ∧ ((0 : Int) ≤ (↑y : Int) ∧ (↑y : Int) ≤ (271 : Int)) ∧ swOK x1 x2 x3 N (red X Y F) (restN N (num d (Go.Sx.selG [Go.Sx.SK.f Go.IntKind.u8 (32 : Nat) g]) (↑y : Int))) (Go.Sx.selG [Go.Sx.SK.f Go.IntKind.u8 (32 : Nat) g]) ∧ ((swE x1 x2 N (red X Y F) (restN N (num d g (↑y : Int))) d g != (5 : Int)) = Bool.true → ((swA x1 x2 N (red X Y F) (restN N (num d g (↑y : Int))) d g).fst % Go.Sx.M256 = x6 ∧ (swA x1 x2 N (red X Y F) (restN N (num d g (↑y : Int))) d g).snd.fst % Go.Sx.M256 = x7 ∧ (swA x1 x2 N (red X Y F) (restN N (num d g (↑y : Int))) d g).snd.snd = x8 ∧ True) ∧ swE x1 x2 N (red X Y F) (restN N (num d g (↑y : Int))) d g = x9) ∧ ((swE x1 x2 N (red X Y F) (restN N (num d g (↑y : Int))) d g != (5 : Int)) = Bool.false → ∃ (y' : Nat), (y' ≤ (272 : Nat) ∧ firstT (tryE num x1 x2 N (red X Y F) d g) (272 : Nat) (0 : Nat) = firstT (tryE num x1 x2 N (red X Y F) d g) ((272 : Nat) - y') y') ∧ Go.IntKind.i64.wrap ((↑y : Int) + (1 : Int)) = (↑y' : Int) ∧ x1 = x1 ∧ x2 = x2 ∧ x3 = x3 ∧ x4 = x4 ∧ x10 = x10 ∧ x11 = x11 ∧ F = F ∧ (0 : Nat) = (0 : Nat) ∧ x12 = x12 ∧ (0 : Nat) = (0 : Nat) ∧ ((∀ (j : Nat), j < (32 : Nat) → g j = g j) ∧ True) ∧ (0 : Nat) = (0 : Nat) ∧ (0 : Nat) = (0 : Nat) ∧ (272 : Nat) - y' < (272 : Nat) - y)) ∧ (Decidable.decide ((↑y : Int) < (272 : Int)) = Bool.false → ((0 : Nat) = x6 ∧ (0 : Nat) = x7 ∧ (0 : Int) = x8 ∧ True) ∧ (5 : Int) = x9))) := by kernel_rfl
-- END VC

end Go.Proofs.YtbfcccoeekonlaaGreatDoor
end

section
/-
  Package sign: numbers to try with; one try; all of them.
-/
namespace Go.Proofs.YtbfcccoeekonlaaGreatDoor
open Go.Sx

theorem CxOK_nilK : CxOK Tryz.prog ⟨[], glK, 0⟩ := fun _ h => by cases h
theorem ok_sNumber : ∀ (ls : List (List At)) (vs : List (Option Addr)), Ok (numC ls) → Owes Tryz.prog cxNum [] 100 Tryz.f23 (mkArgs [.str [.u], .str [.y 32], .int .i64] ls vs) (numbG numN ls) := by
  intro ls vs hc
  unfold numC at hc
  split at hc
  · rename_i d g t
    have h : Owes Tryz.prog cxNum [] 100 Tryz.f23 [sU d, sBy 32 g, sI .i64 t] (numbG numN [[.u d], [.y 32 g], [.i t]]) := by
      rw [vc_sNumber]
      obtain ⟨hg, ⟨t0, t1⟩, _⟩ := hc
      intro x1 x2
      refine ⟨fun h => ?_, fun h c0 _ => ⟨by omega, ⟨by omega, by omega⟩, fun c1 _ => ⟨⟨by omega, by omega, by omega⟩, fun c2 _ => ⟨⟨by omega, by omega, by omega⟩, fun c3 _ => ⟨by omega, fun _ => ⟨fun _ => trivial, fun j _ => u8_in _, ?_, trivial⟩⟩⟩⟩⟩⟩
      · have ht : 256 ≤ t := of_decide_eq_true h
        have e1 : x1 = t - 255 := by
          simp only [x1]
          rw [IntWalk.i64_in (t - 256) (by omega), IntWalk.i64_in (t - 256 + 1) (by omega), wrap_id (by omega)]
          omega
        refine ⟨by omega, by decide, by decide, by decide, ?_, trivial⟩
        simp only [x2]
        unfold numN
        rw [if_pos ht, e1]
        obtain ⟨m, hm⟩ := Int.eq_ofNat_of_zero_le (show 0 ≤ t - 255 by omega)
        rw [hm, Int.toNat_natCast]
        unfold join
        simp
      · have ht : ¬ 256 ≤ t := of_decide_eq_false h
        simp only [x2]
        unfold numN
        rw [if_neg ht]
        rfl
    exact h
  · exact hc.1.elim
theorem ok_oAdd : ∀ n a b : Nat, Ok (noC n a b) → Owes Tryz.prog cxOAdd [] 100 Tryz.f46 [sU n, sU a, sU b] (oAddG n a b) := by
  intro n a b _
  rw [vc_oAdd]
  exact ⟨rfl, trivial⟩
theorem ok_oddOf : ∀ (ls : List (List At)) (vs : List (Option Addr)), Ok (oddC ls) → Owes Tryz.prog cxOdd [] 100 Tryz.f48 (mkArgs [.str [.u], .str pPt] ls vs) (oddOG ls) := by
  intro ls vs hc
  unfold oddC at hc
  split at hc
  · rename_i n x y f
    have h : Owes Tryz.prog cxOdd [] 100 Tryz.f48 [sU n, sPt x y f] (oddOG [[.u n], [.u x, .u y, .b f]]) := by
      rw [vc_oddOf]
      have e1 : IntKind.i64.wrap ((limb y 0).tmod 2) = ((y % M256 % 2 : Nat) : Int) := by
        rw [limb_low, Int.tmod_eq_emod_of_nonneg (Int.natCast_nonneg _), IntWalk.i64_in _ (by omega)]
        generalize y % M256 = Q
        omega
      have cg : decide (cmpN x n ≥ 0) = decide (n % M256 ≤ x % M256) := by
        rw [Bool.eq_iff_iff, decide_eq_true_eq, decide_eq_true_eq]
        exact cmp_ge
      rw [e1, cg]
      intro x1
      have hb : 0 ≤ x1 ∧ x1 ≤ 1 := by
        have : x1 = ((y % M256 % 2 : Nat) : Int) := rfl
        have := Nat.mod_lt (y % M256) (show 0 < 2 by decide)
        omega
      refine ⟨fun h => ?_, fun h => ?_⟩
      · unfold oddO
        rw [if_pos (of_decide_eq_true h), IntWalk.i64_in _ (by omega)]
      · unfold oddO
        rw [if_neg (of_decide_eq_false h), Int.add_zero]
    exact h
  · exact hc.1.elim
theorem xor_one {o : Int} (h : 0 ≤ o ∧ o ≤ 3) : IntKind.i64.wrap (((BitVec.ofInt 64 o ^^^ BitVec.ofInt 64 1).toNat : Nat) : Int) = o + 1 - 2 * (o % 2) := by
  have : o = 0 ∨ o = 1 ∨ o = 2 ∨ o = 3 := by omega
  rcases this with rfl | rfl | rfl | rfl <;> decide
theorem ok_lowered : ∀ (ls : List (List At)) (vs : List (Option Addr)), Ok (lowC ls) → Owes Tryz.prog cxLow [] 100 Tryz.f47 (mkArgs [.str [.u], .str pSg] ls vs) (lowG ls) := by
  intro ls vs hc
  unfold lowC at hc
  split at hc
  · rename_i n R S o
    have h : Owes Tryz.prog cxLow [] 100 Tryz.f47 [sU n, sSg R S o] (lowG [[.u n], [.u R, .u S, .i o]]) := by
      rw [vc_lowered]
      obtain ⟨ho, _⟩ := hc
      intro x1 x2
      refine ⟨fun h => ⟨rfl, ?_, ?_, trivial⟩, fun h => ⟨rfl, ?_, ?_, trivial⟩⟩
      · simp only [x2]; unfold lowS; rw [if_pos h]
      · unfold lowO; rw [if_pos h]; exact xor_one ho
      · simp only [x2]; unfold lowS; rw [if_neg (by rw [h]; exact Bool.false_ne_true)]
      · unfold lowO; rw [if_neg (by rw [h]; exact Bool.false_ne_true)]
    exact h
  · exact hc.1.elim
theorem ok_signWith : ∀ (ls : List (List At)) (vs : List (Option Addr)), Ok (swC ls) → Owes Tryz.prog cxSw [] 100 Tryz.f24 (mkArgs [.str pCv, .str [.u], .str [.u], .str [.y 32]] ls vs) (swG ls) := by
  intro ls vs hc
  unfold swC at hc
  split at hc
  · rename_i P A B N X Y F k d g
    have h : Owes Tryz.prog cxSw [] 100 Tryz.f24 [sCv P A B N X Y F, sU k, sU d, sBy 32 g] (swG [[.u P, .u A, .u B, .u N, .u X, .u Y, .b F], [.u k], [.u d], [.y 32 g]]) := by
      rw [vc_signWith]
      obtain ⟨hk, _⟩ := hc
      have hm := hk.m1
      intro x1 x2 x3 x4 x5 x6 x7 x8 x9 x10 x11 x12 x13 x14
      have E7 : x7 = swE x2 x3 N (red X Y F) k d g := rfl
      have E9 : x9 = (swP x2 x3 (red X Y F) k).2.2 := rfl
      have E12 : x12 = swR x2 x3 N (red X Y F) k % M256 := rfl
      have E13 : x13 = swS x2 x3 N (red X Y F) k d g := rfl
      have bad : x7 ≠ 0 → 0 = x4 ∧ 0 = x5 ∧ 0 = x6 ∧ True := by
        intro h
        simp only [x4, x5, x6]
        unfold swA
        rw [← E7, if_neg h]
        exact ⟨(Nat.zero_mod _).symm, (Nat.zero_mod _).symm, rfl, trivial⟩
      have bad5 : x7 = 5 → (0 = x4 ∧ 0 = x5 ∧ 0 = x6 ∧ True) ∧ (5 : Int) = x7 := fun e => ⟨bad (by rw [e]; decide), e.symm⟩
      have good : x7 = 0 → (x12 = x4 ∧ lowS N x13 % M256 = x5 ∧ lowO N x13 x14 = x6 ∧ True) ∧ (0 : Int) = x7 := by
        intro h
        refine ⟨?_, h.symm⟩
        simp only [x4, x5, x6]
        unfold swA
        rw [← E7, if_pos h]
        exact ⟨rfl, rfl, rfl, trivial⟩
      rw [beq_conj1, beq_conj1, beq_conj1]
      refine ⟨fun h => bad5 ?_, fun h => ⟨hk.good, hk.good.on, hm (beq_eq_false_iff_ne.1 h), id, id, fun h => by rw [h]; rfl, fun h2 => bad5 ?_, fun h2 => ⟨fun h3 => ?_, fun h3 => ⟨hk.b32, fun h4 => bad5 ?_, fun h4 => ⟨?_, good ?_⟩⟩⟩⟩⟩
      · rw [E7]; unfold swE
        exact if_pos (beq_iff_eq.1 h)
      · rw [E7]; unfold swE
        rw [if_neg (beq_eq_false_iff_ne.1 h : ¬ k % M256 = 0)]
        exact if_pos h2
      · have e3 : ¬ oinvE N k = 0 := by simpa using h3
        have e : x7 = oinvE N k := by
          rw [E7]; unfold swE
          rw [if_neg (beq_eq_false_iff_ne.1 h : ¬ k % M256 = 0), if_neg (by rw [Bool.not_eq_true]; exact h2), if_neg e3]
        exact ⟨bad (by rw [e]; exact e3), e.symm⟩
      · have e3 : oinvE N k = 0 := by simpa using h3
        rw [E7]; unfold swE
        rw [if_neg (beq_eq_false_iff_ne.1 h : ¬ k % M256 = 0), if_neg (by rw [Bool.not_eq_true]; exact h2), if_pos e3]
        exact if_pos (beq_iff_eq.1 h4)
      · have e : x14 = oddO N x10 (cmulR x2 x3 x1 (red X Y F) 256).2.1 := rfl
        have hb := Nat.mod_lt ((cmulR x2 x3 x1 (red X Y F) 256).2.1 % M256) (show 0 < 2 by decide)
        rw [e]
        unfold oddO
        split <;> omega
      · have e3 : oinvE N k = 0 := by simpa using h3
        rw [E7]; unfold swE
        rw [if_neg (beq_eq_false_iff_ne.1 h : ¬ k % M256 = 0), if_neg (by rw [Bool.not_eq_true]; exact h2), if_pos e3]
        exact if_neg (beq_eq_false_iff_ne.1 h4)
    exact h
  · exact hc.1.elim
theorem firstT_step {e : Nat → Int} {n i : Nat} : firstT e (n + 1) i = if e i = 5 then firstT e n (i + 1) else some i := rfl
theorem ok_Make (num : Nat → (Nat → Int) → Int → Nat) : ∀ (P A B N X Y d : Nat) (F : Bool) (g : Nat → Int), mkOK (P % M256) (A % M256) (B % M256) N (red X Y F) d g →
    Owes Tryz.prog (cxMake num) [(5, .inv (invMake num P A B N X Y F d g))] 100 Tryz.f9 [sCv P A B N X Y F, sU d, sBy 32 g] (mkG (mkA num) (mkE num) [[.u P, .u A, .u B, .u N, .u X, .u Y, .b F], [.u d], [.y 32 g]]) := by
  intro P A B N X Y d F g hk
  rw [vc_Make]
  have hm := hk.m1
  intro x1 x2 x3 x4 x5 x6 x7 x8 x9 x10 x11 x12
  have E5 : x5 = 0 := if_pos hk.sec
  have E9 : x9 = mkE num x1 x2 N (red X Y F) d g := rfl
  rw [E5]
  refine ⟨hk.good, fun h => (by cases h), fun _ => ⟨fun y => rfl, 0, ⟨by decide, rfl⟩, rfl, rfl, rfl, rfl, rfl, rfl, rfl, rfl, rfl, rfl, rfl, ⟨fun j _ => rfl, trivial⟩, rfl, rfl, fun y hy => ⟨fun h => ?_, fun h => ?_⟩⟩⟩
  · have hy2 : (y : Int) < 272 := of_decide_eq_true h
    obtain ⟨hy1, hf⟩ := hy
    obtain ⟨m, hmm⟩ : ∃ m, 272 - y = m + 1 := ⟨271 - y, by omega⟩
    rw [hmm, firstT_step (n := m)] at hf
    refine ⟨hk.b32, by omega, ⟨hk.good, fun _ => hm _, hk.b32⟩, fun h2 => ?_, fun h2 => ?_⟩
    · have e : ¬ tryE num x1 x2 N (red X Y F) d g y = 5 := by
        have : ¬ swE x1 x2 N (red X Y F) (restN N (num d g (y : Int))) d g = 5 := by simpa using h2
        exact this
      rw [if_neg e] at hf
      have a1 : mkA num x1 x2 N (red X Y F) d g = tryA num x1 x2 N (red X Y F) d g y := by unfold mkA; rw [hf]
      have a2 : mkE num x1 x2 N (red X Y F) d g = tryE num x1 x2 N (red X Y F) d g y := by unfold mkE; rw [hf]
      simp only [x6, x7, x8]
      rw [E9, a1, a2]
      exact ⟨⟨rfl, rfl, rfl, trivial⟩, rfl⟩
    · have e : tryE num x1 x2 N (red X Y F) d g y = 5 := by
        have : swE x1 x2 N (red X Y F) (restN N (num d g (y : Int))) d g = 5 := by simpa using h2
        exact this
      rw [if_pos e] at hf
      refine ⟨y + 1, ⟨by omega, by rw [hf, show 272 - (y + 1) = m by omega]⟩, ?_, rfl, rfl, rfl, rfl, rfl, rfl, rfl, rfl, rfl, rfl, ⟨fun j _ => rfl, trivial⟩, rfl, rfl, by omega⟩
      rw [IntWalk.i64_in _ (by omega)]
      omega
  · have hy2 : ¬ (y : Int) < 272 := of_decide_eq_false h
    obtain ⟨hy1, hf⟩ := hy
    have e : 272 - y = 0 := by omega
    rw [e] at hf
    have hf : firstT (tryE num x1 x2 N (red X Y F) d g) 272 0 = none := hf
    have a1 : mkA num x1 x2 N (red X Y F) d g = (0, 0, 0) := by unfold mkA; rw [hf]
    have a2 : mkE num x1 x2 N (red X Y F) d g = 5 := by unfold mkE; rw [hf]
    simp only [x6, x7, x8]
    rw [E9, a1, a2]
    exact ⟨⟨(Nat.zero_mod _).symm, (Nat.zero_mod _).symm, rfl, trivial⟩, rfl⟩
theorem bnd_sg (p : Nat × Nat × Int) : SA.bnd none0 (sgS p) := by
  intro k hk
  simp only [List.mem_cons, List.not_mem_nil, or_false] at hk
  rcases hk with rfl | rfl | rfl <;> trivial
theorem card_sNumber : FnOKg Tryz.prog glK 23 (cNum numN) :=
  FnOK_A (cx := cxNum) (CxOK_cons (FnOKg.up card_Bytes glK) (CxOK_cons card_Sum (CxOK_cons (FnOKg.up card_From glK) CxOK_nilK))) (iv := fun _ => []) (N := 100) Tryz.func23 (by kernel_rfl) (by kernel_rfl) (fun ls => by unfold numbG; split; exact bnd_one (bnd_U _); exact bnd_none) ok_sNumber
theorem card_oAdd : FnOK Tryz.prog 46 (specUUU noC oAddG) :=
  FnOK_UUU (CxOK_cons card_fAdd CxOK_nil) (iv := fun _ _ _ => []) (N := 100) Tryz.func46 (by kernel_rfl) (by kernel_rfl) (fun _ _ _ => bnd_one (bnd_U _)) ok_oAdd
theorem card_oddOf : FnOK Tryz.prog 48 cOdd :=
  FnOK_A (CxOK_cons card_Cmp CxOK_nil) (iv := fun _ => []) (N := 100) Tryz.func48 (by kernel_rfl) (by kernel_rfl) (fun ls => by unfold oddOG; split; exact bnd_one (bnd_I _ _); exact bnd_none) ok_oddOf
theorem card_lowered : FnOK Tryz.prog 47 cLow :=
  FnOK_A (CxOK_cons card_oHigh (CxOK_cons card_oMinus CxOK_nil)) (iv := fun _ => []) (N := 100) Tryz.func47 (by kernel_rfl) (by kernel_rfl) (fun ls => by unfold lowG; split; exact bnd_one (bnd_sg (_, _, _)); exact bnd_none) ok_lowered
theorem card_signWith : FnOK Tryz.prog 24 cSw :=
  FnOK_A (CxOK_cons card_cMult (CxOK_cons card_oRest (CxOK_cons card_oInv (CxOK_cons card_ofSum (CxOK_cons card_oMul (CxOK_cons card_oAdd (CxOK_cons card_oddOf (CxOK_cons card_lowered CxOK_nil)))))))) (iv := fun _ => []) (N := 100) Tryz.func24 (by kernel_rfl) (by kernel_rfl) (fun ls => by
    unfold swG
    split
    · exact bnd_two (bnd_sg _) (bnd_I _ _)
    · exact bnd_none) ok_signWith
theorem card_Make : FnOKg Tryz.prog glK 9 (cMake (mkA numN) (mkE numN)) :=
  FnOK_A (cx := cxMake numN) (CxOK_cons (FnOKg.up card_look glK) (CxOK_cons card_sNumber (CxOK_cons (FnOKg.up card_oRest glK) (CxOK_cons (FnOKg.up card_signWith glK) CxOK_nilK)))) (iv := fun ls => match ls with
    | [[.u P, .u A, .u B, .u N, .u X, .u Y, .b F], [.u d], [.y 32 g]] => [(5, .inv (invMake numN P A B N X Y F d g))]
    | _ => []) (N := 100) Tryz.func9 (by kernel_rfl) (by kernel_rfl) (fun ls => by
    unfold mkG
    split
    · exact bnd_two (bnd_sg _) (bnd_I _ _)
    · exact bnd_none) (fun ls vs hc => by
    unfold mkC at hc
    split at hc
    · rename_i P A B N X Y F d g
      exact ok_Make numN P A B N X Y d F g hc.1
    · exact hc.1.elim)
end Go.Proofs.YtbfcccoeekonlaaGreatDoor
end

section
/-
  Laws of signatures: reckoned by the kernel. (Laid by program.)
-/
namespace Go.Proofs.YtbfcccoeekonlaaGreatDoor
open Go.Sx
set_option maxRecDepth 100000
def cxSig (fs : Int → Int → ByteArray → Nat → Int) (ma : Nat → Nat → Nat → Pt → Nat → (Nat → Int) → Nat × Nat × Int) (me : Nat → Nat → Nat → Pt → Nat → (Nat → Int) → Int) : Cx := ⟨[(6, specA [.int .i64] curveC curveG), (7, cSecret), (10, cSumR fs), (12, spec0 yes), (8, cPnt), (9, cMake ma me), (11, cRec), (13, cChk), (14, specUU subG), (15, specUU cmpG), (16, specUU dmG), (17, specB fromG)], glK, 0⟩
-- VC vc_SignRight HASH c9e2f5192181083e
theorem vc_SignRight (fs : Int → Int → ByteArray → Nat → Int) (ma : Nat → Nat → Nat → Pt → Nat → (Nat → Int) → Nat × Nat × Int) (me : Nat → Nat → Nat → Pt → Nat → (Nat → Int) → Int) (n d : Int) (k a b : Int) (s : ByteArray) :
    Owes Tryz.prog (cxSig fs ma me) [] 100 Tryz.f3 [sI .i64 n, sI .i64 d, sRaw k a b s] yes =
    (let x1 : Nat := cP (ixN n) % Go.Sx.M256; let x2 : Nat := ixP x1; let x3 : Nat := cB (ixN n) % Go.Sx.M256; let x4 : Nat := (1 : Nat) + (d % ((↑(cN x2) : Int) - (1 : Int))).toNat; let x5 : Nat := x4 % Go.Sx.M256; let x6 : Nat := (ma x1 (0 : Nat) (cN (ixN n)) (red (cX (ixN n)) (cY (ixN n)) Bool.false) x4 (Go.Sx.selG [Go.Sx.SK.f Go.IntKind.u8 (32 : Nat) (fs a b s)])).fst; let x7 : Nat := (ma x1 (0 : Nat) (cN (ixN n)) (red (cX (ixN n)) (cY (ixN n)) Bool.false) x4 (Go.Sx.selG [Go.Sx.SK.f Go.IntKind.u8 (32 : Nat) (fs a b s)])).snd.fst; let x8 : Int := (ma x1 (0 : Nat) (cN (ixN n)) (red (cX (ixN n)) (cY (ixN n)) Bool.false) x4 (Go.Sx.selG [Go.Sx.SK.f Go.IntKind.u8 (32 : Nat) (fs a b s)])).snd.snd; let x9 : Bool := Bool.true && (0 : Int) == (0 : Int); let x10 : Bool := x9 && me x1 (0 : Nat) (cN (ixN n)) (red (cX (ixN n)) (cY (ixN n)) Bool.false) x4 (fs a b s) == (0 : Int); let x11 : Nat := (ma x1 (0 : Nat) (cN (ixN n)) (red (cX (ixN n)) (cY (ixN n)) Bool.false) x4 (fs a b s)).fst; let x12 : Nat := (ma x1 (0 : Nat) (cN (ixN n)) (red (cX (ixN n)) (cY (ixN n)) Bool.false) x4 (fs a b s)).snd.fst; let x13 : Int := (ma x1 (0 : Nat) (cN (ixN n)) (red (cX (ixN n)) (cY (ixN n)) Bool.false) x4 (fs a b s)).snd.snd; let x14 : Bool := x10 && recE x1 (0 : Nat) x3 (cN (ixN n)) (red (cX (ixN n)) (cY (ixN n)) Bool.false) (fs a b s) x11 x12 x13 == (0 : Int); let x15 : Nat := (cmulR x1 (0 : Nat) x5 (red (cX (ixN n)) (cY (ixN n)) Bool.false) (256 : Nat)).fst; let x16 : Nat := (cmulR x1 (0 : Nat) x5 (red (cX (ixN n)) (cY (ixN n)) Bool.false) (256 : Nat)).snd.fst; let x17 : Bool := (cmulR x1 (0 : Nat) x5 (red (cX (ixN n)) (cY (ixN n)) Bool.false) (256 : Nat)).snd.snd; let x18 : Bool := x14 && chkE x1 (0 : Nat) (cN (ixN n)) (red (cX (ixN n)) (cY (ixN n)) Bool.false) (red x15 x16 x17) (fs a b s) x11 x12 x13 == (0 : Int); ((-9223372036854775808 : Int) ≤ n ∧ n ≤ (9223372036854775807 : Int)) ∧ isCv x2 (cP (ixN n)) (0 : Nat) (cB (ixN n)) (cN (ixN n)) (cX (ixN n)) (cY (ixN n)) Bool.false ∧ ((-9223372036854775808 : Int) ≤ d ∧ d ≤ (9223372036854775807 : Int)) ∧ goodP x1 (0 : Nat) x3 (cN (ixN n) % Go.Sx.M256) (red (cX (ixN n)) (cY (ixN n)) Bool.false) ∧ secB (cN (ixN n)) x4 = Bool.true ∧ mulOK x1 (0 : Nat) x5 (red (cX (ixN n)) (cY (ixN n)) Bool.false) ∧ ((-9223372036854775808 : Int) ≤ k ∧ k ≤ (9223372036854775807 : Int)) ∧ ((-9223372036854775808 : Int) ≤ a ∧ a ≤ (9223372036854775807 : Int)) ∧ ((-9223372036854775808 : Int) ≤ b ∧ b ≤ (9223372036854775807 : Int)) ∧ mkOK x1 (0 : Nat) x3 (cN (ixN n)) (red (cX (ixN n)) (cY (ixN n)) Bool.false) x4 (Go.Sx.selG [Go.Sx.SK.f Go.IntKind.u8 (32 : Nat) (fs a b s)]) ∧ ((-9223372036854775808 : Int) ≤ k ∧ k ≤ (9223372036854775807 : Int)) ∧ ((-9223372036854775808 : Int) ≤ a ∧ a ≤ (9223372036854775807 : Int)) ∧ ((-9223372036854775808 : Int) ≤ b ∧ b ≤ (9223372036854775807 : Int)) ∧ recOK x1 (0 : Nat) x3 (cN (ixN n)) (red (cX (ixN n)) (cY (ixN n)) Bool.false) (Go.Sx.selG [Go.Sx.SK.f Go.IntKind.u8 (32 : Nat) (fs a b s)]) x6 x7 x8 ∧ (Bool.true = Bool.true → Bool.true = Bool.true) ∧ (Bool.true = Bool.true → Bool.true = Bool.true) ∧ (x9 = Bool.true → x9 = Bool.true) ∧ (x9 = Bool.true → x9 = Bool.true) ∧ (x10 = Bool.true → x10 = Bool.true) ∧ (x10 = Bool.true → x10 = Bool.true) ∧ (x14 = Bool.true → x14 = Bool.true) ∧ (x14 = Bool.true → (-9223372036854775808 : Int) ≤ k ∧ k ≤ (9223372036854775807 : Int)) ∧ (x14 = Bool.true → (-9223372036854775808 : Int) ≤ a ∧ a ≤ (9223372036854775807 : Int)) ∧ (x14 = Bool.true → (-9223372036854775808 : Int) ≤ b ∧ b ≤ (9223372036854775807 : Int)) ∧ (x14 = Bool.true → x14 = Bool.true) ∧ (x14 = Bool.true → x14 = Bool.true) ∧ (x14 = Bool.true → x14 = Bool.true) ∧ (x14 = Bool.true → x14 = Bool.true) ∧ (x14 = Bool.true → chkOK x1 (0 : Nat) x3 (cN (ixN n)) (red (cX (ixN n)) (cY (ixN n)) Bool.false) (red x15 x16 x17) (Go.Sx.selG [Go.Sx.SK.f Go.IntKind.u8 (32 : Nat) (fs a b s)]) x6 x7 x8) ∧ (x14 = Bool.true → x14 = Bool.true) ∧ (x14 = Bool.true → x14 = Bool.true) ∧ (x18 = Bool.true → x18 = Bool.true) ∧ (x18 = Bool.true → x18 = Bool.true) ∧ (x18 = Bool.true → x18 = Bool.true) ∧ (x18 && Go.Sx.conj [(recA x1 (0 : Nat) x3 (cN (ixN n)) (red (cX (ixN n)) (cY (ixN n)) Bool.false) (fs a b s) x11 x12 x13).fst % Go.Sx.M256 == x15 % Go.Sx.M256, (recA x1 (0 : Nat) x3 (cN (ixN n)) (red (cX (ixN n)) (cY (ixN n)) Bool.false) (fs a b s) x11 x12 x13).snd.fst % Go.Sx.M256 == x16 % Go.Sx.M256, (recA x1 (0 : Nat) x3 (cN (ixN n)) (red (cX (ixN n)) (cY (ixN n)) Bool.false) (fs a b s) x11 x12 x13).snd.snd == x17]) = Bool.true) := by kernel_rfl
-- END VC
-- VC vc_SignOne HASH ff001e4b8fe9be5e
theorem vc_SignOne (fs : Int → Int → ByteArray → Nat → Int) (ma : Nat → Nat → Nat → Pt → Nat → (Nat → Int) → Nat × Nat × Int) (me : Nat → Nat → Nat → Pt → Nat → (Nat → Int) → Int) (n d : Int) (k a b : Int) (s : ByteArray) :
    Owes Tryz.prog (cxSig fs ma me) [] 100 Tryz.f4 [sI .i64 n, sI .i64 d, sRaw k a b s] yes =
    (let x1 : Nat := cP (ixN n) % Go.Sx.M256; let x2 : Nat := ixP x1; let x3 : Nat := cB (ixN n) % Go.Sx.M256; let x4 : Nat := cN (ixN n) % Go.Sx.M256; let x5 : Nat := (1 : Nat) + (d % ((↑(cN x2) : Int) - (1 : Int))).toNat; let x6 : Nat := x5 % Go.Sx.M256; let x7 : Nat := (ma x1 (0 : Nat) (cN (ixN n)) (red (cX (ixN n)) (cY (ixN n)) Bool.false) x5 (Go.Sx.selG [Go.Sx.SK.f Go.IntKind.u8 (32 : Nat) (fs a b s)])).fst; let x8 : Nat := x4 + Go.Sx.M256 - (ma x1 (0 : Nat) (cN (ixN n)) (red (cX (ixN n)) (cY (ixN n)) Bool.false) x5 (Go.Sx.selG [Go.Sx.SK.f Go.IntKind.u8 (32 : Nat) (fs a b s)])).snd.fst % Go.Sx.M256; let x9 : Int := Go.IntKind.i64.wrap (↑(BitVec.ofInt (64 : Nat) (ma x1 (0 : Nat) (cN (ixN n)) (red (cX (ixN n)) (cY (ixN n)) Bool.false) x5 (Go.Sx.selG [Go.Sx.SK.f Go.IntKind.u8 (32 : Nat) (fs a b s)])).snd.snd ^^^ BitVec.ofInt (64 : Nat) (1 : Int)).toNat : Int); let x10 : Bool := Bool.true && me x1 (0 : Nat) (cN (ixN n)) (red (cX (ixN n)) (cY (ixN n)) Bool.false) x5 (fs a b s) == (0 : Int); let x11 : Nat := (ma x1 (0 : Nat) (cN (ixN n)) (red (cX (ixN n)) (cY (ixN n)) Bool.false) x5 (fs a b s)).snd.fst; let x12 : Nat := x4 + Go.Sx.M256 - x11 % Go.Sx.M256; let x13 : Int := Go.Sx.cmpN x11 x12; let x14 : Bool := x10 && Decidable.decide (x13 < (0 : Int)); let x15 : Nat := (ma x1 (0 : Nat) (cN (ixN n)) (red (cX (ixN n)) (cY (ixN n)) Bool.false) x5 (fs a b s)).fst; let x16 : Int := Go.IntKind.i64.wrap (↑(BitVec.ofInt (64 : Nat) (ma x1 (0 : Nat) (cN (ixN n)) (red (cX (ixN n)) (cY (ixN n)) Bool.false) x5 (fs a b s)).snd.snd ^^^ BitVec.ofInt (64 : Nat) (1 : Int)).toNat : Int); let x17 : Bool := x14 && chkE x1 (0 : Nat) (cN (ixN n)) (red (cX (ixN n)) (cY (ixN n)) Bool.false) (red (cmulR x1 (0 : Nat) x6 (red (cX (ixN n)) (cY (ixN n)) Bool.false) (256 : Nat)).fst (cmulR x1 (0 : Nat) x6 (red (cX (ixN n)) (cY (ixN n)) Bool.false) (256 : Nat)).snd.fst (cmulR x1 (0 : Nat) x6 (red (cX (ixN n)) (cY (ixN n)) Bool.false) (256 : Nat)).snd.snd) (fs a b s) x15 x12 x16 == (10 : Int); ((-9223372036854775808 : Int) ≤ n ∧ n ≤ (9223372036854775807 : Int)) ∧ isCv x2 (cP (ixN n)) (0 : Nat) (cB (ixN n)) (cN (ixN n)) (cX (ixN n)) (cY (ixN n)) Bool.false ∧ ((-9223372036854775808 : Int) ≤ d ∧ d ≤ (9223372036854775807 : Int)) ∧ goodP x1 (0 : Nat) x3 x4 (red (cX (ixN n)) (cY (ixN n)) Bool.false) ∧ secB (cN (ixN n)) x5 = Bool.true ∧ mulOK x1 (0 : Nat) x6 (red (cX (ixN n)) (cY (ixN n)) Bool.false) ∧ ((-9223372036854775808 : Int) ≤ k ∧ k ≤ (9223372036854775807 : Int)) ∧ ((-9223372036854775808 : Int) ≤ a ∧ a ≤ (9223372036854775807 : Int)) ∧ ((-9223372036854775808 : Int) ≤ b ∧ b ≤ (9223372036854775807 : Int)) ∧ mkOK x1 (0 : Nat) x3 (cN (ixN n)) (red (cX (ixN n)) (cY (ixN n)) Bool.false) x5 (Go.Sx.selG [Go.Sx.SK.f Go.IntKind.u8 (32 : Nat) (fs a b s)]) ∧ ((-9223372036854775808 : Int) ≤ k ∧ k ≤ (9223372036854775807 : Int)) ∧ ((-9223372036854775808 : Int) ≤ a ∧ a ≤ (9223372036854775807 : Int)) ∧ ((-9223372036854775808 : Int) ≤ b ∧ b ≤ (9223372036854775807 : Int)) ∧ recOK x1 (0 : Nat) x3 (cN (ixN n)) (red (cX (ixN n)) (cY (ixN n)) Bool.false) (Go.Sx.selG [Go.Sx.SK.f Go.IntKind.u8 (32 : Nat) (fs a b s)]) x7 x8 x9 ∧ (Bool.true = Bool.true → Bool.true = Bool.true) ∧ (Bool.true = Bool.true → Bool.true = Bool.true) ∧ (x10 = Bool.true → x10 = Bool.true) ∧ (x10 = Bool.true → x10 = Bool.true) ∧ (x10 = Bool.true → x10 = Bool.true) ∧ (x10 = Bool.true → x10 = Bool.true) ∧ (x10 = Bool.true → x10 = Bool.true) ∧ (x10 = Bool.true → x10 = Bool.true) ∧ (x14 = Bool.true → x14 = Bool.true) ∧ (x14 = Bool.true → (-9223372036854775808 : Int) ≤ k ∧ k ≤ (9223372036854775807 : Int)) ∧ (x14 = Bool.true → (-9223372036854775808 : Int) ≤ a ∧ a ≤ (9223372036854775807 : Int)) ∧ (x14 = Bool.true → (-9223372036854775808 : Int) ≤ b ∧ b ≤ (9223372036854775807 : Int)) ∧ (x14 = Bool.true → x14 = Bool.true) ∧ (x14 = Bool.true → x14 = Bool.true) ∧ (x14 = Bool.true → x14 = Bool.true) ∧ (x14 = Bool.true → x14 = Bool.true) ∧ (x14 = Bool.true → chkOK x1 (0 : Nat) x3 (cN (ixN n)) (red (cX (ixN n)) (cY (ixN n)) Bool.false) (red (cmulR x1 (0 : Nat) x6 (red (cX (ixN n)) (cY (ixN n)) Bool.false) (256 : Nat)).fst (cmulR x1 (0 : Nat) x6 (red (cX (ixN n)) (cY (ixN n)) Bool.false) (256 : Nat)).snd.fst (cmulR x1 (0 : Nat) x6 (red (cX (ixN n)) (cY (ixN n)) Bool.false) (256 : Nat)).snd.snd) (Go.Sx.selG [Go.Sx.SK.f Go.IntKind.u8 (32 : Nat) (fs a b s)]) x7 x8 x9) ∧ (x14 = Bool.true → x14 = Bool.true) ∧ (x14 = Bool.true → x14 = Bool.true) ∧ (x17 = Bool.true → x17 = Bool.true) ∧ (x17 = Bool.true → x17 = Bool.true) ∧ (x17 && recE x1 (0 : Nat) x3 (cN (ixN n)) (red (cX (ixN n)) (cY (ixN n)) Bool.false) (fs a b s) x15 x12 x16 == (10 : Int)) = Bool.true) := by kernel_rfl
-- END VC
-- VC vc_SignOther HASH 48322652772ecc6d
theorem vc_SignOther (fs : Int → Int → ByteArray → Nat → Int) (ma : Nat → Nat → Nat → Pt → Nat → (Nat → Int) → Nat × Nat × Int) (me : Nat → Nat → Nat → Pt → Nat → (Nat → Int) → Int) (n d : Int) (k a b : Int) (s : ByteArray) (k' a' b' : Int) (s' : ByteArray) :
    Owes Tryz.prog (cxSig fs ma me) [] 100 Tryz.f5 [sI .i64 n, sI .i64 d, sRaw k a b s, sRaw k' a' b' s'] yes =
    (let x1 : Nat := cP (ixN n) % Go.Sx.M256; let x2 : Nat := ixP x1; let x3 : Nat := cB (ixN n) % Go.Sx.M256; let x4 : Nat := cN (ixN n) % Go.Sx.M256; let x5 : Nat := (1 : Nat) + (d % ((↑(cN x2) : Int) - (1 : Int))).toNat; let x6 : Nat := x5 % Go.Sx.M256; let x7 : Bool := Bool.true && me x1 (0 : Nat) (cN (ixN n)) (red (cX (ixN n)) (cY (ixN n)) Bool.false) x5 (fs a b s) == (0 : Int); let x8 : Bool := Go.Sx.conj [(if x4 = (0 : Nat) then (0 : Nat) else Go.Sx.fromN (fs a b s) (32 : Nat) % Go.Sx.M256 % x4) % Go.Sx.M256 == (if x4 = (0 : Nat) then (0 : Nat) else Go.Sx.fromN (fs a' b' s') (32 : Nat) % Go.Sx.M256 % x4) % Go.Sx.M256]; let x9 : Bool := !x8; let x10 : Bool := x7 && !x9; let x11 : Nat := (ma x1 (0 : Nat) (cN (ixN n)) (red (cX (ixN n)) (cY (ixN n)) Bool.false) x5 (fs a b s)).fst; let x12 : Nat := (ma x1 (0 : Nat) (cN (ixN n)) (red (cX (ixN n)) (cY (ixN n)) Bool.false) x5 (fs a b s)).snd.fst; let x13 : Int := (ma x1 (0 : Nat) (cN (ixN n)) (red (cX (ixN n)) (cY (ixN n)) Bool.false) x5 (fs a b s)).snd.snd; let x14 : Int := recE x1 (0 : Nat) x3 (cN (ixN n)) (red (cX (ixN n)) (cY (ixN n)) Bool.false) (fs a' b' s') x11 x12 x13; let x15 : Bool := x14 == (0 : Int); let x16 : Bool := Go.Sx.conj [(recA x1 (0 : Nat) x3 (cN (ixN n)) (red (cX (ixN n)) (cY (ixN n)) Bool.false) (fs a' b' s') x11 x12 x13).fst % Go.Sx.M256 == (cmulR x1 (0 : Nat) x6 (red (cX (ixN n)) (cY (ixN n)) Bool.false) (256 : Nat)).fst % Go.Sx.M256, (recA x1 (0 : Nat) x3 (cN (ixN n)) (red (cX (ixN n)) (cY (ixN n)) Bool.false) (fs a' b' s') x11 x12 x13).snd.fst % Go.Sx.M256 == (cmulR x1 (0 : Nat) x6 (red (cX (ixN n)) (cY (ixN n)) Bool.false) (256 : Nat)).snd.fst % Go.Sx.M256, (recA x1 (0 : Nat) x3 (cN (ixN n)) (red (cX (ixN n)) (cY (ixN n)) Bool.false) (fs a' b' s') x11 x12 x13).snd.snd == (cmulR x1 (0 : Nat) x6 (red (cX (ixN n)) (cY (ixN n)) Bool.false) (256 : Nat)).snd.snd]; let x17 : Bool := x7 && (x9 || x15 && x16); let x18 : Bool := x8 || x14 != (0 : Int); ((-9223372036854775808 : Int) ≤ n ∧ n ≤ (9223372036854775807 : Int)) ∧ isCv x2 (cP (ixN n)) (0 : Nat) (cB (ixN n)) (cN (ixN n)) (cX (ixN n)) (cY (ixN n)) Bool.false ∧ ((-9223372036854775808 : Int) ≤ d ∧ d ≤ (9223372036854775807 : Int)) ∧ goodP x1 (0 : Nat) x3 x4 (red (cX (ixN n)) (cY (ixN n)) Bool.false) ∧ secB (cN (ixN n)) x5 = Bool.true ∧ mulOK x1 (0 : Nat) x6 (red (cX (ixN n)) (cY (ixN n)) Bool.false) ∧ ((-9223372036854775808 : Int) ≤ k ∧ k ≤ (9223372036854775807 : Int)) ∧ ((-9223372036854775808 : Int) ≤ a ∧ a ≤ (9223372036854775807 : Int)) ∧ ((-9223372036854775808 : Int) ≤ b ∧ b ≤ (9223372036854775807 : Int)) ∧ mkOK x1 (0 : Nat) x3 (cN (ixN n)) (red (cX (ixN n)) (cY (ixN n)) Bool.false) x5 (Go.Sx.selG [Go.Sx.SK.f Go.IntKind.u8 (32 : Nat) (fs a b s)]) ∧ ((-9223372036854775808 : Int) ≤ k ∧ k ≤ (9223372036854775807 : Int)) ∧ ((-9223372036854775808 : Int) ≤ a ∧ a ≤ (9223372036854775807 : Int)) ∧ ((-9223372036854775808 : Int) ≤ b ∧ b ≤ (9223372036854775807 : Int)) ∧ (∀ (j : Nat), j < (32 : Nat) → (0 : Int) ≤ fs a b s j ∧ fs a b s j < (256 : Int)) ∧ ((-9223372036854775808 : Int) ≤ k' ∧ k' ≤ (9223372036854775807 : Int)) ∧ ((-9223372036854775808 : Int) ≤ a' ∧ a' ≤ (9223372036854775807 : Int)) ∧ ((-9223372036854775808 : Int) ≤ b' ∧ b' ≤ (9223372036854775807 : Int)) ∧ (∀ (j : Nat), j < (32 : Nat) → (0 : Int) ≤ fs a' b' s' j ∧ fs a' b' s' j < (256 : Int)) ∧ ((-9223372036854775808 : Int) ≤ k' ∧ k' ≤ (9223372036854775807 : Int)) ∧ ((-9223372036854775808 : Int) ≤ a' ∧ a' ≤ (9223372036854775807 : Int)) ∧ ((-9223372036854775808 : Int) ≤ b' ∧ b' ≤ (9223372036854775807 : Int)) ∧ recOK x1 (0 : Nat) x3 (cN (ixN n)) (red (cX (ixN n)) (cY (ixN n)) Bool.false) (Go.Sx.selG [Go.Sx.SK.f Go.IntKind.u8 (32 : Nat) (fs a' b' s')]) (ma x1 (0 : Nat) (cN (ixN n)) (red (cX (ixN n)) (cY (ixN n)) Bool.false) x5 (Go.Sx.selG [Go.Sx.SK.f Go.IntKind.u8 (32 : Nat) (fs a b s)])).fst (ma x1 (0 : Nat) (cN (ixN n)) (red (cX (ixN n)) (cY (ixN n)) Bool.false) x5 (Go.Sx.selG [Go.Sx.SK.f Go.IntKind.u8 (32 : Nat) (fs a b s)])).snd.fst (ma x1 (0 : Nat) (cN (ixN n)) (red (cX (ixN n)) (cY (ixN n)) Bool.false) x5 (Go.Sx.selG [Go.Sx.SK.f Go.IntKind.u8 (32 : Nat) (fs a b s)])).snd.snd ∧ (Bool.true = Bool.true → Bool.true = Bool.true) ∧ (Bool.true = Bool.true → Bool.true = Bool.true) ∧ (x7 = Bool.true → x7 = Bool.true) ∧ (x7 = Bool.true → x7 = Bool.true) ∧ (x7 = Bool.true → x7 = Bool.true) ∧ (x10 = Bool.true → x10 = Bool.true) ∧ (x10 = Bool.true → x10 = Bool.true) ∧ ((x10 && x15) = Bool.true → (x10 && x15) = Bool.true) ∧ ((x10 && x15) = Bool.true → (x10 && x15) = Bool.true) ∧ (x10 = Bool.true → x10 = Bool.true) ∧ (x10 = Bool.true → x15 = Bool.true → (x10 && x15) = Bool.true) ∧ (x7 = Bool.true → x7 = Bool.true) ∧ (x7 = Bool.true → x9 = Bool.false → x10 = Bool.true) ∧ (x7 = Bool.true → x7 = Bool.true) ∧ (x17 = Bool.true → x17 = Bool.true) ∧ (x17 = Bool.true → x17 = Bool.true) ∧ (x17 = Bool.true → x17 = Bool.true) ∧ ((x17 && x9) = Bool.true → (x17 && x9) = Bool.true) ∧ (x17 = Bool.true → x17 = Bool.true) ∧ (x17 = Bool.true → x8 = Bool.false → (x17 && x9) = Bool.true) ∧ (x17 = Bool.true → x17 = Bool.true) ∧ ((x17 && !x18) = Bool.true → (x17 && !x18) = Bool.true) ∧ ((x17 && !x18) = Bool.true → (x17 && !x18) = Bool.true) ∧ (x17 = Bool.true → x17 = Bool.true) ∧ (x17 = Bool.true → x18 = Bool.false → (x17 && !x18) = Bool.true) ∧ (x17 = Bool.true → x17 = Bool.true) ∧ (x17 && (x18 || !x16)) = Bool.true) := by kernel_rfl
-- END VC

end Go.Proofs.YtbfcccoeekonlaaGreatDoor
end

section
/-
  Signatures on small curves: something always comes of one of the numbers; what comes fits.
-/
namespace Go.Proofs.YtbfcccoeekonlaaGreatDoor
open Go.Sx

/-- A signature that fits: of a secret, by a sum. -/
structure Made (I d : Nat) (g : Nat → Int) (R S : Nat) (o : Int) : Prop where
  ex : ∃ K, 1 ≤ K ∧ K < cN I ∧ R = (ptOf I K).1 % cN I ∧ o = ((ptOf I K).2.1 % 2 : Nat) + (if cN I ≤ (ptOf I K).1 then 2 else 0) ∧ ((cN I : Nat) : Int) ∣ (S : Int) * K - ((hS I g : Int) + (R : Int) * d)
  R1 : 1 ≤ R
  R2 : R < cN I
  S1 : 1 ≤ S
  S2 : 2 * S ≤ cN I
  o0 : 0 ≤ o
  o3 : o ≤ 3
theorem ptx_small {I K : Nat} (hi : I < 8) (hK : K < cN I) : (ptOf I K).1 % M256 = (ptOf I K).1 ∧ (ptOf I K).2.1 % M256 = (ptOf I K).2.1 := by
  have h := inM_pt hi hK
  exact ⟨Nat.mod_eq_of_lt h.x, Nat.mod_eq_of_lt h.y⟩
theorem oadd_is {I a b : Nat} (hi : I < 8) (ha : a < cN I) (hb : b < cN I) : oaddN (cN I) a b = (a + b) % cN I := by
  unfold oaddN
  rw [if_pos (fE_ok (cN_M hi) ha hb), cN_M hi, lt_M hi ha, lt_M hi hb]
theorem swP_at {I k : Nat} (hi : I < 8) (hk : k < cN I) : swP (cP I) 0 (ptOf I 1) k = ptOf I k := by
  have hr := cN_range hi
  have hM := M256_eq
  unfold swP
  rw [lt_M hi hk, (cmul_pt hi (show 1 < cN I by omega) (show k < M256 by omega)).2, Nat.mul_one, Nat.mod_eq_of_lt hk]
theorem swR_at {I k : Nat} (hi : I < 8) (hk : k < cN I) : swR (cP I) 0 (cN I) (ptOf I 1) k = (ptOf I k).1 % cN I := by
  unfold swR
  rw [swP_at hi hk, rest_is hi, (ptx_small hi hk).1]
theorem swS_at {I k d : Nat} {g : Nat → Int} (hi : I < 8) (k1 : 1 ≤ k) (hk : k < cN I) (hd : d < cN I) :
    swS (cP I) 0 (cN I) (ptOf I 1) k d g < cN I ∧ ((cN I : Nat) : Int) ∣ ((swS (cP I) 0 (cN I) (ptOf I 1) k d g : Nat) : Int) * k - ((hS I g : Int) + (((ptOf I k).1 % cN I : Nat) : Int) * d) := by
  have hr := (cN_range hi).1
  have lt : ∀ v, v % cN I < cN I := fun v => Nat.mod_lt v (by omega)
  obtain ⟨_, i2, i3⟩ := inv_sec hi k1 hk
  have hh := hS_lt hi g
  have e1 : restN (cN I) (fromN g 32) = hS I g := rest_is hi _
  have e : swS (cP I) 0 (cN I) (ptOf I 1) k d g = oinvN (cN I) k * ((hS I g + (ptOf I k).1 % cN I * d % cN I) % cN I) % cN I := by
    unfold swS
    rw [swR_at hi hk, e1, mul_is hi (lt _) hd, oadd_is hi hh (lt _), mul_is hi i2 (lt _)]
  rw [e]
  refine ⟨lt _, ?_⟩
  have c : Cg (cN I) (oinvN (cN I) k * ((hS I g + (ptOf I k).1 % cN I * d % cN I) % cN I) % cN I) (((oinvN (cN I) k : Nat) : Int) * ((hS I g : Int) + (((ptOf I k).1 % cN I : Nat) : Int) * d)) :=
    ((Cg.self _ _).mul ((Cg.self _ _).add ((Cg.self _ _).mul (Cg.self _ _)).md).md).md
  obtain ⟨z, hz⟩ := c.d
  obtain ⟨t, ht⟩ := i3
  generalize ((oinvN (cN I) k * ((hS I g + (ptOf I k).1 % cN I * d % cN I) % cN I) % cN I : Nat) : Int) = s at *
  generalize (hS I g : Int) + (((ptOf I k).1 % cN I : Nat) : Int) * d = q at *
  generalize ((oinvN (cN I) k : Nat) : Int) = u at *
  refine ⟨z * k + t * q, ?_⟩
  have e1 : s = u * q + (cN I : Int) * z := by omega
  have e2 : (k : Int) * u = 1 + (cN I : Int) * t := by omega
  rw [e1]
  have e3 : (u * q + (cN I : Int) * z) * (k : Int) = (k : Int) * u * q + (cN I : Int) * (z * k) := by grind
  rw [e3, e2]
  grind
/-- A try refuses nothing but what it says. -/
theorem swE_at {I k d : Nat} {g : Nat → Int} (hi : I < 8) (k1 : 1 ≤ k) (hk : k < cN I) (hd : d < cN I) :
    swE (cP I) 0 (cN I) (ptOf I 1) k d g = if (ptOf I k).1 % cN I = 0 then 5 else if swS (cP I) 0 (cN I) (ptOf I 1) k d g = 0 then 5 else 0 := by
  have hr := (cN_range hi).1
  have lt : ∀ v, v % cN I < cN I := fun v => Nat.mod_lt v (by omega)
  obtain ⟨i1, _, _⟩ := inv_sec hi k1 hk
  have hs := (swS_at (g := g) hi k1 hk hd).1
  unfold swE
  rw [lt_M hi hk, if_neg (show ¬ k = 0 by omega), swP_at hi hk, swR_at hi hk, lt_M hi (lt _), i1, if_pos rfl, lt_M hi hs, pt_pos I k1]
  dsimp only
  rw [Bool.false_or]
  by_cases e : ((tabOf I).getD k (0, 0)).1 % cN I = 0
  · rw [if_pos e, if_pos (beq_iff_eq.2 e)]
  · rw [if_neg e, if_neg (by simpa using e)]
theorem swE_zero {I d : Nat} {g : Nat → Int} (hi : I < 8) : swE (cP I) 0 (cN I) (ptOf I 1) 0 d g = 5 := by
  unfold swE
  rw [Nat.zero_mod, if_pos rfl]
/-- What comes of a try fits. -/
theorem swA_made {I k d : Nat} {g : Nat → Int} (hi : I < 8) (hk : k < cN I) (hd : d < cN I) (h : swE (cP I) 0 (cN I) (ptOf I 1) k d g ≠ 5) :
    swE (cP I) 0 (cN I) (ptOf I 1) k d g = 0 ∧ Made I d g (swA (cP I) 0 (cN I) (ptOf I 1) k d g).1 (swA (cP I) 0 (cN I) (ptOf I 1) k d g).2.1 (swA (cP I) 0 (cN I) (ptOf I 1) k d g).2.2 := by
  have hr := cN_range hi
  have hp := cP_range hi
  have lt : ∀ v, v % cN I < cN I := fun v => Nat.mod_lt v (by omega)
  have k1 : 1 ≤ k := by
    rcases Nat.eq_zero_or_pos k with e | e
    · subst e; exact absurd (swE_zero hi) h
    · exact e
  have e := swE_at (g := g) hi k1 hk hd
  rw [e] at h
  have r0 : ¬ (ptOf I k).1 % cN I = 0 := fun c => h (if_pos c)
  rw [if_neg r0] at h e
  have s0 : ¬ swS (cP I) 0 (cN I) (ptOf I 1) k d g = 0 := fun c => h (if_pos c)
  rw [if_neg s0] at e
  refine ⟨e, ?_⟩
  obtain ⟨hs, hc⟩ := swS_at (g := g) hi k1 hk hd
  unfold swA
  rw [if_pos e]
  dsimp only
  rw [swR_at hi hk, swP_at hi hk]
  generalize swS (cP I) 0 (cN I) (ptOf I 1) k d g = s at *
  have ho : oddO (cN I) (ptOf I k).1 (ptOf I k).2.1 = (((ptOf I k).2.1 % 2 : Nat) : Int) + (if cN I ≤ (ptOf I k).1 then 2 else 0) := by
    unfold oddO
    rw [cN_M hi, (ptx_small hi hk).1, (ptx_small hi hk).2]
  rw [ho]
  have hy := Nat.mod_lt (ptOf I k).2.1 (show 0 < 2 by decide)
  have hcase : ∀ o : Int, o = (((ptOf I k).2.1 % 2 : Nat) : Int) + (if cN I ≤ (ptOf I k).1 then 2 else 0) → 0 ≤ o ∧ o ≤ 3 ∧ o % 2 = (((ptOf I k).2.1 % 2 : Nat) : Int) := by
    intro o ho
    split at ho <;> omega
  obtain ⟨o0, o3, om⟩ := hcase _ rfl
  unfold lowS lowO
  rw [high_is hi (by omega) hs]
  by_cases hh : cN I - s < s
  · rw [decide_eq_true hh, if_pos rfl, if_pos rfl, min_is hi hs, Nat.zero_add, Nat.mod_eq_of_lt (show cN I - s < cN I by omega), om]
    obtain ⟨g1, g2, _, _, g5, g6, _⟩ := neg_pt hi k1 hk
    have hodd : cP I % 2 = 1 := by have := (good_all hi).P4; omega
    refine ⟨⟨cN I - k, by omega, by omega, by rw [g1], ?_, ?_⟩, Nat.pos_of_ne_zero r0, lt _, by omega, by omega, ?_, ?_⟩
    · rw [g1, g2]
      have : (cP I - (ptOf I k).2.1) % 2 = 1 - (ptOf I k).2.1 % 2 := by omega
      rw [this]
      omega
    · obtain ⟨z, hz⟩ := hc
      refine ⟨(cN I : Int) - k - s + z, ?_⟩
      rw [Int.ofNat_sub (Nat.le_of_lt hs), Int.ofNat_sub (Nat.le_of_lt hk)]
      have e1 : (s : Int) * k = (hS I g : Int) + (((ptOf I k).1 % cN I : Nat) : Int) * d + (cN I : Int) * z := by omega
      have e2 : ((cN I : Int) - s) * ((cN I : Int) - k) = (cN I : Int) * ((cN I : Int) - k - s) + (s : Int) * k := by grind
      rw [e2, e1]
      grind
    · omega
    · omega
  · rw [decide_eq_false hh, if_neg Bool.false_ne_true, if_neg Bool.false_ne_true]
    exact ⟨⟨k, k1, hk, rfl, rfl, hc⟩, Nat.pos_of_ne_zero r0, lt _, by omega, by omega, o0, o3⟩
theorem firstT_none {e : Nat → Int} : ∀ {n i : Nat}, firstT e n i = none → ∀ j, i ≤ j → j < i + n → e j = 5
  | 0, i, _, j, h1, h2 => by omega
  | n + 1, i, h, j, h1, h2 => by
    rw [firstT_step] at h
    split at h
    · rename_i h5
      rcases Nat.eq_or_lt_of_le h1 with e | e
      · subst e; exact h5
      · exact firstT_none h j e (by omega)
    · cases h
theorem firstT_some {e : Nat → Int} : ∀ {n i j : Nat}, firstT e n i = some j → e j ≠ 5
  | 0, i, j, h => by cases h
  | n + 1, i, j, h => by
    rw [firstT_step] at h
    split at h
    · exact firstT_some h
    · rename_i h5
      simp only [Option.some.injEq] at h
      subst h
      exact h5
/-- Two numbers whose points have different rests. -/
theorem two_rests {I : Nat} (hi : I < 8) : (ptOf I 1).1 % cN I ≠ 0 ∧ (ptOf I 2).1 % cN I ≠ 0 ∧ (ptOf I 1).1 % cN I ≠ (ptOf I 2).1 % cN I := by
  have : ∀ i : Fin 8, (ptOf i.val 1).1 % cN i.val ≠ 0 ∧ (ptOf i.val 2).1 % cN i.val ≠ 0 ∧ (ptOf i.val 1).1 % cN i.val ≠ (ptOf i.val 2).1 % cN i.val := by decide +kernel
  exact this ⟨I, hi⟩
theorem one_of_two {I d : Nat} {g : Nat → Int} (hi : I < 8) (d1 : 1 ≤ d) (hd : d < cN I) : swE (cP I) 0 (cN I) (ptOf I 1) 1 d g ≠ 5 ∨ swE (cP I) 0 (cN I) (ptOf I 1) 2 d g ≠ 5 := by
  have hr := (cN_range hi).1
  obtain ⟨r1, r2, r3⟩ := two_rests hi
  rw [swE_at hi (Nat.le_refl 1) (by omega) hd, swE_at hi (by omega) (show 2 < cN I by omega) hd, if_neg r1, if_neg r2]
  obtain ⟨_, c1⟩ := swS_at (g := g) hi (Nat.le_refl 1) (show 1 < cN I by omega) hd
  obtain ⟨_, c2⟩ := swS_at (g := g) hi (show 1 ≤ 2 by omega) (show 2 < cN I by omega) hd
  by_cases s1 : swS (cP I) 0 (cN I) (ptOf I 1) 1 d g = 0
  · by_cases s2 : swS (cP I) 0 (cN I) (ptOf I 1) 2 d g = 0
    · exfalso
      rw [s1] at c1
      rw [s2] at c2
      have lt : ∀ v, v % cN I < cN I := fun v => Nat.mod_lt v (by omega)
      have l1 := lt (ptOf I 1).1
      have l2 := lt (ptOf I 2).1
      generalize (ptOf I 1).1 % cN I = a at *
      generalize (ptOf I 2).1 % cN I = b at *
      have c3 := Int.dvd_sub c1 c2
      rw [show ((0 : Nat) : Int) * ((1 : Nat) : Int) - ((hS I g : Int) + (a : Int) * d) - (((0 : Nat) : Int) * ((2 : Nat) : Int) - ((hS I g : Int) + (b : Int) * d)) = ((b : Int) - a) * d by grind] at c3
      have gc := (one_of hi d1 hd).gc
      have key : ∀ x y : Nat, x ≤ y → y < cN I → ((cN I : Nat) : Int) ∣ ((y : Int) - x) * d → x = y := by
        intro x y hxy hy hdv
        have e : ((y : Int) - x) * d = (((y - x) * d : Nat) : Int) := by rw [Int.natCast_mul, Int.ofNat_sub hxy]
        rw [e] at hdv
        have h1 := Int.natCast_dvd_natCast.1 hdv
        have h2 : cN I ∣ y - x := Nat.Coprime.dvd_of_dvd_mul_right (Nat.Coprime.symm gc) h1
        have := Nat.eq_zero_of_dvd_of_lt h2 (by omega)
        omega
      rcases Nat.le_total a b with h | h
      · exact r3 (key a b h l2 c3)
      · refine r3 (key b a h l1 ?_).symm
        obtain ⟨z, hz⟩ := c3
        exact ⟨-z, by rw [Int.mul_neg, ← hz]; grind⟩
    · exact .inr (by rw [if_neg s2]; decide)
  · exact .inl (by rw [if_neg s1]; decide)
/-- Something always comes of it, and it fits. -/
theorem made_all {I d : Nat} {g : Nat → Int} (hi : I < 8) (d1 : 1 ≤ d) (hd : d < cN I) :
    mkE numN (cP I) 0 (cN I) (ptOf I 1) d g = 0 ∧ Made I d g (mkA numN (cP I) 0 (cN I) (ptOf I 1) d g).1 (mkA numN (cP I) 0 (cN I) (ptOf I 1) d g).2.1 (mkA numN (cP I) 0 (cN I) (ptOf I 1) d g).2.2 := by
  have hr := (cN_range hi).1
  have lt : ∀ v, v % cN I < cN I := fun v => Nat.mod_lt v (by omega)
  have small : ∀ i : Nat, 256 ≤ i → i ≤ 257 → tryK numN (cN I) d g i = i - 255 := by
    intro i h1 h2
    unfold tryK numN
    rw [if_pos (by omega), rest_is hi, show ((i : Int) - 255).toNat = i - 255 by omega, lt_M hi (show i - 255 < cN I by omega), Nat.mod_eq_of_lt (by omega)]
  unfold mkE mkA
  cases hf : firstT (tryE numN (cP I) 0 (cN I) (ptOf I 1) d g) 272 0 with
  | none =>
    exfalso
    have h1 := firstT_none hf 256 (by omega) (by omega)
    have h2 := firstT_none hf 257 (by omega) (by omega)
    unfold tryE at h1 h2
    rw [small 256 (by omega) (by omega)] at h1
    rw [small 257 (by omega) (by omega)] at h2
    rcases one_of_two (g := g) hi d1 hd with h | h
    · exact h h1
    · exact h h2
  | some i =>
    have h5 := firstT_some hf
    have hk : tryK numN (cN I) d g i < cN I := by
      unfold tryK
      rw [rest_is hi]
      exact lt _
    exact swA_made hi hk hd h5
end Go.Proofs.YtbfcccoeekonlaaGreatDoor
end

section
/-
  Laws of signatures on small curves.
-/
namespace Go.Proofs.YtbfcccoeekonlaaGreatDoor
open Go.Sx

theorem may_made {I d R S : Nat} {o : Int} {g : Nat → Int} (hi : I < 8) (m : Made I d g R S o) : mayB (cN I) R S o = true := may_of hi m.R1 m.R2 m.S1 m.S2 m.o0 m.o3
/-- Who is told by another sum. -/
theorem rec_made {I d R S : Nat} {o : Int} {g g' : Nat → Int} (hi : I < 8) (d2 : d < cN I) (m : Made I d g R S o) :
    ∃ d', d' < cN I ∧ recE (cP I) 0 (cB I) (cN I) (ptOf I 1) g' R S o = (if d' = 0 then 10 else 0) ∧ (d' ≠ 0 → recA (cP I) 0 (cB I) (cN I) (ptOf I 1) g' R S o = ptOf I d') ∧ (hS I g = hS I g' → d' = d) ∧ (d' = d → hS I g = hS I g') := by
  obtain ⟨K, k1, k2, hR, ho, hdv⟩ := m.ex
  have R1 := m.R1
  have R2 := m.R2
  have S1 := m.S1
  have S2 := m.S2
  obtain ⟨p1, p2⟩ := pof_of hi k1 k2 hR ho
  have hm := may_made hi m
  obtain ⟨i1, _, d', l', hq, hc⟩ := rec_at (g := g') hi R1 R2 (show S < cN I by omega) k1 k2 p2
  obtain ⟨_, _, iu⟩ := inv_sec hi R1 R2
  have hd := ring_d iu hdv
  have e1 : recE (cP I) 0 (cB I) (cN I) (ptOf I 1) g' R S o = (if d' = 0 then 10 else 0) := by
    unfold recE
    rw [if_pos hm, if_pos p1, if_pos i1, hq]
    by_cases e : d' = 0
    · subst e
      rw [if_pos rfl]
      exact if_pos rfl
    · rw [if_neg e, if_neg]
      rw [pt_pos I (Nat.pos_of_ne_zero e)]
      exact Bool.false_ne_true
  refine ⟨d', l', e1, fun e => ?_, fun e => ?_, fun e => ?_⟩
  · unfold recA
    rw [e1, if_neg e, if_pos rfl, hq]
  · rw [e] at hd
    exact (hc.to hd).eq (Cg.self _ _) l' d2
  · subst e
    have c2 := hc.d
    obtain ⟨x, hx⟩ := hd
    obtain ⟨y, hy⟩ := c2
    obtain ⟨z, hz⟩ := iu
    generalize ((oinvN (cN I) R : Nat) : Int) = u at *
    have key : ((cN I : Nat) : Int) ∣ (hS I g : Int) - (hS I g' : Int) := by
      refine ⟨-((x + y) * R) - ((hS I g : Int) - hS I g') * z, ?_⟩
      have e1 : ((hS I g : Int) - hS I g') * u = -((cN I : Int) * (x + y)) := by
        rw [Int.mul_add, ← hx, ← hy]
        grind
      have e2 : (R : Int) * u = 1 + (cN I : Int) * z := by omega
      have e3 : ((hS I g : Int) - hS I g') * ((R : Int) * u) = ((hS I g : Int) - hS I g') * u * R := by grind
      rw [e2, e1] at e3
      grind
    have h1 := hS_lt hi g
    have h2 := hS_lt hi g'
    exact (Cg.mk key : Cg (cN I) (hS I g) (hS I g' : Int)).eq (Cg.self _ _) h1 h2
/-- By whom it is right. -/
theorem chk_made {I d R S : Nat} {o : Int} {g : Nat → Int} (hi : I < 8) (d1 : 1 ≤ d) (d2 : d < cN I) (m : Made I d g R S o) : chkE (cP I) 0 (cN I) (ptOf I 1) (ptOf I d) g R S o = 0 := by
  obtain ⟨K, k1, k2, hR, ho, hdv⟩ := m.ex
  have S2 := m.S2
  have S1 := m.S1
  obtain ⟨_, _, iu⟩ := inv_sec hi m.R1 m.R2
  obtain ⟨_, _, iv⟩ := inv_sec hi m.S1 (show S < cN I by omega)
  exact chkE_ok hi (may_made hi m) m.R2 m.S1 (show S < cN I by omega) d1 d2 k1 k2 hR.symm (ring_K iu iv (ring_d iu hdv))
theorem mkOK_all {I d : Nat} {g : Nat → Int} (hi : I < 8) (d1 : 1 ≤ d) (d2 : d < cN I) (hg : byteOK 32 g) : mkOK (cP I) 0 (cB I) (cN I) (ptOf I 1) d g := by
  obtain ⟨_, _, _, _, _, _, fg⟩ := cx_facts hi
  have hr := (cN_range hi).1
  exact ⟨by rw [cN_M hi]; exact fg, sec_of hi d1 d2, hg, fun v => (cmul_pt hi (show 1 < cN I by omega) (Nat.mod_lt _ M_pos)).1⟩
theorem cxok_Sig : CxOK Tryz.prog (cxSig sumF (mkA numN) (mkE numN)) := CxOK_cons (FnOKg.up card_Curve glK) (CxOK_cons (FnOKg.up card_Secret glK) (CxOK_cons (FnOKg.up card_sumR glK) (CxOK_cons (FnOKg.up card_sTells glK) (CxOK_cons (FnOKg.up card_sPoint glK) (CxOK_cons card_Make (CxOK_cons (FnOKg.up card_Recover glK) (CxOK_cons (FnOKg.up card_Check glK) (CxOK_cons (FnOKg.up card_Sub glK) (CxOK_cons (FnOKg.up card_Cmp glK) (CxOK_cons (FnOKg.up card_DivMod glK) (CxOK_cons (FnOKg.up card_From glK) CxOK_nilK)))))))))))
theorem sel_self (g : Nat → Int) : selG [SK.f .u8 32 g] = g := rfl
theorem ok_SignRight : ∀ (n d k a b : Int) (s : ByteArray), i64ok n → i64ok d → i64ok k → i64ok a → i64ok b → Owes Tryz.prog (cxSig sumF (mkA numN) (mkE numN)) [] 100 Tryz.f3 [sI .i64 n, sI .i64 d, sRaw k a b s] yes := by
  intro n d k a b s hn hd hk ha hb
  rw [vc_SignRight]
  have hI := ixN_lt n
  generalize ixN n = I at *
  obtain ⟨fP, fB, fN, fb, fx, fcv, fg⟩ := cx_facts hI
  obtain ⟨n1, n2⟩ := cN_range hI
  have hM := M256_eq
  obtain ⟨_, D, D1, D2, _, _, D5⟩ := pick_one hI d
  rw [sel_self]
  have hgb := sumF_ok a b s
  generalize sumF a b s = g at *
  obtain ⟨m0, m⟩ := made_all (g := g) hI D1 D2
  have hmk := mkOK_all hI D1 D2 hgb
  generalize mkA numN = ma at *
  generalize mkE numN = me at *
  obtain ⟨R, S, o, hA⟩ : ∃ R S o, ma (cP I) 0 (cN I) (ptOf I 1) D g = (R, S, o) := ⟨_, _, _, rfl⟩
  rw [hA] at m
  have m : Made I D g R S o := m
  have hrec := recOK_all (g := g) (o := o) hI (show R < M256 by have := m.R2; omega) (show S < M256 by have := m.S2; omega) hgb
  have hchk := chkOK_all (g := g) (o := o) hI (show R < M256 by have := m.R2; omega) (show S < M256 by have := m.S2; omega) hgb D2
  obtain ⟨d', l', rE, rA, rd, _⟩ := rec_made (g' := g) hI D2 m
  have e := rd rfl
  subst e
  rw [if_neg (by omega)] at rE
  have rA := rA (by omega)
  have cE := chk_made hI D1 D2 m
  obtain ⟨c1, c2⟩ := cmul_pt hI (show 1 < cN I by omega) (show d' < M256 by omega)
  rw [Nat.mul_one, Nat.mod_eq_of_lt D2] at c2
  rw [fb]
  intro x1 x2 x3 x4 x5 x6 x7 x8 x9 x10 x11 x12 x13 x14 x15 x16 x17 x18
  have E1 : x1 = cP I := fP
  have E2 : x2 = I := by simp only [x2]; rw [E1]; exact fx
  have E3 : x3 = cB I := fB
  have E4 : x4 = d' := by simp only [x4]; rw [E2]; exact D5
  have E5 : x5 = d' := by simp only [x5]; rw [E4]; exact lt_M hI D2
  have E6 : x6 = R := by simp only [x6]; rw [E1, E4, hA]
  have E7 : x7 = S := by simp only [x7]; rw [E1, E4, hA]
  have E8 : x8 = o := by simp only [x8]; rw [E1, E4, hA]
  have E11 : x11 = R := E6
  have E12 : x12 = S := E7
  have E13 : x13 = o := E8
  have E10 : x10 = true := by simp only [x10, x9]; rw [E1, E4, m0]; rfl
  have E14 : x14 = true := by simp only [x14]; rw [E10, E1, E3, E11, E12, E13, rE]; rfl
  have E15 : x15 = (ptOf I d').1 := by simp only [x15]; rw [E1, E5, c2]
  have E16 : x16 = (ptOf I d').2.1 := by simp only [x16]; rw [E1, E5, c2]
  have E17 : x17 = (ptOf I d').2.2 := by simp only [x17]; rw [E1, E5, c2]
  have er : red x15 x16 x17 = ptOf I d' := by rw [E15, E16, E17]; exact red_pt hI D2
  have E18 : x18 = true := by simp only [x18]; rw [E14, er, E1, E11, E12, E13, cE]; rfl
  rw [er, E1, E2, E3, E4, E5, E6, E7, E8, E11, E12, E13, E15, E16, E17, rA, same_pt, E18, fN]
  exact ⟨hn, fcv, hd, fg, sec_of hI D1 D2, c1, hk, ha, hb, hmk, hk, ha, hb, hrec, id, id, id, id, id, id, id, fun _ => hk, fun _ => ha, fun _ => hb, id, id, id, id, fun _ => hchk, id, id, id, id, id, rfl⟩
end Go.Proofs.YtbfcccoeekonlaaGreatDoor
end

section
/-
  Laws of signatures on small curves: the lower one of two; another sum.
-/
namespace Go.Proofs.YtbfcccoeekonlaaGreatDoor
open Go.Sx

/-- The higher one may not be. -/
theorem may_high {I R S : Nat} {o : Int} (hi : I < 8) (h1 : 1 ≤ S) (h2 : 2 * S ≤ cN I) : mayB (cN I) R (cN I + M256 - S) o = false := by
  have hr := cN_range hi
  have hM := M256_eq
  have hodd : cN I % 2 = 1 := by
    have : ∀ i : Fin 8, cN i.val % 2 = 1 := by decide
    exact this ⟨I, hi⟩
  have e : (cN I + M256 - S) % M256 = cN I - S := by
    rw [show cN I + M256 - S = (cN I - S) + M256 by omega, Nat.add_mod_right]
    exact lt_M hi (by omega)
  have hb : highB (cN I) (cN I + M256 - S) = true := by
    unfold highB minN
    rw [e, cN_M hi, if_pos (fE_zero (by rw [Nat.zero_mod, cN_M hi]; omega) (by rw [e, cN_M hi]; omega)), Nat.zero_add, Nat.mod_eq_of_lt (show cN I - (cN I - S) < cN I by omega), lt_M hi (show cN I - (cN I - S) < cN I by omega)]
    exact decide_eq_true (by omega)
  unfold mayB
  rw [hb]
  simp
theorem cmp_high {I S : Nat} (hi : I < 8) (h1 : 1 ≤ S) (h2 : 2 * S ≤ cN I) : cmpN S (cN I + M256 - S) = -1 := by
  have hr := cN_range hi
  have hM := M256_eq
  have hodd : cN I % 2 = 1 := by
    have : ∀ i : Fin 8, cN i.val % 2 = 1 := by decide
    exact this ⟨I, hi⟩
  have e : (cN I + M256 - S) % M256 = cN I - S := by
    rw [show cN I + M256 - S = (cN I - S) + M256 by omega, Nat.add_mod_right]
    exact lt_M hi (by omega)
  unfold cmpN
  rw [e, lt_M hi (show S < cN I by omega), if_pos (by omega)]
theorem ok_SignOne : ∀ (n d k a b : Int) (s : ByteArray), i64ok n → i64ok d → i64ok k → i64ok a → i64ok b → Owes Tryz.prog (cxSig sumF (mkA numN) (mkE numN)) [] 100 Tryz.f4 [sI .i64 n, sI .i64 d, sRaw k a b s] yes := by
  intro n d k a b s hn hd hk ha hb
  rw [vc_SignOne]
  have hI := ixN_lt n
  generalize ixN n = I at *
  obtain ⟨fP, fB, fN, fb, fx, fcv, fg⟩ := cx_facts hI
  obtain ⟨n1, n2⟩ := cN_range hI
  have hM := M256_eq
  obtain ⟨_, D, D1, D2, _, _, D5⟩ := pick_one hI d
  rw [sel_self]
  have hgb := sumF_ok a b s
  generalize sumF a b s = g at *
  obtain ⟨m0, m⟩ := made_all (g := g) hI D1 D2
  have hmk := mkOK_all hI D1 D2 hgb
  generalize mkA numN = ma at *
  generalize mkE numN = me at *
  obtain ⟨R, S, o, hA⟩ : ∃ R S o, ma (cP I) 0 (cN I) (ptOf I 1) D g = (R, S, o) := ⟨_, _, _, rfl⟩
  rw [hA] at m
  have m : Made I D g R S o := m
  have S1 := m.S1
  have S2 := m.S2
  have hmay := fun o => may_high (R := R) (o := o) hI S1 S2
  have hcmp := cmp_high hI S1 S2
  have mS : S % M256 = S := lt_M hI (show S < cN I by omega)
  obtain ⟨c1, c2⟩ := cmul_pt hI (show 1 < cN I by omega) (show D < M256 by omega)
  rw [Nat.mul_one, Nat.mod_eq_of_lt D2] at c2
  rw [fb]
  intro x1 x2 x3 x4 x5 x6 x7 x8 x9 x10 x11 x12 x13 x14 x15 x16 x17
  have E1 : x1 = cP I := fP
  have E2 : x2 = I := by simp only [x2]; rw [E1]; exact fx
  have E3 : x3 = cB I := fB
  have E4 : x4 = cN I := fN
  have E5 : x5 = D := by simp only [x5]; rw [E2]; exact D5
  have E6 : x6 = D := by simp only [x6]; rw [E5]; exact lt_M hI D2
  have E7 : x7 = R := by simp only [x7]; rw [E1, E5, hA]
  have E8 : x8 = cN I + M256 - S := by simp only [x8]; rw [E1, E5, hA, E4, mS]
  have E10 : x10 = true := by simp only [x10]; rw [E1, E5, m0]; rfl
  have E11 : x11 = S := by simp only [x11]; rw [E1, E5, hA]
  have E12 : x12 = cN I + M256 - S := by simp only [x12]; rw [E11, E4, mS]
  have E13 : x13 = -1 := by simp only [x13]; rw [E11, E12]; exact hcmp
  have E14 : x14 = true := by simp only [x14]; rw [E10, E13]; rfl
  have E15 : x15 = R := E7
  have er : red (ptOf I D).1 (ptOf I D).2.1 (ptOf I D).2.2 = ptOf I D := red_pt hI D2
  have hrE : ∀ o, recE (cP I) 0 (cB I) (cN I) (ptOf I 1) g R (cN I + M256 - S) o = 10 := by
    intro o
    unfold recE
    rw [if_neg (by rw [hmay o]; exact Bool.false_ne_true)]
  have hcE : ∀ o, chkE (cP I) 0 (cN I) (ptOf I 1) (ptOf I D) g R (cN I + M256 - S) o = 10 := by
    intro o
    unfold chkE
    rw [hmay o, if_pos (by simp)]
  have hrO : ∀ o, recOK (cP I) 0 (cB I) (cN I) (ptOf I 1) g R (cN I + M256 - S) o := fun o => ⟨by rw [fN]; exact fg, hgb, fun h => by rw [hmay o] at h; cases h⟩
  have hcO : ∀ o, chkOK (cP I) 0 (cB I) (cN I) (ptOf I 1) (ptOf I D) g R (cN I + M256 - S) o := fun o => ⟨by rw [fN]; exact fg, onP_pt hI D2, hgb, fun _ h => by rw [hmay o] at h; cases h⟩
  have E17 : x17 = true := by simp only [x17]; rw [E14, E1, E6, c2, er, E15, E12, hcE]; rfl
  rw [E1, E2, E3, E4, E5, E6, E7, E8, c2, er, E15, E12, hrE, E17]
  exact ⟨hn, fcv, hd, fg, sec_of hI D1 D2, c1, hk, ha, hb, hmk, hk, ha, hb, hrO _, id, id, id, id, id, id, id, id, id, fun _ => hk, fun _ => ha, fun _ => hb, id, id, id, id, fun _ => hcO _, id, id, id, id, rfl⟩
theorem ok_SignOther : ∀ (n d k a b : Int) (s : ByteArray) (k' a' b' : Int) (s' : ByteArray), i64ok n → i64ok d → i64ok k → i64ok a → i64ok b → i64ok k' → i64ok a' → i64ok b' → Owes Tryz.prog (cxSig sumF (mkA numN) (mkE numN)) [] 100 Tryz.f5 [sI .i64 n, sI .i64 d, sRaw k a b s, sRaw k' a' b' s'] yes := by
  intro n d k a b s k' a' b' s' hn hd hk ha hb hk' ha' hb'
  rw [vc_SignOther]
  have hI := ixN_lt n
  generalize ixN n = I at *
  obtain ⟨fP, fB, fN, fb, fx, fcv, fg⟩ := cx_facts hI
  obtain ⟨n1, n2⟩ := cN_range hI
  have hM := M256_eq
  obtain ⟨_, D, D1, D2, _, _, D5⟩ := pick_one hI d
  have hgb := sumF_ok a b s
  have hgb' := sumF_ok a' b' s'
  rw [sel_self (sumF a b s), sel_self (sumF a' b' s')]
  generalize sumF a b s = g at *
  generalize sumF a' b' s' = g' at *
  obtain ⟨m0, m⟩ := made_all (g := g) hI D1 D2
  have hmk := mkOK_all hI D1 D2 hgb
  generalize mkA numN = ma at *
  generalize mkE numN = me at *
  obtain ⟨R, S, o, hA⟩ : ∃ R S o, ma (cP I) 0 (cN I) (ptOf I 1) D g = (R, S, o) := ⟨_, _, _, rfl⟩
  rw [hA] at m
  have m : Made I D g R S o := m
  have hrec := recOK_all (g := g') (o := o) hI (show R < M256 by have := m.R2; omega) (show S < M256 by have := m.S2; omega) hgb'
  obtain ⟨d', l', rE, rA, rd, dr⟩ := rec_made (g' := g') hI D2 m
  obtain ⟨c1, c2⟩ := cmul_pt hI (show 1 < cN I by omega) (show D < M256 by omega)
  rw [Nat.mul_one, Nat.mod_eq_of_lt D2] at c2
  have h1 := hS_lt hI g
  have h2 := hS_lt hI g'
  rw [fb]
  intro x1 x2 x3 x4 x5 x6 x7 x8 x9 x10 x11 x12 x13 x14 x15 x16 x17 x18
  have E1 : x1 = cP I := fP
  have E2 : x2 = I := by simp only [x2]; rw [E1]; exact fx
  have E3 : x3 = cB I := fB
  have E4 : x4 = cN I := fN
  have E5 : x5 = D := by simp only [x5]; rw [E2]; exact D5
  have E6 : x6 = D := by simp only [x6]; rw [E5]; exact lt_M hI D2
  have E7 : x7 = true := by simp only [x7]; rw [E1, E5, m0]; rfl
  have E8 : x8 = (hS I g == hS I g') := by
    simp only [x8]
    rw [E4, beq_conj1, if_neg (by omega), if_neg (by omega)]
    rw [show fromN g 32 % M256 % cN I = hS I g from rfl, show fromN g' 32 % M256 % cN I = hS I g' from rfl, lt_M hI h1, lt_M hI h2]
  have E11 : x11 = R := by simp only [x11]; rw [E1, E5, hA]
  have E12 : x12 = S := by simp only [x12]; rw [E1, E5, hA]
  have E13 : x13 = o := by simp only [x13]; rw [E1, E5, hA]
  have E14 : x14 = if d' = 0 then 10 else 0 := by simp only [x14]; rw [E1, E3, E11, E12, E13, rE]
  have E15 : x15 = decide (d' ≠ 0) := by
    simp only [x15]
    rw [E14]
    by_cases e : d' = 0
    · rw [if_pos e, decide_eq_false (by omega)]; rfl
    · rw [if_neg e, decide_eq_true e]; rfl
  have E16 : d' ≠ 0 → x16 = decide (d' = D) := by
    intro e
    simp only [x16]
    rw [E1, E3, E11, E12, E13, rA e, E6, c2, conj_all]
    by_cases ed : d' = D
    · rw [decide_eq_true ed, ed]
      simp
    · rw [decide_eq_false ed]
      rw [Bool.eq_false_iff]
      intro hh
      simp only [List.all_cons, List.all_nil, id_eq, Bool.and_true, Bool.and_eq_true, beq_iff_eq] at hh
      obtain ⟨q1, q2, q3⟩ := hh
      rw [(ptx_small hI l').1, (ptx_small hI D2).1] at q1
      rw [(ptx_small hI l').2, (ptx_small hI D2).2] at q2
      exact ed (pt_inj hI l' D2 (Prod.ext q1 (Prod.ext q2 q3)))
  have fin : (x17 && (x18 || !x16)) = true := by
    simp only [x17, x18, x9]
    rw [E7, E15, E14]
    by_cases e : hS I g = hS I g'
    · have e8 : x8 = true := by rw [E8, e]; exact beq_self_eq_true _
      have ed := rd e
      have e0 : d' ≠ 0 := by omega
      rw [e8, E16 e0, decide_eq_true ed, decide_eq_true e0]
      rfl
    · have e8 : x8 = false := by rw [E8]; exact beq_eq_false_iff_ne.2 e
      rw [e8]
      by_cases e0 : d' = 0
      · rw [if_pos e0]
        rfl
      · have ed : ¬ d' = D := fun c => e (dr c)
        rw [if_neg e0, E16 e0, decide_eq_false ed]
        rfl
  have F9 : x9 = !x8 := rfl
  have F10 : x10 = (x7 && !x9) := rfl
  have F17 : x17 = (x7 && (x9 || x15 && x16)) := rfl
  have F18 : x18 = (x8 || x14 != 0) := rfl
  rw [E1, E2, E3, E4, E5, E6, hA, fin]
  refine ⟨hn, fcv, hd, fg, sec_of hI D1 D2, c1, hk, ha, hb, hmk, hk, ha, hb, hgb, hk', ha', hb', hgb', hk', ha', hb', hrec, id, id, id, id, id, id, id, id, id, id, fun p q => by rw [p, q]; rfl, id, fun p q => by rw [F10, p, q]; rfl, id, id, id, id, id, id, fun p q => by rw [p, F9, q]; rfl, id, id, id, id, fun p q => by rw [p, q]; rfl, id, rfl⟩
end Go.Proofs.YtbfcccoeekonlaaGreatDoor
end
