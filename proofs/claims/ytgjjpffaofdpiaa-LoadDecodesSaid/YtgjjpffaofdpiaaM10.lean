/-
  Texts: P161, P162, P163, P164, V90, P140, V92, P141, V94, P142, V95, P143, V120, V125.
-/
import Derived.Test.YtgjjpffaofdpiaaM1
import Derived.Test.YtgjjpffaofdpiaaM2
import Derived.Test.YtgjjpffaofdpiaaM3
import Derived.Test.YtgjjpffaofdpiaaM4
import Derived.Test.YtgjjpffaofdpiaaM5
import Derived.Test.YtgjjpffaofdpiaaM6
import Derived.Test.YtgjjpffaofdpiaaM7
import Derived.Test.YtgjjpffaofdpiaaM8
import Derived.Test.YtgjjpffaofdpiaaM9
import Derived.Test.YtgjjpffaofdpiaaChecked
section
namespace Go.Proofs.Ytgjjpffaofdpiaa
open Go.Sx
theorem conj_rows {k k' : Nat → Int} {n : Nat} : (!conj [(List.range n).all fun j => k (0 + j) == k' (0 + j)]) = false ↔ ∀ c, c < n → k c = k' c := by
  simp [conj]
end Go.Proofs.Ytgjjpffaofdpiaa
end

section
namespace Go.Proofs.Ytgjjpffaofdpiaa
open Go.Sx
end Go.Proofs.Ytgjjpffaofdpiaa
end

section
namespace Go.Proofs.Ytgjjpffaofdpiaa
open Go.Sx
theorem alk_iff {am fe : Nat} {tk : Nat → Int} {hm : Int} {to : Nat → Int} {tc dc : Int} {sy : ByteArray} {m : Nat} {dk : Nat → Nat → Int} {ix : Int} {y : Nat} {kk : Nat → Nat → Int} {am' fe' : Nat} {tk' : Nat → Int} {hm' : Int} {to' : Nat → Int} {tc' dc' : Int} {sy' : ByteArray} {m' : Nat} {dk' : Nat → Nat → Int} {ix' : Int} {y' : Nat} {kk' : Nat → Nat → Int} :
    alkL am fe tk hm to tc dc sy m dk ix y kk am' fe' tk' hm' to' tc' dc' sy' m' dk' ix' y' kk' = true ↔
      (am % M256 = am' % M256 ∧ fe % M256 = fe' % M256 ∧ (∀ j, j < 32 → tk j = tk' j) ∧ hm = hm' ∧ (∀ j, j < 32 → to j = to' j) ∧ tc = tc' ∧ dc = dc' ∧ sy = sy' ∧ strL m dk = strL m' dk' ∧ ix = ix' ∧ y = y' ∧ ∀ i, i < y → ∀ c, c < 20 → kk i c = kk' i c) := by
  unfold alkL eqKs
  simp only [Bool.and_eq_true, beq_iff_eq, conj, List.all_eq_true, List.mem_range, ByteArray.toList_eq]
  have t : ∀ {s t : ByteArray}, s.data.toList = t.data.toList ↔ s = t := ⟨fun h => txt_ext h, fun h => by rw [h]⟩
  simp only [t]
  grind
theorem str_size (m : Nat) (k : Nat → Nat → Int) : (strL m k).size = m := by
  unfold strL
  rw [byI_size, List.length_map, List.length_range]
theorem str_zero {m : Nat} {k k' : Nat → Nat → Int} : strL 0 k = strL m k' ↔ m = 0 := by
  constructor
  · intro h
    have := congrArg ByteArray.size h
    rw [str_size, str_size] at this
    omega
  · rintro rfl; rfl
theorem txt_zero {s : ByteArray} : ByteArray.mk #[] = s ↔ s.size = 0 := by
  constructor
  · rintro rfl; rfl
  · intro h
    apply txt_ext
    have : s.data.toList.length = 0 := by rw [← txt_size]; exact h
    rw [List.length_eq_zero_iff.1 this]
def inR (n m : Int) : Prop := 0 ≤ n ∧ n ≤ m
def ldGood (kd : Int) (am fe : Nat) (tk : Nat → Int) (hm : Int) (to : Nat → Int) (tc dc : Int) (sy : ByteArray) (m : Nat) (ix : Int) (y : Nat) : Prop :=
  ((kd = 1 ∨ kd = 3) ∧ inR hm 65535 ∧ inR tc 65535 ∧ fe % M256 ≤ am % M256 ∧ dc = 0 ∧ sy.size = 0 ∧ m ≤ 100 ∧ (kd = 1 → m = 0) ∧ ix = 0 ∧ y = 0) ∨
  (kd = 2 ∧ inR hm 65535 ∧ inR dc 77 ∧ sy.size ≤ 32 ∧ hasNul sy = false ∧ am % M256 = 0 ∧ fe % M256 = 0 ∧ (∀ j, j < 32 → to j = 0) ∧ tc = 0 ∧ m = 0 ∧ ix = 0 ∧ y = 0) ∨
  (kd = 4 ∧ inR ix 4294967295 ∧ 0 < y ∧ y ≤ 19 ∧ am % M256 = 0 ∧ fe % M256 = 0 ∧ (∀ j, j < 32 → tk j = 0) ∧ hm = 0 ∧ (∀ j, j < 32 → to j = 0) ∧ tc = 0 ∧ dc = 0 ∧ sy.size = 0 ∧ m = 0)
open Classical in
noncomputable def ldE (kd : Int) (am fe : Nat) (tk : Nat → Int) (hm : Int) (to : Nat → Int) (tc dc : Int) (sy : ByteArray) (m : Nat) (ix : Int) (y : Nat) : Int :=
  if kd = 1 ∨ kd = 2 ∨ kd = 3 ∨ kd = 4 then if ldGood kd am fe tk hm to tc dc sy m ix y then 0 else 3 else 2
section
variable {kd : Int} {am fe : Nat} {tk : Nat → Int} {hm : Int} {to : Nat → Int} {tc dc : Int} {sy : ByteArray} {m : Nat} {dk : Nat → Nat → Int} {ix : Int} {y : Nat} {kk Z Z' : Nat → Nat → Int}
theorem ldE_kind (h : ¬ (kd = 1 ∨ kd = 2 ∨ kd = 3 ∨ kd = 4)) : ldE kd am fe tk hm to tc dc sy m ix y = 2 := by
  unfold ldE; rw [if_neg h]
theorem ldE_of (h : kd = 1 ∨ kd = 2 ∨ kd = 3 ∨ kd = 4) {b : Bool} (hb : b = true ↔ ldGood kd am fe tk hm to tc dc sy m ix y) : ldE kd am fe tk hm to tc dc sy m ix y = if b then 0 else 3 := by
  unfold ldE
  rw [if_pos h]
  cases b with
  | true => rw [if_pos (hb.1 rfl)]; rfl
  | false => rw [if_neg (fun g => by cases hb.2 g)]; rfl
theorem cmp_le {a b : Nat} : cmpN a b ≤ 0 ↔ a % M256 ≤ b % M256 := by
  unfold cmpN
  split
  · omega
  split <;> omega
end
end Go.Proofs.Ytgjjpffaofdpiaa
end

section
namespace Go.Proofs.Ytgjjpffaofdpiaa
open Go.Sx
abbrev kZ : Nat → Nat → Int := kOf fun _ _ => SC.bit false
end Go.Proofs.Ytgjjpffaofdpiaa
end

section
namespace Go.Proofs.Ytgjjpffaofdpiaa
open Go.Sx
set_option maxRecDepth 100000
end Go.Proofs.Ytgjjpffaofdpiaa
end

section
namespace Go.Proofs.Ytgjjpffaofdpiaa
open Go.Sx
theorem pcx_none : CxOK Try.prog Cx.none := ⟨fun _ h => (by cases h), fun _ h => (by cases h)⟩
end Go.Proofs.Ytgjjpffaofdpiaa
end

section
namespace Go.Proofs.Ytgjjpffaofdpiaa
open Go.Sx
set_option maxRecDepth 100000
end Go.Proofs.Ytgjjpffaofdpiaa
end

section
namespace Go.Proofs.Ytgjjpffaofdpiaa
open Go.Sx
end Go.Proofs.Ytgjjpffaofdpiaa
end

section
namespace Go.Proofs.Ytgjjpffaofdpiaa
open Go.Sx
set_option maxRecDepth 100000
end Go.Proofs.Ytgjjpffaofdpiaa
end

section
namespace Go.Proofs.Ytgjjpffaofdpiaa
open Go.Sx
theorem tl_nil {gl : Globs} : ∀ p ∈ ([] : List (Nat × TSpec)), FnOKt Try.prog gl p.1 p.2 := fun _ h => (by cases h)
end Go.Proofs.Ytgjjpffaofdpiaa
end

section
namespace Go.Proofs.Ytgjjpffaofdpiaa
open Go.Sx
set_option maxRecDepth 100000
end Go.Proofs.Ytgjjpffaofdpiaa
end

section
namespace Go.Proofs.Ytgjjpffaofdpiaa
open Go.Sx
theorem bif_if {b : Prop} [Decidable b] {x y : Int} : (bif decide b then x else y) = if b then x else y := by
  by_cases h : b <;> simp [h]
end Go.Proofs.Ytgjjpffaofdpiaa
end

section
namespace Go.Proofs.Ytgjjpffaofdpiaa
open Go.Sx
set_option maxRecDepth 100000
def kdF (z : Int) (k : Nat → Nat → Int) (i c : Nat) : SC :=
  match Nat.ble 1 i with
  | true => .val (.int .u8 (k i c))
  | false => .num .u8 z
def trimN (s : ByteArray) : Nat → Nat
  | 0 => 0
  | n + 1 => if ((s.data.getD n 0).toNat : Int) = 0 then trimN s n else n + 1
def trimT (s : ByteArray) : ByteArray := s.extract 0 (trimN s s.size)
def invTrim (s : ByteArray) : Inv where
  X := Nat
  tm m := slotsAt 23 [(0, .one (sStr (s.extract 0 m))), (1, .one (.sc (.num .u8 0)))]
  ob _ := []
  holds m := m ≤ s.size ∧ trimN s m = trimN s s.size
  less m := m
def specTrim : FSpec := fun args =>
  match args with
  | [.sc (.val (.string s)), y] => match asI y with
    | some (.u8, 0) => some ([(s.size : Int) ≤ 9223372036854775807], .one (.sc (.val (.string (trimT s)))))
    | _ => none
  | _ => none
def bAt (n : Nat) (k : Nat → Nat → Int) (p : Nat) : Int := if p < n then k p 0 else 0
def keyG (n : Nat) (k : Nat → Nat → Int) (x i j : Nat) : Int := if i < x then bAt n k (6 + 20 * i + j) else 0
def zLoad : List SK := [.c (.num .i64 0)] ++ List.replicate 8 (.c (.num .u64 0)) ++ List.replicate 32 (.c (.num .u8 0)) ++ [.c (.num .i64 0)] ++ List.replicate 32 (.c (.num .u8 0)) ++ [.c (.num .i64 0), .c (.num .i64 0), .c (.val (.string ⟨#[]⟩)), .c (.val (.slice none 0 0)), .c (.num .i64 0), .c (.val (.slice none 0 0))]
def cxLd8 : Cx := ⟨[(1000000008, fun _ => none)], [], 0, []⟩
def cxLd : Cx := ⟨[(60, specB fromG), (83, specII (fun _ _ => []) inL), (84, specUU cmpG), (1000000010, fun _ => none), (1000000012, fun _ => none), (1000000013, fun _ => none), (1000000014, fun _ => none)], [], 0, []⟩
def specTrR : FSpec := fun args =>
  match args with
  | [.sc (.val (.string s)), .sc (.val (.string c))] => some ([(s.size : Int) ≤ 9223372036854775807, c = ⟨#[0]⟩], .one (.sc (.val (.string (trimT s)))))
  | _ => none
def cxTrR : Cx := ⟨[(94, specTrim), (95, fun _ => none), (97, fun _ => none), (96, fun _ => none)], [], 0, []⟩
def cxLd2 : Cx := ⟨[(60, specB fromG), (83, specII (fun _ _ => []) inL), (84, specUU cmpG), (91, specCon conG), (92, specTrR), (1000000010, fun _ => none), (1000000012, fun _ => none), (1000000013, fun _ => none), (1000000014, fun _ => none)], [], 0, []⟩
def cxLd3 : Cx := ⟨[(60, specB fromG), (83, specII (fun _ _ => []) inL), (84, specUU cmpG), (1000000007, fun _ => none), (1000000010, fun _ => none), (1000000012, fun _ => none), (1000000013, fun _ => none), (1000000014, fun _ => none)], [], 0, []⟩
theorem vc_trim (s t : ByteArray) :
    Owes Try.prog Cx.none [(1, .inv (invTrim s))] 12 Try.f94 [sStr s, .sc (.num .u8 0)] (.one (sStr t)) =
    ((∀ (y : Nat), closedB (slotsAt 23 [(0, SV.one (sStr (s.extract 0 y))), (1, SV.one (SA.sc (SC.num Go.IntKind.u8 (0 : Int))))]) [] = Bool.true) ∧ ∃ (y : Nat), (y ≤ s.size ∧ trimN s y = trimN s s.size) ∧ s = s.extract 0 y ∧ ∀ (y : Nat), y ≤ s.size ∧ trimN s y = trimN s s.size → (Decidable.decide ((↑(s.extract 0 y).size : Int) > (0 : Int)) = Bool.true → Decidable.decide ((↑(s.extract 0 y).size : Int) > (0 : Int)) = Bool.true) ∧ (Decidable.decide ((↑(s.extract 0 y).size : Int) > (0 : Int)) = Bool.true → Decidable.decide ((↑(s.extract 0 y).size : Int) > (0 : Int)) = Bool.true) ∧ (Decidable.decide ((↑(s.extract 0 y).size : Int) > (0 : Int)) = Bool.true → Decidable.decide ((↑(s.extract 0 y).size : Int) > (0 : Int)) = Bool.true) ∧ (Decidable.decide ((↑(s.extract 0 y).size : Int) > (0 : Int)) = Bool.true → Decidable.decide ((↑(s.extract 0 y).size : Int) > (0 : Int)) = Bool.true) ∧ (Decidable.decide ((↑(s.extract 0 y).size : Int) > (0 : Int)) = Bool.true → (0 : Int) ≤ Go.IntKind.i64.wrap ((↑(s.extract 0 y).size : Int) - (1 : Int)) ∧ (Go.IntKind.i64.wrap ((↑(s.extract 0 y).size : Int) - (1 : Int))).toNat < (s.extract 0 y).size) ∧ (Decidable.decide ((↑(s.extract 0 y).size : Int) > (0 : Int)) = Bool.true → Decidable.decide ((↑(s.extract 0 y).size : Int) > (0 : Int)) = Bool.true) ∧ (Decidable.decide ((↑(s.extract 0 y).size : Int) > (0 : Int)) = Bool.true → Decidable.decide ((↑(s.extract 0 y).size : Int) > (0 : Int)) = Bool.true) ∧ (Decidable.decide ((↑(s.extract 0 y).size : Int) > (0 : Int)) = Bool.true → Decidable.decide ((↑(s.extract 0 y).size : Int) > (0 : Int)) = Bool.true) ∧ ((Decidable.decide ((↑(s.extract 0 y).size : Int) > (0 : Int)) && (↑((s.extract 0 y).data.getD (Go.IntKind.i64.wrap ((↑(s.extract 0 y).size : Int) - (1 : Int))).toNat (0 : UInt8)).toNat : Int) == (0 : Int)) = Bool.true → ((0 : Int) ≤ (0 : Int) ∧ (0 : Int) ≤ Go.IntKind.i64.wrap ((↑(s.extract 0 y).size : Int) - (1 : Int)) ∧ Go.IntKind.i64.wrap ((↑(s.extract 0 y).size : Int) - (1 : Int)) ≤ (↑(s.extract 0 y).size : Int)) ∧ ∃ (y' : Nat), (y' ≤ s.size ∧ trimN s y' = trimN s s.size) ∧ (s.extract 0 y).extract 0 (Go.IntKind.i64.wrap ((↑(s.extract 0 y).size : Int) - (1 : Int))).toNat = s.extract 0 y' ∧ y'.succ.le y) ∧ ((Decidable.decide ((↑(s.extract 0 y).size : Int) > (0 : Int)) && (↑((s.extract 0 y).data.getD (Go.IntKind.i64.wrap ((↑(s.extract 0 y).size : Int) - (1 : Int))).toNat (0 : UInt8)).toNat : Int) == (0 : Int)) = Bool.false → s.extract 0 y = t)) := by kernel_rfl
theorem vc_trr (s t : ByteArray) :
    Owes Try.prog cxTrR [] 12 Try.f92 [sStr s, .sc (.val (.string ⟨#[0]⟩))] (.one (sStr t)) =
    (let x1 : Bool := s.toList == (ByteArray.mk #[]).toList; let x2 : Bool := (1 : Int) == (1 : Int); ((!x1) = Bool.true → (!x1) = Bool.true) ∧ (x1 = Bool.false → (!x1) = Bool.true) ∧ ((x1 || (ByteArray.mk #[(0 : UInt8)]).toList == (ByteArray.mk #[]).toList) = Bool.true → s = t) ∧ ((x1 || (ByteArray.mk #[(0 : UInt8)]).toList == (ByteArray.mk #[]).toList) = Bool.false → (x2 = Bool.true → x2 = Bool.true) ∧ (x2 = Bool.true → (0 : Int) ≤ (0 : Int) ∧ 0 < 1) ∧ (x2 = Bool.true → x2 = Bool.true) ∧ (x2 = Bool.true → x2 = Bool.true) ∧ ((x2 && Decidable.decide ((0 : Int) < (128 : Int))) = Bool.true → ((0 : Int) ≤ (0 : Int) ∧ 0 < 1) ∧ (↑s.size : Int) ≤ (9223372036854775807 : Int) ∧ trimT s = t) ∧ ((x2 && Decidable.decide ((0 : Int) < (128 : Int))) = Bool.false → Stuck { dst := Option.some 28, op := Go.Op.call { callee := Go.Callee.value (Go.Operand.func 95), args := #[Go.Operand.tmp 27], argTypes := #[9] }, type := 145, pos := "strings.go:1049", after := #[{ on := 0, ground := Go.Ground.data }], guard := Option.none }))) := by kernel_rfl
theorem vc_ldc1 (a : Option Addr) (n cap : Nat) (k : Nat → Nat → Int) (am fe : Nat) (tk : Nat → Int) (hm : Int) (to : Nat → Int) (tc dc : Int) (sy : ByteArray) (m : Nat) (dk : Nat → Nat → Int) (ix : Int) (y : Nat) (kk : Nat → Nat → Int) (z e : Int) :
    OwesQ Try.prog cxLd [] [] [] 30 Try.f22 [.sc (.xs a n cap 1 (kdF 1 k))] false [.st [.k (.c (.val (.int .i64 z))), .k (.u am), .k (.u fe), .k (.f .u8 32 tk), .k (.c (.val (.int .i64 hm))), .k (.f .u8 32 to), .k (.c (.val (.int .i64 tc))), .k (.c (.val (.int .i64 dc))), .k (.c (.val (.string sy))), .s m 1 (u8F dk), .k (.c (.val (.int .i64 ix))), .s y 20 (u8F kk)], .v (sI .i64 e)] =
    (let x1 : Nat := am % M256; let x2 : Nat := fe % M256; let x3 : Nat := n - 1; let x4 : Nat := x3.min 32; let x5 : Int := (↑x4 : Int); let x6 : Int := (↑x3 : Int); let x7 : Nat := x5.toNat; let x8 : Nat := x3 - x7; let x9 : Nat := x8.min 32; let x10 : Int := (↑x9 : Int); let x11 : Int := (↑x8 : Int); let x12 : Nat := x10.toNat; let x13 : Nat := x8 - x12; let x14 : Nat := x13.min 2; let x15 : Int := (↑x14 : Int); let x16 : Int := (↑x13 : Int); let x17 : Nat := x15.toNat; let x18 : Nat := x13 - x17; let x19 : Nat := x18.min 32; let x20 : Int := (↑x19 : Int); let x21 : Int := (↑x18 : Int); let x22 : Nat := x20.toNat; let x23 : Nat := x18 - x22; let x24 : Nat := x23.min 2; let x25 : Int := (↑x24 : Int); let x26 : Int := (↑x23 : Int); let x27 : Nat := x25.toNat; let x28 : Nat := x23 - x27; let x29 : Nat := x28.min 32; let x30 : Int := (↑x29 : Int); let x31 : Int := (↑x28 : Int); let x32 : Int := Go.IntKind.i64.wrap (Go.IntKind.u64.wrap (↑(BitVec.ofInt 64 (Go.IntKind.u64.wrap (Go.IntKind.u64.wrap (↑(BitVec.ofInt 64 (0 : Int) ||| BitVec.ofInt 64 (Go.IntKind.u64.wrap (if 0 < x14 then intsC (kdF (1 : Int) k (1 + (x7 + (x12 + 0))) 0) else (0 : Int)))).toNat : Int) * (256 : Int))) ||| BitVec.ofInt 64 (Go.IntKind.u64.wrap (if 1 < x14 then k (1 + (x7 + (x12 + 1))) 0 else (0 : Int)))).toNat : Int)); let x33 : Bool := Decidable.decide ((0 : Int) ≤ x32) && Decidable.decide (x32 ≤ (65535 : Int)); let x34 : Int := Go.IntKind.i64.wrap (Go.IntKind.u64.wrap (↑(BitVec.ofInt 64 (Go.IntKind.u64.wrap (Go.IntKind.u64.wrap (↑(BitVec.ofInt 64 (0 : Int) ||| BitVec.ofInt 64 (Go.IntKind.u64.wrap (if 0 < x24 then intsC (kdF (1 : Int) k (1 + (x7 + (x12 + (x17 + (x22 + 0))))) 0) else (0 : Int)))).toNat : Int) * (256 : Int))) ||| BitVec.ofInt 64 (Go.IntKind.u64.wrap (if 1 < x24 then k (1 + (x7 + (x12 + (x17 + (x22 + 1))))) 0 else (0 : Int)))).toNat : Int)); let x35 : Bool := x33 && (Decidable.decide ((0 : Int) ≤ x34) && Decidable.decide (x34 ≤ (65535 : Int))); let x36 : Nat := fromN (fun (j : Nat) => if j < x29 then intsC (kdF (1 : Int) k (1 + (x7 + (x12 + (x17 + (x22 + (x27 + j)))))) 0) else (0 : Int)) 32; let x37 : Nat := fromN (fun (j : Nat) => if j < x4 then intsC (kdF (1 : Int) k (1 + j) 0) else (0 : Int)) 32; let x38 : Int := cmpN x36 x37; (((↑n : Int) == (0 : Int)) = Bool.true → (((0 : Int) = z ∧ True) ∧ (0 = x1 ∧ True) ∧ (0 = x2 ∧ True) ∧ ((0 : Int) = tk 0 ∧ (0 : Int) = tk 1 ∧ (0 : Int) = tk 2 ∧ (0 : Int) = tk 3 ∧ (0 : Int) = tk 4 ∧ (0 : Int) = tk 5 ∧ (0 : Int) = tk 6 ∧ (0 : Int) = tk 7 ∧ (0 : Int) = tk 8 ∧ (0 : Int) = tk 9 ∧ (0 : Int) = tk 10 ∧ (0 : Int) = tk 11 ∧ (0 : Int) = tk 12 ∧ (0 : Int) = tk 13 ∧ (0 : Int) = tk 14 ∧ (0 : Int) = tk 15 ∧ (0 : Int) = tk 16 ∧ (0 : Int) = tk 17 ∧ (0 : Int) = tk 18 ∧ (0 : Int) = tk 19 ∧ (0 : Int) = tk 20 ∧ (0 : Int) = tk 21 ∧ (0 : Int) = tk 22 ∧ (0 : Int) = tk 23 ∧ (0 : Int) = tk 24 ∧ (0 : Int) = tk 25 ∧ (0 : Int) = tk 26 ∧ (0 : Int) = tk 27 ∧ (0 : Int) = tk 28 ∧ (0 : Int) = tk 29 ∧ (0 : Int) = tk 30 ∧ (0 : Int) = tk 31 ∧ True) ∧ ((0 : Int) = hm ∧ True) ∧ ((0 : Int) = to 0 ∧ (0 : Int) = to 1 ∧ (0 : Int) = to 2 ∧ (0 : Int) = to 3 ∧ (0 : Int) = to 4 ∧ (0 : Int) = to 5 ∧ (0 : Int) = to 6 ∧ (0 : Int) = to 7 ∧ (0 : Int) = to 8 ∧ (0 : Int) = to 9 ∧ (0 : Int) = to 10 ∧ (0 : Int) = to 11 ∧ (0 : Int) = to 12 ∧ (0 : Int) = to 13 ∧ (0 : Int) = to 14 ∧ (0 : Int) = to 15 ∧ (0 : Int) = to 16 ∧ (0 : Int) = to 17 ∧ (0 : Int) = to 18 ∧ (0 : Int) = to 19 ∧ (0 : Int) = to 20 ∧ (0 : Int) = to 21 ∧ (0 : Int) = to 22 ∧ (0 : Int) = to 23 ∧ (0 : Int) = to 24 ∧ (0 : Int) = to 25 ∧ (0 : Int) = to 26 ∧ (0 : Int) = to 27 ∧ (0 : Int) = to 28 ∧ (0 : Int) = to 29 ∧ (0 : Int) = to 30 ∧ (0 : Int) = to 31 ∧ True) ∧ ((0 : Int) = tc ∧ True) ∧ ((0 : Int) = dc ∧ True) ∧ ((ByteArray.mk #[]) = sy ∧ True) ∧ m = 0 ∧ ((0 : Int) = ix ∧ True) ∧ y = 0 ∧ True) ∧ (4 : Int) = e) ∧ (((↑n : Int) == (0 : Int)) = Bool.false → ((0 : Int) ≤ (0 : Int) ∧ (0 : Int) < (↑n : Int)) ∧ ((0 : Int) ≤ (1 : Int) ∧ (1 : Int) ≤ (↑n : Int) ∧ (↑n : Int) ≤ (↑n : Int)) ∧ (∀ (j : Nat), Option.rec False (fun (val : Go.IntKind × Int) => Prod.casesOn val fun (fst : Go.IntKind) (_ : Int) => if Go.IntKind.u8 = fst then True else False) (asI (SA.sc (kdF (1 : Int) k (1 + j) 0)))) ∧ ((0 : Int) ≤ x5 ∧ x5 ≤ x6 ∧ x6 ≤ x6) ∧ (∀ (j : Nat), j < 32 → ((0 : Int) ≤ if j < x4 then intsC (kdF (1 : Int) k (1 + j) 0) else (0 : Int)) ∧ (if j < x4 then intsC (kdF (1 : Int) k (1 + j) 0) else (0 : Int)) < (256 : Int)) ∧ (∀ (j : Nat), Option.rec False (fun (val : Go.IntKind × Int) => Prod.casesOn val fun (fst : Go.IntKind) (_ : Int) => if Go.IntKind.u8 = fst then True else False) (asI (SA.sc (kdF (1 : Int) k (1 + (x7 + j)) 0)))) ∧ ((0 : Int) ≤ x10 ∧ x10 ≤ x11 ∧ x11 ≤ x11) ∧ (∀ (j : Nat), Option.rec False (fun (val : Go.IntKind × Int) => Prod.casesOn val fun (fst : Go.IntKind) (_ : Int) => if Go.IntKind.u8 = fst then True else False) (asI (SA.sc (kdF (1 : Int) k (1 + (x7 + (x12 + j))) 0)))) ∧ ((0 : Int) ≤ x15 ∧ x15 ≤ x16 ∧ x16 ≤ x16) ∧ (∀ (j : Nat), Option.rec False (fun (val : Go.IntKind × Int) => Prod.casesOn val fun (fst : Go.IntKind) (_ : Int) => if Go.IntKind.u8 = fst then True else False) (asI (SA.sc (kdF (1 : Int) k (1 + (x7 + (x12 + (x17 + j)))) 0)))) ∧ ((0 : Int) ≤ x20 ∧ x20 ≤ x21 ∧ x21 ≤ x21) ∧ (∀ (j : Nat), Option.rec False (fun (val : Go.IntKind × Int) => Prod.casesOn val fun (fst : Go.IntKind) (_ : Int) => if Go.IntKind.u8 = fst then True else False) (asI (SA.sc (kdF (1 : Int) k (1 + (x7 + (x12 + (x17 + (x22 + j))))) 0)))) ∧ ((0 : Int) ≤ x25 ∧ x25 ≤ x26 ∧ x26 ≤ x26) ∧ (∀ (j : Nat), Option.rec False (fun (val : Go.IntKind × Int) => Prod.casesOn val fun (fst : Go.IntKind) (_ : Int) => if Go.IntKind.u8 = fst then True else False) (asI (SA.sc (kdF (1 : Int) k (1 + (x7 + (x12 + (x17 + (x22 + (x27 + j)))))) 0)))) ∧ ((0 : Int) ≤ x30 ∧ x30 ≤ x31 ∧ x31 ≤ x31) ∧ (∀ (j : Nat), j < 32 → ((0 : Int) ≤ if j < x29 then intsC (kdF (1 : Int) k (1 + (x7 + (x12 + (x17 + (x22 + (x27 + j)))))) 0) else (0 : Int)) ∧ (if j < x29 then intsC (kdF (1 : Int) k (1 + (x7 + (x12 + (x17 + (x22 + (x27 + j)))))) 0) else (0 : Int)) < (256 : Int)) ∧ (Decidable.decide (x6 < (132 : Int)) = Bool.true → (((0 : Int) = z ∧ True) ∧ (0 = x1 ∧ True) ∧ (0 = x2 ∧ True) ∧ ((0 : Int) = tk 0 ∧ (0 : Int) = tk 1 ∧ (0 : Int) = tk 2 ∧ (0 : Int) = tk 3 ∧ (0 : Int) = tk 4 ∧ (0 : Int) = tk 5 ∧ (0 : Int) = tk 6 ∧ (0 : Int) = tk 7 ∧ (0 : Int) = tk 8 ∧ (0 : Int) = tk 9 ∧ (0 : Int) = tk 10 ∧ (0 : Int) = tk 11 ∧ (0 : Int) = tk 12 ∧ (0 : Int) = tk 13 ∧ (0 : Int) = tk 14 ∧ (0 : Int) = tk 15 ∧ (0 : Int) = tk 16 ∧ (0 : Int) = tk 17 ∧ (0 : Int) = tk 18 ∧ (0 : Int) = tk 19 ∧ (0 : Int) = tk 20 ∧ (0 : Int) = tk 21 ∧ (0 : Int) = tk 22 ∧ (0 : Int) = tk 23 ∧ (0 : Int) = tk 24 ∧ (0 : Int) = tk 25 ∧ (0 : Int) = tk 26 ∧ (0 : Int) = tk 27 ∧ (0 : Int) = tk 28 ∧ (0 : Int) = tk 29 ∧ (0 : Int) = tk 30 ∧ (0 : Int) = tk 31 ∧ True) ∧ ((0 : Int) = hm ∧ True) ∧ ((0 : Int) = to 0 ∧ (0 : Int) = to 1 ∧ (0 : Int) = to 2 ∧ (0 : Int) = to 3 ∧ (0 : Int) = to 4 ∧ (0 : Int) = to 5 ∧ (0 : Int) = to 6 ∧ (0 : Int) = to 7 ∧ (0 : Int) = to 8 ∧ (0 : Int) = to 9 ∧ (0 : Int) = to 10 ∧ (0 : Int) = to 11 ∧ (0 : Int) = to 12 ∧ (0 : Int) = to 13 ∧ (0 : Int) = to 14 ∧ (0 : Int) = to 15 ∧ (0 : Int) = to 16 ∧ (0 : Int) = to 17 ∧ (0 : Int) = to 18 ∧ (0 : Int) = to 19 ∧ (0 : Int) = to 20 ∧ (0 : Int) = to 21 ∧ (0 : Int) = to 22 ∧ (0 : Int) = to 23 ∧ (0 : Int) = to 24 ∧ (0 : Int) = to 25 ∧ (0 : Int) = to 26 ∧ (0 : Int) = to 27 ∧ (0 : Int) = to 28 ∧ (0 : Int) = to 29 ∧ (0 : Int) = to 30 ∧ (0 : Int) = to 31 ∧ True) ∧ ((0 : Int) = tc ∧ True) ∧ ((0 : Int) = dc ∧ True) ∧ ((ByteArray.mk #[]) = sy ∧ True) ∧ m = 0 ∧ ((0 : Int) = ix ∧ True) ∧ y = 0 ∧ True) ∧ (4 : Int) = e) ∧ (Decidable.decide (x6 < (132 : Int)) = Bool.false → ((!Decidable.decide (x6 > (132 : Int))) = Bool.true → (!Decidable.decide (x6 > (132 : Int))) = Bool.true ∧ (x33 = Bool.true → x33 = Bool.true) ∧ (x33 = Bool.true → x33 = Bool.true) ∧ (x33 = Bool.true → x33 = Bool.true) ∧ (x33 = Bool.true → x33 = Bool.true) ∧ (x33 = Bool.true → x33 = Bool.true) ∧ (x35 = Bool.true → x35 = Bool.true) ∧ (x35 = Bool.true → x35 = Bool.true) ∧ (x35 = Bool.true → x35 = Bool.true) ∧ (x35 = Bool.true → x35 = Bool.true) ∧ (x35 = Bool.true → x35 = Bool.true) ∧ (x35 = Bool.true → x35 = Bool.true) ∧ (x35 = Bool.true → x35 = Bool.true) ∧ (x35 = Bool.true → x35 = Bool.true) ∧ (x35 = Bool.true → x35 = Bool.true) ∧ (x35 = Bool.true → x35 = Bool.true) ∧ ((!(x35 && Decidable.decide (x38 ≤ (0 : Int)))) = Bool.true → (((0 : Int) = z ∧ True) ∧ (0 = x1 ∧ True) ∧ (0 = x2 ∧ True) ∧ ((0 : Int) = tk 0 ∧ (0 : Int) = tk 1 ∧ (0 : Int) = tk 2 ∧ (0 : Int) = tk 3 ∧ (0 : Int) = tk 4 ∧ (0 : Int) = tk 5 ∧ (0 : Int) = tk 6 ∧ (0 : Int) = tk 7 ∧ (0 : Int) = tk 8 ∧ (0 : Int) = tk 9 ∧ (0 : Int) = tk 10 ∧ (0 : Int) = tk 11 ∧ (0 : Int) = tk 12 ∧ (0 : Int) = tk 13 ∧ (0 : Int) = tk 14 ∧ (0 : Int) = tk 15 ∧ (0 : Int) = tk 16 ∧ (0 : Int) = tk 17 ∧ (0 : Int) = tk 18 ∧ (0 : Int) = tk 19 ∧ (0 : Int) = tk 20 ∧ (0 : Int) = tk 21 ∧ (0 : Int) = tk 22 ∧ (0 : Int) = tk 23 ∧ (0 : Int) = tk 24 ∧ (0 : Int) = tk 25 ∧ (0 : Int) = tk 26 ∧ (0 : Int) = tk 27 ∧ (0 : Int) = tk 28 ∧ (0 : Int) = tk 29 ∧ (0 : Int) = tk 30 ∧ (0 : Int) = tk 31 ∧ True) ∧ ((0 : Int) = hm ∧ True) ∧ ((0 : Int) = to 0 ∧ (0 : Int) = to 1 ∧ (0 : Int) = to 2 ∧ (0 : Int) = to 3 ∧ (0 : Int) = to 4 ∧ (0 : Int) = to 5 ∧ (0 : Int) = to 6 ∧ (0 : Int) = to 7 ∧ (0 : Int) = to 8 ∧ (0 : Int) = to 9 ∧ (0 : Int) = to 10 ∧ (0 : Int) = to 11 ∧ (0 : Int) = to 12 ∧ (0 : Int) = to 13 ∧ (0 : Int) = to 14 ∧ (0 : Int) = to 15 ∧ (0 : Int) = to 16 ∧ (0 : Int) = to 17 ∧ (0 : Int) = to 18 ∧ (0 : Int) = to 19 ∧ (0 : Int) = to 20 ∧ (0 : Int) = to 21 ∧ (0 : Int) = to 22 ∧ (0 : Int) = to 23 ∧ (0 : Int) = to 24 ∧ (0 : Int) = to 25 ∧ (0 : Int) = to 26 ∧ (0 : Int) = to 27 ∧ (0 : Int) = to 28 ∧ (0 : Int) = to 29 ∧ (0 : Int) = to 30 ∧ (0 : Int) = to 31 ∧ True) ∧ ((0 : Int) = tc ∧ True) ∧ ((0 : Int) = dc ∧ True) ∧ ((ByteArray.mk #[]) = sy ∧ True) ∧ m = 0 ∧ ((0 : Int) = ix ∧ True) ∧ y = 0 ∧ True) ∧ (3 : Int) = e) ∧ ((!(x35 && Decidable.decide (x38 ≤ (0 : Int)))) = Bool.false → (((1 : Int) = z ∧ True) ∧ (x37 % M256 = x1 ∧ True) ∧ (x36 % M256 = x2 ∧ True) ∧ ((∀ (j : Nat), j < 32 → (if j < x9 then intsC (kdF (1 : Int) k (1 + (x7 + j)) 0) else (0 : Int)) = tk j) ∧ True) ∧ (x32 = hm ∧ True) ∧ ((∀ (j : Nat), j < 32 → (if j < x19 then intsC (kdF (1 : Int) k (1 + (x7 + (x12 + (x17 + j)))) 0) else (0 : Int)) = to j) ∧ True) ∧ (x34 = tc ∧ True) ∧ ((0 : Int) = dc ∧ True) ∧ ((ByteArray.mk #[]) = sy ∧ True) ∧ m = 0 ∧ ((0 : Int) = ix ∧ True) ∧ y = 0 ∧ True) ∧ (0 : Int) = e)) ∧ ((!Decidable.decide (x6 > (132 : Int))) = Bool.false → (((0 : Int) = z ∧ True) ∧ (0 = x1 ∧ True) ∧ (0 = x2 ∧ True) ∧ ((0 : Int) = tk 0 ∧ (0 : Int) = tk 1 ∧ (0 : Int) = tk 2 ∧ (0 : Int) = tk 3 ∧ (0 : Int) = tk 4 ∧ (0 : Int) = tk 5 ∧ (0 : Int) = tk 6 ∧ (0 : Int) = tk 7 ∧ (0 : Int) = tk 8 ∧ (0 : Int) = tk 9 ∧ (0 : Int) = tk 10 ∧ (0 : Int) = tk 11 ∧ (0 : Int) = tk 12 ∧ (0 : Int) = tk 13 ∧ (0 : Int) = tk 14 ∧ (0 : Int) = tk 15 ∧ (0 : Int) = tk 16 ∧ (0 : Int) = tk 17 ∧ (0 : Int) = tk 18 ∧ (0 : Int) = tk 19 ∧ (0 : Int) = tk 20 ∧ (0 : Int) = tk 21 ∧ (0 : Int) = tk 22 ∧ (0 : Int) = tk 23 ∧ (0 : Int) = tk 24 ∧ (0 : Int) = tk 25 ∧ (0 : Int) = tk 26 ∧ (0 : Int) = tk 27 ∧ (0 : Int) = tk 28 ∧ (0 : Int) = tk 29 ∧ (0 : Int) = tk 30 ∧ (0 : Int) = tk 31 ∧ True) ∧ ((0 : Int) = hm ∧ True) ∧ ((0 : Int) = to 0 ∧ (0 : Int) = to 1 ∧ (0 : Int) = to 2 ∧ (0 : Int) = to 3 ∧ (0 : Int) = to 4 ∧ (0 : Int) = to 5 ∧ (0 : Int) = to 6 ∧ (0 : Int) = to 7 ∧ (0 : Int) = to 8 ∧ (0 : Int) = to 9 ∧ (0 : Int) = to 10 ∧ (0 : Int) = to 11 ∧ (0 : Int) = to 12 ∧ (0 : Int) = to 13 ∧ (0 : Int) = to 14 ∧ (0 : Int) = to 15 ∧ (0 : Int) = to 16 ∧ (0 : Int) = to 17 ∧ (0 : Int) = to 18 ∧ (0 : Int) = to 19 ∧ (0 : Int) = to 20 ∧ (0 : Int) = to 21 ∧ (0 : Int) = to 22 ∧ (0 : Int) = to 23 ∧ (0 : Int) = to 24 ∧ (0 : Int) = to 25 ∧ (0 : Int) = to 26 ∧ (0 : Int) = to 27 ∧ (0 : Int) = to 28 ∧ (0 : Int) = to 29 ∧ (0 : Int) = to 30 ∧ (0 : Int) = to 31 ∧ True) ∧ ((0 : Int) = tc ∧ True) ∧ ((0 : Int) = dc ∧ True) ∧ ((ByteArray.mk #[]) = sy ∧ True) ∧ m = 0 ∧ ((0 : Int) = ix ∧ True) ∧ y = 0 ∧ True) ∧ (3 : Int) = e)))) := by kernel_rfl
theorem vc_ldc0 (a : Option Addr) (n cap : Nat) (k : Nat → Nat → Int) (am fe : Nat) (tk : Nat → Int) (hm : Int) (to : Nat → Int) (tc dc : Int) (sy : ByteArray) (m : Nat) (dk : Nat → Nat → Int) (ix : Int) (y : Nat) (kk : Nat → Nat → Int) (z e : Int) :
    OwesQ Try.prog cxLd8 [] [] [] 30 Try.f22 [.sc (.xs a n cap 1 (u8F k))] false [.st [.k (.c (.val (.int .i64 z))), .k (.u am), .k (.u fe), .k (.f .u8 32 tk), .k (.c (.val (.int .i64 hm))), .k (.f .u8 32 to), .k (.c (.val (.int .i64 tc))), .k (.c (.val (.int .i64 dc))), .k (.c (.val (.string sy))), .s m 1 (u8F dk), .k (.c (.val (.int .i64 ix))), .s y 20 (u8F kk)], .v (sI .i64 e)] =
    ((((↑n : Int) == (0 : Int)) = Bool.true → (((0 : Int) = z ∧ True) ∧ (0 = am % M256 ∧ True) ∧ (0 = fe % M256 ∧ True) ∧ ((0 : Int) = tk 0 ∧ (0 : Int) = tk 1 ∧ (0 : Int) = tk 2 ∧ (0 : Int) = tk 3 ∧ (0 : Int) = tk 4 ∧ (0 : Int) = tk 5 ∧ (0 : Int) = tk 6 ∧ (0 : Int) = tk 7 ∧ (0 : Int) = tk 8 ∧ (0 : Int) = tk 9 ∧ (0 : Int) = tk 10 ∧ (0 : Int) = tk 11 ∧ (0 : Int) = tk 12 ∧ (0 : Int) = tk 13 ∧ (0 : Int) = tk 14 ∧ (0 : Int) = tk 15 ∧ (0 : Int) = tk 16 ∧ (0 : Int) = tk 17 ∧ (0 : Int) = tk 18 ∧ (0 : Int) = tk 19 ∧ (0 : Int) = tk 20 ∧ (0 : Int) = tk 21 ∧ (0 : Int) = tk 22 ∧ (0 : Int) = tk 23 ∧ (0 : Int) = tk 24 ∧ (0 : Int) = tk 25 ∧ (0 : Int) = tk 26 ∧ (0 : Int) = tk 27 ∧ (0 : Int) = tk 28 ∧ (0 : Int) = tk 29 ∧ (0 : Int) = tk 30 ∧ (0 : Int) = tk 31 ∧ True) ∧ ((0 : Int) = hm ∧ True) ∧ ((0 : Int) = to 0 ∧ (0 : Int) = to 1 ∧ (0 : Int) = to 2 ∧ (0 : Int) = to 3 ∧ (0 : Int) = to 4 ∧ (0 : Int) = to 5 ∧ (0 : Int) = to 6 ∧ (0 : Int) = to 7 ∧ (0 : Int) = to 8 ∧ (0 : Int) = to 9 ∧ (0 : Int) = to 10 ∧ (0 : Int) = to 11 ∧ (0 : Int) = to 12 ∧ (0 : Int) = to 13 ∧ (0 : Int) = to 14 ∧ (0 : Int) = to 15 ∧ (0 : Int) = to 16 ∧ (0 : Int) = to 17 ∧ (0 : Int) = to 18 ∧ (0 : Int) = to 19 ∧ (0 : Int) = to 20 ∧ (0 : Int) = to 21 ∧ (0 : Int) = to 22 ∧ (0 : Int) = to 23 ∧ (0 : Int) = to 24 ∧ (0 : Int) = to 25 ∧ (0 : Int) = to 26 ∧ (0 : Int) = to 27 ∧ (0 : Int) = to 28 ∧ (0 : Int) = to 29 ∧ (0 : Int) = to 30 ∧ (0 : Int) = to 31 ∧ True) ∧ ((0 : Int) = tc ∧ True) ∧ ((0 : Int) = dc ∧ True) ∧ ((ByteArray.mk #[]) = sy ∧ True) ∧ m = 0 ∧ ((0 : Int) = ix ∧ True) ∧ y = 0 ∧ True) ∧ (4 : Int) = e) ∧ (((↑n : Int) == (0 : Int)) = Bool.false → ((0 : Int) ≤ (0 : Int) ∧ (0 : Int) < (↑n : Int)) ∧ ((0 : Int) ≤ (1 : Int) ∧ (1 : Int) ≤ (↑n : Int) ∧ (↑n : Int) ≤ (↑n : Int)) ∧ ((Go.IntKind.i64.wrap (k 0 0) == (1 : Int)) = Bool.true → ∀ (_ : Go.Addr), Stuck { dst := Option.some 9, op := Go.Op.makeInterface 96 (Go.Operand.tmp 8), type := 75, pos := "said.go:26", after := #[{ on := 1, ground := Go.Ground.data }], guard := Option.none }) ∧ ((Go.IntKind.i64.wrap (k 0 0) == (1 : Int)) = Bool.false → ((Go.IntKind.i64.wrap (k 0 0) == (2 : Int)) = Bool.true → ∀ (_ : Go.Addr), Stuck { dst := Option.some 14, op := Go.Op.makeInterface 99 (Go.Operand.tmp 13), type := 75, pos := "said.go:28", after := #[{ on := 1, ground := Go.Ground.data }], guard := Option.none }) ∧ ((Go.IntKind.i64.wrap (k 0 0) == (2 : Int)) = Bool.false → ((Go.IntKind.i64.wrap (k 0 0) == (3 : Int)) = Bool.true → ∀ (_ : Go.Addr), Stuck { dst := Option.some 19, op := Go.Op.makeInterface 102 (Go.Operand.tmp 18), type := 75, pos := "said.go:30", after := #[{ on := 1, ground := Go.Ground.data }], guard := Option.none }) ∧ ((Go.IntKind.i64.wrap (k 0 0) == (3 : Int)) = Bool.false → ((Go.IntKind.i64.wrap (k 0 0) == (4 : Int)) = Bool.true → ∀ (_ : Go.Addr), Stuck { dst := Option.some 24, op := Go.Op.makeInterface 105 (Go.Operand.tmp 23), type := 75, pos := "said.go:32", after := #[{ on := 1, ground := Go.Ground.data }], guard := Option.none }) ∧ ((Go.IntKind.i64.wrap (k 0 0) == (4 : Int)) = Bool.false → (((0 : Int) = z ∧ True) ∧ (0 = am % M256 ∧ True) ∧ (0 = fe % M256 ∧ True) ∧ ((0 : Int) = tk 0 ∧ (0 : Int) = tk 1 ∧ (0 : Int) = tk 2 ∧ (0 : Int) = tk 3 ∧ (0 : Int) = tk 4 ∧ (0 : Int) = tk 5 ∧ (0 : Int) = tk 6 ∧ (0 : Int) = tk 7 ∧ (0 : Int) = tk 8 ∧ (0 : Int) = tk 9 ∧ (0 : Int) = tk 10 ∧ (0 : Int) = tk 11 ∧ (0 : Int) = tk 12 ∧ (0 : Int) = tk 13 ∧ (0 : Int) = tk 14 ∧ (0 : Int) = tk 15 ∧ (0 : Int) = tk 16 ∧ (0 : Int) = tk 17 ∧ (0 : Int) = tk 18 ∧ (0 : Int) = tk 19 ∧ (0 : Int) = tk 20 ∧ (0 : Int) = tk 21 ∧ (0 : Int) = tk 22 ∧ (0 : Int) = tk 23 ∧ (0 : Int) = tk 24 ∧ (0 : Int) = tk 25 ∧ (0 : Int) = tk 26 ∧ (0 : Int) = tk 27 ∧ (0 : Int) = tk 28 ∧ (0 : Int) = tk 29 ∧ (0 : Int) = tk 30 ∧ (0 : Int) = tk 31 ∧ True) ∧ ((0 : Int) = hm ∧ True) ∧ ((0 : Int) = to 0 ∧ (0 : Int) = to 1 ∧ (0 : Int) = to 2 ∧ (0 : Int) = to 3 ∧ (0 : Int) = to 4 ∧ (0 : Int) = to 5 ∧ (0 : Int) = to 6 ∧ (0 : Int) = to 7 ∧ (0 : Int) = to 8 ∧ (0 : Int) = to 9 ∧ (0 : Int) = to 10 ∧ (0 : Int) = to 11 ∧ (0 : Int) = to 12 ∧ (0 : Int) = to 13 ∧ (0 : Int) = to 14 ∧ (0 : Int) = to 15 ∧ (0 : Int) = to 16 ∧ (0 : Int) = to 17 ∧ (0 : Int) = to 18 ∧ (0 : Int) = to 19 ∧ (0 : Int) = to 20 ∧ (0 : Int) = to 21 ∧ (0 : Int) = to 22 ∧ (0 : Int) = to 23 ∧ (0 : Int) = to 24 ∧ (0 : Int) = to 25 ∧ (0 : Int) = to 26 ∧ (0 : Int) = to 27 ∧ (0 : Int) = to 28 ∧ (0 : Int) = to 29 ∧ (0 : Int) = to 30 ∧ (0 : Int) = to 31 ∧ True) ∧ ((0 : Int) = tc ∧ True) ∧ ((0 : Int) = dc ∧ True) ∧ ((ByteArray.mk #[]) = sy ∧ True) ∧ m = 0 ∧ ((0 : Int) = ix ∧ True) ∧ y = 0 ∧ True) ∧ (2 : Int) = e)))))) := by kernel_rfl
end Go.Proofs.Ytgjjpffaofdpiaa
end

section
namespace Go.Proofs.Ytgjjpffaofdpiaa
open Go.Sx
set_option maxRecDepth 100000
def chr (s : ByteArray) (i : Nat) : Int := ((s.data.getD i 0).toNat : Int)
def wdF (s : ByteArray) (i : Nat) : Int := if i < s.size then chr s i else 0
def wdG (n : Nat) (s : ByteArray) (i : Nat) : Int := if i < n then chr s i else 0
def invWd2 (s : ByteArray) : Inv where
  X := Nat
  tm i := slotsAt 21 [(0, .one (sStr s)), (2, .one (.sc (.ptr 0 0))), (3, .one (.sc (.ptr 1 0))), (4, .one (sI .i64 (i : Int)))]
  ob i := [.cells 41 [.f .u8 32 fun _ => 0] 0, .cells 41 [.f .u8 32 (wdG i s)] 0]
  holds i := i ≤ s.size ∧ i ≤ 32
  less i := s.size - i
def specWd2 : FSpec := fun args =>
  match args with
  | [.sc (.val (.string s))] => some ([(s.size : Int) ≤ 9223372036854775807], .one (.agg [.f .u8 32 (wdF s)]))
  | _ => none
def txN (s : ByteArray) : Nat → Int
  | 0 => 0
  | i + 1 => txN s i * 256 + chr s i
def invNum (s : ByteArray) : Inv where
  X := Nat
  tm i := slotsAt 20 [(0, .one (sStr s)), (3, .one (sI .u64 (txN s i))), (4, .one (sI .i64 (i : Int)))]
  ob _ := []
  holds i := i ≤ s.size
  less i := s.size - i
def specNum : FSpec := fun args =>
  match args with
  | [.sc (.val (.string s))] => some ([s.size ≤ 8], .one (sI .i64 (IntKind.i64.wrap (txN s s.size))))
  | _ => none
def invFB2 (g : Nat → Int) (A : Nat → Nat → Int) : Inv where
  X := Nat
  tm y := slotsAt 26 [(2, .one (.sc (.ptr 1 0))), (3, .one (.sc (.ptr 2 0))), (6, .one (.agg [.f .u8 32 g])), (7, .one (sI .i64 (y : Int)))]
  ob y := [.dead, .cells 52 (List.replicate 4 (.c (.num .u64 0))) 0, .cells 52 [.f .u64 4 (A y)] 0]
  holds y := y ≤ 32
  less y := 32 - y
def cxWo : Cx := ⟨[(36, specWd2), (48, specB fromG)], [], 0, []⟩
def specWo : FSpec := fun args =>
  match args with
  | [.sc (.val (.string s))] => some ([(s.size : Int) ≤ 9223372036854775807], .one (sU (fromN (wdF s) 32)))
  | _ => none
theorem vc_rwd2 (s : ByteArray) (w : Nat → Int) :
    Owes Try.prog Cx.none [(3, .inv (invWd2 s))] 12 Try.f36 [sStr s] (.one (.agg [.f .u8 32 w])) =
    ((∀ (y : Nat), closedB (slotsAt 21 [(0, SV.one (sStr s)), (2, SV.one (SA.sc (SC.ptr 0 0))), (3, SV.one (SA.sc (SC.ptr 1 0))), (4, SV.one (sI Go.IntKind.i64 (↑y : Int)))]) [SO.cells (41 : Go.TypeId) [SK.f Go.IntKind.u8 32 fun (_ : Nat) => (0 : Int)] 0, SO.cells (41 : Go.TypeId) [SK.f Go.IntKind.u8 32 (wdG y s)] 0] = Bool.true) ∧ ∃ (y : Nat), (y ≤ s.size ∧ y ≤ 32) ∧ s = s ∧ (0 : Int) = (↑y : Int) ∧ ((0 : Int) = (0 : Int) ∧ (0 : Int) = (0 : Int) ∧ (0 : Int) = (0 : Int) ∧ (0 : Int) = (0 : Int) ∧ (0 : Int) = (0 : Int) ∧ (0 : Int) = (0 : Int) ∧ (0 : Int) = (0 : Int) ∧ (0 : Int) = (0 : Int) ∧ (0 : Int) = (0 : Int) ∧ (0 : Int) = (0 : Int) ∧ (0 : Int) = (0 : Int) ∧ (0 : Int) = (0 : Int) ∧ (0 : Int) = (0 : Int) ∧ (0 : Int) = (0 : Int) ∧ (0 : Int) = (0 : Int) ∧ (0 : Int) = (0 : Int) ∧ (0 : Int) = (0 : Int) ∧ (0 : Int) = (0 : Int) ∧ (0 : Int) = (0 : Int) ∧ (0 : Int) = (0 : Int) ∧ (0 : Int) = (0 : Int) ∧ (0 : Int) = (0 : Int) ∧ (0 : Int) = (0 : Int) ∧ (0 : Int) = (0 : Int) ∧ (0 : Int) = (0 : Int) ∧ (0 : Int) = (0 : Int) ∧ (0 : Int) = (0 : Int) ∧ (0 : Int) = (0 : Int) ∧ (0 : Int) = (0 : Int) ∧ (0 : Int) = (0 : Int) ∧ (0 : Int) = (0 : Int) ∧ (0 : Int) = (0 : Int) ∧ True) ∧ 0 = 0 ∧ ((0 : Int) = wdG y s 0 ∧ (0 : Int) = wdG y s 1 ∧ (0 : Int) = wdG y s 2 ∧ (0 : Int) = wdG y s 3 ∧ (0 : Int) = wdG y s 4 ∧ (0 : Int) = wdG y s 5 ∧ (0 : Int) = wdG y s 6 ∧ (0 : Int) = wdG y s 7 ∧ (0 : Int) = wdG y s 8 ∧ (0 : Int) = wdG y s 9 ∧ (0 : Int) = wdG y s 10 ∧ (0 : Int) = wdG y s 11 ∧ (0 : Int) = wdG y s 12 ∧ (0 : Int) = wdG y s 13 ∧ (0 : Int) = wdG y s 14 ∧ (0 : Int) = wdG y s 15 ∧ (0 : Int) = wdG y s 16 ∧ (0 : Int) = wdG y s 17 ∧ (0 : Int) = wdG y s 18 ∧ (0 : Int) = wdG y s 19 ∧ (0 : Int) = wdG y s 20 ∧ (0 : Int) = wdG y s 21 ∧ (0 : Int) = wdG y s 22 ∧ (0 : Int) = wdG y s 23 ∧ (0 : Int) = wdG y s 24 ∧ (0 : Int) = wdG y s 25 ∧ (0 : Int) = wdG y s 26 ∧ (0 : Int) = wdG y s 27 ∧ (0 : Int) = wdG y s 28 ∧ (0 : Int) = wdG y s 29 ∧ (0 : Int) = wdG y s 30 ∧ (0 : Int) = wdG y s 31 ∧ True) ∧ 0 = 0 ∧ ∀ (y : Nat), y ≤ s.size ∧ y ≤ 32 → (Decidable.decide ((↑y : Int) < (↑s.size : Int)) = Bool.true → Decidable.decide ((↑y : Int) < (↑s.size : Int)) = Bool.true) ∧ (Decidable.decide ((↑y : Int) < (↑s.size : Int)) = Bool.true → Decidable.decide ((↑y : Int) < (↑s.size : Int)) = Bool.true) ∧ ((Decidable.decide ((↑y : Int) < (↑s.size : Int)) && Decidable.decide ((↑y : Int) < (32 : Int))) = Bool.true → ((0 : Int) ≤ (↑y : Int) ∧ (↑y : Int).toNat < s.size) ∧ ((0 : Int) ≤ (↑y : Int) ∧ (↑y : Int) < (32 : Int)) ∧ ((0 : Int) ≤ (↑y : Int) ∧ (↑y : Int) < (32 : Int)) ∧ ∃ (y' : Nat), (y' ≤ s.size ∧ y' ≤ 32) ∧ s = s ∧ Go.IntKind.i64.wrap ((↑y : Int) + (1 : Int)) = (↑y' : Int) ∧ ((∀ (j : Nat), j < 32 → (0 : Int) = (0 : Int)) ∧ True) ∧ 0 = 0 ∧ ((∀ (j : Nat), j < 32 → (if j = (↑y : Int).toNat then (↑(s.data.getD (↑y : Int).toNat (0 : UInt8)).toNat : Int) else if j < y then chr s j else (0 : Int)) = wdG y' s j) ∧ True) ∧ 0 = 0 ∧ (s.size - y').succ.le (s.size - y)) ∧ ((Decidable.decide ((↑y : Int) < (↑s.size : Int)) && Decidable.decide ((↑y : Int) < (32 : Int))) = Bool.false → (∀ (j : Nat), j < 32 → wdG y s j = w j) ∧ True)) := by kernel_rfl
theorem vc_rnum (s : ByteArray) (r : Int) :
    Owes Try.prog Cx.none [(3, .inv (invNum s))] 12 Try.f34 [sStr s] (.one (sI .i64 r)) =
    ((∀ (y : Nat), closedB (slotsAt 20 [(0, SV.one (sStr s)), (3, SV.one (sI Go.IntKind.u64 (txN s y))), (4, SV.one (sI Go.IntKind.i64 (↑y : Int)))]) [] = Bool.true) ∧ ∃ (y : Nat), y ≤ s.size ∧ s = s ∧ (0 : Int) = txN s y ∧ (0 : Int) = (↑y : Int) ∧ ∀ (y : Nat), y ≤ s.size → (Decidable.decide ((↑y : Int) < (↑s.size : Int)) = Bool.true → ((0 : Int) ≤ (↑y : Int) ∧ (↑y : Int).toNat < s.size) ∧ ∃ (y' : Nat), y' ≤ s.size ∧ s = s ∧ Go.IntKind.u64.wrap (Go.IntKind.u64.wrap (txN s y * (256 : Int)) + Go.IntKind.u64.wrap (↑(s.data.getD (↑y : Int).toNat (0 : UInt8)).toNat : Int)) = txN s y' ∧ Go.IntKind.i64.wrap ((↑y : Int) + (1 : Int)) = (↑y' : Int) ∧ (s.size - y').succ.le (s.size - y)) ∧ (Decidable.decide ((↑y : Int) < (↑s.size : Int)) = Bool.false → Go.IntKind.i64.wrap (txN s y) = r)) := by kernel_rfl
theorem vc_rfb2 (g : Nat → Int) (A : Nat → Nat → Int) (r : Nat) :
    Owes Try.prog Cx.none [(3, .inv (invFB2 g A))] 40 Try.f48 [.agg [.f .u8 32 g]] (.one (sU r)) =
    ((∀ (y : Nat), closedB (slotsAt 26 [(2, SV.one (SA.sc (SC.ptr 1 0))), (3, SV.one (SA.sc (SC.ptr 2 0))), (6, SV.one (SA.agg [SK.f Go.IntKind.u8 32 g])), (7, SV.one (sI Go.IntKind.i64 (↑y : Int)))]) [SO.dead, SO.cells (52 : Go.TypeId) (List.replicate 4 (SK.c (SC.num Go.IntKind.u64 (0 : Int)))) 0, SO.cells (52 : Go.TypeId) [SK.f Go.IntKind.u64 4 (A y)] 0] = Bool.true) ∧ ∃ (y : Nat), y ≤ 32 ∧ ((∀ (j : Nat), j < 32 → g j = g j) ∧ True) ∧ (0 : Int) = (↑y : Int) ∧ 0 = 0 ∧ ((0 : Int) = A y 0 ∧ (0 : Int) = A y 1 ∧ (0 : Int) = A y 2 ∧ (0 : Int) = A y 3 ∧ True) ∧ 0 = 0 ∧ ∀ (y : Nat), y ≤ 32 → (Decidable.decide ((↑y : Int) < (32 : Int)) = Bool.true → ((0 : Int) ≤ (↑y : Int) ∧ (↑y : Int) < (32 : Int)) ∧ ((0 : Int) ≤ Go.IntKind.i64.wrap ((3 : Int) - Go.IntKind.i64.wrap ((↑y : Int).tdiv (8 : Int))) ∧ Go.IntKind.i64.wrap ((3 : Int) - Go.IntKind.i64.wrap ((↑y : Int).tdiv (8 : Int))) < (4 : Int)) ∧ ((0 : Int) ≤ Go.IntKind.i64.wrap ((3 : Int) - Go.IntKind.i64.wrap ((↑y : Int).tdiv (8 : Int))) ∧ Go.IntKind.i64.wrap ((3 : Int) - Go.IntKind.i64.wrap ((↑y : Int).tdiv (8 : Int))) < (4 : Int)) ∧ ((0 : Int) ≤ Go.IntKind.i64.wrap ((3 : Int) - Go.IntKind.i64.wrap ((↑y : Int).tdiv (8 : Int))) ∧ Go.IntKind.i64.wrap ((3 : Int) - Go.IntKind.i64.wrap ((↑y : Int).tdiv (8 : Int))) < (4 : Int)) ∧ ((0 : Int) ≤ Go.IntKind.i64.wrap ((3 : Int) - Go.IntKind.i64.wrap ((↑y : Int).tdiv (8 : Int))) ∧ Go.IntKind.i64.wrap ((3 : Int) - Go.IntKind.i64.wrap ((↑y : Int).tdiv (8 : Int))) < (4 : Int)) ∧ ∃ (y' : Nat), y' ≤ 32 ∧ ((∀ (j : Nat), j < 32 → g j = g j) ∧ True) ∧ Go.IntKind.i64.wrap ((↑y : Int) + (1 : Int)) = (↑y' : Int) ∧ 0 = 0 ∧ ((∀ (j : Nat), j < 4 → (if j = (Go.IntKind.i64.wrap ((3 : Int) - Go.IntKind.i64.wrap ((↑y : Int).tdiv (8 : Int)))).toNat then Go.IntKind.u64.wrap (Go.IntKind.u64.wrap (A y (Go.IntKind.i64.wrap ((3 : Int) - Go.IntKind.i64.wrap ((↑y : Int).tdiv (8 : Int)))).toNat * (256 : Int)) + Go.IntKind.u64.wrap (g (↑y : Int).toNat)) else A y j) = A y' j) ∧ True) ∧ 0 = 0 ∧ (32 - y').succ.le (32 - y)) ∧ (Decidable.decide ((↑y : Int) < (32 : Int)) = Bool.false → ((0 : Int) ≤ A y 0 ∧ A y 0 < (18446744073709551616 : Int)) ∧ ((0 : Int) ≤ A y 1 ∧ A y 1 < (18446744073709551616 : Int)) ∧ ((0 : Int) ≤ A y 2 ∧ A y 2 < (18446744073709551616 : Int)) ∧ ((0 : Int) ≤ A y 3 ∧ A y 3 < (18446744073709551616 : Int)) ∧ join (A y 0) (A y 1) (A y 2) (A y 3) % M256 = r % M256 ∧ True)) := by kernel_rfl
theorem vc_rwo (s : ByteArray) (r : Nat) :
    Owes Try.prog cxWo [] 12 Try.f35 [sStr s] (.one (sU r)) =
    ((↑s.size : Int) ≤ (9223372036854775807 : Int) ∧ (∀ (j : Nat), j < 32 → ((0 : Int) ≤ if j < s.size then chr s j else (0 : Int)) ∧ (if j < s.size then chr s j else (0 : Int)) < (256 : Int)) ∧ fromN (fun (i : Nat) => if i < s.size then chr s i else (0 : Int)) 32 % M256 = r % M256 ∧ True) := by kernel_rfl
end Go.Proofs.Ytgjjpffaofdpiaa
end
