/-
  Texts: DgB, V62, P103, Wsp2, Wsp3, Wsp4, Wsp6, P104, V63, P105, P106, P107, V1, V2, V5, V7, V6, V4, P1, P2, P3, P4, P5, P6, P7, C1, C2, P9, P12, P13, P14, P15, P16, P18, P19, P20, P21, P22, V64, P108, P17, V67, P111, P10, V68, P112, P113, P11, V69, P114.
-/
import Derived.Test.YtbjdchpncbgpnaaM1
import Derived.Test.YtbjdchpncbgpnaaM2
import Derived.Test.YtbjdchpncbgpnaaM3
import Derived.Test.YtbjdchpncbgpnaaM4
import Derived.Test.YtbjdchpncbgpnaaM5
import Derived.Test.YtbjdchpncbgpnaaM6
import Derived.Test.YtbjdchpncbgpnaaM7
import Derived.Test.YtbjdchpncbgpnaaChecked
import Derived.Test.YtbjdchpncbgpnaaRows
import Derived.Lib.Mul64
import Derived.Laws.Strings
section
/-
  Digits to the base 2^32: divisions, a digit at a time.
-/
namespace Go.Sx
open Go.RowKit

theorem div_digit {A d Y : Nat} (hY : 0 < Y) (hd : d < 4294967296) : ((A * 4294967296 + d) / Y) % 4294967296 = (A % Y * 4294967296 + d) / Y ∧ (A * 4294967296 + d) % Y = (A % Y * 4294967296 + d) % Y := by
  have hA := Nat.div_add_mod A Y
  have hr := Nat.mod_lt A hY
  have e : A * 4294967296 + d = (A % Y * 4294967296 + d) + Y * (A / Y * 4294967296) := by
    have : A * 4294967296 = (Y * (A / Y) + A % Y) * 4294967296 := by rw [hA]
    rw [this, Nat.add_mul, Nat.mul_assoc]
    omega
  have hlt : (A % Y * 4294967296 + d) / Y < 4294967296 := by
    rw [Nat.div_lt_iff_lt_mul hY]
    have : (A % Y + 1) * 4294967296 ≤ Y * 4294967296 := Nat.mul_le_mul_right _ hr
    rw [Nat.mul_comm 4294967296 Y]
    omega
  rw [e, Nat.add_mul_div_left _ _ hY, Nat.add_mul_mod_self_left, Nat.add_mul_mod_self_right, Nat.mod_eq_of_lt hlt]
  exact ⟨rfl, rfl⟩
theorem quo_digit {X Y k : Nat} (hY : 0 < Y) : dg (X / Y) k = (((X / 4294967296 ^ (k + 1) % Y * 4294967296 + (dg X k).toNat) / Y : Nat) : Int) ∧ X / 4294967296 ^ k % Y = (X / 4294967296 ^ (k + 1) % Y * 4294967296 + (dg X k).toNat) % Y := by
  have hr := dg_range X k
  have hs : X / 4294967296 ^ k = X / 4294967296 ^ (k + 1) * 4294967296 + (dg X k).toNat := by
    have := div_succ X k
    omega
  obtain ⟨e1, e2⟩ := div_digit (A := X / 4294967296 ^ (k + 1)) (d := (dg X k).toNat) hY (by omega)
  refine ⟨?_, by rw [hs, e2]⟩
  rw [← e1, ← hs]
  unfold dg
  rw [Nat.div_div_eq_div_mul, Nat.div_div_eq_div_mul, Nat.mul_comm Y]

/-- By a single digit. -/
structure D1P (X Y n i : Nat) (q : Nat → Int) (l : Int) : Prop where
  left : l = ((X / 4294967296 ^ i % Y : Nat) : Int)
  qs : ∀ j, i ≤ j → j < n → q j = dg (X / Y) j
theorem D1P.start {X Y n : Nat} (hX : X < 4294967296 ^ n) (q : Nat → Int) : D1P X Y n n q 0 := ⟨by rw [Nat.div_eq_of_lt hX, Nat.zero_mod]; rfl, fun j h1 h2 => by omega⟩
theorem D1P.step {X Y n k : Nat} {q q' : Nat → Int} {l t : Int} (h : D1P X Y n (k + 1) q l) (hY : 0 < Y) (ht : t = l * 4294967296 + dg X k) (hq : ∀ j, j < n → q' j = if j = k then t / (Y : Int) else q j) : D1P X Y n k q' (t % (Y : Int)) := by
  obtain ⟨e1, e2⟩ := quo_digit (X := X) (k := k) hY
  have hr := dg_range X k
  have et : t = ((X / 4294967296 ^ (k + 1) % Y * 4294967296 + (dg X k).toNat : Nat) : Int) := by
    rw [ht, h.left, Int.natCast_add, Int.natCast_mul, Int.toNat_of_nonneg hr.1]; rfl
  refine ⟨by rw [e2, et, Int.natCast_emod], fun j h1 h2 => ?_⟩
  rw [hq j h2]
  by_cases e : j = k
  · subst e
    rw [if_pos rfl, et, e1, Int.natCast_ediv]
  · rw [if_neg e]
    exact h.qs j (by omega) h2

/-- By more digits: at a round's head. -/
structure D2P (X Y n i : Nat) (q : Nat → Int) (rn : Nat) (rf : Nat → Int) : Prop where
  ds : dgs rn rf
  left : vn rn rf = X / 4294967296 ^ i % Y
  len : rn = if i = n then 0 else 1 + lenDg (X / 4294967296 ^ (i + 1) % Y)
  qs : ∀ j, i ≤ j → j < n → q j = dg (X / Y) j
/-- With the next digit. -/
structure DcP (X Y n i : Nat) (q : Nat → Int) (rn : Nat) (rf : Nat → Int) : Prop where
  pos : 0 < i
  ds : dgs rn rf
  left : vn rn rf = X / 4294967296 ^ i % Y * 4294967296 + (dg X (i - 1)).toNat
  len : rn = 1 + lenDg (X / 4294967296 ^ i % Y)
  qs : ∀ j, i ≤ j → j < n → q j = dg (X / Y) j
/-- While its quotient is sought. -/
structure D3P (X Y n i : Nat) (q : Nat → Int) (rn : Nat) (rf : Nat → Int) (lo hi : Nat) : Prop where
  at' : DcP X Y n i q rn rf
  lt : lo < hi
  top : hi ≤ 4294967296
  below : Y * lo ≤ vn rn rf
  above : vn rn rf < Y * hi
theorem D2P.start {X Y n : Nat} (hX : X < 4294967296 ^ n) (q : Nat → Int) : D2P X Y n n q 0 (fun _ => 0) := ⟨⟨fun i hi => by omega⟩, by rw [Nat.div_eq_of_lt hX, Nat.zero_mod]; rfl, (if_pos rfl).symm, fun j h1 h2 => by omega⟩
theorem vn_cons {v : Int} {g rf : Nat → Int} {l : Nat} (hv : 0 ≤ v ∧ v < 4294967296) (hg : dgs l g) (h : ∀ i, i < 1 + l → rf i = bif decide (i < 1) then v else g (i - 1)) : dgs (1 + l) rf ∧ vn (1 + l) rf = vn l g * 4294967296 + v.toNat := by
  have hd : dgs (1 + l) rf := ⟨fun i hi => by
    rw [h i hi]
    by_cases e : i < 1
    · simp only [e, decide_true, cond_true]; exact hv
    · simp only [e, decide_false, cond_false]; exact hg.at' (i - 1) (by omega)⟩
  refine ⟨hd, ?_⟩
  have key : ∀ k, k ≤ l → vz rf (1 + k) = vz g k * 4294967296 + v := by
    intro k
    induction k with
    | zero =>
      intro _
      simp only [vz, Nat.add_zero]
      rw [h 0 (by omega)]
      simp
    | succ k ih =>
      intro hk
      have e : 1 + (k + 1) = (1 + k) + 1 := by omega
      rw [e]
      simp only [vz]
      rw [ih (by omega), h (1 + k) (by omega)]
      have e1 : ¬ (1 + k < 1) := by omega
      simp only [e1, decide_false, cond_false]
      rw [show 1 + k - 1 = k by omega, Int.pow_add, Int.pow_succ, Int.pow_zero, Int.one_mul]
      generalize (4294967296 : Int) ^ k = w
      grind
  have k1 := key l (Nat.le_refl _)
  have c1 := vn_cast hd
  have c2 := vn_cast hg
  omega
theorem D2P.next {X Y n k rn : Nat} {q rf rf' : Nat → Int} (h : D2P X Y n (k + 1) q rn rf) (hrf : ∀ i, i < 1 + lenDg (vn rn rf) → rf' i = bif decide (i < 1) then dg X k else dg (vn rn rf) (i - 1)) : DcP X Y n (k + 1) q (1 + lenDg (vn rn rf)) rf' := by
  obtain ⟨d1, d2⟩ := vn_cons (dg_range X k) (dgs_dg (lenDg (vn rn rf)) (vn rn rf)) hrf
  refine ⟨by omega, d1, ?_, by rw [h.left], h.qs⟩
  rw [d2, vn_dg' (lenDg_lt _), h.left]
  rfl
theorem DcP.seek {X Y n i rn : Nat} {q rf : Nat → Int} (h : DcP X Y n i q rn rf) (hY : 0 < Y) : D3P X Y n i q rn rf 0 4294967296 := by
  have hr := dg_range X (i - 1)
  have hm := Nat.mod_lt (X / 4294967296 ^ i) hY
  refine ⟨h, by decide, Nat.le_refl _, Nat.zero_le _, ?_⟩
  rw [h.left]
  have : (X / 4294967296 ^ i % Y + 1) * 4294967296 ≤ Y * 4294967296 := Nat.mul_le_mul_right _ hm
  omega
end Go.Sx
end

section
/-
  The reference's rows of digits: divisions: reckoned by the kernel. (Laid by program.)
-/
namespace Go.Proofs.Ytbjdchpncbgpnaa
open Go Go.Sx Go.RowKit
set_option maxRecDepth 100000
end Go.Proofs.Ytbjdchpncbgpnaa
end

section
/-
  The reference's rows of digits: divisions.
-/
namespace Go.Proofs.Ytbjdchpncbgpnaa
open Go Go.Sx Go.RowKit

end Go.Proofs.Ytbjdchpncbgpnaa
end

section
/-
  More shapes of cards: a number and a word under a condition; a text.
-/
namespace Go.Sx
open Go.RowKit

/-- A text. -/
def sStr (s : ByteArray) : SA := .sc (.val (.string s))
end Go.Sx
end

section
/-
  More shapes of cards: two numbers under a condition; a number and an int; a number, a word and a number.
-/
namespace Go.Sx
open Go.RowKit

end Go.Sx
end

section
/-
  More shapes of cards: three numbers.
-/
namespace Go.Sx
open Go.RowKit

end Go.Sx
end

section
/-
  Shapes of cards of functions that may call such as read or answer slices.
-/
namespace Go.Sx
open Go.RowKit
section
variable {P : Program} {cx : Cx} {sl : List (Nat × SSpec)} {f : Nat} {fn : Func}
end
end Go.Sx
end

section
/-
  The reference's rows of digits: cards.
-/
namespace Go.Proofs.Ytbjdchpncbgpnaa
open Go Go.Sx Go.RowKit

end Go.Proofs.Ytbjdchpncbgpnaa
end

section
/-
  The reference's wide numbers, and those by a modulus: reckoned by the kernel. (Laid by program.)
-/
namespace Go.Proofs.Ytbjdchpncbgpnaa
open Go Go.Sx Go.RowKit
set_option maxRecDepth 100000
end Go.Proofs.Ytbjdchpncbgpnaa
end

section
/-
  The reference's wide numbers, and those by a modulus.
-/
namespace Go.Proofs.Ytbjdchpncbgpnaa
open Go Go.Sx Go.RowKit

end Go.Proofs.Ytbjdchpncbgpnaa
end

section
/-
  The reference's quotients, and numbers by a modulus.
-/
namespace Go.Proofs.Ytbjdchpncbgpnaa
open Go Go.Sx Go.RowKit

end Go.Proofs.Ytbjdchpncbgpnaa
end

section
/-
  The reference's numbers by a modulus: sums, differences and products.
-/
namespace Go.Proofs.Ytbjdchpncbgpnaa
open Go Go.Sx Go.RowKit

theorem limb_range (a i : Nat) : 0 ≤ limb a i ∧ limb a i < 18446744073709551616 := ⟨limb_nonneg a i, limb_lt a i⟩
end Go.Proofs.Ytbjdchpncbgpnaa
end

section
/-
  What the functions of package wide, and of the laws on it, come to: reckoned by the kernel. (Laid by program.)
-/
namespace Go.Proofs.Ytbjdchpncbgpnaa
open Go.Sx
set_option maxRecDepth 100000
end Go.Proofs.Ytbjdchpncbgpnaa
end

section
/-
  What products come to: reckoned by the kernel. (Laid by program.)
-/
namespace Go.Proofs.Ytbjdchpncbgpnaa
open Go.Sx
set_option maxRecDepth 100000
end Go.Proofs.Ytbjdchpncbgpnaa
end

section
/-
  The library's counting of bits, and its quotient of two words by one: reckoned by the kernel. (Laid by program.)
-/
namespace Go.Proofs.Ytbjdchpncbgpnaa
open Go.Sx
set_option maxRecDepth 100000
/-- At the heads of the two loops: the digit and what it leaves. h', l' are the two words moved, y1, y0 the divisor's halves, U the upper word, w1, w0 the lower word's halves, s the shift. -/
structure DivAt where
  q : Nat
  r : Nat
def shY (y : Int) : Int := y * 2 ^ (64 - lenN y).toNat
def shU (h l y : Int) : Int := h * 2 ^ (64 - lenN y).toNat + l / 2 ^ (lenN y).toNat
def shL (l y : Int) : Int := l * 2 ^ (64 - lenN y).toNat % 18446744073709551616
end Go.Proofs.Ytbjdchpncbgpnaa
end

section
/-
  Quotients: reckoned by the kernel. (Laid by program.)
-/
namespace Go.Proofs.Ytbjdchpncbgpnaa
open Go.Sx
set_option maxRecDepth 100000
end Go.Proofs.Ytbjdchpncbgpnaa
end

section
/-
  Texts of numbers: reckoned by the kernel. (Laid by program.)
-/
namespace Go.Proofs.Ytbjdchpncbgpnaa
open Go.Sx
set_option maxRecDepth 100000
def byteAt (s : ByteArray) (j : Nat) : Nat := (s.data.getD j 0).toNat
end Go.Proofs.Ytbjdchpncbgpnaa
end

section
/-
  What powers of ten, and bytes, come to: reckoned by the kernel. (Laid by program.)
-/
namespace Go.Proofs.Ytbjdchpncbgpnaa
open Go.Sx
set_option maxRecDepth 100000
-- VC vc_Bytes HASH cc146449d67d07bd
theorem vc_Bytes (a : Nat) :
    Owes Try.prog Cx.none [] 400 Try.f23 [sU a] (bytesG a) =
    (Go.IntKind.u8.wrap ((Go.Sx.limb a (3 : Nat)).fdiv (72057594037927936 : Int)) = Go.Sx.by8 a (31 : Nat) ∧ Go.IntKind.u8.wrap ((Go.Sx.limb a (3 : Nat)).fdiv (281474976710656 : Int)) = Go.Sx.by8 a (30 : Nat) ∧ Go.IntKind.u8.wrap ((Go.Sx.limb a (3 : Nat)).fdiv (1099511627776 : Int)) = Go.Sx.by8 a (29 : Nat) ∧ Go.IntKind.u8.wrap ((Go.Sx.limb a (3 : Nat)).fdiv (4294967296 : Int)) = Go.Sx.by8 a (28 : Nat) ∧ Go.IntKind.u8.wrap ((Go.Sx.limb a (3 : Nat)).fdiv (16777216 : Int)) = Go.Sx.by8 a (27 : Nat) ∧ Go.IntKind.u8.wrap ((Go.Sx.limb a (3 : Nat)).fdiv (65536 : Int)) = Go.Sx.by8 a (26 : Nat) ∧ Go.IntKind.u8.wrap ((Go.Sx.limb a (3 : Nat)).fdiv (256 : Int)) = Go.Sx.by8 a (25 : Nat) ∧ Go.IntKind.u8.wrap ((Go.Sx.limb a (3 : Nat)).fdiv (1 : Int)) = Go.Sx.by8 a (24 : Nat) ∧ Go.IntKind.u8.wrap ((Go.Sx.limb a (2 : Nat)).fdiv (72057594037927936 : Int)) = Go.Sx.by8 a (23 : Nat) ∧ Go.IntKind.u8.wrap ((Go.Sx.limb a (2 : Nat)).fdiv (281474976710656 : Int)) = Go.Sx.by8 a (22 : Nat) ∧ Go.IntKind.u8.wrap ((Go.Sx.limb a (2 : Nat)).fdiv (1099511627776 : Int)) = Go.Sx.by8 a (21 : Nat) ∧ Go.IntKind.u8.wrap ((Go.Sx.limb a (2 : Nat)).fdiv (4294967296 : Int)) = Go.Sx.by8 a (20 : Nat) ∧ Go.IntKind.u8.wrap ((Go.Sx.limb a (2 : Nat)).fdiv (16777216 : Int)) = Go.Sx.by8 a (19 : Nat) ∧ Go.IntKind.u8.wrap ((Go.Sx.limb a (2 : Nat)).fdiv (65536 : Int)) = Go.Sx.by8 a (18 : Nat) ∧ Go.IntKind.u8.wrap ((Go.Sx.limb a (2 : Nat)).fdiv (256 : Int)) = Go.Sx.by8 a (17 : Nat) ∧ Go.IntKind.u8.wrap ((Go.Sx.limb a (2 : Nat)).fdiv (1 : Int)) = Go.Sx.by8 a (16 : Nat) ∧ Go.IntKind.u8.wrap ((Go.Sx.limb a (1 : Nat)).fdiv (72057594037927936 : Int)) = Go.Sx.by8 a (15 : Nat) ∧ Go.IntKind.u8.wrap ((Go.Sx.limb a (1 : Nat)).fdiv (281474976710656 : Int)) = Go.Sx.by8 a (14 : Nat) ∧ Go.IntKind.u8.wrap ((Go.Sx.limb a (1 : Nat)).fdiv (1099511627776 : Int)) = Go.Sx.by8 a (13 : Nat) ∧ Go.IntKind.u8.wrap ((Go.Sx.limb a (1 : Nat)).fdiv (4294967296 : Int)) = Go.Sx.by8 a (12 : Nat) ∧ Go.IntKind.u8.wrap ((Go.Sx.limb a (1 : Nat)).fdiv (16777216 : Int)) = Go.Sx.by8 a (11 : Nat) ∧ Go.IntKind.u8.wrap ((Go.Sx.limb a (1 : Nat)).fdiv (65536 : Int)) = Go.Sx.by8 a (10 : Nat) ∧ Go.IntKind.u8.wrap ((Go.Sx.limb a (1 : Nat)).fdiv (256 : Int)) = Go.Sx.by8 a (9 : Nat) ∧ Go.IntKind.u8.wrap ((Go.Sx.limb a (1 : Nat)).fdiv (1 : Int)) = Go.Sx.by8 a (8 : Nat) ∧ Go.IntKind.u8.wrap ((Go.Sx.limb a (0 : Nat)).fdiv (72057594037927936 : Int)) = Go.Sx.by8 a (7 : Nat) ∧ Go.IntKind.u8.wrap ((Go.Sx.limb a (0 : Nat)).fdiv (281474976710656 : Int)) = Go.Sx.by8 a (6 : Nat) ∧ Go.IntKind.u8.wrap ((Go.Sx.limb a (0 : Nat)).fdiv (1099511627776 : Int)) = Go.Sx.by8 a (5 : Nat) ∧ Go.IntKind.u8.wrap ((Go.Sx.limb a (0 : Nat)).fdiv (4294967296 : Int)) = Go.Sx.by8 a (4 : Nat) ∧ Go.IntKind.u8.wrap ((Go.Sx.limb a (0 : Nat)).fdiv (16777216 : Int)) = Go.Sx.by8 a (3 : Nat) ∧ Go.IntKind.u8.wrap ((Go.Sx.limb a (0 : Nat)).fdiv (65536 : Int)) = Go.Sx.by8 a (2 : Nat) ∧ Go.IntKind.u8.wrap ((Go.Sx.limb a (0 : Nat)).fdiv (256 : Int)) = Go.Sx.by8 a (1 : Nat) ∧ Go.IntKind.u8.wrap ((Go.Sx.limb a (0 : Nat)).fdiv (1 : Int)) = Go.Sx.by8 a (0 : Nat) ∧ True) := by kernel_rfl
-- END VC
-- VC vc_From HASH 9303699a2049e94b
theorem vc_From (g : Nat → Int) :
    Owes Try.prog Cx.none [] 400 Try.f24 [sBy 32 g] (fromG g) =
    (let x1 : Int := Go.IntKind.u64.wrap (↑(BitVec.ofInt (64 : Nat) (Go.IntKind.u64.wrap (↑(BitVec.ofInt (64 : Nat) (Go.IntKind.u64.wrap (↑(BitVec.ofInt (64 : Nat) (Go.IntKind.u64.wrap (↑(BitVec.ofInt (64 : Nat) (Go.IntKind.u64.wrap (↑(BitVec.ofInt (64 : Nat) (Go.IntKind.u64.wrap (↑(BitVec.ofInt (64 : Nat) (Go.IntKind.u64.wrap (↑(BitVec.ofInt (64 : Nat) (Go.IntKind.u64.wrap (↑(BitVec.ofInt (64 : Nat) (0 : Int) ||| BitVec.ofInt (64 : Nat) (Go.IntKind.u64.wrap (Go.IntKind.u64.wrap (g (31 : Nat)) * (1 : Int)))).toNat : Int)) ||| BitVec.ofInt (64 : Nat) (Go.IntKind.u64.wrap (Go.IntKind.u64.wrap (g (30 : Nat)) * (256 : Int)))).toNat : Int)) ||| BitVec.ofInt (64 : Nat) (Go.IntKind.u64.wrap (Go.IntKind.u64.wrap (g (29 : Nat)) * (65536 : Int)))).toNat : Int)) ||| BitVec.ofInt (64 : Nat) (Go.IntKind.u64.wrap (Go.IntKind.u64.wrap (g (28 : Nat)) * (16777216 : Int)))).toNat : Int)) ||| BitVec.ofInt (64 : Nat) (Go.IntKind.u64.wrap (Go.IntKind.u64.wrap (g (27 : Nat)) * (4294967296 : Int)))).toNat : Int)) ||| BitVec.ofInt (64 : Nat) (Go.IntKind.u64.wrap (Go.IntKind.u64.wrap (g (26 : Nat)) * (1099511627776 : Int)))).toNat : Int)) ||| BitVec.ofInt (64 : Nat) (Go.IntKind.u64.wrap (Go.IntKind.u64.wrap (g (25 : Nat)) * (281474976710656 : Int)))).toNat : Int)) ||| BitVec.ofInt (64 : Nat) (Go.IntKind.u64.wrap (Go.IntKind.u64.wrap (g (24 : Nat)) * (72057594037927936 : Int)))).toNat : Int); let x2 : Int := Go.IntKind.u64.wrap (↑(BitVec.ofInt (64 : Nat) (Go.IntKind.u64.wrap (↑(BitVec.ofInt (64 : Nat) (Go.IntKind.u64.wrap (↑(BitVec.ofInt (64 : Nat) (Go.IntKind.u64.wrap (↑(BitVec.ofInt (64 : Nat) (Go.IntKind.u64.wrap (↑(BitVec.ofInt (64 : Nat) (Go.IntKind.u64.wrap (↑(BitVec.ofInt (64 : Nat) (Go.IntKind.u64.wrap (↑(BitVec.ofInt (64 : Nat) (Go.IntKind.u64.wrap (↑(BitVec.ofInt (64 : Nat) (0 : Int) ||| BitVec.ofInt (64 : Nat) (Go.IntKind.u64.wrap (Go.IntKind.u64.wrap (g (23 : Nat)) * (1 : Int)))).toNat : Int)) ||| BitVec.ofInt (64 : Nat) (Go.IntKind.u64.wrap (Go.IntKind.u64.wrap (g (22 : Nat)) * (256 : Int)))).toNat : Int)) ||| BitVec.ofInt (64 : Nat) (Go.IntKind.u64.wrap (Go.IntKind.u64.wrap (g (21 : Nat)) * (65536 : Int)))).toNat : Int)) ||| BitVec.ofInt (64 : Nat) (Go.IntKind.u64.wrap (Go.IntKind.u64.wrap (g (20 : Nat)) * (16777216 : Int)))).toNat : Int)) ||| BitVec.ofInt (64 : Nat) (Go.IntKind.u64.wrap (Go.IntKind.u64.wrap (g (19 : Nat)) * (4294967296 : Int)))).toNat : Int)) ||| BitVec.ofInt (64 : Nat) (Go.IntKind.u64.wrap (Go.IntKind.u64.wrap (g (18 : Nat)) * (1099511627776 : Int)))).toNat : Int)) ||| BitVec.ofInt (64 : Nat) (Go.IntKind.u64.wrap (Go.IntKind.u64.wrap (g (17 : Nat)) * (281474976710656 : Int)))).toNat : Int)) ||| BitVec.ofInt (64 : Nat) (Go.IntKind.u64.wrap (Go.IntKind.u64.wrap (g (16 : Nat)) * (72057594037927936 : Int)))).toNat : Int); let x3 : Int := Go.IntKind.u64.wrap (↑(BitVec.ofInt (64 : Nat) (Go.IntKind.u64.wrap (↑(BitVec.ofInt (64 : Nat) (Go.IntKind.u64.wrap (↑(BitVec.ofInt (64 : Nat) (Go.IntKind.u64.wrap (↑(BitVec.ofInt (64 : Nat) (Go.IntKind.u64.wrap (↑(BitVec.ofInt (64 : Nat) (Go.IntKind.u64.wrap (↑(BitVec.ofInt (64 : Nat) (Go.IntKind.u64.wrap (↑(BitVec.ofInt (64 : Nat) (Go.IntKind.u64.wrap (↑(BitVec.ofInt (64 : Nat) (0 : Int) ||| BitVec.ofInt (64 : Nat) (Go.IntKind.u64.wrap (Go.IntKind.u64.wrap (g (15 : Nat)) * (1 : Int)))).toNat : Int)) ||| BitVec.ofInt (64 : Nat) (Go.IntKind.u64.wrap (Go.IntKind.u64.wrap (g (14 : Nat)) * (256 : Int)))).toNat : Int)) ||| BitVec.ofInt (64 : Nat) (Go.IntKind.u64.wrap (Go.IntKind.u64.wrap (g (13 : Nat)) * (65536 : Int)))).toNat : Int)) ||| BitVec.ofInt (64 : Nat) (Go.IntKind.u64.wrap (Go.IntKind.u64.wrap (g (12 : Nat)) * (16777216 : Int)))).toNat : Int)) ||| BitVec.ofInt (64 : Nat) (Go.IntKind.u64.wrap (Go.IntKind.u64.wrap (g (11 : Nat)) * (4294967296 : Int)))).toNat : Int)) ||| BitVec.ofInt (64 : Nat) (Go.IntKind.u64.wrap (Go.IntKind.u64.wrap (g (10 : Nat)) * (1099511627776 : Int)))).toNat : Int)) ||| BitVec.ofInt (64 : Nat) (Go.IntKind.u64.wrap (Go.IntKind.u64.wrap (g (9 : Nat)) * (281474976710656 : Int)))).toNat : Int)) ||| BitVec.ofInt (64 : Nat) (Go.IntKind.u64.wrap (Go.IntKind.u64.wrap (g (8 : Nat)) * (72057594037927936 : Int)))).toNat : Int); let x4 : Int := Go.IntKind.u64.wrap (↑(BitVec.ofInt (64 : Nat) (Go.IntKind.u64.wrap (↑(BitVec.ofInt (64 : Nat) (Go.IntKind.u64.wrap (↑(BitVec.ofInt (64 : Nat) (Go.IntKind.u64.wrap (↑(BitVec.ofInt (64 : Nat) (Go.IntKind.u64.wrap (↑(BitVec.ofInt (64 : Nat) (Go.IntKind.u64.wrap (↑(BitVec.ofInt (64 : Nat) (Go.IntKind.u64.wrap (↑(BitVec.ofInt (64 : Nat) (Go.IntKind.u64.wrap (↑(BitVec.ofInt (64 : Nat) (0 : Int) ||| BitVec.ofInt (64 : Nat) (Go.IntKind.u64.wrap (Go.IntKind.u64.wrap (g (7 : Nat)) * (1 : Int)))).toNat : Int)) ||| BitVec.ofInt (64 : Nat) (Go.IntKind.u64.wrap (Go.IntKind.u64.wrap (g (6 : Nat)) * (256 : Int)))).toNat : Int)) ||| BitVec.ofInt (64 : Nat) (Go.IntKind.u64.wrap (Go.IntKind.u64.wrap (g (5 : Nat)) * (65536 : Int)))).toNat : Int)) ||| BitVec.ofInt (64 : Nat) (Go.IntKind.u64.wrap (Go.IntKind.u64.wrap (g (4 : Nat)) * (16777216 : Int)))).toNat : Int)) ||| BitVec.ofInt (64 : Nat) (Go.IntKind.u64.wrap (Go.IntKind.u64.wrap (g (3 : Nat)) * (4294967296 : Int)))).toNat : Int)) ||| BitVec.ofInt (64 : Nat) (Go.IntKind.u64.wrap (Go.IntKind.u64.wrap (g (2 : Nat)) * (1099511627776 : Int)))).toNat : Int)) ||| BitVec.ofInt (64 : Nat) (Go.IntKind.u64.wrap (Go.IntKind.u64.wrap (g (1 : Nat)) * (281474976710656 : Int)))).toNat : Int)) ||| BitVec.ofInt (64 : Nat) (Go.IntKind.u64.wrap (Go.IntKind.u64.wrap (g (0 : Nat)) * (72057594037927936 : Int)))).toNat : Int); ((0 : Int) ≤ x1 ∧ x1 < (18446744073709551616 : Int)) ∧ ((0 : Int) ≤ x2 ∧ x2 < (18446744073709551616 : Int)) ∧ ((0 : Int) ≤ x3 ∧ x3 < (18446744073709551616 : Int)) ∧ ((0 : Int) ≤ x4 ∧ x4 < (18446744073709551616 : Int)) ∧ Go.Sx.join x1 x2 x3 x4 % Go.Sx.M256 = Go.Sx.fromN g (32 : Nat) % Go.Sx.M256 ∧ True) := by kernel_rfl
-- END VC
end Go.Proofs.Ytbjdchpncbgpnaa
end

section
/-
  Package wide's functions, each held to its card: the numbers' side.
-/
namespace Go.Proofs.Ytbjdchpncbgpnaa
open Go.Sx

end Go.Proofs.Ytbjdchpncbgpnaa
end

section
/-
  The laws' drawn numbers, and the laws of sums: the numbers' side.
-/
namespace Go.Proofs.Ytbjdchpncbgpnaa
open Go.Sx

end Go.Proofs.Ytbjdchpncbgpnaa
end

section
/-
  Products: the numbers' side.
-/
namespace Go.Proofs.Ytbjdchpncbgpnaa
open Go.Sx

theorem wrap_id {n : Int} (h : 0 ≤ n ∧ n < 18446744073709551616) : IntKind.u64.wrap n = n := by
  unfold IntKind.wrap
  simp [IntKind.signed, IntKind.bits]
  omega

end Go.Proofs.Ytbjdchpncbgpnaa
end

section
/-
  A number taken so often as a word says, and the product of two words: the numbers' side.
-/
namespace Go.Proofs.Ytbjdchpncbgpnaa
open Go.Sx

end Go.Proofs.Ytbjdchpncbgpnaa
end

section
/-
  The product of two words, in full.
-/
namespace Go.Proofs.Ytbjdchpncbgpnaa
open Go.Sx

end Go.Proofs.Ytbjdchpncbgpnaa
end

section
/-
  The laws of products: the numbers' side.
-/
namespace Go.Proofs.Ytbjdchpncbgpnaa
open Go.Sx

end Go.Proofs.Ytbjdchpncbgpnaa
end

section
/-
  A sum is taken so often as its parts are: the numbers' side.
-/
namespace Go.Proofs.Ytbjdchpncbgpnaa
open Go.Sx

theorem halves (x y z : Nat) : x * z % M256 + y * z % M256 = (x % M256 * (z % M256)) % M256 + (y % M256 * (z % M256)) % M256 := by
  rw [Nat.mul_mod x, Nat.mul_mod y]

end Go.Proofs.Ytbjdchpncbgpnaa
end

section
/-
  The cards of package wide's functions, one upon another.
-/
namespace Go.Proofs.Ytbjdchpncbgpnaa
open Go.Sx

theorem CxOK_nil : CxOK Try.prog Cx.none := fun _ h => by cases h
theorem CxOK_cons {f : Nat} {s : FSpec} {l : List (Nat × FSpec)} {gl : Globs} (h : FnOKg Try.prog gl f s) (hs : CxOK Try.prog ⟨l, gl, 0⟩) : CxOK Try.prog ⟨(f, s) :: l, gl, 0⟩ := by
  intro p hp
  rcases List.mem_cons.1 hp with rfl | hp
  · exact h
  · exact hs p hp

theorem bnd_U (n : Nat) : SA.bnd none0 (sU n) := by
  intro k hk; simp only [List.mem_singleton] at hk; subst hk; trivial
theorem bnd_one {x : SA} (h : x.bnd none0) : SV.bnd none0 (.one x) := h
end Go.Proofs.Ytbjdchpncbgpnaa
end

section
/-
  The cards of products.
-/
namespace Go.Proofs.Ytbjdchpncbgpnaa
open Go.Sx

end Go.Proofs.Ytbjdchpncbgpnaa
end

section
/-
  The bytes of a number: the numbers' side.
-/
namespace Go.Proofs.Ytbjdchpncbgpnaa
open Go.Sx

theorem byte_cut (c m : Nat) (hm : m < 8) : c % 2 ^ 64 / 2 ^ (8 * m) % 256 = c / 2 ^ (8 * m) % 256 := by
  match m, hm with
  | 0, _ | 1, _ | 2, _ | 3, _ | 4, _ | 5, _ | 6, _ | 7, _ => all_goals (simp only [Nat.reduceMul, Nat.reducePow, Nat.pow_zero]; omega)
theorem u8_wrap (n : Nat) : IntKind.u8.wrap (n : Int) = ((n % 256 : Nat) : Int) := by
  unfold IntKind.wrap
  simp [IntKind.signed, IntKind.bits]
theorem byte_of (a i m j : Nat) (d : Int) (hm : m < 8) (hd : d = ((2 ^ (8 * m) : Nat) : Int)) (hj : j = 8 * i + m) : IntKind.u8.wrap ((limb a i).fdiv d) = by8 a j := by
  subst hd hj
  unfold limb by8
  rw [Int.fdiv_eq_ediv_of_nonneg _ (Int.natCast_nonneg _), ← Int.natCast_ediv, u8_wrap, byte_cut _ _ hm, Nat.div_div_eq_div_mul, ← Nat.pow_add]
  have : 64 * i + 8 * m = 8 * (8 * i + m) := by omega
  rw [this]

theorem ok_Bytes : ∀ a, Owes Try.prog Cx.none [] 400 Try.f23 [sU a] (bytesG a) := by
  intro a
  rw [vc_Bytes]
  have h : ∀ i m j d, m < 8 → d = ((2 ^ (8 * m) : Nat) : Int) → j = 8 * i + m → IntKind.u8.wrap ((limb a i).fdiv d) = by8 a j := fun i m j d => byte_of a i m j d
  exact ⟨h 3 7 _ _ (by decide) rfl rfl,
    h 3 6 _ _ (by decide) rfl rfl,
    h 3 5 _ _ (by decide) rfl rfl,
    h 3 4 _ _ (by decide) rfl rfl,
    h 3 3 _ _ (by decide) rfl rfl,
    h 3 2 _ _ (by decide) rfl rfl,
    h 3 1 _ _ (by decide) rfl rfl,
    h 3 0 _ _ (by decide) rfl rfl,
    h 2 7 _ _ (by decide) rfl rfl,
    h 2 6 _ _ (by decide) rfl rfl,
    h 2 5 _ _ (by decide) rfl rfl,
    h 2 4 _ _ (by decide) rfl rfl,
    h 2 3 _ _ (by decide) rfl rfl,
    h 2 2 _ _ (by decide) rfl rfl,
    h 2 1 _ _ (by decide) rfl rfl,
    h 2 0 _ _ (by decide) rfl rfl,
    h 1 7 _ _ (by decide) rfl rfl,
    h 1 6 _ _ (by decide) rfl rfl,
    h 1 5 _ _ (by decide) rfl rfl,
    h 1 4 _ _ (by decide) rfl rfl,
    h 1 3 _ _ (by decide) rfl rfl,
    h 1 2 _ _ (by decide) rfl rfl,
    h 1 1 _ _ (by decide) rfl rfl,
    h 1 0 _ _ (by decide) rfl rfl,
    h 0 7 _ _ (by decide) rfl rfl,
    h 0 6 _ _ (by decide) rfl rfl,
    h 0 5 _ _ (by decide) rfl rfl,
    h 0 4 _ _ (by decide) rfl rfl,
    h 0 3 _ _ (by decide) rfl rfl,
    h 0 2 _ _ (by decide) rfl rfl,
    h 0 1 _ _ (by decide) rfl rfl,
    h 0 0 _ _ (by decide) rfl rfl, trivial⟩

theorem pow8_le (m : Nat) (hm : m < 8) : 2 ^ (8 * m) * 256 ≤ 18446744073709551616 := by
  have h : 2 ^ (8 * m) ≤ 2 ^ 56 := Nat.pow_le_pow_right (by decide) (by omega)
  omega
theorem or_step (x : Int) (y : Int) (m : Nat) (d : Int) (hx : 0 ≤ x ∧ x < d) (hy : 0 ≤ y ∧ y < 256) (hm : m < 8) (hd : d = ((2 ^ (8 * m) : Nat) : Int)) :
    IntKind.u64.wrap ((BitVec.ofInt 64 x ||| BitVec.ofInt 64 (IntKind.u64.wrap (IntKind.u64.wrap y * d))).toNat : Int) = x + y * d ∧ 0 ≤ x + y * d ∧ x + y * d < d * 256 := by
  subst hd
  obtain ⟨x, rfl⟩ := Int.eq_ofNat_of_zero_le hx.1
  obtain ⟨y, rfl⟩ := Int.eq_ofNat_of_zero_le hy.1
  have hx' : x < 2 ^ (8 * m) := Int.ofNat_lt.1 hx.2
  have hy' : y < 256 := by omega
  have hp := pow8_le m hm
  have hyd : y * 2 ^ (8 * m) + 2 ^ (8 * m) ≤ 2 ^ (8 * m) * 256 := by
    have : (y + 1) * 2 ^ (8 * m) ≤ 256 * 2 ^ (8 * m) := Nat.mul_le_mul_right _ (by omega)
    rw [Nat.add_mul, Nat.one_mul, Nat.mul_comm 256] at this
    exact this
  have hd0 : 0 < 2 ^ (8 * m) := Nat.two_pow_pos _
  generalize hD : 2 ^ (8 * m) = D at *
  have e0 : IntKind.u64.wrap (y : Int) = y := wrap_id ⟨by omega, by omega⟩
  have e1 : (y : Int) * (D : Int) = ((y * D : Nat) : Int) := (Int.natCast_mul y D).symm
  rw [e0, e1, wrap_id (n := ((y * D : Nat) : Int)) ⟨by omega, by omega⟩]
  have b1 : (BitVec.ofInt 64 (x : Int)).toNat = x := by rw [BitVec.toNat_ofInt]; omega
  have b2 : (BitVec.ofInt 64 ((y * D : Nat) : Int)).toNat = y * D := by rw [BitVec.toNat_ofInt]; omega
  rw [BitVec.toNat_or, b1, b2]
  have ho : x ||| y * D = y * D + x := by
    rw [Nat.or_comm, ← hD, Nat.mul_comm]
    exact (Nat.two_pow_add_eq_or_of_lt (by rw [hD]; exact hx') y).symm
  rw [ho, wrap_id ⟨by omega, by omega⟩]
  omega

theorem or_row (g : Nat → Int) (i : Nat) (h0 : 0 ≤ g i ∧ g i < 256) (h1 : 0 ≤ g (i - 1) ∧ g (i - 1) < 256) (h2 : 0 ≤ g (i - 2) ∧ g (i - 2) < 256) (h3 : 0 ≤ g (i - 3) ∧ g (i - 3) < 256)
    (h4 : 0 ≤ g (i - 4) ∧ g (i - 4) < 256) (h5 : 0 ≤ g (i - 5) ∧ g (i - 5) < 256) (h6 : 0 ≤ g (i - 6) ∧ g (i - 6) < 256) (h7 : 0 ≤ g (i - 7) ∧ g (i - 7) < 256) (r : Int)
    (hr : r = IntKind.u64.wrap ((BitVec.ofInt 64 (IntKind.u64.wrap ((BitVec.ofInt 64 (IntKind.u64.wrap ((BitVec.ofInt 64 (IntKind.u64.wrap ((BitVec.ofInt 64 (IntKind.u64.wrap ((BitVec.ofInt 64 (IntKind.u64.wrap ((BitVec.ofInt 64 (IntKind.u64.wrap ((BitVec.ofInt 64 (IntKind.u64.wrap ((BitVec.ofInt 64 (0 : Int) |||
      BitVec.ofInt 64 (IntKind.u64.wrap (IntKind.u64.wrap (g i) * 1))).toNat : Int)) |||
      BitVec.ofInt 64 (IntKind.u64.wrap (IntKind.u64.wrap (g (i - 1)) * 256))).toNat : Int)) |||
      BitVec.ofInt 64 (IntKind.u64.wrap (IntKind.u64.wrap (g (i - 2)) * 65536))).toNat : Int)) |||
      BitVec.ofInt 64 (IntKind.u64.wrap (IntKind.u64.wrap (g (i - 3)) * 16777216))).toNat : Int)) |||
      BitVec.ofInt 64 (IntKind.u64.wrap (IntKind.u64.wrap (g (i - 4)) * 4294967296))).toNat : Int)) |||
      BitVec.ofInt 64 (IntKind.u64.wrap (IntKind.u64.wrap (g (i - 5)) * 1099511627776))).toNat : Int)) |||
      BitVec.ofInt 64 (IntKind.u64.wrap (IntKind.u64.wrap (g (i - 6)) * 281474976710656))).toNat : Int)) |||
      BitVec.ofInt 64 (IntKind.u64.wrap (IntKind.u64.wrap (g (i - 7)) * 72057594037927936))).toNat : Int)) :
    r = g i + 256 * g (i - 1) + 65536 * g (i - 2) + 16777216 * g (i - 3) + 4294967296 * g (i - 4) + 1099511627776 * g (i - 5) + 281474976710656 * g (i - 6) + 72057594037927936 * g (i - 7) := by
  obtain ⟨e0, a0, b0⟩ := or_step 0 (g i) 0 1 (by decide) h0 (by decide) rfl
  rw [e0] at hr
  obtain ⟨e1, a1, b1⟩ := or_step _ (g (i - 1)) 1 256 ⟨a0, b0⟩ h1 (by decide) rfl
  rw [e1] at hr
  obtain ⟨e2, a2, b2⟩ := or_step _ (g (i - 2)) 2 65536 ⟨a1, b1⟩ h2 (by decide) rfl
  rw [e2] at hr
  obtain ⟨e3, a3, b3⟩ := or_step _ (g (i - 3)) 3 16777216 ⟨a2, b2⟩ h3 (by decide) rfl
  rw [e3] at hr
  obtain ⟨e4, a4, b4⟩ := or_step _ (g (i - 4)) 4 4294967296 ⟨a3, b3⟩ h4 (by decide) rfl
  rw [e4] at hr
  obtain ⟨e5, a5, b5⟩ := or_step _ (g (i - 5)) 5 1099511627776 ⟨a4, b4⟩ h5 (by decide) rfl
  rw [e5] at hr
  obtain ⟨e6, a6, b6⟩ := or_step _ (g (i - 6)) 6 281474976710656 ⟨a5, b5⟩ h6 (by decide) rfl
  rw [e6] at hr
  obtain ⟨e7, a7, b7⟩ := or_step _ (g (i - 7)) 7 72057594037927936 ⟨a6, b6⟩ h7 (by decide) rfl
  rw [e7] at hr
  rw [hr]
  omega

theorem fromN_join (g : Nat → Int) (h : byteOK 32 g) (r0 r1 r2 r3 : Int)
    (h0 : r0 = g 31 + 256 * g 30 + 65536 * g 29 + 16777216 * g 28 + 4294967296 * g 27 + 1099511627776 * g 26 + 281474976710656 * g 25 + 72057594037927936 * g 24)
    (h1 : r1 = g 23 + 256 * g 22 + 65536 * g 21 + 16777216 * g 20 + 4294967296 * g 19 + 1099511627776 * g 18 + 281474976710656 * g 17 + 72057594037927936 * g 16)
    (h2 : r2 = g 15 + 256 * g 14 + 65536 * g 13 + 16777216 * g 12 + 4294967296 * g 11 + 1099511627776 * g 10 + 281474976710656 * g 9 + 72057594037927936 * g 8)
    (h3 : r3 = g 7 + 256 * g 6 + 65536 * g 5 + 16777216 * g 4 + 4294967296 * g 3 + 1099511627776 * g 2 + 281474976710656 * g 1 + 72057594037927936 * g 0) :
    (0 ≤ r0 ∧ r0 < 18446744073709551616) ∧ (0 ≤ r1 ∧ r1 < 18446744073709551616) ∧ (0 ≤ r2 ∧ r2 < 18446744073709551616) ∧ (0 ≤ r3 ∧ r3 < 18446744073709551616) ∧ join r0 r1 r2 r3 = fromN g 32 := by
  have hb : ∀ j, j < 32 → ∃ b : Nat, g j = b ∧ b < 256 := fun j hj => ⟨(g j).toNat, by have := h j hj; omega, by have := h j hj; omega⟩
  obtain ⟨b0, e0, l0⟩ := hb 0 (by decide)
  obtain ⟨b1, e1, l1⟩ := hb 1 (by decide)
  obtain ⟨b2, e2, l2⟩ := hb 2 (by decide)
  obtain ⟨b3, e3, l3⟩ := hb 3 (by decide)
  obtain ⟨b4, e4, l4⟩ := hb 4 (by decide)
  obtain ⟨b5, e5, l5⟩ := hb 5 (by decide)
  obtain ⟨b6, e6, l6⟩ := hb 6 (by decide)
  obtain ⟨b7, e7, l7⟩ := hb 7 (by decide)
  obtain ⟨b8, e8, l8⟩ := hb 8 (by decide)
  obtain ⟨b9, e9, l9⟩ := hb 9 (by decide)
  obtain ⟨b10, e10, l10⟩ := hb 10 (by decide)
  obtain ⟨b11, e11, l11⟩ := hb 11 (by decide)
  obtain ⟨b12, e12, l12⟩ := hb 12 (by decide)
  obtain ⟨b13, e13, l13⟩ := hb 13 (by decide)
  obtain ⟨b14, e14, l14⟩ := hb 14 (by decide)
  obtain ⟨b15, e15, l15⟩ := hb 15 (by decide)
  obtain ⟨b16, e16, l16⟩ := hb 16 (by decide)
  obtain ⟨b17, e17, l17⟩ := hb 17 (by decide)
  obtain ⟨b18, e18, l18⟩ := hb 18 (by decide)
  obtain ⟨b19, e19, l19⟩ := hb 19 (by decide)
  obtain ⟨b20, e20, l20⟩ := hb 20 (by decide)
  obtain ⟨b21, e21, l21⟩ := hb 21 (by decide)
  obtain ⟨b22, e22, l22⟩ := hb 22 (by decide)
  obtain ⟨b23, e23, l23⟩ := hb 23 (by decide)
  obtain ⟨b24, e24, l24⟩ := hb 24 (by decide)
  obtain ⟨b25, e25, l25⟩ := hb 25 (by decide)
  obtain ⟨b26, e26, l26⟩ := hb 26 (by decide)
  obtain ⟨b27, e27, l27⟩ := hb 27 (by decide)
  obtain ⟨b28, e28, l28⟩ := hb 28 (by decide)
  obtain ⟨b29, e29, l29⟩ := hb 29 (by decide)
  obtain ⟨b30, e30, l30⟩ := hb 30 (by decide)
  obtain ⟨b31, e31, l31⟩ := hb 31 (by decide)
  simp only [fromN, Nat.sub_zero, Nat.reduceSub, e0, e1, e2, e3, e4, e5, e6, e7, e8, e9, e10, e11, e12, e13, e14, e15, e16, e17, e18, e19, e20, e21, e22, e23, e24, e25, e26, e27, e28, e29, e30, e31] at *
  clear h hb e0 e1 e2 e3 e4 e5 e6 e7 e8 e9 e10 e11 e12 e13 e14 e15 e16 e17 e18 e19 e20 e21 e22 e23 e24 e25 e26 e27 e28 e29 e30 e31
  have k0 : r0.toNat = b31 + 256 * b30 + 65536 * b29 + 16777216 * b28 + 4294967296 * b27 + 1099511627776 * b26 + 281474976710656 * b25 + 72057594037927936 * b24 := by omega
  have k1 : r1.toNat = b23 + 256 * b22 + 65536 * b21 + 16777216 * b20 + 4294967296 * b19 + 1099511627776 * b18 + 281474976710656 * b17 + 72057594037927936 * b16 := by omega
  have k2 : r2.toNat = b15 + 256 * b14 + 65536 * b13 + 16777216 * b12 + 4294967296 * b11 + 1099511627776 * b10 + 281474976710656 * b9 + 72057594037927936 * b8 := by omega
  have k3 : r3.toNat = b7 + 256 * b6 + 65536 * b5 + 16777216 * b4 + 4294967296 * b3 + 1099511627776 * b2 + 281474976710656 * b1 + 72057594037927936 * b0 := by omega
  refine ⟨by omega, by omega, by omega, by omega, ?_⟩
  unfold join
  rw [k0, k1, k2, k3]
  simp only [Nat.reducePow, Int.toNat_natCast]
  omega

theorem ok_From : ∀ g, byteOK 32 g → Owes Try.prog Cx.none [] 400 Try.f24 [sBy 32 g] (fromG g) := by
  intro g hg
  rw [vc_From]
  intro x1 x2 x3 x4
  have hb : ∀ j, j < 32 → 0 ≤ g j ∧ g j < 256 := hg
  have e1 := or_row g 31 (hb _ (by decide)) (hb _ (by decide)) (hb _ (by decide)) (hb _ (by decide)) (hb _ (by decide)) (hb _ (by decide)) (hb _ (by decide)) (hb _ (by decide)) x1 rfl
  have e2 := or_row g 23 (hb _ (by decide)) (hb _ (by decide)) (hb _ (by decide)) (hb _ (by decide)) (hb _ (by decide)) (hb _ (by decide)) (hb _ (by decide)) (hb _ (by decide)) x2 rfl
  have e3 := or_row g 15 (hb _ (by decide)) (hb _ (by decide)) (hb _ (by decide)) (hb _ (by decide)) (hb _ (by decide)) (hb _ (by decide)) (hb _ (by decide)) (hb _ (by decide)) x3 rfl
  have e4 := or_row g 7 (hb _ (by decide)) (hb _ (by decide)) (hb _ (by decide)) (hb _ (by decide)) (hb _ (by decide)) (hb _ (by decide)) (hb _ (by decide)) (hb _ (by decide)) x4 rfl
  clear_value x1 x2 x3 x4
  obtain ⟨k0, k1, k2, k3, kj⟩ := fromN_join g hg x1 x2 x3 x4 e1 e2 e3 e4
  rw [kj]
  exact ⟨k0, k1, k2, k3, rfl, trivial⟩
theorem card_Bytes : FnOK Try.prog 23 (specU bytesG) :=
  FnOK_U CxOK_nil (iv := []) (N := 400) Try.func23 (by kernel_rfl) (by kernel_rfl) (fun a => by unfold bytesG; intro k hk; simp only [List.mem_singleton] at hk; subst hk; trivial) ok_Bytes
theorem card_From : FnOK Try.prog 24 (specB fromG) :=
  FnOK_B CxOK_nil (iv := []) (N := 400) Try.func24 (by kernel_rfl) (by kernel_rfl) (fun g => by unfold fromG; exact bnd_one (bnd_U _)) ok_From
end Go.Proofs.Ytbjdchpncbgpnaa
end

section
/-
  How many bits a word has.
-/
namespace Go.Proofs.Ytbjdchpncbgpnaa
open Go.Sx

end Go.Proofs.Ytbjdchpncbgpnaa
end

section
/-
  A quotient of two words by one, half a word at a time: the numbers' side.
-/
namespace Go.Proofs.Ytbjdchpncbgpnaa
open Go.Sx

/-! ## One digit -/
structure Dig (Y y1 y0 U w : Nat) : Prop where
  hY : Y = y1 * 4294967296 + y0
  h0 : y0 < 4294967296
  h1 : 2147483648 ≤ y1
  h1' : y1 < 4294967296
  hU : U < Y
  hw : w < 4294967296
structure DigAt (Y y1 y0 U w q r : Nat) : Prop extends Dig Y y1 y0 U w where
  hq : q * y1 + r = U
  hr : r < 4294967296
  hQ : (U * 4294967296 + w) / Y ≤ q
  hq' : q ≤ 4294967297
theorem Dig.pos {Y y1 y0 U w : Nat} (h : Dig Y y1 y0 U w) : 0 < Y := by have := h.hU; omega
theorem Dig.lt {Y y1 y0 U w : Nat} (h : Dig Y y1 y0 U w) : (U * 4294967296 + w) / Y < 4294967296 := by
  rw [Nat.div_lt_iff_lt_mul h.pos]
  have a := h.hU
  have b := h.hw
  omega
theorem Dig.start {Y y1 y0 U w : Nat} (h : Dig Y y1 y0 U w) : DigAt Y y1 y0 U w (U / y1) (U % y1) := by
  have hy := h.h1
  have hy' := h.h1'
  have hU := h.hU
  have hw := h.hw
  have hY := h.hY
  have h0 := h.h0
  have hp : 0 < y1 := by omega
  have hm := Nat.mod_lt U hp
  refine ⟨h, by rw [Nat.mul_comm]; exact Nat.div_add_mod U y1, by omega, ?_, ?_⟩
  · rw [Nat.le_div_iff_mul_le hp]
    have a := Nat.div_mul_le_self (U * 4294967296 + w) Y
    generalize (U * 4294967296 + w) / Y = Q at *
    have b : Q * Y = Q * y1 * 4294967296 + Q * y0 := by rw [hY, Nat.mul_add, Nat.mul_assoc]
    generalize Q * y1 = A at *
    generalize Q * y0 = B at *
    omega
  · have : U / y1 < 4294967298 := by
      rw [Nat.div_lt_iff_lt_mul hp]
      omega
    omega
theorem DigAt.mul {Y y1 y0 U w q r : Nat} (h : DigAt Y y1 y0 U w q r) : q * Y + r * 4294967296 = U * 4294967296 + q * y0 := by
  have hq := h.hq
  have : q * Y = q * y1 * 4294967296 + q * y0 := by rw [h.hY, Nat.mul_add, Nat.mul_assoc]
  generalize q * y1 = A at *
  omega
theorem DigAt.done {Y y1 y0 U w q r : Nat} (h : DigAt Y y1 y0 U w q r) (hc : q * y0 ≤ 4294967296 * r + w) : q = (U * 4294967296 + w) / Y := by
  have a := h.mul
  have hQ := h.hQ
  have : q ≤ (U * 4294967296 + w) / Y := by
    rw [Nat.le_div_iff_mul_le h.pos]
    omega
  exact Nat.le_antisymm this hQ
theorem DigAt.more {Y y1 y0 U w q r : Nat} (h : DigAt Y y1 y0 U w q r) (hc : 4294967296 ≤ q ∨ 4294967296 * r + w < q * y0) : (U * 4294967296 + w) / Y + 1 ≤ q := by
  rcases hc with hc | hc
  · exact Nat.le_trans h.lt hc
  · have a := h.mul
    rw [Nat.succ_le_iff, Nat.div_lt_iff_lt_mul h.pos]
    omega
theorem DigAt.pred {Y y1 y0 U w q r : Nat} (h : DigAt Y y1 y0 U w q r) (hc : 4294967296 ≤ q ∨ 4294967296 * r + w < q * y0) : (q - 1) * y1 + (r + y1) = U ∧ 1 ≤ q ∧ (U * 4294967296 + w) / Y ≤ q - 1 := by
  have a := h.more hc
  have hq := h.hq
  generalize (U * 4294967296 + w) / Y = Q at *
  obtain ⟨p, rfl⟩ : ∃ p, q = p + 1 := ⟨q - 1, by omega⟩
  rw [Nat.add_mul, Nat.one_mul] at hq
  rw [Nat.add_sub_cancel]
  refine ⟨by omega, by omega, by omega⟩
theorem DigAt.last {Y y1 y0 U w q r : Nat} (h : DigAt Y y1 y0 U w q r) (hc : 4294967296 ≤ q ∨ 4294967296 * r + w < q * y0) (hs : 4294967296 ≤ r + y1) : q - 1 = (U * 4294967296 + w) / Y := by
  obtain ⟨b, b1, b2⟩ := h.pred hc
  have c : (q - 1) * Y + (r + y1) * 4294967296 = U * 4294967296 + (q - 1) * y0 := by
    have : (q - 1) * Y = (q - 1) * y1 * 4294967296 + (q - 1) * y0 := by rw [h.hY, Nat.mul_add, Nat.mul_assoc]
    generalize (q - 1) * y1 = A at *
    omega
  have h0 := h.h0
  have hq' := h.hq'
  have d : (q - 1) * y0 ≤ 4294967296 * 4294967295 := Nat.mul_le_mul (by omega) (by omega)
  have : q - 1 ≤ (U * 4294967296 + w) / Y := by
    rw [Nat.le_div_iff_mul_le h.pos]
    generalize (q - 1) * Y = A at *
    generalize (q - 1) * y0 = B at *
    omega
  exact Nat.le_antisymm this b2
theorem DigAt.step {Y y1 y0 U w q r : Nat} (h : DigAt Y y1 y0 U w q r) (hc : 4294967296 ≤ q ∨ 4294967296 * r + w < q * y0) (hs : r + y1 < 4294967296) : DigAt Y y1 y0 U w (q - 1) (r + y1) := by
  obtain ⟨b, b1, b2⟩ := h.pred hc
  exact ⟨h.toDig, b, hs, b2, by have := h.hq'; omega⟩

/-! ## The words moved -/
end Go.Proofs.Ytbjdchpncbgpnaa
end

section
/-
  A quotient of two words by one: what the library's text comes to.
-/
namespace Go.Proofs.Ytbjdchpncbgpnaa
open Go.Sx

/-- What the text's words come to, as plain numbers. -/
theorem words {h l y s : Nat} (e1 : 64 - lenN y = (s : Int)) (e2 : lenN y = ((64 - s : Nat) : Int)) :
    shY y = ((y * 2 ^ s : Nat) : Int) ∧ shU h l y = ((h * 2 ^ s + l / 2 ^ (64 - s) : Nat) : Int) ∧ shL l y = ((l * 2 ^ s % 18446744073709551616 : Nat) : Int) := by
  unfold shY shU shL
  rw [e1, e2, Int.toNat_natCast, Int.toNat_natCast]
  refine ⟨?_, ?_, ?_⟩
  · rw [Int.natCast_mul, Int.natCast_pow]; rfl
  · rw [Int.natCast_add, Int.natCast_mul, Int.natCast_ediv, Int.natCast_pow, Int.natCast_pow]; rfl
  · rw [Int.natCast_emod, Int.natCast_mul, Int.natCast_pow]; rfl
@[irreducible] def qd (U L Y : Nat) : Nat := (U * 4294967296 + L / 4294967296) / Y
@[irreducible] def rd (U L Y : Nat) : Nat := (U * 4294967296 + L / 4294967296) % Y
@[irreducible] def qe (V L Y : Nat) : Nat := (V * 4294967296 + L % 4294967296) / Y
@[irreducible] def re (V L Y : Nat) : Nat := (V * 4294967296 + L % 4294967296) % Y
end Go.Proofs.Ytbjdchpncbgpnaa
end

section
/-
  Texts of numbers: the numbers' side.
-/
namespace Go.Proofs.Ytbjdchpncbgpnaa
open Go.Sx

/-! ## A long division -/
/-! ## Bytes told by numbers -/
theorem bytesI_data (l : List Int) : (bytesI l).data.toList = l.map fun n => UInt8.ofNat n.toNat := by
  have h : ∀ (l : List Int) (r : ByteArray), (l.foldl (fun r n => r.push (UInt8.ofNat n.toNat)) r).data.toList = r.data.toList ++ l.map fun n => UInt8.ofNat n.toNat := by
    intro l
    induction l with
    | nil => intro r; simp
    | cons a l ih =>
      intro r
      rw [List.foldl_cons, ih, List.map_cons]
      simp [ByteArray.push]
  have := h l ByteArray.empty
  rw [show (ByteArray.empty).data.toList = [] from rfl, List.nil_append] at this
  exact this
theorem size_data (s : ByteArray) : s.size = s.data.toList.length := by rw [Array.length_toList]; rfl
theorem byteAt_list (s : ByteArray) (j : Nat) : byteAt s j = (s.data.toList.getD j 0).toNat := by
  unfold byteAt
  rw [List.getD_eq_getElem?_getD, Array.getElem?_toList, ← Array.getD_eq_getD_getElem?]
/-! ## How many digits -/
/-! ## Digits of a text -/
end Go.Proofs.Ytbjdchpncbgpnaa
end

section
/-
  Texts of numbers: what the code owes.
-/
namespace Go.Proofs.Ytbjdchpncbgpnaa
open Go.Sx

/-! ## split -/
/-! ## Show -/
/-! ## decimal -/
end Go.Proofs.Ytbjdchpncbgpnaa
end

section
/-
  Quotients: the small parts (a guess, the bits ahead, moves up and down).
-/
namespace Go.Proofs.Ytbjdchpncbgpnaa
open Go.Sx

/-! ## guess -/
/-! ## noughts -/
end Go.Proofs.Ytbjdchpncbgpnaa
end

section
/-
  Quotients: moves up and down.
-/
namespace Go.Proofs.Ytbjdchpncbgpnaa
open Go.Sx

end Go.Proofs.Ytbjdchpncbgpnaa
end

section
/-
  Quotients: one digit of a long division by four words.
-/
namespace Go.Proofs.Ytbjdchpncbgpnaa
open Go.Sx

/-! ## How far a guess is off -/
end Go.Proofs.Ytbjdchpncbgpnaa
end

section
/-
  Quotients: the long division, and the law.
-/
namespace Go.Proofs.Ytbjdchpncbgpnaa
open Go.Sx

end Go.Proofs.Ytbjdchpncbgpnaa
end

section
/-
  Quotients: DivMod, and the law.
-/
namespace Go.Proofs.Ytbjdchpncbgpnaa
open Go.Sx

end Go.Proofs.Ytbjdchpncbgpnaa
end

section
/-
  Laws of wide numbers, and the reference's by a modulus: reckoned by the kernel. (Laid by program.)
-/
namespace Go.Proofs.Ytbjdchpncbgpnaa
open Go Go.Sx Go.RowKit
set_option maxRecDepth 100000
end Go.Proofs.Ytbjdchpncbgpnaa
end

section
/-
  Laws of wide sums and quotients.
-/
namespace Go.Proofs.Ytbjdchpncbgpnaa
open Go Go.Sx Go.RowKit
end Go.Proofs.Ytbjdchpncbgpnaa
end

section
/-
  Texts of numbers: reading, and the laws.
-/
namespace Go.Proofs.Ytbjdchpncbgpnaa
open Go.Sx

/-! ## The laws -/
end Go.Proofs.Ytbjdchpncbgpnaa
end

section
/-
  The reference's texts of numbers: reckoned by the kernel. (Laid by program.)
-/
namespace Go.Proofs.Ytbjdchpncbgpnaa
open Go Go.Sx Go.RowKit
set_option maxRecDepth 100000
end Go.Proofs.Ytbjdchpncbgpnaa
end

section
/-
  The reference's texts of numbers; the law of what is parsed.
-/
namespace Go.Proofs.Ytbjdchpncbgpnaa
open Go Go.Sx Go.RowKit

end Go.Proofs.Ytbjdchpncbgpnaa
end

section
/-
  A power of ten: the numbers' side.
-/
namespace Go.Proofs.Ytbjdchpncbgpnaa
open Go.Sx

end Go.Proofs.Ytbjdchpncbgpnaa
end

section
/-
  The reference's decimal digits; laws of texts: reckoned by the kernel. (Laid by program.)
-/
namespace Go.Proofs.Ytbjdchpncbgpnaa
open Go Go.Sx Go.RowKit
set_option maxRecDepth 100000
end Go.Proofs.Ytbjdchpncbgpnaa
end

section
/-
  The reference's powers of ten and decimal digits; laws of texts.
-/
namespace Go.Proofs.Ytbjdchpncbgpnaa
open Go Go.Sx Go.RowKit

theorem byteAt_app (s t : ByteArray) (j : Nat) : byteAt (s ++ t) j = if j < s.size then byteAt s j else byteAt t (j - s.size) := by
  unfold byteAt
  rw [ByteArray.data_append, Array.getD_eq_getD_getElem?, Array.getD_eq_getD_getElem?, Array.getD_eq_getD_getElem?, Array.getElem?_append]
  have : s.data.size = s.size := rfl
  rw [this]
  split <;> rfl
end Go.Proofs.Ytbjdchpncbgpnaa
end

section
/-
  The reference's decimal digits; the law of what is shown.
-/
namespace Go.Proofs.Ytbjdchpncbgpnaa
open Go Go.Sx Go.RowKit

end Go.Proofs.Ytbjdchpncbgpnaa
end

section
/-
  A number is its bytes: the numbers' side.
-/
namespace Go.Proofs.Ytbjdchpncbgpnaa
open Go.Sx

end Go.Proofs.Ytbjdchpncbgpnaa
end

section
/-
  Bytes of wide numbers, and the reference's: reckoned by the kernel. (Laid by program.)
-/
namespace Go.Proofs.Ytbjdchpncbgpnaa
open Go Go.Sx Go.RowKit
set_option maxRecDepth 100000
/-- Eight bytes of a number, the highest one first. -/
def big8 (v : Int) : ByteArray := bytesI ((List.range 8).map fun j => v / 256 ^ (7 - j) % 256)
def cBig : FSpec := fun args =>
  match args with
  | [x, y] => match asI x, asI y with
    | some (.u64, v), some (.i64, 8) => some ([0 ≤ v ∧ v < 18446744073709551616], .one (sStr (big8 v)))
    | _, _ => none
  | _ => none
def textG (a : Nat) : SV := .one (sStr (big8 (limb a 3) ++ big8 (limb a 2) ++ big8 (limb a 1) ++ big8 (limb a 0)))
def wrdF (s : ByteArray) (j : Nat) : Int := ((s.data.getD j 0).toNat : Int)
def invWord (s : ByteArray) : Inv where
  X := Nat
  tm y := slotsAt 21 [(0, .one (sStr s)), (2, .one (.sc (.ptr 0 0))), (3, .one (.sc (.ptr 1 0))), (4, .one (sI .i64 (y : Int)))]
  ob y := [.cells 36 (List.replicate 32 (.c (.num .u8 0))) 0, .cells 36 [.f .u8 32 (fun j => if j < y then wrdF s j else 0)] 0]
  holds y := y ≤ 32
  less y := 32 - y
def cWrd32 : FSpec := fun args =>
  match args with
  | [.sc (.val (.string s))] => some ([s.size = 32], .one (.agg [.f .u8 32 (wrdF s)]))
  | _ => none
def cxText : Cx := [(76, cBig)]
def cxBO : Cx := [(54, specU textG), (53, cWrd32)]
def invFB (g : Nat → Int) (A : Nat → Nat → Int) : Inv where
  X := Nat
  tm y := slotsAt 26 [(2, .one (.sc (.ptr 1 0))), (3, .one (.sc (.ptr 2 0))), (6, .one (.agg [.f .u8 32 g])), (7, .one (sI .i64 (y : Int)))]
  ob y := [.dead, .cells 24 (List.replicate 4 (.c (.num .u64 0))) 0, .cells 24 [.f .u64 4 (A y)] 0]
  holds y := y ≤ 32
  less y := 32 - y
def cxWBy : Cx := [(23, specU bytesG), (24, specB fromG), (25, specU bytesG), (26, specB fromG)]
-- VC vc_refBig HASH 70cf4b1f7837b9ad
theorem vc_refBig (v : Int) :
    Owes Try.prog .none [] 12 Try.f76 [sI .u64 v, .sc (.num .i64 8)] (.one (sStr (big8 v))) =
    (let x1 : Int := (v.fdiv (256 : Int)).fdiv (256 : Int); let x2 : Int := x1.fdiv (256 : Int); let x3 : Int := x2.fdiv (256 : Int); let x4 : Int := x3.fdiv (256 : Int); let x5 : Int := x4.fdiv (256 : Int); (Go.Sx.bytesI (Go.Sx.intsL [Go.Sx.SK.c (Go.Sx.SC.val (Go.Value.int Go.IntKind.u8 (Go.IntKind.u8.wrap v)))])).size + (0 : Nat) ≤ (9223372036854775807 : Nat) ∧ (Go.Sx.bytesI (Go.Sx.intsL [Go.Sx.SK.c (Go.Sx.SC.val (Go.Value.int Go.IntKind.u8 (Go.IntKind.u8.wrap (v.fdiv (256 : Int)))))])).size + (Go.Sx.bytesI (Go.Sx.intsL [Go.Sx.SK.c (Go.Sx.SC.val (Go.Value.int Go.IntKind.u8 (Go.IntKind.u8.wrap v)))]) ++ (ByteArray.mk #[])).size ≤ (9223372036854775807 : Nat) ∧ (Go.Sx.bytesI (Go.Sx.intsL [Go.Sx.SK.c (Go.Sx.SC.val (Go.Value.int Go.IntKind.u8 (Go.IntKind.u8.wrap x1)))])).size + (Go.Sx.bytesI (Go.Sx.intsL [Go.Sx.SK.c (Go.Sx.SC.val (Go.Value.int Go.IntKind.u8 (Go.IntKind.u8.wrap (v.fdiv (256 : Int)))))]) ++ (Go.Sx.bytesI (Go.Sx.intsL [Go.Sx.SK.c (Go.Sx.SC.val (Go.Value.int Go.IntKind.u8 (Go.IntKind.u8.wrap v)))]) ++ (ByteArray.mk #[]))).size ≤ (9223372036854775807 : Nat) ∧ (Go.Sx.bytesI (Go.Sx.intsL [Go.Sx.SK.c (Go.Sx.SC.val (Go.Value.int Go.IntKind.u8 (Go.IntKind.u8.wrap x2)))])).size + (Go.Sx.bytesI (Go.Sx.intsL [Go.Sx.SK.c (Go.Sx.SC.val (Go.Value.int Go.IntKind.u8 (Go.IntKind.u8.wrap x1)))]) ++ (Go.Sx.bytesI (Go.Sx.intsL [Go.Sx.SK.c (Go.Sx.SC.val (Go.Value.int Go.IntKind.u8 (Go.IntKind.u8.wrap (v.fdiv (256 : Int)))))]) ++ (Go.Sx.bytesI (Go.Sx.intsL [Go.Sx.SK.c (Go.Sx.SC.val (Go.Value.int Go.IntKind.u8 (Go.IntKind.u8.wrap v)))]) ++ (ByteArray.mk #[])))).size ≤ (9223372036854775807 : Nat) ∧ (Go.Sx.bytesI (Go.Sx.intsL [Go.Sx.SK.c (Go.Sx.SC.val (Go.Value.int Go.IntKind.u8 (Go.IntKind.u8.wrap x3)))])).size + (Go.Sx.bytesI (Go.Sx.intsL [Go.Sx.SK.c (Go.Sx.SC.val (Go.Value.int Go.IntKind.u8 (Go.IntKind.u8.wrap x2)))]) ++ (Go.Sx.bytesI (Go.Sx.intsL [Go.Sx.SK.c (Go.Sx.SC.val (Go.Value.int Go.IntKind.u8 (Go.IntKind.u8.wrap x1)))]) ++ (Go.Sx.bytesI (Go.Sx.intsL [Go.Sx.SK.c (Go.Sx.SC.val (Go.Value.int Go.IntKind.u8 (Go.IntKind.u8.wrap (v.fdiv (256 : Int)))))]) ++ (Go.Sx.bytesI (Go.Sx.intsL [Go.Sx.SK.c (Go.Sx.SC.val (Go.Value.int Go.IntKind.u8 (Go.IntKind.u8.wrap v)))]) ++ (ByteArray.mk #[]))))).size ≤ (9223372036854775807 : Nat) ∧ (Go.Sx.bytesI (Go.Sx.intsL [Go.Sx.SK.c (Go.Sx.SC.val (Go.Value.int Go.IntKind.u8 (Go.IntKind.u8.wrap x4)))])).size + (Go.Sx.bytesI (Go.Sx.intsL [Go.Sx.SK.c (Go.Sx.SC.val (Go.Value.int Go.IntKind.u8 (Go.IntKind.u8.wrap x3)))]) ++ (Go.Sx.bytesI (Go.Sx.intsL [Go.Sx.SK.c (Go.Sx.SC.val (Go.Value.int Go.IntKind.u8 (Go.IntKind.u8.wrap x2)))]) ++ (Go.Sx.bytesI (Go.Sx.intsL [Go.Sx.SK.c (Go.Sx.SC.val (Go.Value.int Go.IntKind.u8 (Go.IntKind.u8.wrap x1)))]) ++ (Go.Sx.bytesI (Go.Sx.intsL [Go.Sx.SK.c (Go.Sx.SC.val (Go.Value.int Go.IntKind.u8 (Go.IntKind.u8.wrap (v.fdiv (256 : Int)))))]) ++ (Go.Sx.bytesI (Go.Sx.intsL [Go.Sx.SK.c (Go.Sx.SC.val (Go.Value.int Go.IntKind.u8 (Go.IntKind.u8.wrap v)))]) ++ (ByteArray.mk #[])))))).size ≤ (9223372036854775807 : Nat) ∧ (Go.Sx.bytesI (Go.Sx.intsL [Go.Sx.SK.c (Go.Sx.SC.val (Go.Value.int Go.IntKind.u8 (Go.IntKind.u8.wrap x5)))])).size + (Go.Sx.bytesI (Go.Sx.intsL [Go.Sx.SK.c (Go.Sx.SC.val (Go.Value.int Go.IntKind.u8 (Go.IntKind.u8.wrap x4)))]) ++ (Go.Sx.bytesI (Go.Sx.intsL [Go.Sx.SK.c (Go.Sx.SC.val (Go.Value.int Go.IntKind.u8 (Go.IntKind.u8.wrap x3)))]) ++ (Go.Sx.bytesI (Go.Sx.intsL [Go.Sx.SK.c (Go.Sx.SC.val (Go.Value.int Go.IntKind.u8 (Go.IntKind.u8.wrap x2)))]) ++ (Go.Sx.bytesI (Go.Sx.intsL [Go.Sx.SK.c (Go.Sx.SC.val (Go.Value.int Go.IntKind.u8 (Go.IntKind.u8.wrap x1)))]) ++ (Go.Sx.bytesI (Go.Sx.intsL [Go.Sx.SK.c (Go.Sx.SC.val (Go.Value.int Go.IntKind.u8 (Go.IntKind.u8.wrap (v.fdiv (256 : Int)))))]) ++ (Go.Sx.bytesI (Go.Sx.intsL [Go.Sx.SK.c (Go.Sx.SC.val (Go.Value.int Go.IntKind.u8 (Go.IntKind.u8.wrap v)))]) ++ (ByteArray.mk #[]))))))).size ≤ (9223372036854775807 : Nat) ∧ (Go.Sx.bytesI (Go.Sx.intsL [Go.Sx.SK.c (Go.Sx.SC.val (Go.Value.int Go.IntKind.u8 (Go.IntKind.u8.wrap (x5.fdiv (256 : Int)))))])).size + (Go.Sx.bytesI (Go.Sx.intsL [Go.Sx.SK.c (Go.Sx.SC.val (Go.Value.int Go.IntKind.u8 (Go.IntKind.u8.wrap x5)))]) ++ (Go.Sx.bytesI (Go.Sx.intsL [Go.Sx.SK.c (Go.Sx.SC.val (Go.Value.int Go.IntKind.u8 (Go.IntKind.u8.wrap x4)))]) ++ (Go.Sx.bytesI (Go.Sx.intsL [Go.Sx.SK.c (Go.Sx.SC.val (Go.Value.int Go.IntKind.u8 (Go.IntKind.u8.wrap x3)))]) ++ (Go.Sx.bytesI (Go.Sx.intsL [Go.Sx.SK.c (Go.Sx.SC.val (Go.Value.int Go.IntKind.u8 (Go.IntKind.u8.wrap x2)))]) ++ (Go.Sx.bytesI (Go.Sx.intsL [Go.Sx.SK.c (Go.Sx.SC.val (Go.Value.int Go.IntKind.u8 (Go.IntKind.u8.wrap x1)))]) ++ (Go.Sx.bytesI (Go.Sx.intsL [Go.Sx.SK.c (Go.Sx.SC.val (Go.Value.int Go.IntKind.u8 (Go.IntKind.u8.wrap (v.fdiv (256 : Int)))))]) ++ (Go.Sx.bytesI (Go.Sx.intsL [Go.Sx.SK.c (Go.Sx.SC.val (Go.Value.int Go.IntKind.u8 (Go.IntKind.u8.wrap v)))]) ++ (ByteArray.mk #[])))))))).size ≤ (9223372036854775807 : Nat) ∧ Go.Sx.bytesI (Go.Sx.intsL [Go.Sx.SK.c (Go.Sx.SC.val (Go.Value.int Go.IntKind.u8 (Go.IntKind.u8.wrap (x5.fdiv (256 : Int)))))]) ++ (Go.Sx.bytesI (Go.Sx.intsL [Go.Sx.SK.c (Go.Sx.SC.val (Go.Value.int Go.IntKind.u8 (Go.IntKind.u8.wrap x5)))]) ++ (Go.Sx.bytesI (Go.Sx.intsL [Go.Sx.SK.c (Go.Sx.SC.val (Go.Value.int Go.IntKind.u8 (Go.IntKind.u8.wrap x4)))]) ++ (Go.Sx.bytesI (Go.Sx.intsL [Go.Sx.SK.c (Go.Sx.SC.val (Go.Value.int Go.IntKind.u8 (Go.IntKind.u8.wrap x3)))]) ++ (Go.Sx.bytesI (Go.Sx.intsL [Go.Sx.SK.c (Go.Sx.SC.val (Go.Value.int Go.IntKind.u8 (Go.IntKind.u8.wrap x2)))]) ++ (Go.Sx.bytesI (Go.Sx.intsL [Go.Sx.SK.c (Go.Sx.SC.val (Go.Value.int Go.IntKind.u8 (Go.IntKind.u8.wrap x1)))]) ++ (Go.Sx.bytesI (Go.Sx.intsL [Go.Sx.SK.c (Go.Sx.SC.val (Go.Value.int Go.IntKind.u8 (Go.IntKind.u8.wrap (v.fdiv (256 : Int)))))]) ++ (Go.Sx.bytesI (Go.Sx.intsL [Go.Sx.SK.c (Go.Sx.SC.val (Go.Value.int Go.IntKind.u8 (Go.IntKind.u8.wrap v)))]) ++ (ByteArray.mk #[])))))))) = big8 v) := by kernel_rfl
-- END VC
-- VC vc_refText HASH cd2212bd8c93c0ce
theorem vc_refText (a : Nat) :
    Owes Try.prog cxText [] 12 Try.f54 [sU a] (textG a) =
    (((0 : Int) ≤ Go.Sx.limb a (3 : Nat) ∧ Go.Sx.limb a (3 : Nat) < (18446744073709551616 : Int)) ∧ ((0 : Int) ≤ Go.Sx.limb a (2 : Nat) ∧ Go.Sx.limb a (2 : Nat) < (18446744073709551616 : Int)) ∧ (big8 (Go.Sx.limb a (3 : Nat))).size + (big8 (Go.Sx.limb a (2 : Nat))).size ≤ (9223372036854775807 : Nat) ∧ ((0 : Int) ≤ Go.Sx.limb a (1 : Nat) ∧ Go.Sx.limb a (1 : Nat) < (18446744073709551616 : Int)) ∧ (big8 (Go.Sx.limb a (3 : Nat)) ++ big8 (Go.Sx.limb a (2 : Nat))).size + (big8 (Go.Sx.limb a (1 : Nat))).size ≤ (9223372036854775807 : Nat) ∧ ((0 : Int) ≤ Go.Sx.limb a (0 : Nat) ∧ Go.Sx.limb a (0 : Nat) < (18446744073709551616 : Int)) ∧ (big8 (Go.Sx.limb a (3 : Nat)) ++ big8 (Go.Sx.limb a (2 : Nat)) ++ big8 (Go.Sx.limb a (1 : Nat))).size + (big8 (Go.Sx.limb a (0 : Nat))).size ≤ (9223372036854775807 : Nat) ∧ big8 (Go.Sx.limb a (3 : Nat)) ++ big8 (Go.Sx.limb a (2 : Nat)) ++ big8 (Go.Sx.limb a (1 : Nat)) ++ big8 (Go.Sx.limb a (0 : Nat)) = big8 (Go.Sx.limb a (3 : Nat)) ++ big8 (Go.Sx.limb a (2 : Nat)) ++ big8 (Go.Sx.limb a (1 : Nat)) ++ big8 (Go.Sx.limb a (0 : Nat))) := by kernel_rfl
-- END VC
-- VC vc_refWord HASH 86eb3596d5406239
theorem vc_refWord (s : ByteArray) :
    Owes Try.prog .none [(3, .inv (invWord s))] 12 Try.f53 [sStr s] (.one (.agg [.f .u8 32 (wrdF s)])) =
    ((∀ (y : Nat), Go.Sx.closedB (Go.Sx.slotsAt (21 : Nat) [((0 : Nat), Go.Sx.SV.one (Go.Sx.sStr s)), ((2 : Nat), Go.Sx.SV.one (Go.Sx.SA.sc (Go.Sx.SC.ptr (0 : Nat) (0 : Nat)))), ((3 : Nat), Go.Sx.SV.one (Go.Sx.SA.sc (Go.Sx.SC.ptr (1 : Nat) (0 : Nat)))), ((4 : Nat), Go.Sx.SV.one (Go.Sx.sI Go.IntKind.i64 (↑y : Int)))]) [Go.Sx.SO.cells (36 : Go.TypeId) (List.replicate (32 : Nat) (Go.Sx.SK.c (Go.Sx.SC.num Go.IntKind.u8 (0 : Int)))) (0 : Nat), Go.Sx.SO.cells (36 : Go.TypeId) [Go.Sx.SK.f Go.IntKind.u8 (32 : Nat) fun (j : Nat) => if j < y then wrdF s j else (0 : Int)] (0 : Nat)] = Bool.true) ∧ ∃ (y : Nat), y ≤ (32 : Nat) ∧ s = s ∧ (0 : Int) = (↑y : Int) ∧ (0 : Nat) = (0 : Nat) ∧ (((0 : Int) = if (0 : Nat) < y then wrdF s (0 : Nat) else (0 : Int)) ∧ ((0 : Int) = if (1 : Nat) < y then wrdF s (1 : Nat) else (0 : Int)) ∧ ((0 : Int) = if (2 : Nat) < y then wrdF s (2 : Nat) else (0 : Int)) ∧ ((0 : Int) = if (3 : Nat) < y then wrdF s (3 : Nat) else (0 : Int)) ∧ ((0 : Int) = if (4 : Nat) < y then wrdF s (4 : Nat) else (0 : Int)) ∧ ((0 : Int) = if (5 : Nat) < y then wrdF s (5 : Nat) else (0 : Int)) ∧ ((0 : Int) = if (6 : Nat) < y then wrdF s (6 : Nat) else (0 : Int)) ∧ ((0 : Int) = if (7 : Nat) < y then wrdF s (7 : Nat) else (0 : Int)) ∧ ((0 : Int) = if (8 : Nat) < y then wrdF s (8 : Nat) else (0 : Int)) ∧ ((0 : Int) = if (9 : Nat) < y then wrdF s (9 : Nat) else (0 : Int)) ∧ ((0 : Int) = if (10 : Nat) < y then wrdF s (10 : Nat) else (0 : Int)) ∧ ((0 : Int) = if (11 : Nat) < y then wrdF s (11 : Nat) else (0 : Int)) ∧ ((0 : Int) = if (12 : Nat) < y then wrdF s (12 : Nat) else (0 : Int)) ∧ ((0 : Int) = if (13 : Nat) < y then wrdF s (13 : Nat) else (0 : Int)) ∧ ((0 : Int) = if (14 : Nat) < y then wrdF s (14 : Nat) else (0 : Int)) ∧ ((0 : Int) = if (15 : Nat) < y then wrdF s (15 : Nat) else (0 : Int)) ∧ ((0 : Int) = if (16 : Nat) < y then wrdF s (16 : Nat) else (0 : Int)) ∧ ((0 : Int) = if (17 : Nat) < y then wrdF s (17 : Nat) else (0 : Int)) ∧ ((0 : Int) = if (18 : Nat) < y then wrdF s (18 : Nat) else (0 : Int)) ∧ ((0 : Int) = if (19 : Nat) < y then wrdF s (19 : Nat) else (0 : Int)) ∧ ((0 : Int) = if (20 : Nat) < y then wrdF s (20 : Nat) else (0 : Int)) ∧ ((0 : Int) = if (21 : Nat) < y then wrdF s (21 : Nat) else (0 : Int)) ∧ ((0 : Int) = if (22 : Nat) < y then wrdF s (22 : Nat) else (0 : Int)) ∧ ((0 : Int) = if (23 : Nat) < y then wrdF s (23 : Nat) else (0 : Int)) ∧ ((0 : Int) = if (24 : Nat) < y then wrdF s (24 : Nat) else (0 : Int)) ∧ ((0 : Int) = if (25 : Nat) < y then wrdF s (25 : Nat) else (0 : Int)) ∧ ((0 : Int) = if (26 : Nat) < y then wrdF s (26 : Nat) else (0 : Int)) ∧ ((0 : Int) = if (27 : Nat) < y then wrdF s (27 : Nat) else (0 : Int)) ∧ ((0 : Int) = if (28 : Nat) < y then wrdF s (28 : Nat) else (0 : Int)) ∧ ((0 : Int) = if (29 : Nat) < y then wrdF s (29 : Nat) else (0 : Int)) ∧ ((0 : Int) = if (30 : Nat) < y then wrdF s (30 : Nat) else (0 : Int)) ∧ ((0 : Int) = if (31 : Nat) < y then wrdF s (31 : Nat) else (0 : Int)) ∧ True) ∧ (0 : Nat) = (0 : Nat) ∧ ∀ (y : Nat), y ≤ (32 : Nat) → (Decidable.decide ((↑y : Int) < (↑s.size : Int)) = Bool.true → Decidable.decide ((↑y : Int) < (↑s.size : Int)) = Bool.true) ∧ (Decidable.decide ((↑y : Int) < (↑s.size : Int)) = Bool.true → Decidable.decide ((↑y : Int) < (↑s.size : Int)) = Bool.true) ∧ ((Decidable.decide ((↑y : Int) < (↑s.size : Int)) && Decidable.decide ((↑y : Int) < (32 : Int))) = Bool.true → ((0 : Int) ≤ (↑y : Int) ∧ (↑y : Int).toNat < s.size) ∧ ((0 : Int) ≤ (↑y : Int) ∧ (↑y : Int) < (32 : Int)) ∧ ((0 : Int) ≤ (↑y : Int) ∧ (↑y : Int) < (32 : Int)) ∧ ∃ (y' : Nat), y' ≤ (32 : Nat) ∧ s = s ∧ Go.IntKind.i64.wrap ((↑y : Int) + (1 : Int)) = (↑y' : Int) ∧ (0 : Nat) = (0 : Nat) ∧ ((∀ (j : Nat), j < (32 : Nat) → (if j = (↑y : Int).toNat then (↑(s.data.getD (↑y : Int).toNat (0 : UInt8)).toNat : Int) else if j < y then wrdF s j else (0 : Int)) = if j < y' then wrdF s j else (0 : Int)) ∧ True) ∧ (0 : Nat) = (0 : Nat) ∧ (32 : Nat) - y' < (32 : Nat) - y) ∧ ((Decidable.decide ((↑y : Int) < (↑s.size : Int)) && Decidable.decide ((↑y : Int) < (32 : Int))) = Bool.false → (∀ (j : Nat), j < (32 : Nat) → (if j < y then wrdF s j else (0 : Int)) = wrdF s j) ∧ True)) := by kernel_rfl
-- END VC
-- VC vc_refBO HASH 719fb08a870f50a0
theorem vc_refBO (a : Nat) (f : Nat → Int) :
    Owes Try.prog cxBO [] 12 Try.f25 [sU a] (.one (.agg [.f .u8 32 f])) =
    ((big8 (Go.Sx.limb a (3 : Nat)) ++ big8 (Go.Sx.limb a (2 : Nat)) ++ big8 (Go.Sx.limb a (1 : Nat)) ++ big8 (Go.Sx.limb a (0 : Nat))).size = (32 : Nat) ∧ (∀ (j : Nat), j < (32 : Nat) → wrdF (big8 (Go.Sx.limb a (3 : Nat)) ++ big8 (Go.Sx.limb a (2 : Nat)) ++ big8 (Go.Sx.limb a (1 : Nat)) ++ big8 (Go.Sx.limb a (0 : Nat))) j = f j) ∧ True) := by kernel_rfl
-- END VC
-- VC vc_refFB HASH 66951645ac41e8c5
theorem vc_refFB (g : Nat → Int) (A : Nat → Nat → Int) (r : Nat) :
    Owes Try.prog .none [(3, .inv (invFB g A))] 40 Try.f26 [.agg [.f .u8 32 g]] (.one (sU r)) =
    ((∀ (y : Nat), Go.Sx.closedB (Go.Sx.slotsAt (26 : Nat) [((2 : Nat), Go.Sx.SV.one (Go.Sx.SA.sc (Go.Sx.SC.ptr (1 : Nat) (0 : Nat)))), ((3 : Nat), Go.Sx.SV.one (Go.Sx.SA.sc (Go.Sx.SC.ptr (2 : Nat) (0 : Nat)))), ((6 : Nat), Go.Sx.SV.one (Go.Sx.SA.agg [Go.Sx.SK.f Go.IntKind.u8 (32 : Nat) g])), ((7 : Nat), Go.Sx.SV.one (Go.Sx.sI Go.IntKind.i64 (↑y : Int)))]) [Go.Sx.SO.dead, Go.Sx.SO.cells (24 : Go.TypeId) (List.replicate (4 : Nat) (Go.Sx.SK.c (Go.Sx.SC.num Go.IntKind.u64 (0 : Int)))) (0 : Nat), Go.Sx.SO.cells (24 : Go.TypeId) [Go.Sx.SK.f Go.IntKind.u64 (4 : Nat) (A y)] (0 : Nat)] = Bool.true) ∧ ∃ (y : Nat), y ≤ (32 : Nat) ∧ ((∀ (j : Nat), j < (32 : Nat) → g j = g j) ∧ True) ∧ (0 : Int) = (↑y : Int) ∧ (0 : Nat) = (0 : Nat) ∧ ((0 : Int) = A y (0 : Nat) ∧ (0 : Int) = A y (1 : Nat) ∧ (0 : Int) = A y (2 : Nat) ∧ (0 : Int) = A y (3 : Nat) ∧ True) ∧ (0 : Nat) = (0 : Nat) ∧ ∀ (y : Nat), y ≤ (32 : Nat) → (Decidable.decide ((↑y : Int) < (32 : Int)) = Bool.true → ((0 : Int) ≤ (↑y : Int) ∧ (↑y : Int) < (32 : Int)) ∧ ((0 : Int) ≤ Go.IntKind.i64.wrap ((3 : Int) - Go.IntKind.i64.wrap ((↑y : Int).tdiv (8 : Int))) ∧ Go.IntKind.i64.wrap ((3 : Int) - Go.IntKind.i64.wrap ((↑y : Int).tdiv (8 : Int))) < (4 : Int)) ∧ ((0 : Int) ≤ Go.IntKind.i64.wrap ((3 : Int) - Go.IntKind.i64.wrap ((↑y : Int).tdiv (8 : Int))) ∧ Go.IntKind.i64.wrap ((3 : Int) - Go.IntKind.i64.wrap ((↑y : Int).tdiv (8 : Int))) < (4 : Int)) ∧ ((0 : Int) ≤ Go.IntKind.i64.wrap ((3 : Int) - Go.IntKind.i64.wrap ((↑y : Int).tdiv (8 : Int))) ∧ Go.IntKind.i64.wrap ((3 : Int) - Go.IntKind.i64.wrap ((↑y : Int).tdiv (8 : Int))) < (4 : Int)) ∧ ((0 : Int) ≤ Go.IntKind.i64.wrap ((3 : Int) - Go.IntKind.i64.wrap ((↑y : Int).tdiv (8 : Int))) ∧ Go.IntKind.i64.wrap ((3 : Int) - Go.IntKind.i64.wrap ((↑y : Int).tdiv (8 : Int))) < (4 : Int)) ∧ ∃ (y' : Nat), y' ≤ (32 : Nat) ∧ ((∀ (j : Nat), j < (32 : Nat) → g j = g j) ∧ True) ∧ Go.IntKind.i64.wrap ((↑y : Int) + (1 : Int)) = (↑y' : Int) ∧ (0 : Nat) = (0 : Nat) ∧ ((∀ (j : Nat), j < (4 : Nat) → (if j = (Go.IntKind.i64.wrap ((3 : Int) - Go.IntKind.i64.wrap ((↑y : Int).tdiv (8 : Int)))).toNat then Go.IntKind.u64.wrap (Go.IntKind.u64.wrap (A y (Go.IntKind.i64.wrap ((3 : Int) - Go.IntKind.i64.wrap ((↑y : Int).tdiv (8 : Int)))).toNat * (256 : Int)) + Go.IntKind.u64.wrap (g (↑y : Int).toNat)) else A y j) = A y' j) ∧ True) ∧ (0 : Nat) = (0 : Nat) ∧ (32 : Nat) - y' < (32 : Nat) - y) ∧ (Decidable.decide ((↑y : Int) < (32 : Int)) = Bool.false → ((0 : Int) ≤ A y (0 : Nat) ∧ A y (0 : Nat) < (18446744073709551616 : Int)) ∧ ((0 : Int) ≤ A y (1 : Nat) ∧ A y (1 : Nat) < (18446744073709551616 : Int)) ∧ ((0 : Int) ≤ A y (2 : Nat) ∧ A y (2 : Nat) < (18446744073709551616 : Int)) ∧ ((0 : Int) ≤ A y (3 : Nat) ∧ A y (3 : Nat) < (18446744073709551616 : Int)) ∧ Go.Sx.join (A y (0 : Nat)) (A y (1 : Nat)) (A y (2 : Nat)) (A y (3 : Nat)) % Go.Sx.M256 = r % Go.Sx.M256 ∧ True)) := by kernel_rfl
-- END VC
-- VC vc_WideBytes HASH d8e22f7364dd2194
theorem vc_WideBytes (a : Nat) (g : Nat → Int) :
    Owes Try.prog cxWBy [] 10 Try.f7 [sU a, sBy 32 g] yes =
    (let x1 : Bool := Go.Sx.conj [(List.range (32 : Nat)).all fun (j : Nat) => Go.Sx.by8 a ((31 : Nat) - j) == Go.Sx.by8 a ((31 : Nat) - j)]; let x2 : Nat := Go.Sx.fromN g (32 : Nat) % Go.Sx.M256; (∀ (j : Nat), j < (32 : Nat) → (0 : Int) ≤ g j ∧ g j < (256 : Int)) ∧ (∀ (j : Nat), j < (32 : Nat) → (0 : Int) ≤ g j ∧ g j < (256 : Int)) ∧ (x1 = Bool.true → x1 = Bool.true) ∧ (x1 = Bool.true → x1 = Bool.true) ∧ (x1 = Bool.true → x1 = Bool.true) ∧ (x1 && Go.Sx.conj [x2 == x2]) = Bool.true) := by kernel_rfl
-- END VC
end Go.Proofs.Ytbjdchpncbgpnaa
end

section
/-
  Bytes of wide numbers, and the reference's: the numbers' side, and the law.
-/
namespace Go.Proofs.Ytbjdchpncbgpnaa
open Go Go.Sx Go.RowKit

theorem ch_size (z : Int) : (bytesI (intsL [SK.c (SC.val (Value.int IntKind.u8 z))])).size = 1 := by rw [size_data, bytesI_data]; rfl
theorem ch_list (z : Int) : (bytesI (intsL [SK.c (SC.val (Value.int IntKind.u8 z))])).data.toList = [UInt8.ofNat z.toNat] := by rw [bytesI_data]; rfl
theorem big8_size (v : Int) : (big8 v).size = 8 := by
  unfold big8
  rw [size_data, bytesI_data, List.length_map, List.length_map, List.length_range]
theorem big8_list (v : Int) : (big8 v).data.toList = [UInt8.ofNat (v / 256 ^ 7 % 256).toNat, UInt8.ofNat (v / 256 ^ 6 % 256).toNat, UInt8.ofNat (v / 256 ^ 5 % 256).toNat, UInt8.ofNat (v / 256 ^ 4 % 256).toNat, UInt8.ofNat (v / 256 ^ 3 % 256).toNat, UInt8.ofNat (v / 256 ^ 2 % 256).toNat, UInt8.ofNat (v / 256 ^ 1 % 256).toNat, UInt8.ofNat (v / 256 ^ 0 % 256).toNat] := by
  unfold big8
  rw [bytesI_data]
  rfl
theorem bytes_ext {s t : ByteArray} (e : s.data.toList = t.data.toList) : s = t := by
  cases s; cases t
  simp only at e
  rw [ByteArray.mk.injEq]
  exact Array.toList_inj.1 e
theorem app_list (s t : ByteArray) : (s ++ t).data.toList = s.data.toList ++ t.data.toList := by
  rw [ByteArray.data_append, Array.toList_append]
theorem ok_refBig (v : Int) (_ : 0 ≤ v ∧ v < 18446744073709551616) : Owes Try.prog .none [] 12 Try.f76 [sI .u64 v, .sc (.num .i64 8)] (.one (sStr (big8 v))) := by
  rw [vc_refBig]
  have E : ∀ z : Int, z.fdiv 256 = z / 256 := fun z => Int.fdiv_eq_ediv_of_nonneg z (by decide)
  intro x1 x2 x3 x4 x5
  have e1 : x1 = v / 256 / 256 := by simp only [x1, E]
  have e2 : x2 = x1 / 256 := by simp only [x2, E]
  have e3 : x3 = x2 / 256 := by simp only [x3, E]
  have e4 : x4 = x3 / 256 := by simp only [x4, E]
  have e5 : x5 = x4 / 256 := by simp only [x5, E]
  clear_value x5 x4 x3 x2 x1
  have z0 : (ByteArray.mk #[]).size = 0 := rfl
  simp only [ByteArray.size_append, ch_size, z0, E]
  refine ⟨by decide, by decide, by decide, by decide, by decide, by decide, by decide, by decide, ?_⟩
  refine bytes_ext ?_
  have l0 : (ByteArray.mk #[]).data.toList = [] := rfl
  simp only [app_list, ch_list, big8_list, l0, IntKind.wrap_u8, List.cons_append, List.nil_append]
  have f0 : v % 256 = v / 256 ^ 0 % 256 := by rw [Int.pow_zero, Int.ediv_one]
  have f1 : v / 256 % 256 = v / 256 ^ 1 % 256 := by omega
  have f2 : x1 % 256 = v / 256 ^ 2 % 256 := by omega
  have f3 : x2 % 256 = v / 256 ^ 3 % 256 := by omega
  have f4 : x3 % 256 = v / 256 ^ 4 % 256 := by omega
  have f5 : x4 % 256 = v / 256 ^ 5 % 256 := by omega
  have f6 : x5 % 256 = v / 256 ^ 6 % 256 := by omega
  have f7 : x5 / 256 % 256 = v / 256 ^ 7 % 256 := by omega
  rw [f7, f6, f5, f4, f3, f2, f1, f0]
theorem card_refBig : FnOK Try.prog 76 cBig := by
  refine FnOK_owes (cx := .none) (iv := []) (N := 12) CxOK_nil Try.func76 (by kernel_rfl) (by kernel_rfl) fun args ps sv hs hp => ?_
  unfold cBig at hs
  split at hs
  case h_2 => cases hs
  rename_i x y
  split at hs
  case h_2 => cases hs
  rename_i v hx hy
  simp only [Option.some.injEq, Prod.mk.injEq] at hs
  obtain ⟨rfl, rfl⟩ := hs
  refine ⟨[sI .u64 v, .sc (.num .i64 8)], fun ρ => by simp only [List.map_cons, List.map_nil, asI_sound hx ρ, asI_sound hy ρ]; rfl, fun z hz => ?_, trivial, ok_refBig v hp.1⟩
  simp only [List.mem_cons, List.not_mem_nil, or_false] at hz
  rcases hz with rfl | rfl <;> trivial

theorem ok_refText (a : Nat) : Owes Try.prog cxText [] 12 Try.f54 [sU a] (textG a) := by
  rw [vc_refText]
  simp only [ByteArray.size_append, big8_size]
  exact ⟨limb_range _ _, limb_range _ _, by decide, limb_range _ _, by decide, limb_range _ _, by decide, trivial⟩
theorem card_refText : FnOK Try.prog 54 (specU textG) :=
  FnOK_U (cx := cxText) (CxOK_cons card_refBig CxOK_nil) (iv := []) (N := 12) Try.func54 (by kernel_rfl) (by kernel_rfl) (fun _ => trivial) ok_refText

theorem ok_refWord (s : ByteArray) (hs : s.size = 32) : Owes Try.prog .none [(3, .inv (invWord s))] 12 Try.f53 [sStr s] (.one (.agg [.f .u8 32 (wrdF s)])) := by
  rw [vc_refWord, hs]
  refine ⟨fun y => rfl, 0, Nat.zero_le _, rfl, rfl, rfl, ?_, rfl, fun y hy => ⟨id, id, fun h => ?_, fun h => ⟨fun j hj => ?_, trivial⟩⟩⟩
  · repeat' (first | exact rfl | exact trivial | apply And.intro)
  · rw [Bool.and_eq_true, decide_eq_true_eq, decide_eq_true_eq] at h
    have h1 : (y : Int) < 32 := h.2
    refine ⟨⟨by omega, by omega⟩, ⟨by omega, h1⟩, ⟨by omega, h1⟩, y + 1, by omega, rfl, ?_, rfl, ⟨fun j hj => ?_, trivial⟩, rfl, by omega⟩
    · rw [wrapi (by omega)]; rfl
    · rw [Int.toNat_natCast]
      by_cases e : j = y
      · subst e
        rw [if_pos rfl, if_pos (by omega)]; rfl
      · rw [if_neg e]
        by_cases l : j < y
        · rw [if_pos l, if_pos (by omega)]
        · rw [if_neg l, if_neg (by omega)]
  · rw [Bool.and_eq_false_iff, decide_eq_false_iff_not, decide_eq_false_iff_not] at h
    have h1 : ¬ (y : Int) < 32 := by rcases h with h | h <;> exact h
    rw [if_pos (by omega)]
theorem card_refWord : FnOK Try.prog 53 cWrd32 := by
  refine FnOK_of Try.func53 (by kernel_rfl) (by kernel_rfl) fun args ps sv hs hp => ?_
  unfold cWrd32 at hs
  split at hs
  case h_2 => cases hs
  rename_i s
  simp only [Option.some.injEq, Prod.mk.injEq] at hs
  obtain ⟨rfl, rfl⟩ := hs
  have hb : (SV.one (.agg [.f .u8 32 (wrdF s)])).bnd none0 := fun k hk => by simp only [List.mem_singleton] at hk; subst hk; trivial
  refine ⟨hb, fun ρ w hz hg _ => ?_⟩
  refine (calls_of_owesG CxOK_nil Try.func53 (by kernel_rfl) (ok_refWord s hp.1) ρ w hz hg (fun x hx => ?_)).mono ?_
  · simp only [List.mem_singleton] at hx
    subst hx
    trivial
  · rintro e w' ⟨v, rfl, ⟨ρ', hr⟩, hbl⟩
    exact ⟨v, rfl, rep_none0 hb hr, hbl⟩

theorem limb_byte (a q r : Nat) (hr : r < 8) : limb a q / 256 ^ r % 256 = by8 a (8 * q + r) := by
  unfold limb by8
  have e : a / 2 ^ (64 * q) % 2 ^ 64 / 256 ^ r % 256 = a / 2 ^ (8 * (8 * q + r)) % 256 := by
    rw [show 256 ^ r = 2 ^ (8 * r) by rw [Nat.pow_mul], show (2 : Nat) ^ 64 = 2 ^ (8 * r) * 2 ^ (64 - 8 * r) by rw [← Nat.pow_add]; congr 1; omega, Nat.mod_mul_right_div_self, Nat.mod_mod_of_dvd _ (by rw [show (256 : Nat) = 2 ^ 8 from rfl]; exact Nat.pow_dvd_pow 2 (by omega)), Nat.div_div_eq_div_mul, ← Nat.pow_add]
    congr 3
    omega
  rw [← e]
  simp
theorem big8_at (v : Int) (j : Nat) (hj : j < 8) : wrdF (big8 v) j = v / 256 ^ (7 - j) % 256 := by
  have : ∀ z : Int, ((UInt8.ofNat (z % 256).toNat).toNat : Int) = z % 256 := fun z => by
    rw [UInt8.toNat_ofNat']; omega
  show ((byteAt (big8 v) j : Nat) : Int) = _
  rw [byteAt_list, big8_list]
  rcases j with _ | _ | _ | _ | _ | _ | _ | _ | j
  all_goals first | omega | exact this _
theorem big8_limb (a q j : Nat) (hj : j < 8) : wrdF (big8 (limb a q)) j = by8 a (8 * q + (7 - j)) := by
  rw [big8_at _ _ hj, limb_byte _ _ _ (by omega)]
theorem wrdF_app (s t : ByteArray) (j : Nat) : wrdF (s ++ t) j = if j < s.size then wrdF s j else wrdF t (j - s.size) := by
  show ((byteAt (s ++ t) j : Nat) : Int) = _
  rw [byteAt_app]
  split <;> rfl
theorem ok_refBO (a : Nat) : Owes Try.prog cxBO [] 12 Try.f25 [sU a] (bytesG a) := by
  have h := vc_refBO a (fun j => by8 a (31 - j))
  unfold bytesG sBy
  rw [h]
  refine ⟨by simp only [ByteArray.size_append, big8_size], fun j hj => ?_, trivial⟩
  simp only [wrdF_app, ByteArray.size_append, big8_size]
  by_cases h1 : j < 8
  · rw [if_pos (by omega), if_pos (by omega), if_pos h1, big8_limb _ _ _ h1]
    congr 1; omega
  · by_cases h2 : j < 16
    · rw [if_pos (by omega), if_pos (by omega), if_neg (by omega), big8_limb _ _ _ (by omega)]
      congr 1; omega
    · by_cases h3 : j < 24
      · rw [if_pos (by omega), if_neg (by omega), big8_limb _ _ _ (by omega)]
        congr 1; omega
      · rw [if_neg (by omega), big8_limb _ _ _ (by omega)]
        congr 1; omega
theorem card_refBO : FnOK Try.prog 25 (specU bytesG) :=
  FnOK_U (cx := cxBO) (CxOK_cons card_refText (CxOK_cons card_refWord CxOK_nil)) (iv := []) (N := 12) Try.func25 (by kernel_rfl) (by kernel_rfl) (fun a k hk => by simp only [List.mem_singleton] at hk; subst hk; trivial) ok_refBO

def prt (g : Nat → Int) (o : Nat) : Nat → Nat
  | 0 => 0
  | n + 1 => prt g o n * 256 + (g (o + n)).toNat
theorem prt_lt (g : Nat → Int) (h : byteOK 32 g) (o : Nat) : ∀ n, o + n ≤ 32 → prt g o n < 256 ^ n
  | 0, _ => Nat.one_pos
  | n + 1, hn => by
    have ih := prt_lt g h o n (by omega)
    have := h (o + n) (by omega)
    rw [prt, Nat.pow_succ]
    omega
def prtA (g : Nat → Int) (y q : Nat) : Int := (prt g (8 * (3 - q)) (min 8 (y - 8 * (3 - q))) : Nat)
theorem prtA_range (g : Nat → Int) (h : byteOK 32 g) (y q : Nat) : 0 ≤ prtA g y q ∧ prtA g y q < 18446744073709551616 := by
  have h1 := prt_lt g h (8 * (3 - q)) (min 8 (y - 8 * (3 - q))) (by omega)
  have h2 : 256 ^ (min 8 (y - 8 * (3 - q))) ≤ 256 ^ 8 := Nat.pow_le_pow_right (by decide) (Nat.min_le_left _ _)
  have h3 : (256 : Nat) ^ 8 = 18446744073709551616 := by decide
  unfold prtA
  omega
theorem prt_step (g : Nat → Int) (h : byteOK 32 g) (y j : Nat) (hy : y < 32) (hj : j < 4) (e : j = 3 - y / 8) : IntKind.u64.wrap (IntKind.u64.wrap (prtA g y j * 256) + IntKind.u64.wrap (g y)) = prtA g (y + 1) j := by
  subst e
  have b := h y hy
  have e1 : min 8 (y - 8 * (3 - (3 - y / 8))) = y % 8 := by omega
  have e2 : min 8 (y + 1 - 8 * (3 - (3 - y / 8))) = y % 8 + 1 := by omega
  have e3 : 8 * (3 - (3 - y / 8)) + y % 8 = y := by omega
  unfold prtA
  rw [e1, e2, prt, e3]
  have l := prt_lt g h (8 * (3 - (3 - y / 8))) (y % 8) (by omega)
  have l2 : 256 ^ (y % 8) ≤ 256 ^ 7 := Nat.pow_le_pow_right (by decide) (by omega)
  have l3 : (256 : Nat) ^ 7 = 72057594037927936 := by decide
  generalize prt g (8 * (3 - (3 - y / 8))) (y % 8) = p at *
  rw [wrap64 (x := (p : Int) * 256) (by omega), wrap64 (x := g y) (by omega), wrap64 (by omega)]
  omega
theorem prt_rest (g : Nat → Int) (y j : Nat) (hy : y < 32) (hj : j < 4) (e : j ≠ 3 - y / 8) : prtA g y j = prtA g (y + 1) j := by
  unfold prtA
  rw [show min 8 (y + 1 - 8 * (3 - j)) = min 8 (y - 8 * (3 - j)) by omega]
theorem prt_join (g : Nat → Int) : join (prtA g 32 0) (prtA g 32 1) (prtA g 32 2) (prtA g 32 3) = fromN g 32 := by
  unfold join prtA
  simp only [Int.toNat_natCast, Nat.reduceMul, Nat.reduceSub, Nat.reduceLeDiff, Nat.min_eq_left, prt, fromN, Nat.reduceAdd, Nat.reducePow, Nat.min_self, Nat.zero_add, Nat.add_zero]
  omega
theorem ok_refFB (g : Nat → Int) (h : byteOK 32 g) : Owes Try.prog .none [(3, .inv (invFB g (prtA g)))] 40 Try.f26 [.agg [.f .u8 32 g]] (fromG g) := by
  have hv := vc_refFB g (prtA g) (fromN g 32)
  unfold fromG
  rw [hv]
  refine ⟨fun y => rfl, 0, Nat.zero_le _, ⟨fun _ _ => rfl, trivial⟩, rfl, rfl, ⟨?_, ?_, ?_, ?_, trivial⟩, rfl, fun y hy => ⟨fun hl => ?_, fun hl => ?_⟩⟩
  · rfl
  · rfl
  · rfl
  · rfl
  · have hl : (y : Int) < 32 := of_decide_eq_true hl
    have e1 : IntKind.i64.wrap (3 - IntKind.i64.wrap ((y : Int).tdiv 8)) = ((3 - y / 8 : Nat) : Int) := by
      rw [Int.tdiv_eq_ediv_of_nonneg (by omega), wrapi (x := (y : Int) / 8) (by omega), wrapi (by omega)]
      omega
    rw [e1, Int.toNat_natCast, Int.toNat_natCast]
    have b : (0 : Int) ≤ ((3 - y / 8 : Nat) : Int) ∧ ((3 - y / 8 : Nat) : Int) < 4 := by omega
    refine ⟨⟨by omega, hl⟩, b, b, b, b, y + 1, by omega, ⟨fun _ _ => rfl, trivial⟩, ?_, rfl, ⟨fun j hj => ?_, trivial⟩, rfl, by omega⟩
    · rw [wrapi (by omega)]; rfl
    · by_cases e : j = 3 - y / 8
      · rw [if_pos e, ← e]
        exact prt_step g h y j (by omega) hj e
      · rw [if_neg e]
        exact prt_rest g y j (by omega) hj e
  · have hl : ¬ (y : Int) < 32 := of_decide_eq_false hl
    have e : y = 32 := by omega
    subst e
    refine ⟨prtA_range g h _ _, prtA_range g h _ _, prtA_range g h _ _, prtA_range g h _ _, ?_, trivial⟩
    rw [prt_join]
theorem card_refFB : FnOK Try.prog 26 (specB fromG) := by
  refine FnOK_of Try.func26 (by kernel_rfl) (by kernel_rfl) fun args ps sv hs hp => ?_
  unfold specB at hs
  split at hs
  case h_2 => cases hs
  rename_i x
  split at hs
  case h_2 => cases hs
  rename_i g hx
  simp only [Option.some.injEq, Prod.mk.injEq] at hs
  obtain ⟨rfl, rfl⟩ := hs
  have hb : (fromG g).bnd none0 := bnd_one (bnd_U _)
  refine ⟨hb, fun ρ w hz hg _ => ?_⟩
  simp only [List.map_cons, List.map_nil]
  rw [asBy_sound hx ρ]
  refine (calls_of_owesG CxOK_nil Try.func26 (by kernel_rfl) (ok_refFB g hp.1) ρ w hz hg (fun x hx => ?_)).mono ?_
  · simp only [List.mem_singleton] at hx
    subst hx
    intro k hk
    simp only [List.mem_singleton] at hk
    subst hk
    trivial
  · rintro e w' ⟨v, rfl, ⟨ρ', hr⟩, hbl⟩
    exact ⟨v, rfl, rep_none0 hb hr, hbl⟩
theorem ok_WideBytes : ∀ (a : Nat) (g : Nat → Int), byteOK 32 g → Owes Try.prog cxWBy [] 10 Try.f7 [sU a, sBy 32 g] yes := by
  intro a g h
  rw [vc_WideBytes]
  intro x1 x2
  have e1 : x1 = true := by
    show conj [(List.range 32).all fun j => by8 a (31 - j) == by8 a (31 - j)] = true
    simp [conj]
  refine ⟨h, h, id, id, id, ?_⟩
  rw [e1, beq_self_eq_true]; rfl
theorem cxok_WBy : CxOK Try.prog cxWBy := CxOK_cons card_Bytes (CxOK_cons card_From (CxOK_cons card_refBO (CxOK_cons card_refFB CxOK_nil)))
end Go.Proofs.Ytbjdchpncbgpnaa
end
