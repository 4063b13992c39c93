/-
  Texts: P424.
-/
import Derived.Test.YtehphcdlcakcaaaM1
import Derived.Test.YtehphcdlcakcaaaM2
import Derived.Test.YtehphcdlcakcaaaM3
import Derived.Test.YtehphcdlcakcaaaM4
import Derived.Test.YtehphcdlcakcaaaM5
import Derived.Test.YtehphcdlcakcaaaM6
import Derived.Test.YtehphcdlcakcaaaM7
import Derived.Test.YtehphcdlcakcaaaM8
import Derived.Test.YtehphcdlcakcaaaM9
import Derived.Test.YtehphcdlcakcaaaM10
import Derived.Test.YtehphcdlcakcaaaM11
import Derived.ChangeMaps5
section
namespace Go.Proofs.Ytehphcdlcakcaaa
open Go.ChangeShapes Go.WideShapes Go.ChangeAt Go.RowKit Go.Sx
def rawLK : List LK := [.int .i64, .int .i64, .int .i64, .text]
def strV : Value → ByteArray
  | .string s => s
  | _ => ⟨#[]⟩
theorem str_size {v : Value} (h : LK.fits .text v) : (strV v).size ≤ maxLen := by
  cases v <;> first | exact h | exact h.elim
theorem fits_raws {w : World} {a : Option Addr} {n cap : Nat} {f : Nat → Nat → Value} (hf : ∀ i, i < n → ∀ (c : Nat) (x : LK), rawLK[c]? = some x → x.fits (f i c)) (hb : SC.bnd ⟨fun _ => False, (Rho.whole w).fz⟩ (.xs a n cap 4 fun i c => .val (f i c))) :
    ∃ (K A B : Nat → Int) (s : Nat → ByteArray), (∀ i, i < n → i64ok (K i) ∧ (s i).size ≤ maxLen) ∧ SC.bnd ⟨fun _ => False, (Rho.whole w).fz⟩ (.xs a n cap 4 (rawF K A B s)) := by
  refine ⟨fun i => intV (f i 0), fun i => intV (f i 1), fun i => intV (f i 2), fun i => strV (f i 3), fun i hi => ⟨bounds_i64 (fit_int (hf i hi 0 _ rfl)).2, str_size (hf i hi 3 .text rfl)⟩, Go.Sx.xs_told hb fun i hi c hc => ?_⟩
  match c, hc with
  | 0, _ => exact ⟨(fit_int (hf i hi 0 _ rfl)).1, trivial, rfl⟩
  | 1, _ => exact ⟨(fit_int (hf i hi 1 _ rfl)).1, trivial, rfl⟩
  | 2, _ => exact ⟨(fit_int (hf i hi 2 _ rfl)).1, trivial, rfl⟩
  | 3, _ =>
    have h3 := hf i hi 3 .text rfl
    refine ⟨?_, trivial, rfl⟩
    show f i 3 = .string (strV (f i 3))
    cases hv : f i 3 <;> rw [hv] at h3 <;> first | rfl | exact h3.elim
theorem open_rs {H : Type} {enc : TypeId × Value → H} {W : World} {base b0 : Nat} {sp : Nat → Bool} {held : Bool} {v : Value} {d : DataW H} {ps : List MemPlace}
    (hval : Unit → Value.okWide Try.prog W .any b0 22 v) (h : Unit → DataW.Trod enc Try.prog W base sp held 22 v d ps) :
    ∃ (a : Option Addr) (n cap : Nat) (K A B : Nat → Int) (s : Nat → ByteArray), v = SA.conc (Rho.whole W) (.sc (.xs a n cap 4 (rawF K A B s))) ∧ n ≤ maxLen ∧ (∀ i, i < n → i64ok (K i) ∧ (s i).size ≤ maxLen) ∧ SC.bnd ⟨fun _ => False, (Rho.whole W).fz⟩ (.xs a n cap 4 (rawF K A B s)) := by
  have hx : (LQ.sl rawLK).fits W v := by
    refine open_sl (H := H) (enc := enc) (P := Try.prog) (w := W) (base := base) (sp := sp) (held := held) (d := 3) (t := 22) (e := 44) (ks := rawLK) (r := .any) (b0 := b0) (v := v) (x := d) (ps := ps) ?_ ?_ ?_ ?_ ?_ ?_
    · kernel_rfl
    · kernel_rfl
    · kernel_rfl
    · decide
    · with_reducible exact hval ()
    · with_reducible exact h ()
  obtain ⟨a, n, cap, f, rfl, hm, hf, hb⟩ := hx
  obtain ⟨K, A, B, s, hk, hb⟩ := fits_raws hf hb
  exact ⟨a, n, cap, K, A, B, s, rfl, hm, hk, hb⟩
theorem open_str {H : Type} {enc : TypeId × Value → H} {W : World} {base b0 : Nat} {sp : Nat → Bool} {held : Bool} {v : Value} {d : DataW H} {ps : List MemPlace}
    (hval : Unit → Value.okWide Try.prog W .any b0 9 v) (h : Unit → DataW.Trod enc Try.prog W base sp held 9 v d ps) : ∃ s, v = SA.conc Rho.nil (.sc (.val (.string s))) ∧ s.size ≤ maxLen := by
  have hu : Try.prog.underlying 9 = some .string := by kernel_rfl
  obtain ⟨s, e, _, _, w⟩ := Go.ChangeMaps.open_string hu (by with_reducible exact hval ()) (by with_reducible exact h ())
  exact ⟨s, e, w⟩
end Go.Proofs.Ytehphcdlcakcaaa
end
