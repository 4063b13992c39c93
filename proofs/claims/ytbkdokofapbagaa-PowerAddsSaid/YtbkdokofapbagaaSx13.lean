/-
  A calculus of symbolic states for walks over translated Go code, part 13: the library's sums and differences with a carry.
-/
import Derived.Test.YtbkdokofapbagaaSx12
namespace Go.Sx
open Go.RowKit

def specAdd64 : FSpec := fun args =>
  match args with
  | [x, y, c] => match asI x, asI y, asI c with
    | some (.u64, x), some (.u64, y), some (.u64, c) => some ([0 ≤ x, 0 ≤ y, 0 ≤ c ∧ c ≤ 1], .tup [sI .u64 ((x + y + c) % 18446744073709551616), sI .u64 ((x + y + c) / 18446744073709551616)])
    | _, _, _ => none
  | _ => none
def specSub64 : FSpec := fun args =>
  match args with
  | [x, y, c] => match asI x, asI y, asI c with
    | some (.u64, x), some (.u64, y), some (.u64, c) => some ([0 ≤ x ∧ x < 18446744073709551616, 0 ≤ y ∧ y < 18446744073709551616, 0 ≤ c ∧ c ≤ 1], .tup [sI .u64 ((x - y - c) % 18446744073709551616), sI .u64 (-((x - y - c) / 18446744073709551616))])
    | _, _, _ => none
  | _ => none

/-- The model's own entry, by its place in the model's own table. -/
def sub64E : Array Value → Sem Value := (Extern.MathBitsCarry.rows.map (·.2)).getD 1 fun _ => stuck "none"
theorem run_sub64 {P : Program} (x y b : Nat) (hb : b ≤ 1) (w : World) :
    (sub64E #[.int .u64 x, .int .u64 y, .int .u64 b]).run P w =
      .ok (.tuple #[.int .u64 (((x + 18446744073709551616 - y - b) % 18446744073709551616 : Nat) : Int), .int .u64 ((if x < y + b then 1 else 0 : Nat) : Int)]) w := by
  have : b = 0 ∨ b = 1 := by omega
  rcases this with rfl | rfl <;> rfl
theorem run_sub64I {P : Program} (x y c : Int) (hx : 0 ≤ x ∧ x < 18446744073709551616) (hy : 0 ≤ y ∧ y < 18446744073709551616) (hc : 0 ≤ c ∧ c ≤ 1) (w : World) :
    (sub64E #[.int .u64 x, .int .u64 y, .int .u64 c]).run P w = .ok (.tuple #[.int .u64 ((x - y - c) % 18446744073709551616), .int .u64 (-((x - y - c) / 18446744073709551616))]) w := by
  obtain ⟨k, rfl⟩ := Int.eq_ofNat_of_zero_le hc.1
  obtain ⟨X, rfl⟩ := Int.eq_ofNat_of_zero_le hx.1
  obtain ⟨Y, rfl⟩ := Int.eq_ofNat_of_zero_le hy.1
  rw [run_sub64 (P := P) X Y k (by omega) w]
  congr 5
  · omega
  · congr 2
    split <;> omega

theorem FnOK_add64 {P : Program} {f : Nat} {fn : Func} (hf : P.funcs[f]? = some fn) (hn : (fn.name == "runtime.NumGoroutine") = false) (hb : fn.body.isNone = true) (h1 : Extern.findNext fn = none) (h2 : Extern.find fn = some add64Entry) : FnOK P f specAdd64 := by
  intro args ps sv hs hp
  unfold specAdd64 at hs
  split at hs
  · rename_i x y c
    split at hs
    · rename_i x' y' c' hx hy hc
      simp only [Option.some.injEq, Prod.mk.injEq] at hs
      obtain ⟨rfl, rfl⟩ := hs
      obtain ⟨p1, p2, ⟨p3, p4⟩, _⟩ := hp
      refine ⟨fun z hz => by simp only [List.mem_cons, List.not_mem_nil, or_false] at hz; rcases hz with rfl | rfl <;> trivial, fun ρ w => .inr ⟨.tuple #[.int .u64 ((x' + y' + c') % 18446744073709551616), .int .u64 ((x' + y' + c') / 18446744073709551616)], ?_, ?_⟩⟩
      · rw [run_callFunc_extern hf hn hb h1 h2]
        simp only [List.map_cons, List.map_nil, asI_sound hx ρ, asI_sound hy ρ, asI_sound hc ρ, run_add64 x' y' c' p1 p2 p3 p4 w, Result.andThen_ok]
      · simp [SV.rep, SA.conc, SC.conc]
    · cases hs
  · cases hs
theorem FnOK_sub64 {P : Program} {f : Nat} {fn : Func} (hf : P.funcs[f]? = some fn) (hn : (fn.name == "runtime.NumGoroutine") = false) (hb : fn.body.isNone = true) (h1 : Extern.findNext fn = none) (h2 : Extern.find fn = some sub64E) : FnOK P f specSub64 := by
  intro args ps sv hs hp
  unfold specSub64 at hs
  split at hs
  · rename_i x y c
    split at hs
    · rename_i x' y' c' hx hy hc
      simp only [Option.some.injEq, Prod.mk.injEq] at hs
      obtain ⟨rfl, rfl⟩ := hs
      obtain ⟨p1, p2, p3, _⟩ := hp
      refine ⟨fun z hz => by simp only [List.mem_cons, List.not_mem_nil, or_false] at hz; rcases hz with rfl | rfl <;> trivial, fun ρ w => .inr ⟨.tuple #[.int .u64 ((x' - y' - c') % 18446744073709551616), .int .u64 (-((x' - y' - c') / 18446744073709551616))], ?_, ?_⟩⟩
      · rw [run_callFunc_extern hf hn hb h1 h2]
        simp only [List.map_cons, List.map_nil, asI_sound hx ρ, asI_sound hy ρ, asI_sound hc ρ, run_sub64I x' y' c' p1 p2 p3 w, Result.andThen_ok]
      · simp [SV.rep, SA.conc, SC.conc]
    · cases hs
  · cases hs

end Go.Sx
