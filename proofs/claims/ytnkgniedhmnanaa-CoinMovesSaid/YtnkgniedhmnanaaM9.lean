/-
  Texts: Sx13, Dgs, Wsp, Wsp2, Wsp3, Wsp4, Wsp6, Wsp5, Wsp7, Wsp8, Sx15, Sx16, Wsp9, Okx, Byt, Lex, V160, P260, V1, P1, P2, Lift, C1.
-/
import Derived.Test.YtnkgniedhmnanaaM1
import Derived.Test.YtnkgniedhmnanaaM2
import Derived.Test.YtnkgniedhmnanaaM3
import Derived.Test.YtnkgniedhmnanaaM4
import Derived.Test.YtnkgniedhmnanaaM5
import Derived.Test.YtnkgniedhmnanaaM6
import Derived.Test.YtnkgniedhmnanaaM7
import Derived.Test.YtnkgniedhmnanaaM8
import Derived.Lib.BytesEntry
import Derived.Test.YtnkgniedhmnanaaChecked
import Derived.Test.YtnkgniedhmnanaaRows
import Derived.ProofKit
import Derived.OpenShut
section
namespace Go.Sx
open Go.RowKit
def specAdd64 : FSpec := fun args =>
  match args with
  | [x, y, c] => match asI x, asI y, asI c with
    | some (.u64, x), some (.u64, y), some (.u64, c) => some ([0 ≤ x, 0 ≤ y, 0 ≤ c ∧ c ≤ 1], .tup [sI .u64 ((x + y + c) % 18446744073709551616), sI .u64 ((x + y + c) / 18446744073709551616)])
    | _, _, _ => none
  | _ => none
def specSub64 : FSpec := fun args =>
  match args with
  | [x, y, c] => match asI x, asI y, asI c with
    | some (.u64, x), some (.u64, y), some (.u64, c) => some ([0 ≤ x ∧ x < 18446744073709551616, 0 ≤ y ∧ y < 18446744073709551616, 0 ≤ c ∧ c ≤ 1], .tup [sI .u64 ((x - y - c) % 18446744073709551616), sI .u64 (-((x - y - c) / 18446744073709551616))])
    | _, _, _ => none
  | _ => none
def sub64E : Array Value → Sem Value := (Extern.MathBitsCarry.rows.map (·.2)).getD 1 fun _ => stuck "none"
theorem run_sub64 {P : Program} (x y b : Nat) (hb : b ≤ 1) (w : World) :
    (sub64E #[.int .u64 x, .int .u64 y, .int .u64 b]).run P w =
      .ok (.tuple #[.int .u64 (((x + 18446744073709551616 - y - b) % 18446744073709551616 : Nat) : Int), .int .u64 ((if x < y + b then 1 else 0 : Nat) : Int)]) w := by
  have : b = 0 ∨ b = 1 := by omega
  rcases this with rfl | rfl <;> rfl
theorem run_sub64I {P : Program} (x y c : Int) (hx : 0 ≤ x ∧ x < 18446744073709551616) (hy : 0 ≤ y ∧ y < 18446744073709551616) (hc : 0 ≤ c ∧ c ≤ 1) (w : World) :
    (sub64E #[.int .u64 x, .int .u64 y, .int .u64 c]).run P w = .ok (.tuple #[.int .u64 ((x - y - c) % 18446744073709551616), .int .u64 (-((x - y - c) / 18446744073709551616))]) w := by
  obtain ⟨k, rfl⟩ := Int.eq_ofNat_of_zero_le hc.1
  obtain ⟨X, rfl⟩ := Int.eq_ofNat_of_zero_le hx.1
  obtain ⟨Y, rfl⟩ := Int.eq_ofNat_of_zero_le hy.1
  rw [run_sub64 (P := P) X Y k (by omega) w]
  congr 5
  · omega
  · congr 2
    split <;> omega
theorem FnOK_add64 {P : Program} {f : Nat} {fn : Func} (hf : P.funcs[f]? = some fn) (hn : (fn.name == "runtime.NumGoroutine") = false) (hb : fn.body.isNone = true) (h1 : Extern.findNext fn = none) (h2 : Extern.find fn = some add64Entry) : FnOK P f specAdd64 := by
  intro args ps sv hs hp
  unfold specAdd64 at hs
  split at hs
  · rename_i x y c
    split at hs
    · rename_i x' y' c' hx hy hc
      simp only [Option.some.injEq, Prod.mk.injEq] at hs
      obtain ⟨rfl, rfl⟩ := hs
      obtain ⟨p1, p2, ⟨p3, p4⟩, _⟩ := hp
      refine ⟨fun z hz => by simp only [List.mem_cons, List.not_mem_nil, or_false] at hz; rcases hz with rfl | rfl <;> trivial, fun ρ w _ _ _ => .inr ⟨.tuple #[.int .u64 ((x' + y' + c') % 18446744073709551616), .int .u64 ((x' + y' + c') / 18446744073709551616)], ?_, ?_⟩⟩
      · rw [run_callFunc_extern hf hn hb h1 h2]
        simp only [List.map_cons, List.map_nil, asI_sound hx ρ, asI_sound hy ρ, asI_sound hc ρ, run_add64 x' y' c' p1 p2 p3 p4 w, Result.andThen_ok]
      · simp [SV.rep, SA.conc, SC.conc]
    · cases hs
  · cases hs
theorem FnOK_sub64 {P : Program} {f : Nat} {fn : Func} (hf : P.funcs[f]? = some fn) (hn : (fn.name == "runtime.NumGoroutine") = false) (hb : fn.body.isNone = true) (h1 : Extern.findNext fn = none) (h2 : Extern.find fn = some sub64E) : FnOK P f specSub64 := by
  intro args ps sv hs hp
  unfold specSub64 at hs
  split at hs
  · rename_i x y c
    split at hs
    · rename_i x' y' c' hx hy hc
      simp only [Option.some.injEq, Prod.mk.injEq] at hs
      obtain ⟨rfl, rfl⟩ := hs
      obtain ⟨p1, p2, p3, _⟩ := hp
      refine ⟨fun z hz => by simp only [List.mem_cons, List.not_mem_nil, or_false] at hz; rcases hz with rfl | rfl <;> trivial, fun ρ w _ _ _ => .inr ⟨.tuple #[.int .u64 ((x' - y' - c') % 18446744073709551616), .int .u64 (-((x' - y' - c') / 18446744073709551616))], ?_, ?_⟩⟩
      · rw [run_callFunc_extern hf hn hb h1 h2]
        simp only [List.map_cons, List.map_nil, asI_sound hx ρ, asI_sound hy ρ, asI_sound hc ρ, run_sub64I x' y' c' p1 p2 p3 w, Result.andThen_ok]
      · simp [SV.rep, SA.conc, SC.conc]
    · cases hs
  · cases hs
end Go.Sx
end

section
namespace Go.Sx
open Go.RowKit
def asDg (x : SA) : Option (List Prop × Nat × (Nat → Int)) :=
  match x with
  | .sc (.val (.slice none 0 0)) => some ([], 0, fun _ => 0)
  | .sc (.xs _ n _ w h) => match Nat.beq w 1 with
    | true => some ([∀ i, isKind .u64 (h i 0)], n, fun i => intsC (h i 0))
    | false => none
  | _ => none
theorem asDg_canon {x : SA} {ps : List Prop} {n : Nat} {f : Nat → Int} (h : asDg x = some (ps, n, f)) (hp : Ok ps) : ∃ a cap, (∀ ρ, x.conc ρ = (xsI a n cap .u64 f).conc ρ) ∧ ∀ fz, x.bnd ⟨fun _ => True, fz⟩ → (xsI a n cap .u64 f).bnd ⟨fun _ => False, fz⟩ := by
  unfold asDg at h
  split at h
  · simp only [Option.some.injEq, Prod.mk.injEq] at h
    obtain ⟨rfl, rfl, rfl⟩ := h
    exact ⟨none, 0, fun _ => rfl, fun _ _ => ⟨fun _ => ⟨rfl, rfl⟩, Nat.le_refl _, fun b hb => by cases hb⟩⟩
  · rename_i a m cap w g
    split at h
    case h_2 => cases h
    rename_i hw
    have hw := Nat.eq_of_beq_eq_true hw
    subst hw
    simp only [Option.some.injEq, Prod.mk.injEq] at h
    obtain ⟨rfl, rfl, rfl⟩ := h
    refine ⟨a, cap, fun _ => rfl, fun fz hb => ⟨hb.1, hb.2.1, fun b e => ⟨(hb.2.2 b e).1, fun i hi c hc => ?_⟩⟩⟩
    obtain ⟨_, _, q⟩ := (hb.2.2 b e).2 i hi c hc
    have hc0 : c = 0 := by omega
    subst hc0
    rw [isKind_sound (hp.1 i) Rho.nil] at q
    exact ⟨trivial, rfl, q⟩
  · cases h
def specD (sh : Bool) (c : Nat → (Nat → Int) → List Prop) (r : Nat → (Nat → Int) → List RS) : SSpec := ⟨sh, fun args =>
  match args with
  | [x] => match asDg x with
    | some (p, n, f) => some (p ++ c n f, r n f)
    | none => none
  | _ => none⟩
def specDD (sh : Bool) (c : Nat → (Nat → Int) → Nat → (Nat → Int) → List Prop) (r : Nat → (Nat → Int) → Nat → (Nat → Int) → List RS) : SSpec := ⟨sh, fun args =>
  match args with
  | [x, y] => match asDg x, asDg y with
    | some (p, n, f), some (q, m, g) => some (p ++ (q ++ c n f m g), r n f m g)
    | _, _ => none
  | _ => none⟩
def specUR (r : Nat → List RS) : SSpec := ⟨false, fun args =>
  match args with
  | [x] => match asU x with
    | some (p, a) => some (p, r a)
    | none => none
  | _ => none⟩
section
variable {P : Program} {cx : Cx} {sl : List (Nat × SSpec)} {f : Nat} {fn : Func}
theorem FnOKs_D (hcx : CxOK P cx) (hsl : ∀ p ∈ sl, FnOKs P cx.gl p.1 p.2) (hf : P.funcs[f]? = some fn) (hb : fn.body.isSome = true) (hn : (fn.name == "runtime.NumGoroutine") = false) {sh : Bool} {c : Nat → (Nat → Int) → List Prop} {r : Nat → (Nat → Int) → List RS} {iv : Option Addr → Nat → Nat → (Nat → Int) → List (Nat × Hint)} {N : Nat} (hr : ∀ n f, ∀ x ∈ r n f, x.closed)
    (h : ∀ a n cap g, Ok (c n g) → OwesR P cx sl (iv a n cap g) N fn [xsI a n cap .u64 g] sh (r n g)) : FnOKs P cx.gl f (specD sh c r) := by
  refine FnOKs_owes hcx hsl hf hb hn fun args ps rs hs hp => ?_
  simp only [specD] at hs
  split at hs
  case h_2 => cases hs
  rename_i x
  split at hs
  case h_2 => cases hs
  rename_i p n g hx
  simp only [Option.some.injEq, Prod.mk.injEq] at hs
  obtain ⟨rfl, rfl⟩ := hs
  obtain ⟨o1, o2⟩ := Ok.append.1 hp
  obtain ⟨a, cap, k1, k2⟩ := asDg_canon hx o1
  refine ⟨iv a n cap g, N, [xsI a n cap .u64 g], fun ρ => by simp only [List.map_cons, List.map_nil, k1 ρ], fun fz ha z hz => ?_, hr n g, h a n cap g o2⟩
  simp only [List.mem_singleton] at hz
  subst hz
  exact k2 fz (ha x (by simp))
theorem FnOKs_DD (hcx : CxOK P cx) (hsl : ∀ p ∈ sl, FnOKs P cx.gl p.1 p.2) (hf : P.funcs[f]? = some fn) (hb : fn.body.isSome = true) (hn : (fn.name == "runtime.NumGoroutine") = false) {sh : Bool} {c : Nat → (Nat → Int) → Nat → (Nat → Int) → List Prop} {r : Nat → (Nat → Int) → Nat → (Nat → Int) → List RS} {iv : Option Addr → Nat → Nat → (Nat → Int) → Option Addr → Nat → Nat → (Nat → Int) → List (Nat × Hint)} {N : Nat} (hr : ∀ n f m g, ∀ x ∈ r n f m g, x.closed)
    (h : ∀ a n cap g a' n' cap' g', Ok (c n g n' g') → OwesR P cx sl (iv a n cap g a' n' cap' g') N fn [xsI a n cap .u64 g, xsI a' n' cap' .u64 g'] sh (r n g n' g')) : FnOKs P cx.gl f (specDD sh c r) := by
  refine FnOKs_owes hcx hsl hf hb hn fun args ps rs hs hp => ?_
  simp only [specDD] at hs
  split at hs
  case h_2 => cases hs
  rename_i x y
  split at hs
  case h_2 => cases hs
  rename_i p n g q n' g' hx hy
  simp only [Option.some.injEq, Prod.mk.injEq] at hs
  obtain ⟨rfl, rfl⟩ := hs
  obtain ⟨o1, o23⟩ := Ok.append.1 hp
  obtain ⟨o2, o3⟩ := Ok.append.1 o23
  obtain ⟨a, cap, k1, k2⟩ := asDg_canon hx o1
  obtain ⟨a', cap', k1', k2'⟩ := asDg_canon hy o2
  refine ⟨iv a n cap g a' n' cap' g', N, [xsI a n cap .u64 g, xsI a' n' cap' .u64 g'], fun ρ => by simp only [List.map_cons, List.map_nil, k1 ρ, k1' ρ], fun fz ha z hz => ?_, hr n g n' g', h a n cap g a' n' cap' g' o3⟩
  simp only [List.mem_cons, List.not_mem_nil, or_false] at hz
  rcases hz with rfl | rfl
  · exact k2 fz (ha x (by simp))
  · exact k2' fz (ha y (by simp))
theorem bnd_Un {n : Env} (a : Nat) : (SA.agg [SK.u a]).bnd n := by
  intro k hk
  simp only [List.mem_singleton] at hk
  subst hk
  trivial
theorem FnOKs_UR (hcx : CxOK P cx) (hsl : ∀ p ∈ sl, FnOKs P cx.gl p.1 p.2) (hf : P.funcs[f]? = some fn) (hb : fn.body.isSome = true) (hn : (fn.name == "runtime.NumGoroutine") = false) {r : Nat → List RS} {iv : Nat → List (Nat × Hint)} {N : Nat} (hr : ∀ a, ∀ x ∈ r a, x.closed)
    (h : ∀ a, OwesR P cx sl (iv a) N fn [sU a] false (r a)) : FnOKs P cx.gl f (specUR r) := by
  refine FnOKs_owes hcx hsl hf hb hn fun args ps rs hs hp => ?_
  simp only [specUR] at hs
  split at hs
  case h_2 => cases hs
  rename_i x
  split at hs
  case h_2 => cases hs
  rename_i p a hx
  simp only [Option.some.injEq, Prod.mk.injEq] at hs
  obtain ⟨rfl, rfl⟩ := hs
  refine ⟨iv a, N, [sU a], fun ρ => by simp only [List.map_cons, List.map_nil, asU_canon hx hp ρ], fun fz _ z hz => ?_, hr a, h a⟩
  simp only [List.mem_singleton] at hz
  subst hz
  exact bnd_Un a
end
def vz (f : Nat → Int) : Nat → Int
  | 0 => 0
  | n + 1 => vz f n + f n * 4294967296 ^ n
def dg (X : Nat) (i : Nat) : Int := ((X / 4294967296 ^ i % 4294967296 : Nat) : Int)
structure dgs (n : Nat) (f : Nat → Int) : Prop where
  at' : ∀ i, i < n → 0 ≤ f i ∧ f i < 4294967296
def vn (n : Nat) (f : Nat → Int) : Nat := (vz f n).toNat
theorem vz_congr {f g : Nat → Int} : ∀ {n : Nat}, (∀ i, i < n → f i = g i) → vz f n = vz g n
  | 0, _ => rfl
  | n + 1, h => by simp only [vz]; rw [vz_congr fun i hi => h i (by omega), h n (by omega)]
theorem pw_pos (n : Nat) : (0 : Int) < 4294967296 ^ n := Int.pow_pos (by decide)
theorem vz_bound {f : Nat → Int} : ∀ {n : Nat}, dgs n f → 0 ≤ vz f n ∧ vz f n < 4294967296 ^ n
  | 0, _ => by simp [vz]
  | n + 1, h => by
    obtain ⟨h1, h2⟩ := vz_bound (n := n) ⟨fun i hi => h.at' i (by omega)⟩
    obtain ⟨k1, k2⟩ := h.at' n (by omega)
    have hp := pw_pos n
    simp only [vz, Int.pow_succ]
    refine ⟨Int.add_nonneg h1 (Int.mul_nonneg k1 (Int.le_of_lt hp)), ?_⟩
    have : f n * 4294967296 ^ n ≤ 4294967295 * 4294967296 ^ n := Int.mul_le_mul_of_nonneg_right (by omega) (Int.le_of_lt hp)
    omega
theorem vn_cast {f : Nat → Int} {n : Nat} (h : dgs n f) : ((vn n f : Nat) : Int) = vz f n := by
  unfold vn
  have := (vz_bound h).1
  omega
theorem vn_lt {f : Nat → Int} {n : Nat} (h : dgs n f) : vn n f < 4294967296 ^ n := by
  have h1 := vn_cast h
  have h2 := (vz_bound h).2
  have : ((vn n f : Nat) : Int) < ((4294967296 ^ n : Nat) : Int) := by rw [h1, Int.natCast_pow]; exact h2
  omega
theorem dgs_dg (n X : Nat) : dgs n (dg X) := ⟨fun i _ => by
  unfold dg
  have := Nat.mod_lt (X / 4294967296 ^ i) (show 0 < 4294967296 by decide)
  omega⟩
theorem vz_dg (X : Nat) : ∀ n, vz (dg X) n = ((X % 4294967296 ^ n : Nat) : Int)
  | 0 => by simp [vz, Nat.mod_one]
  | n + 1 => by
    simp only [vz, vz_dg X n, dg]
    rw [Nat.pow_succ, Nat.mod_mul]
    have : ((4294967296 ^ n : Nat) : Int) = (4294967296 : Int) ^ n := Int.natCast_pow _ _
    rw [← this, Int.mul_comm]
    exact (Int.natCast_add _ _).symm ▸ (Int.natCast_mul _ _).symm ▸ rfl
theorem vn_dg (n X : Nat) : vn n (dg X) = X % 4294967296 ^ n := by
  unfold vn
  rw [vz_dg]
  exact Int.toNat_natCast _
theorem vn_dg' {n X : Nat} (h : X < 4294967296 ^ n) : vn n (dg X) = X := by rw [vn_dg, Nat.mod_eq_of_lt h]
theorem vz_step {f : Nat → Int} {n : Nat} (h : dgs (n + 1) f) : (vn (n + 1) f) / 4294967296 ^ n = (f n).toNat ∧ (vn (n + 1) f) % 4294967296 ^ n = vn n f := by
  have hn : dgs n f := ⟨fun i hi => h.at' i (by omega)⟩
  have e : vn (n + 1) f = vn n f + 4294967296 ^ n * (f n).toNat := by
    have h1 := vn_cast h
    have h2 := vn_cast hn
    have h3 := (h.at' n (by omega)).1
    have : ((vn (n + 1) f : Nat) : Int) = ((vn n f + 4294967296 ^ n * (f n).toNat : Nat) : Int) := by
      rw [h1, Int.natCast_add, Int.natCast_mul, h2, Int.natCast_pow, Int.toNat_of_nonneg h3, Int.mul_comm]
      rfl
    omega
  have hl := vn_lt hn
  rw [e]
  exact ⟨by rw [Nat.add_mul_div_left _ _ (Nat.pow_pos (by decide)), Nat.div_eq_of_lt hl, Nat.zero_add], by rw [Nat.add_mul_mod_self_left, Nat.mod_eq_of_lt hl]⟩
theorem dg_mod {X n i : Nat} (h : i < n) : dg (X % 4294967296 ^ n) i = dg X i := by
  unfold dg
  have e : (4294967296 : Nat) ^ n = 4294967296 ^ i * (4294967296 * 4294967296 ^ (n - i - 1)) := by
    rw [← Nat.pow_succ', ← Nat.pow_add]
    congr 1
    omega
  rw [e, Nat.mod_mul_right_div_self, Nat.mod_mul_right_mod]
theorem dg_vn {f : Nat → Int} : ∀ {n : Nat}, dgs n f → ∀ i, i < n → dg (vn n f) i = f i
  | 0, _, i, hi => by omega
  | n + 1, h, i, hi => by
    obtain ⟨h1, h2⟩ := vz_step h
    by_cases e : i = n
    · subst e
      obtain ⟨k1, k2⟩ := h.at' i (by omega)
      unfold dg
      rw [h1, Nat.mod_eq_of_lt (by omega)]
      omega
    · rw [← dg_mod (n := n) (by omega), h2]
      exact dg_vn ⟨fun i hi => h.at' i (by omega)⟩ i (by omega)
theorem dg_eq {f : Nat → Int} {n X : Nat} (h : dgs n f) (hX : vz f n = (X : Int)) : ∀ i, i < n → f i = dg X i := by
  have : vn n f = X := by unfold vn; omega
  intro i hi
  rw [← this, dg_vn h i hi]
end Go.Sx
end

section
namespace Go.Sx
open Go.RowKit
def specU (g : Nat → SV) : FSpec := fun args =>
  match args with
  | [x] => match asU x with
    | some (p, a) => some (p, g a)
    | none => none
  | _ => none
theorem FnOK_U {P : Program} {cx : Cx} (hcx : CxOK P cx) {iv : List (Nat × Hint)} {N : Nat} {f : Nat} {fn : Func} (hf : P.funcs[f]? = some fn) (hb : fn.body.isSome = true) (hn : (fn.name == "runtime.NumGoroutine") = false) {g : Nat → SV} (hg : ∀ a, (g a).bnd none0)
    (h : ∀ a, Owes P cx iv N fn [sU a] (g a)) : FnOKg P cx.gl f (specU g) := by
  refine FnOK_owes (iv := iv) (N := N) hcx hf hb hn fun args ps sv hs hp => ?_
  unfold specU at hs
  split at hs
  · rename_i x
    split at hs
    · rename_i p a ha
      simp only [Option.some.injEq, Prod.mk.injEq] at hs
      obtain ⟨rfl, rfl⟩ := hs
      refine ⟨[sU a], fun ρ => by simp only [List.map_cons, List.map_nil, asU_canon ha hp ρ], ?_, hg a, h a⟩
      intro z hz
      simp only [List.mem_singleton] at hz
      subst hz
      intro k hk; simp only [List.mem_singleton] at hk; subst hk; trivial
    · cases hs
  · cases hs
def lookS : List (Nat × SV) → Nat → SV
  | [], _ => .any
  | (k, v) :: r, t => match Nat.beq k t with
    | true => v
    | false => lookS r t
def slotsAt (n : Nat) (l : List (Nat × SV)) : List SV := (List.range n).map (lookS l)
def plusG (a b : Nat) : SV := .tup [sU (a + b), sI .u64 ((a % M256 + b % M256) / M256 : Nat)]
def lessG (a b : Nat) : SV := .tup [sU (a % M256 + M256 - b % M256), sI .u64 (if a % M256 < b % M256 then 1 else 0)]
def addG (a b : Nat) : SV := .tup [sU (a + b), sB (decide (M256 ≤ a % M256 + b % M256))]
def subG (a b : Nat) : SV := .tup [sU (a % M256 + M256 - b % M256), sB (decide (a % M256 < b % M256))]
def yes : SV := .one (sB true)
end Go.Sx
end

section
namespace Go.Sx
open Go.RowKit
end Go.Sx
end

section
namespace Go.Sx
open Go.RowKit
end Go.Sx
end

section
namespace Go.Sx
open Go.RowKit
end Go.Sx
end

section
namespace Go.Sx
open Go.RowKit
section
variable {P : Program} {cx : Cx} {sl : List (Nat × SSpec)} {f : Nat} {fn : Func}
theorem FnOKV_UU (hcx : CxOK P cx) (hsl : ∀ p ∈ sl, FnOKs P cx.gl p.1 p.2) (hf : P.funcs[f]? = some fn) (hb : fn.body.isSome = true) (hn : (fn.name == "runtime.NumGoroutine") = false) {g : Nat → Nat → SV} {iv : Nat → Nat → List (Nat × Hint)} {N : Nat} (hg : ∀ a b, (g a b).bnd none0)
    (h : ∀ a b, OwesV P cx sl (iv a b) N fn [sU a, sU b] (g a b)) : FnOKg P cx.gl f (specUU g) := by
  refine FnOK_owesV hcx hsl hf hb hn fun args ps sv hs hp => ?_
  unfold specUU at hs
  split at hs
  case h_2 => cases hs
  rename_i x y
  split at hs
  case h_2 => cases hs
  rename_i p a q b ha hb'
  simp only [Option.some.injEq, Prod.mk.injEq] at hs
  obtain ⟨rfl, rfl⟩ := hs
  obtain ⟨o1, o2⟩ := Ok.append.1 hp
  refine ⟨iv a b, N, [sU a, sU b], fun ρ => by simp only [List.map_cons, List.map_nil, asU_canon ha o1 ρ, asU_canon hb' o2 ρ], fun fz _ z hz => ?_, hg a b, h a b⟩
  simp only [List.mem_cons, List.not_mem_nil, or_false] at hz
  rcases hz with rfl | rfl
  · exact bnd_Un a
  · exact bnd_Un b
end
end Go.Sx
end

section
namespace Go.Sx
open Go.RowKit
def asBit : SC → Option Bool
  | .bit x => some x
  | .val (.bool x) => some x
  | _ => none
theorem asBit_sound {s : SC} {x : Bool} (h : asBit s = some x) (ρ : Rho) : s.conc ρ = .bool x := by
  unfold asBit at h
  split at h
  · cases h; rfl
  · cases h; rfl
  · cases h
def takeU : List SK → Option (List Prop × Nat × List SK)
  | .u n :: r => some ([], n, r)
  | .c a :: .c b :: .c c :: .c d :: r => match asU4 [a, b, c, d] with
    | some (ps, n) => some (ps, n, r)
    | none => none
  | _ => none
theorem takeU_sound {ks r : List SK} {ps : List Prop} {n : Nat} (h : takeU ks = some (ps, n, r)) (hp : Ok ps) (ρ : Rho) : concs ρ ks = concs ρ (.u n :: r) := by
  unfold takeU at h
  split at h
  · cases h; rfl
  · rename_i a b c d r'
    split at h
    · rename_i ps' n' h4
      simp only [Option.some.injEq, Prod.mk.injEq] at h
      obtain ⟨rfl, rfl, rfl⟩ := h
      have := asU4_sound h4 hp ρ
      simp only [U, List.map_cons, List.map_nil, Value.agg.injEq] at this
      have := congrArg Array.toList this
      simp only [List.cons.injEq, and_true] at this
      obtain ⟨e1, e2, e3, e4⟩ := this
      simp [concs, flat, SK.cells, e1, e2, e3, e4, show ∀ v, (SC.val v).conc ρ = v from fun _ => rfl]
    · cases h
  · cases h
theorem concs_app (ρ : Rho) (k : SK) {xs ys : List SK} (h : concs ρ xs = concs ρ ys) : concs ρ (k :: xs) = concs ρ (k :: ys) := by
  rw [concs_cons ρ k xs, concs_cons ρ k ys, h]
end Go.Sx
end

section
namespace Go.Sx
open Go.RowKit
inductive PQ where
  | u | b | t
  | i (k : IntKind)
  | y (n : Nat)
  | x (w : Nat)
inductive FD where
  | u (n : Nat)
  | b (v : Bool)
  | i (n : Int)
  | y (g : Nat → Int)
  | x (a : Option Addr) (n cap : Nat) (f : Nat → Nat → SC)
  | t (s : ByteArray)
inductive AQ where
  | st (ps : List PQ)
  | one (p : PQ)
def fdK : PQ → FD → SK
  | .u, .u n => .u n
  | .b, .b v => .c (.val (.bool v))
  | .i k, .i n => .c (.val (.int k n))
  | .y n, .y g => .f .u8 n g
  | .x w, .x a n cap f => .c (.xs a n cap w f)
  | .t, .t s => .c (.val (.string s))
  | _, _ => .c (.bit false)
def fdKs : List PQ → List FD → List SK
  | p :: ps, d :: ds => fdK p d :: fdKs ps ds
  | _, _ => []
def takeF : PQ → List SK → Option (List Prop × FD × List SK)
  | .u, ks => match takeU ks with
    | some (p, n, r) => some (p, .u n, r)
    | none => none
  | .b, .c s :: r => match asBit s with
    | some v => some ([], .b v, r)
    | none => none
  | .i k, .c s :: r => match asI (.sc s) with
    | some (k', n) => if k' = k then some ([], .i n, r) else none
    | none => none
  | .y n, .f k m g :: r => if k = .u8 ∧ m = n then some ([], .y g, r) else none
  | .y n, ks => match grab ks n, seek ks n with
    | some cs, some r => match kindAll .u8 cs && Nat.ble 2 n with
      | true => some ([], .y (selG cs), r)
      | false => none
    | _, _ => none
  | .x w, .c (.xs a n cap w' f) :: r => if w' = w then some ([], .x a n cap f, r) else none
  | .x _, .c (.val (.slice none 0 0)) :: r => some ([], .x none 0 0 (fun _ _ => .bit false), r)
  | .t, .c (.val (.string s)) :: r => some ([], .t s, r)
  | _, _ => none
theorem cut_concs {ks cs r : List SK} {n : Nat} (h1 : grab ks n = some cs) (h2 : seek ks n = some r) (hk : kindAll .u8 cs = true) (ρ : Rho) : concs ρ ks = concs ρ (.f .u8 n (selG cs) :: r) := by
  obtain ⟨l1, e1⟩ := grab_flat ks n h1
  obtain ⟨_, e2⟩ := seek_flat ks n h2
  have hl : (flat cs).length = n := by rw [e1, List.length_take]; omega
  have hi : (intsL cs).length = n := by rw [intsL_length cs ρ .u8 hk, hl]
  have e3 : concs ρ cs = (List.range n).map fun j => .int .u8 (selG cs j) := by
    rw [ints_conc ρ .u8 hk]
    apply List.ext_getElem
    · simp [hi]
    · intro j h1 h2
      have hj : j < (intsL cs).length := by simpa using h1
      simp only [List.getElem_map, List.getElem_range]
      rw [selG_eq hj, List.getD_eq_getElem?_getD, List.getElem?_eq_getElem hj, Option.getD_some]
  rw [concs_cons, concs_f, ← e3]
  unfold concs
  rw [e1, e2, ← List.map_append, List.take_append_drop]
theorem takeF_sound {p : PQ} {ks r : List SK} {q : List Prop} {d : FD} (h : takeF p ks = some (q, d, r)) (hq : Ok q) (ρ : Rho) : concs ρ ks = concs ρ (fdK p d :: r) := by
  unfold takeF at h
  split at h
  · split at h
    · rename_i hu
      simp only [Option.some.injEq, Prod.mk.injEq] at h
      obtain ⟨rfl, rfl, rfl⟩ := h
      exact takeU_sound hu hq ρ
    · cases h
  · split at h
    · rename_i s r' v hv
      simp only [Option.some.injEq, Prod.mk.injEq] at h
      obtain ⟨rfl, rfl, rfl⟩ := h
      rw [concs_cons, concs_cons ρ (fdK .b (.b v))]
      congr 1
      simp [concs, flat, SK.cells, fdK, asBit_sound hv ρ, show ∀ v, (SC.val v).conc ρ = v from fun _ => rfl]
    · cases h
  · rename_i k s r'
    split at h
    · rename_i k' n hi
      split at h
      · rename_i e
        subst e
        simp only [Option.some.injEq, Prod.mk.injEq] at h
        obtain ⟨rfl, rfl, rfl⟩ := h
        rw [concs_cons, concs_cons ρ (fdK (.i k') (.i n))]
        congr 1
        have e : s.conc ρ = .int k' n := asI_sound hi ρ
        simp [concs, flat, SK.cells, fdK, e, show ∀ v, (SC.val v).conc ρ = v from fun _ => rfl]
      · cases h
    · cases h
  · split at h
    · rename_i e
      obtain ⟨rfl, rfl⟩ := e
      simp only [Option.some.injEq, Prod.mk.injEq] at h
      obtain ⟨rfl, rfl, rfl⟩ := h
      rfl
    · cases h
  · split at h
    · rename_i h1 h2
      split at h
      · rename_i hk
        simp only [Option.some.injEq, Prod.mk.injEq] at h
        obtain ⟨rfl, rfl, rfl⟩ := h
        exact cut_concs h1 h2 (Bool.and_eq_true_iff.1 hk).1 ρ
      · cases h
    · cases h
  · split at h
    · rename_i e
      subst e
      simp only [Option.some.injEq, Prod.mk.injEq] at h
      obtain ⟨rfl, rfl, rfl⟩ := h
      rfl
    · cases h
  · simp only [Option.some.injEq, Prod.mk.injEq] at h
    obtain ⟨rfl, rfl, rfl⟩ := h
    rfl
  · simp only [Option.some.injEq, Prod.mk.injEq] at h
    obtain ⟨rfl, rfl, rfl⟩ := h
    rfl
  · cases h
theorem takeF_bnd {p : PQ} {ks r : List SK} {q : List Prop} {d : FD} (h : takeF p ks = some (q, d, r)) {E : Env} (hb : ∀ k ∈ ks, k.bnd E) : (fdK p d).bnd E.bare ∧ ∀ k ∈ r, k.bnd E := by
  unfold takeF at h
  split at h
  · split at h
    · rename_i p' n r' hu
      simp only [Option.some.injEq, Prod.mk.injEq] at h
      obtain ⟨rfl, rfl, rfl⟩ := h
      refine ⟨trivial, ?_⟩
      unfold takeU at hu
      split at hu
      · cases hu; exact fun k hk => hb k (by simp [hk])
      · split at hu
        · simp only [Option.some.injEq, Prod.mk.injEq] at hu
          obtain ⟨_, _, rfl⟩ := hu
          exact fun k hk => hb k (by simp [hk])
        · cases hu
      · cases hu
    · cases h
  · split at h
    · simp only [Option.some.injEq, Prod.mk.injEq] at h
      obtain ⟨rfl, rfl, rfl⟩ := h
      exact ⟨trivial, fun k hk => hb k (by simp [hk])⟩
    · cases h
  · split at h
    · split at h
      · simp only [Option.some.injEq, Prod.mk.injEq] at h
        obtain ⟨rfl, rfl, rfl⟩ := h
        exact ⟨trivial, fun k hk => hb k (by simp [hk])⟩
      · cases h
    · cases h
  · split at h
    · simp only [Option.some.injEq, Prod.mk.injEq] at h
      obtain ⟨rfl, rfl, rfl⟩ := h
      exact ⟨trivial, fun k hk => hb k (by simp [hk])⟩
    · cases h
  · split at h
    · rename_i h1 h2
      split at h
      · simp only [Option.some.injEq, Prod.mk.injEq] at h
        obtain ⟨rfl, rfl, rfl⟩ := h
        exact ⟨trivial, bnd_flat.2 (mem_seek h2 (bnd_flat.1 hb))⟩
      · cases h
    · cases h
  · rename_i w a n cap w' f r'
    split at h
    · rename_i e
      subst e
      simp only [Option.some.injEq, Prod.mk.injEq] at h
      obtain ⟨rfl, rfl, rfl⟩ := h
      exact ⟨hb (.c (.xs a n cap w' f)) (by simp), fun k hk => hb k (by simp [hk])⟩
    · cases h
  · simp only [Option.some.injEq, Prod.mk.injEq] at h
    obtain ⟨rfl, rfl, rfl⟩ := h
    exact ⟨⟨fun _ => ⟨rfl, rfl⟩, Nat.le_refl _, fun b hb => by cases hb⟩, fun k hk => hb k (by simp [hk])⟩
  · simp only [Option.some.injEq, Prod.mk.injEq] at h
    obtain ⟨rfl, rfl, rfl⟩ := h
    exact ⟨trivial, fun k hk => hb k (by simp [hk])⟩
  · cases h
def asFs : List PQ → List SK → Option (List Prop × List FD)
  | [], [] => some ([], [])
  | p :: ps, ks => match takeF p ks with
    | some (q, d, r) => match asFs ps r with
      | some (q', ds) => some (q ++ q', d :: ds)
      | none => none
    | none => none
  | _, _ => none
theorem asFs_one {p : PQ} {k : SK} {q : List Prop} {l : List FD} (h : asFs [p] [k] = some (q, l)) : ∃ q1 d, takeF p [k] = some (q1, d, []) ∧ l = [d] := by
  have e : asFs [p] [k] = match takeF p [k] with
    | some (q, d, r) => match asFs [] r with
      | some (q', ds) => some (q ++ q', d :: ds)
      | none => none
    | none => none := by rw [asFs]
  rw [e] at h
  split at h
  · rename_i q1 d r ht
    cases r with
    | nil =>
      simp only [asFs, Option.some.injEq, Prod.mk.injEq] at h
      exact ⟨q1, d, ht, h.2.symm⟩
    | cons _ _ => simp [asFs] at h
  · cases h
theorem asFs_sound : ∀ {ps : List PQ} {ks : List SK} {q : List Prop} {l : List FD}, asFs ps ks = some (q, l) → (Ok q → ∀ ρ, concs ρ ks = concs ρ (fdKs ps l)) ∧ ∀ E : Env, (∀ k ∈ ks, k.bnd E) → ∀ k ∈ fdKs ps l, k.bnd E.bare
  | [], [], q, l, h => by
    simp only [asFs, Option.some.injEq, Prod.mk.injEq] at h
    obtain ⟨_, rfl⟩ := h
    exact ⟨fun _ _ => rfl, fun E _ k hk => by cases hk⟩
  | [], _ :: _, q, l, h => by simp [asFs] at h
  | p :: ps, ks, q, l, h => by
    simp only [asFs] at h
    split at h
    · rename_i q1 d r ht
      split at h
      · rename_i q2 ds hr
        simp only [Option.some.injEq, Prod.mk.injEq] at h
        obtain ⟨rfl, rfl⟩ := h
        obtain ⟨i1, i2⟩ := asFs_sound hr
        refine ⟨fun hq ρ => ?_, fun E hb k hk => ?_⟩
        · obtain ⟨h1, h2⟩ := Ok.append.1 hq
          rw [takeF_sound ht h1 ρ]
          exact concs_app ρ _ (i1 h2 ρ)
        · obtain ⟨b1, b2⟩ := takeF_bnd ht hb
          rcases List.mem_cons.1 hk with rfl | hk
          · exact b1
          · exact i2 E b2 k hk
      · cases h
    · cases h
def asQ : AQ → SA → Option (List Prop × List FD)
  | .st ps, .agg ks => asFs ps ks
  | .one p, .sc s => asFs [p] [.c s]
  | _, _ => none
def mkQ : AQ → List FD → SA
  | .st ps, l => .agg (fdKs ps l)
  | .one p, [d] => match fdK p d with
    | .c s => .sc s
    | _ => .agg []
  | _, _ => .agg []
theorem asQ_sound {aq : AQ} {x : SA} {q : List Prop} {l : List FD} (h : asQ aq x = some (q, l)) : (Ok q → ∀ ρ, x.conc ρ = (mkQ aq l).conc ρ) ∧ ∀ E : Env, x.bnd E → (mkQ aq l).bnd E.bare := by
  unfold asQ at h
  split at h
  · rename_i ps ks
    obtain ⟨h1, h2⟩ := asFs_sound h
    exact ⟨fun hq ρ => by simp only [SA.conc, mkQ, h1 hq ρ], fun E hb => h2 E hb⟩
  · rename_i p s
    obtain ⟨h1, h2⟩ := asFs_sound h
    obtain ⟨q1, d, ht, rfl⟩ := asFs_one h
    have e : ∀ (s : SC) ρ, concs ρ [SK.c s] = [s.conc ρ] := fun _ _ => rfl
    have h2' : ∀ E : Env, s.bnd E → (fdK p d).bnd E.bare := fun E hb => h2 E (fun k hk => by rw [List.mem_singleton.1 hk]; exact hb) _ (by simp [fdKs])
    have h1' : Ok q → ∀ ρ, [s.conc ρ] = concs ρ [fdK p d] := fun hq ρ => by rw [← e]; exact h1 hq ρ
    unfold mkQ
    simp only
    split
    · rename_i s' hs
      rw [hs] at h1' h2'
      refine ⟨fun hq ρ => ?_, fun E hb => h2' E hb⟩
      have := h1' hq ρ
      rw [e] at this
      exact (List.cons.inj this).1
    · rename_i hne
      exfalso
      unfold takeF at ht
      split at ht
      · split at ht
        · rename_i hu
          unfold takeU at hu
          simp at hu
        · cases ht
      · split at ht
        · simp only [Option.some.injEq, Prod.mk.injEq] at ht; obtain ⟨_, rfl, _⟩ := ht; exact hne _ rfl
        · cases ht
      · split at ht
        · split at ht
          · simp only [Option.some.injEq, Prod.mk.injEq] at ht; obtain ⟨_, rfl, _⟩ := ht; exact hne _ rfl
          · cases ht
        · cases ht
      · rename_i heq; cases heq
      · split at ht
        · rename_i hg _
          split at ht
          · rename_i hk
            have h2 := Nat.le_of_ble_eq_true (Bool.and_eq_true_iff.1 hk).2
            have h3 := (grab_flat _ _ hg).1
            simp [flat, SK.cells] at h3
            omega
          · cases ht
        · cases ht
      · split at ht
        · simp only [Option.some.injEq, Prod.mk.injEq] at ht; obtain ⟨_, rfl, _⟩ := ht; exact hne _ rfl
        · cases ht
      · simp only [Option.some.injEq, Prod.mk.injEq] at ht; obtain ⟨_, rfl, _⟩ := ht; exact hne _ rfl
      · simp only [Option.some.injEq, Prod.mk.injEq] at ht; obtain ⟨_, rfl, _⟩ := ht; exact hne _ rfl
      · cases ht
  · cases h
def asQs : List AQ → List SA → Option (List Prop × List (List FD))
  | [], [] => some ([], [])
  | a :: aqs, x :: xs => match asQ a x, asQs aqs xs with
    | some (q, l), some (q', ls) => some (q ++ q', l :: ls)
    | _, _ => none
  | _, _ => none
def mkQs : List AQ → List (List FD) → List SA
  | a :: aqs, l :: ls => mkQ a l :: mkQs aqs ls
  | _, _ => []
theorem asQs_sound : ∀ {aqs : List AQ} {xs : List SA} {q : List Prop} {ls : List (List FD)}, asQs aqs xs = some (q, ls) → (Ok q → ∀ ρ, xs.map (SA.conc ρ) = (mkQs aqs ls).map (SA.conc ρ)) ∧ ∀ E : Env, (∀ x ∈ xs, x.bnd E) → ∀ x ∈ mkQs aqs ls, x.bnd E.bare
  | [], [], q, ls, h => by
    simp only [asQs, Option.some.injEq, Prod.mk.injEq] at h
    obtain ⟨_, rfl⟩ := h
    exact ⟨fun _ _ => rfl, fun E _ k hk => by cases hk⟩
  | [], _ :: _, _, _, h => by simp [asQs] at h
  | _ :: _, [], _, _, h => by simp [asQs] at h
  | a :: aqs, x :: xs, q, ls, h => by
    simp only [asQs] at h
    split at h
    · rename_i q1 l q2 ls' h1 h2
      simp only [Option.some.injEq, Prod.mk.injEq] at h
      obtain ⟨rfl, rfl⟩ := h
      obtain ⟨a1, a2⟩ := asQ_sound h1
      obtain ⟨b1, b2⟩ := asQs_sound h2
      refine ⟨fun hq ρ => ?_, fun E hb y hy => ?_⟩
      · obtain ⟨o1, o2⟩ := Ok.append.1 hq
        simp only [List.map_cons, mkQs, a1 o1 ρ, b1 o2 ρ]
      · rcases List.mem_cons.1 hy with rfl | hy
        · exact a2 E (hb x (by simp))
        · exact b2 E (fun z hz => hb z (by simp [hz])) y hy
    · cases h
def simD : PQ → FD → FD → List Prop
  | .x w, .x a n c f, .x a' n' c' f' => [a = a', n = n', c = c', ∀ i, i < n → allC w fun k => simC (f i k) (f' i k)]
  | _, .u n, .u m => [n = m]
  | _, .b x, .b y => [x = y]
  | _, .i n, .i m => [n = m]
  | _, .t x, .t y => [x = y]
  | .y n, .y f, .y g => [∀ j, j < n → f j = g j]
  | _, _, _ => [False]
def simDs : List PQ → List FD → List FD → List Prop
  | p :: ps, d :: ds, e :: es => simD p d e ++ simDs ps ds es
  | [], [], [] => []
  | _, _, _ => [False]
def simQ : AQ → List FD → List FD → List Prop
  | .st ps, l, m => simDs ps l m
  | .one p, l, m => simDs [p] l m
def simQs : List AQ → List (List FD) → List (List FD) → List Prop
  | a :: aqs, l :: ls, m :: ms => simQ a l m ++ simQs aqs ls ms
  | [], [], [] => []
  | _, _, _ => [False]
theorem simD_sound {p : PQ} {d e : FD} (h : Ok (simD p d e)) : (∀ ρ, concs ρ [fdK p d] = concs ρ [fdK p e]) ∧ ∀ E : Env, (fdK p d).bnd E → (fdK p e).bnd E := by
  unfold simD at h
  split at h
  · rename_i w a n c f a' n' c' f'
    obtain ⟨rfl, rfl, rfl, h, _⟩ := h
    refine ⟨fun _ => rfl, fun E hb => simC_bnd (SC.xs a n c w f) (y := .xs a n c w f') ?_ hb⟩
    unfold simC
    simp only [Nat.beq_refl, true_and]
    exact h
  · obtain ⟨rfl, _⟩ := h; exact ⟨fun _ => rfl, fun _ k => k⟩
  · obtain ⟨rfl, _⟩ := h; exact ⟨fun _ => rfl, fun _ k => k⟩
  · obtain ⟨rfl, _⟩ := h; exact ⟨fun _ => rfl, fun _ k => k⟩
  · obtain ⟨rfl, _⟩ := h; exact ⟨fun _ => rfl, fun _ k => k⟩
  · rename_i n f g
    obtain ⟨h, _⟩ := h
    refine ⟨fun ρ => ?_, fun _ _ => trivial⟩
    rw [fdK, fdK, concs_f, concs_f]
    exact List.map_congr_left fun j hj => by rw [h j (List.mem_range.1 hj)]
  · exact h.1.elim
theorem simDs_sound : ∀ {ps : List PQ} {l m : List FD}, Ok (simDs ps l m) → (∀ ρ, concs ρ (fdKs ps l) = concs ρ (fdKs ps m)) ∧ ∀ E : Env, (∀ k ∈ fdKs ps l, k.bnd E) → ∀ k ∈ fdKs ps m, k.bnd E
  | [], [], [], _ => ⟨fun _ => rfl, fun _ h => h⟩
  | p :: ps, d :: ds, e :: es, h => by
    obtain ⟨o1, o2⟩ := Ok.append.1 h
    obtain ⟨a1, a2⟩ := simD_sound o1
    obtain ⟨b1, b2⟩ := simDs_sound o2
    refine ⟨fun ρ => ?_, fun E hb k hk => ?_⟩
    · simp only [fdKs]
      rw [concs_cons, concs_cons ρ (fdK p e), a1 ρ, b1 ρ]
    · rcases List.mem_cons.1 hk with rfl | hk
      · exact a2 E (hb _ (by simp [fdKs]))
      · exact b2 E (fun k hk => hb k (by simp [fdKs, hk])) k hk
  | [], [], _ :: _, h | [], _ :: _, [], h | [], _ :: _, _ :: _, h | _ :: _, [], [], h | _ :: _, [], _ :: _, h | _ :: _, _ :: _, [], h => by exact h.1.elim
theorem simQ_sound {a : AQ} {l m : List FD} (h : Ok (simQ a l m)) : (∀ ρ, (mkQ a l).conc ρ = (mkQ a m).conc ρ) ∧ ∀ E : Env, (mkQ a l).bnd E → (mkQ a m).bnd E := by
  cases a with
  | st ps =>
    obtain ⟨h1, h2⟩ := simDs_sound (show Ok (simDs ps l m) from h)
    exact ⟨fun ρ => by simp only [mkQ, SA.conc, h1 ρ], fun E hb => h2 E hb⟩
  | one p =>
    have h : Ok (simDs [p] l m) := h
    match l, m, h with
    | [], [], h => exact h.1.elim
    | [], _ :: _, h => exact h.1.elim
    | _ :: _, [], h => exact h.1.elim
    | d :: d2 :: ds, e :: es, h =>
      exfalso
      obtain ⟨_, o2⟩ := Ok.append.1 h
      cases es <;> exact o2.1.elim
    | [d], e :: e2 :: es, h =>
      exfalso
      obtain ⟨_, o2⟩ := Ok.append.1 h
      exact o2.1.elim
    | [d], [e], h =>
      obtain ⟨o1, _⟩ := Ok.append.1 h
      obtain ⟨h1, h2⟩ := simD_sound o1
      unfold mkQ
      simp only
      cases p <;> cases d <;> cases e <;> first
        | exact ⟨fun _ => rfl, fun _ k => k⟩
        | (exfalso; exact o1.1.elim)
        | (refine ⟨fun ρ => ?_, fun E hb => h2 E hb⟩
           have := h1 ρ
           exact (List.cons.inj this).1)
theorem simQs_sound : ∀ {aqs : List AQ} {l m : List (List FD)}, Ok (simQs aqs l m) → (∀ ρ, (mkQs aqs l).map (SA.conc ρ) = (mkQs aqs m).map (SA.conc ρ)) ∧ ∀ E : Env, (∀ x ∈ mkQs aqs l, x.bnd E) → ∀ x ∈ mkQs aqs m, x.bnd E
  | [], [], [], _ => ⟨fun _ => rfl, fun _ h => h⟩
  | a :: aqs, d :: ds, e :: es, h => by
    obtain ⟨o1, o2⟩ := Ok.append.1 h
    obtain ⟨a1, a2⟩ := simQ_sound o1
    obtain ⟨b1, b2⟩ := simQs_sound o2
    refine ⟨fun ρ => by simp only [mkQs, List.map_cons, a1 ρ, b1 ρ], fun E hb k hk => ?_⟩
    rcases List.mem_cons.1 hk with rfl | hk
    · exact a2 E (hb _ (by simp [mkQs]))
    · exact b2 E (fun k hk => hb k (by simp [mkQs, hk])) k hk
  | [], [], _ :: _, h | [], _ :: _, [], h | [], _ :: _, _ :: _, h | _ :: _, [], [], h | _ :: _, [], _ :: _, h | _ :: _, _ :: _, [], h => by exact h.1.elim
def specQ (share : Bool) (aq : List AQ) (nf : List (List FD) → List (List FD)) (c : List (List FD) → List Prop) (g : List (List FD) → List RS) : SSpec :=
  ⟨share, fun args => match asQs aq args with
    | some (ps, ls) => some (ps ++ (simQs aq ls (nf ls) ++ c (nf ls)), g (nf ls))
    | none => none⟩
theorem FnOKs_Q {P : Program} {cx : Cx} (hcx : CxOK P cx) {sl : List (Nat × SSpec)} (hsl : ∀ p ∈ sl, FnOKs P cx.gl p.1 p.2) {f : Nat} {fn : Func} (hf : P.funcs[f]? = some fn) (hb : fn.body.isSome = true) (hn : (fn.name == "runtime.NumGoroutine") = false)
    {share : Bool} {aq : List AQ} {nf : List (List FD) → List (List FD)} {c : List (List FD) → List Prop} {g : List (List FD) → List RS}
    (h : ∀ ls, Ok (c ls) → ∃ iv N, (∀ r ∈ g ls, r.closed) ∧ OwesR P cx sl iv N fn (mkQs aq ls) share (g ls)) : FnOKs P cx.gl f (specQ share aq nf c g) := by
  refine FnOKs_owes hcx hsl hf hb hn fun args ps rs hs hp => ?_
  simp only [specQ] at hs
  split at hs
  case h_2 => cases hs
  rename_i q ls ha
  simp only [Option.some.injEq, Prod.mk.injEq] at hs
  obtain ⟨rfl, rfl⟩ := hs
  obtain ⟨o1, o23⟩ := Ok.append.1 hp
  obtain ⟨o2, o3⟩ := Ok.append.1 o23
  obtain ⟨a1, a2⟩ := asQs_sound ha
  obtain ⟨b1, b2⟩ := simQs_sound o2
  obtain ⟨iv, N, hc, hw⟩ := h (nf ls) o3
  refine ⟨iv, N, mkQs aq (nf ls), fun ρ => by rw [a1 o1 ρ, b1 ρ], fun fz hx x hxm => ?_, hc, hw⟩
  exact b2 ⟨fun _ => False, fz⟩ (fun y hy => a2 ⟨fun _ => True, fz⟩ hx y hy) x hxm
end Go.Sx
end

section
namespace Go.Sx
def intOf : SC → Int
  | .val (.int _ x) => x
  | .num _ x => x
  | _ => 0
def natOf (f : Nat → SC) (c : Nat) : Nat := join (intOf (f c)) (intOf (f (c + 1))) (intOf (f (c + 2))) (intOf (f (c + 3)))
def kOf (f : Nat → Nat → SC) (i c : Nat) : Int := intOf (f i c)
theorem FnOKs.up0 {P : Program} {f : Nat} {s : SSpec} (h : FnOKs P [] f s) (gl : Globs) : FnOKs P gl f s := fun args ps rs hs hp ρ w hz _ hb =>
  h args ps rs hs hp ρ w hz (fun p hp => by cases hp) hb
end Go.Sx
end

section
namespace Go.Sx
open Go.RowKit
def inlW (wl : List (Nat × WSpec)) (inner : Inl) : Inl := fun f args ob k =>
  match getW wl f with
  | none => inner f args ob k
  | some s => match wdo s args ob with
    | some (ps, sv, o, _, m) => ands ps (k sv (ob.set o (noteO s.e s.k m)))
    | none => StuckAt "cell"
section
variable {P : Program}
def inlY (P : Program) (cx : Cx) (sl : List (Nat × SSpec)) (dr : Drawn) (iv : List (Nat × Hint)) (N : Nat) : Nat → Inl
  | 0 => inlW cx.wf (inlS sl noInl)
  | d + 1 => inlW cx.wf (inlS sl fun f args ob k =>
    match P.funcs[f]? with
    | some fn =>
      match fn.body, fn.name == "runtime.NumGoroutine" with
      | some c, false => sx P { cx with kn := ob.length } (inlY P cx sl dr iv N d) dr iv N ((f + 1) * 100000) ob.length c (slots0 args fn.ntmps) ob (ret P fn.results.toList k)
      | _, _ => StuckAt "no text"
    | none => StuckAt "no function")
def noteIs (ob : List SO) (e : TypeId) (k : IntKind) (m : Int) : Prop :=
  match ob with
  | .cells e' [.c x] 0 :: _ => match Nat.beq e' e with
    | true => isInt k m x
    | false => False
  | _ => False
def OwesW (P : Program) (cx : Cx) (sl : List (Nat × SSpec)) (iv : List (Nat × Hint)) (N : Nat) (fn : Func) (args : List SA) (e : TypeId) (k : IntKind) (n : Int) (out : SV) (m : Int) : Prop :=
  sx P { cx with kn := 1 } (inlY P cx sl drawOK iv N 8) drawOK iv N 0 1 (fn.body.getD .skip) (slots0 args fn.ntmps) [noteO e k n] (ret P fn.results.toList fun sv ob => same sv out ∧ noteIs ob e k m)
def OwesU (P : Program) (cx : Cx) (sl : List (Nat × SSpec)) (iv : List (Nat × Hint)) (N : Nat) (fn : Func) (args : List SA) (out : SV) : Prop :=
  sx P { cx with kn := 0 } (inlY P cx sl drawOK iv N 8) drawOK iv N 0 0 (fn.body.getD .skip) (slots0 args fn.ntmps) [] (ret P fn.results.toList fun sv _ => same sv out)
end
attribute [irreducible] OwesW OwesU
end Go.Sx
end

section
namespace Go.Sx
open Go.RowKit
structure TSpec where
  e : TypeId
  wd : Nat
  of : List SA → Nat → (Nat → Nat → SC) → Option (List Prop × Nat × (Nat → Nat → SC) × List SA)
structure capOK (wd n cap sp : Nat) : Prop where
  le : n ≤ cap
  most : cap ≤ maxLen
  room : cap * wd = n * wd + sp
def getT : List (Nat × TSpec) → Nat → Option TSpec
  | [], _ => none
  | (g, s) :: r, f => match Nat.beq g f with
    | true => some s
    | false => getT r f
def ofT (s : TSpec) (r : List SA) (n : Nat) (g : Nat → Nat → SC) (old : Option Nat) : Option (List Prop × Nat × (Nat → Nat → SC) × List SA) :=
  match old with
  | none => s.of r n (fun _ _ => .val (.int .u8 0))
  | some _ => s.of r n g
def headT (ob : List SO) (size : Nat) (e : TypeId) (x : SA) : Option (List Prop × Nat × (Nat → Nat → SC) × List SO × Option Nat) :=
  match x with
  | .sc (.sl o 0 n cap) =>
    match ob[o]? with
    | some (.cells e' ks sp) => match Nat.beq e' e && Nat.beq (flat ks).length n && kindAll .u8 ks && Nat.beq size 1 && !ks.isEmpty with
      | true => some ([n ≤ cap ∧ cap ≤ maxLen ∧ cap * size = n * size + sp], n, fun i _ => .val (.int .u8 (selG ks i)), ob.set o .dead, some o)
      | false => headG ob size e (.sc (.sl o 0 n cap))
    | _ => headG ob size e (.sc (.sl o 0 n cap))
  | x => headG ob size e x
section
variable {W0 : Base} {ρ : Rho} {tm : List SV} {ob : List SO} {a : Act} {w : World}
end
def inlT (tl : List (Nat × TSpec)) (inner : Inl) : Inl := fun f args ob k =>
  match getT tl f with
  | none => inner f args ob k
  | some s => match args with
    | x :: r => match headT ob s.wd s.e x with
      | some (qs, n, g, ob0, old) => match ob0.all (obB (liveB ob0)) && r.all (SA.bndB fun _ => false) with
        | true => match ofT s r n g old with
          | some (ps, n', g', vs) => ands (qs ++ ps) (∀ c : Nat, n' + c ≤ maxLen → k (resV (.sc (.slw ob0.length s.wd 0 n' (n' + c)) :: vs)) (ob0 ++ [.row s.e s.wd n' g' (c * s.wd)]))
          | none => StuckAt "card"
        | false => StuckAt "taken"
      | none => StuckAt "head"
    | [] => StuckAt "taken"
section
variable {P : Program}
def inlZ (P : Program) (cx : Cx) (sl : List (Nat × SSpec)) (tl : List (Nat × TSpec)) (dr : Drawn) (iv : List (Nat × Hint)) (N : Nat) : Nat → Inl
  | 0 => inlT tl (inlW cx.wf (inlS sl noInl))
  | d + 1 => inlT tl (inlW cx.wf (inlS sl fun f args ob k =>
    match P.funcs[f]? with
    | some fn =>
      match fn.body, fn.name == "runtime.NumGoroutine" with
      | some c, false => sx P { cx with kn := ob.length } (inlZ P cx sl tl dr iv N d) dr iv N ((f + 1) * 100000) ob.length c (slots0 args fn.ntmps) ob (ret P fn.results.toList k)
      | _, _ => StuckAt "no text"
    | none => StuckAt "no function"))
def okV : List SA → List SA → Prop
  | [], [] => True
  | x :: r, y :: r' => sameA x y ∧ okV r r'
  | _, _ => StuckAt "values"
def okTs (s : TSpec) (n : Nat) (g : Nat → Nat → SC) (vs : List SA) (ob : List SO) : List SA → Prop
  | .sc (.slw o w off len cap) :: r => match ob[o]? with
    | some (.row e w' m h sp) => match Nat.beq w s.wd && Nat.beq w' s.wd && Nat.beq e s.e with
      | true => ands [off = 0, len = n, m = n, capOK s.wd m cap sp] (ands [∀ i, i < n → allC s.wd fun c => simC (h i c) (g i c)] (okV r vs))
      | false => StuckAt "row"
    | _ => StuckAt "row"
  | _ => StuckAt "result"
def okT (s : TSpec) (n : Nat) (g : Nat → Nat → SC) (vs : List SA) (sv : SV) (ob : List SO) : Prop :=
  match sv with
  | .one x => okTs s n g vs ob [x]
  | .tup [_] => False
  | .tup xs => okTs s n g vs ob xs
  | _ => False
def OwesZ (P : Program) (cx : Cx) (sl : List (Nat × SSpec)) (tl : List (Nat × TSpec)) (iv : List (Nat × Hint)) (N : Nat) (fn : Func) (args : List SA) (ob : List SO) (post : SV → List SO → Prop) : Prop :=
  sx P { cx with kn := ob.length } (inlZ P cx sl tl drawOK iv N 8) drawOK iv N 0 ob.length (fn.body.getD .skip) (slots0 args fn.ntmps) ob (ret P fn.results.toList post)
def OwesT (P : Program) (cx : Cx) (sl : List (Nat × SSpec)) (tl : List (Nat × TSpec)) (iv : List (Nat × Hint)) (N : Nat) (fn : Func) (args : List SA) (s : TSpec) (n cap sp : Nat) (g : Nat → Nat → SC) (n' : Nat) (g' : Nat → Nat → SC) (vs : List SA) : Prop :=
  OwesZ P cx sl tl iv N fn (.sc (.slw 0 s.wd 0 n cap) :: args) [.row s.e s.wd n g sp] (okT s n' g' vs)
def OwesT0 (P : Program) (cx : Cx) (sl : List (Nat × SSpec)) (tl : List (Nat × TSpec)) (iv : List (Nat × Hint)) (N : Nat) (fn : Func) (args : List SA) (s : TSpec) (n' : Nat) (g' : Nat → Nat → SC) (vs : List SA) : Prop :=
  OwesZ P cx sl tl iv N fn (.sc (.val (.slice none 0 0)) :: args) [] (okT s n' g' vs)
def OwesQ (P : Program) (cx : Cx) (sl : List (Nat × SSpec)) (tl : List (Nat × TSpec)) (iv : List (Nat × Hint)) (N : Nat) (fn : Func) (args : List SA) (sh : Bool) (rs : List RS) : Prop :=
  OwesZ P cx sl tl iv N fn args [] (okRS sh rs)
end
attribute [irreducible] OwesT OwesT0 OwesQ
end Go.Sx
end

section
namespace Go.Sx
end Go.Sx
end

section
namespace Go.Sx
open Go.RowKit
theorem okx_none {P : Program} : CxOK P Cx.none := ⟨fun _ h => (by cases h), fun _ h => (by cases h)⟩
theorem okx_nil {P : Program} {gl : Globs} : CxOK P ⟨[], gl, 0, []⟩ := ⟨fun _ h => (by cases h), fun _ h => (by cases h)⟩
theorem okx_cons {P : Program} {gl : Globs} {f : Nat} {s : FSpec} {l : List (Nat × FSpec)} {wf : List (Nat × WSpec)} (h : FnOKg P gl f s) (hs : CxOK P ⟨l, gl, 0, wf⟩) : CxOK P ⟨(f, s) :: l, gl, 0, wf⟩ :=
  ⟨fun p hp => by
    rcases List.mem_cons.1 hp with rfl | hp
    · exact h
    · exact hs.1 p hp, hs.2⟩
theorem okx_mark {P : Program} {gl : Globs} {f : Nat} {l : List (Nat × FSpec)} {wf : List (Nat × WSpec)} (hs : CxOK P ⟨l, gl, 0, wf⟩) : CxOK P ⟨(f, fun _ => none) :: l, gl, 0, wf⟩ :=
  okx_cons (fun _ _ _ h => (by cases h)) hs
theorem oks_nil {P : Program} {gl : Globs} : ∀ p ∈ ([] : List (Nat × SSpec)), FnOKs P gl p.1 p.2 := fun _ h => (by cases h)
theorem oks_cons {P : Program} {gl : Globs} {f : Nat} {s : SSpec} {l : List (Nat × SSpec)} (h : FnOKs P gl f s) (hl : ∀ p ∈ l, FnOKs P gl p.1 p.2) : ∀ p ∈ (f, s) :: l, FnOKs P gl p.1 p.2 := fun p hp => by
  rcases List.mem_cons.1 hp with rfl | hp
  · exact h
  · exact hl p hp
end Go.Sx
end

section
namespace Go.Sx
theorem byI_go (l : List Int) : ∀ r : ByteArray, (l.foldl (fun r n => r.push (UInt8.ofNat n.toNat)) r).data.toList = r.data.toList ++ l.map fun n => UInt8.ofNat n.toNat := by
  induction l with
  | nil => intro r; simp
  | cons n l ih => intro r; rw [List.foldl_cons, ih]; simp [ByteArray.push]
theorem byI_list (l : List Int) : (bytesI l).data.toList = l.map fun n => UInt8.ofNat n.toNat := by
  unfold bytesI
  rw [byI_go]
  rfl
end Go.Sx
end

section
namespace Go.Sx
open Go.RowKit
def vl : List Nat → Nat
  | [] => 0
  | a :: l => a * 256 ^ l.length + vl l
theorem vl_lt : ∀ {l : List Nat}, (∀ x ∈ l, x < 256) → vl l < 256 ^ l.length
  | [], _ => Nat.one_pos
  | a :: l, h => by
    have h1 := vl_lt (l := l) fun x hx => h x (List.mem_cons_of_mem _ hx)
    have h2 : a < 256 := h a List.mem_cons_self
    have h3 : (a + 1) * 256 ^ l.length ≤ 256 * 256 ^ l.length := Nat.mul_le_mul_right _ h2
    rw [Nat.add_mul, Nat.one_mul] at h3
    rw [vl, List.length_cons, Nat.pow_succ, Nat.mul_comm (256 ^ l.length)]
    omega
def cmpK (a b : Nat) : Int := if a < b then -1 else if b < a then 1 else 0
theorem vl_step {a b : Nat} {x y p : Nat} (hx : x < p) (hab : a < b) : a * p + x < b * p + y := by
  have h3 : (a + 1) * p ≤ b * p := Nat.mul_le_mul_right _ hab
  rw [Nat.add_mul, Nat.one_mul] at h3
  omega
theorem cmp_vl : ∀ {l m : List Nat}, l.length = m.length → (∀ x ∈ l, x < 256) → (∀ x ∈ m, x < 256) → Lib.compareBytes (l.map UInt8.ofNat) (m.map UInt8.ofNat) = cmpK (vl l) (vl m)
  | [], [], _, _, _ => rfl
  | [], _ :: _, h, _, _ => by cases h
  | _ :: _, [], h, _, _ => by cases h
  | a :: l, b :: m, h, hl, hm => by
    have hlen : l.length = m.length := by simpa using h
    have ih := cmp_vl hlen (fun x hx => hl x (List.mem_cons_of_mem _ hx)) (fun x hx => hm x (List.mem_cons_of_mem _ hx))
    have ha : a < 256 := hl a List.mem_cons_self
    have hb : b < 256 := hm b List.mem_cons_self
    have hx := vl_lt (l := l) fun x hx => hl x (List.mem_cons_of_mem _ hx)
    have hy := vl_lt (l := m) fun x hx => hm x (List.mem_cons_of_mem _ hx)
    have q : ∀ {c d : Nat}, c < 256 → d < 256 → (UInt8.ofNat c < UInt8.ofNat d ↔ c < d) := by
      intro c d hc hd
      rw [UInt8.lt_iff_toNat_lt, UInt8.toNat_ofNat', UInt8.toNat_ofNat']
      omega
    rw [List.map_cons, List.map_cons, Lib.compareBytes, ih, vl, vl, hlen]
    rw [hlen] at hx
    unfold cmpK
    by_cases h1 : a < b
    · rw [if_pos ((q ha hb).2 h1), if_pos (vl_step hx h1)]
    · rw [if_neg fun h => h1 ((q ha hb).1 h)]
      by_cases h2 : b < a
      · have := vl_step (y := vl l) hy h2
        rw [if_pos ((q hb ha).2 h2), if_neg (by omega), if_pos this]
      · have e : a = b := by omega
        subst e
        rw [if_neg fun h => h2 ((q hb ha).1 h)]
        have e1 : (a * 256 ^ m.length + vl l < a * 256 ^ m.length + vl m) = (vl l < vl m) := propext ⟨fun h => by omega, fun h => by omega⟩
        have e2 : (a * 256 ^ m.length + vl m < a * 256 ^ m.length + vl l) = (vl m < vl l) := propext ⟨fun h => by omega, fun h => by omega⟩
        simp only [e1, e2]
theorem vl_inj : ∀ {l m : List Nat}, l.length = m.length → (∀ x ∈ l, x < 256) → (∀ x ∈ m, x < 256) → vl l = vl m → l = m
  | [], [], _, _, _, _ => rfl
  | [], _ :: _, h, _, _, _ => by cases h
  | _ :: _, [], h, _, _, _ => by cases h
  | a :: l, b :: m, h, hl, hm, he => by
    have hlen : l.length = m.length := by simpa using h
    have hx := vl_lt (l := l) fun x hx => hl x (List.mem_cons_of_mem _ hx)
    have hy := vl_lt (l := m) fun x hx => hm x (List.mem_cons_of_mem _ hx)
    rw [vl, vl, hlen] at he
    rw [hlen] at hx
    have e : a = b := by
      rcases Nat.lt_trichotomy a b with h1 | h1 | h1
      · have := vl_step (y := vl m) hx h1; omega
      · exact h1
      · have := vl_step (y := vl l) hy h1; omega
    subst e
    rw [vl_inj hlen (fun x hx => hl x (List.mem_cons_of_mem _ hx)) (fun x hx => hm x (List.mem_cons_of_mem _ hx)) (by omega)]
theorem less_cmp : ∀ (l m : List UInt8), Op.bytesLess l m = decide (Lib.compareBytes l m < 0)
  | [], [] => rfl
  | [], _ :: _ => rfl
  | _ :: _, [] => rfl
  | a :: l, b :: m => by
    rw [Op.bytesLess, Lib.compareBytes, less_cmp l m]
    by_cases h1 : a < b
    · rw [if_pos h1, decide_eq_true h1]; rfl
    · rw [if_neg h1, decide_eq_false h1, Bool.false_or]
      by_cases h2 : b < a
      · rw [if_pos h2]
        have : (a == b) = false := by
          rw [beq_eq_false_iff_ne]; rintro rfl; exact UInt8.lt_irrefl _ h2
        rw [this]; rfl
      · have e : a = b := UInt8.le_antisymm (UInt8.not_lt.1 h2) (UInt8.not_lt.1 h1)
        subst e
        rw [if_neg h1, beq_self_eq_true, Bool.true_and]
def kv (w : Nat → Int) : Nat := vl ((List.range 32).map fun j => (w j).toNat)
def by32 (w : Nat → Int) : Prop := ∀ j, j < 32 → 0 ≤ w j ∧ w j < 256
theorem kv_mem {w : Nat → Int} (h : by32 w) : ∀ x ∈ (List.range 32).map fun j => (w j).toNat, x < 256 := by
  intro x hx
  obtain ⟨j, hj, rfl⟩ := List.mem_map.1 hx
  have := h j (List.mem_range.1 hj)
  omega
theorem kv_ofNat (w : Nat → Int) : ((List.range 32).map fun j => UInt8.ofNat (w j).toNat) = ((List.range 32).map fun j => (w j).toNat).map UInt8.ofNat := by
  rw [List.map_map]; rfl
theorem kv_congr {w v : Nat → Int} (h : ∀ j, j < 32 → w j = v j) : kv w = kv v := by
  unfold kv
  congr 1
  exact List.map_congr_left fun j hj => by rw [h j (List.mem_range.1 hj)]
theorem kv_iff {w v : Nat → Int} (hw : by32 w) (hv : by32 v) : kv w = kv v ↔ ∀ j, j < 32 → w j = v j := by
  refine ⟨fun h j hj => ?_, kv_congr⟩
  have := vl_inj (by simp) (kv_mem hw) (kv_mem hv) h
  have e := congrArg (fun l => l[j]?) this
  simp only [List.getElem?_map, List.getElem?_range hj, Option.map_some, Option.some.injEq] at e
  have h1 := hw j hj
  have h2 := hv j hj
  omega
theorem kv_beq {w v : Nat → Int} (hw : by32 w) (hv : by32 v) : ((List.range 32).all fun j => w j == v j) = decide (kv w = kv v) := by
  rw [Bool.eq_iff_iff, decide_eq_true_eq, kv_iff hw hv, List.all_eq_true]
  exact ⟨fun h j hj => beq_iff_eq.1 (h j (List.mem_range.2 hj)), fun h j hj => beq_iff_eq.2 (h j (List.mem_range.1 hj))⟩
theorem kv_less {w v : Nat → Int} (hw : by32 w) (hv : by32 v) {s t : ByteArray} (hs : s.data.toList = (List.range 32).map fun j => UInt8.ofNat (w j).toNat) (ht : t.data.toList = (List.range 32).map fun j => UInt8.ofNat (v j).toNat) :
    Op.bytesLess s.toList t.toList = decide (kv w < kv v) := by
  rw [Lib.toList_data, Lib.toList_data, less_cmp, hs, ht, kv_ofNat, kv_ofNat, cmp_vl (by simp) (kv_mem hw) (kv_mem hv)]
  show decide (cmpK (kv w) (kv v) < 0) = _
  unfold cmpK
  by_cases h : kv w < kv v
  · rw [if_pos h, decide_eq_true h]; rfl
  · rw [if_neg h, decide_eq_false h]
    split <;> rfl
structure bcP (n : Nat) (f : Nat → Nat → SC) : Prop where
  bn : n = 32
  bc : ∀ j, j < 32 → (f j 0).conc Rho.nil = .int .u8 (kOf f j 0)
  br : by32 fun j => kOf f j 0
def specBc : FSpec := fun args =>
  match args with
  | [.sc (.xs _ n _ 1 f), .sc (.xs _ m _ 1 g)] => some ([bcP n f, bcP m g], .one (.sc (.val (.int .i64 (cmpK (kv fun j => kOf f j 0) (kv fun j => kOf g j 0))))))
  | _ => none
def bcE : Array Value → Sem Value := Extern.BytealgCompare.compare
theorem run_bytes {P : Program} {w : World} {a : Option Addr} {n cap : Nat} {f : Nat → Nat → SC} {E : Env} (hE : ∀ b o v, E.fz b o v → w.cell? ⟨b, o, none⟩ = some v) (hb : (SC.xs a n cap 1 f).bnd E) (h : bcP n f) :
    (Extern.Bytes.bytesOf (.slice a n cap)).run P w = .ok ⟨((List.range 32).map fun j => UInt8.ofNat (kOf f j 0).toNat).toArray⟩ w := by
  obtain ⟨h1, h2, h3⟩ := h
  obtain ⟨b1, _, b2⟩ := hb
  cases a with
  | none => have := (b1 rfl).1; omega
  | some b =>
    obtain ⟨k1, k2⟩ := b2 b rfl
    have k1 := k1 (by omega)
    have hc := Lib.run_loadBytesX (P := P) w ((List.range 32).map fun j => kOf f j 0) b .empty (fun j x hj => by
      rcases Nat.lt_or_ge j 32 with hl | hl
      · rw [List.getElem?_map, List.getElem?_range hl] at hj
        simp only [Option.map_some, Option.some.injEq] at hj
        subst hj
        obtain ⟨_, _, q⟩ := k2 j (by omega) 0 (by omega)
        rw [h2 j hl] at q
        have e := hE _ _ _ q
        rw [show b.off + (j * 1 + 0) = (b.add j).off by rw [add_off]; omega, ← add_block b j] at e
        rw [← e]
        have : (b.add j).spot = none := add_spot k1 j
        cases hb : b.add j with
        | mk x y z => rw [hb] at this; simp only at this; subst this; rfl
      · rw [List.getElem?_map, List.getElem?_eq_none (by simpa using hl)] at hj
        cases hj)
    have e2 : Extern.Bytes.bytesOf (.slice (some b) n cap) = Extern.Bytes.loadBytes b n .empty := rfl
    rw [e2]
    rw [List.length_map, List.length_range, ← h1] at hc
    rw [hc]
    congr 1
    apply ByteArray.ext
    apply Array.ext'
    simp [Lib.bytesOf, Function.comp_def, h1]
theorem FnOK_bc {P : Program} {f : Nat} {fn : Func} (hf : P.funcs[f]? = some fn) (hn : (fn.name == "runtime.NumGoroutine") = false) (hb : fn.body.isNone = true) (h1 : Extern.findNext fn = none) (h2 : Extern.find fn = some bcE) : FnOK P f specBc := by
  intro args ps sv hs hp
  unfold specBc at hs
  split at hs
  · rename_i a n cap f1 b m cb g1
    simp only [Option.some.injEq, Prod.mk.injEq] at hs
    obtain ⟨rfl, rfl⟩ := hs
    obtain ⟨p1, p2, _⟩ := hp
    refine ⟨trivial, fun ρ w hz _ hbd => .inr ⟨.int .i64 (cmpK (kv fun j => kOf f1 j 0) (kv fun j => kOf g1 j 0)), ?_, rfl⟩⟩
    rw [run_callFunc_extern hf hn hb h1 h2]
    have b1 := hbd (.sc (.xs a n cap 1 f1)) (by simp)
    have b2 := hbd (.sc (.xs b m cb 1 g1)) (by simp)
    have r1 := run_bytes (P := P) (w := w) (E := ⟨fun _ => True, ρ.fz⟩) hz b1 p1
    have r2 := run_bytes (P := P) (w := w) (E := ⟨fun _ => True, ρ.fz⟩) hz b2 p2
    have e : bcE #[.slice a n cap, .slice b m cb] = (do pure (goInt (Extern.BytealgCompare.cmp (← Extern.Bytes.bytesOf (.slice a n cap)) (← Extern.Bytes.bytesOf (.slice b m cb))))) := rfl
    simp only [List.map_cons, List.map_nil, SA.conc, SC.conc]
    rw [e]
    simp only [Sem.run_bind, r1, r2, Result.andThen_ok, Sem.run_pure]
    rw [Lib.cmp_eq]
    simp only [kv_ofNat]
    rw [cmp_vl (by simp) (kv_mem p1.br) (kv_mem p2.br)]
    rfl
  · cases hs
attribute [irreducible] kv
end Go.Sx
end

section
namespace Go.Proofs.Ytnkgniedhmnanaa
open Go.Sx
set_option maxRecDepth 100000
def sWh (w : Nat → Int) : SA := .agg [.f .u8 32 w]
def sHo (w : Nat → Int) (a : Nat) : SA := .agg [.f .u8 32 w, .u a]
def cxBc : Cx := [(48, specBc)]
def bcC : List (List FD) → List Prop
  | [[.x _ n _ f], [.x _ m _ g]] => [bcP n f, bcP m g]
  | _ => [False]
def bcG : List (List FD) → List RS
  | [[.x _ _ _ f], [.x _ _ _ g]] => [.v (sI .i64 (cmpK (kv fun j => kOf f j 0) (kv fun j => kOf g j 0)))]
  | _ => []
def cBc : SSpec := specQ false [.one (.x 1), .one (.x 1)] id bcC bcG
def slAg : List (Nat × SSpec) := [(43, cBc)]
def agC : List (List FD) → List Prop
  | [[.y w, .u _], [.y v]] => [by32 w, by32 v]
  | _ => [False]
def agG : List (List FD) → List RS
  | [[.y w, .u _], [.y v]] => [.v (sI .i64 (cmpK (kv w) (kv v)))]
  | _ => []
def cAg : SSpec := specQ false [.st [.y 32, .u], .st [.y 32]] id agC agG
def bfC : List (List FD) → List Prop
  | [[.y w], [.y v]] => [by32 w, by32 v]
  | _ => [False]
def bfG : List (List FD) → List RS
  | [[.y w], [.y v]] => [.v (sB (decide (kv w < kv v)))]
  | _ => []
def cBf : SSpec := specQ false [.st [.y 32], .st [.y 32]] id bfC bfG
theorem vc_bcm (a : Option Addr) (n cap : Nat) (f : Nat → Nat → SC) (b : Option Addr) (m cb : Nat) (g : Nat → Nat → SC) (r : Int) :
    OwesR Try.prog cxBc [] [] 10 Try.f43 [.sc (.xs a n cap 1 f), .sc (.xs b m cb 1 g)] false [.v (sI .i64 r)] =
    (bcP n f ∧ bcP m g ∧ cmpK (kv fun (j : Nat) => kOf f j 0) (kv fun (j : Nat) => kOf g j 0) = r) := by kernel_rfl
theorem vc_ag (w : Nat → Int) (x : Nat) (v : Nat → Int) (r : Int) :
    OwesR Try.prog .none slAg [] 10 Try.f35 [sHo w x, sWh v] false [.v (sI .i64 r)] =
    (32 ≤ 32 ∧ ∀ (a : Go.Addr), 32 ≤ 32 ∧ ∀ (a_1 : Go.Addr), Option.some a = Option.some a ∧ 32 = 32 ∧ 32 = 32 ∧ (∀ (i : Nat), i < 32 → w i = w i) ∧ Option.some a_1 = Option.some a_1 ∧ 32 = 32 ∧ 32 = 32 ∧ (∀ (i : Nat), i < 32 → v i = v i) ∧ (bcP 32 fun (i x : Nat) => SC.val (Go.Value.int Go.IntKind.u8 (w i))) ∧ (bcP 32 fun (i x : Nat) => SC.val (Go.Value.int Go.IntKind.u8 (v i))) ∧ cmpK (kv fun (j : Nat) => kOf (fun (i x : Nat) => SC.val (Go.Value.int Go.IntKind.u8 (w i))) j 0) (kv fun (j : Nat) => kOf (fun (i x : Nat) => SC.val (Go.Value.int Go.IntKind.u8 (v i))) j 0) = r) := by kernel_rfl
theorem vc_bf (w v : Nat → Int) (r : Bool) :
    OwesR Try.prog .none [] [] 10 Try.f22 [sWh w, sWh v] false [.v (sB r)] =
    (Go.Op.bytesLess (bytesI (intsL [SK.f Go.IntKind.u8 32 w])).toList (bytesI (intsL [SK.f Go.IntKind.u8 32 v])).toList = r) := by kernel_rfl
end Go.Proofs.Ytnkgniedhmnanaa
end

section
namespace Go.Proofs.Ytnkgniedhmnanaa
open Go.Sx
set_option maxRecDepth 100000
theorem cxok_bc : CxOK Try.prog cxBc := ⟨fun p hp => by rw [List.mem_singleton.1 hp]; exact FnOKg.up (FnOK_bc Try.func48 (by kernel_rfl) (by kernel_rfl) (by kernel_rfl) (by kernel_rfl)) [], fun _ h => (by cases h)⟩
theorem card_bc {gl : Globs} : FnOKs Try.prog gl 43 cBc := by
  refine FnOKs.up0 (FnOKs_Q (cx := cxBc) cxok_bc (sl := []) oks_nil Try.func43 (by kernel_rfl) (by kernel_rfl) fun ls hc => ?_) gl
  unfold bcC at hc
  split at hc
  · rename_i a n cap f b m cb g
    obtain ⟨p, q, _⟩ := hc
    refine ⟨[], 10, fun r hr => ?_, ?_⟩
    · rw [List.mem_singleton.1 hr]; exact trivial
    · show OwesR _ _ _ _ _ _ [.sc (.xs a n cap 1 f), .sc (.xs b m cb 1 g)] false [.v (sI .i64 _)]
      rw [vc_bcm]
      exact ⟨p, q, rfl⟩
  · exact hc.1.elim
theorem bc_of {w : Nat → Int} (h : by32 w) : bcP 32 fun i _ => .val (.int .u8 (w i)) := ⟨rfl, fun _ _ => rfl, h⟩
theorem card_ag {gl : Globs} : FnOKs Try.prog gl 35 cAg := by
  refine FnOKs.up0 (FnOKs_Q (cx := Cx.none) ⟨fun _ h => (by cases h), fun _ h => (by cases h)⟩ (sl := slAg) (oks_cons card_bc oks_nil) Try.func35 (by kernel_rfl) (by kernel_rfl) fun ls hc => ?_) gl
  unfold agC at hc
  split at hc
  · rename_i w x v
    obtain ⟨p, q, _⟩ := hc
    refine ⟨[], 10, fun r hr => ?_, ?_⟩
    · rw [List.mem_singleton.1 hr]; exact trivial
    · show OwesR _ _ _ _ _ _ [sHo w x, sWh v] false [.v (sI .i64 _)]
      rw [vc_ag]
      exact ⟨Nat.le_refl _, fun _ => ⟨Nat.le_refl _, fun _ => ⟨rfl, rfl, rfl, fun _ _ => rfl, rfl, rfl, rfl, fun _ _ => rfl, bc_of p, bc_of q, rfl⟩⟩⟩
  · exact hc.1.elim
theorem byI_32 (w : Nat → Int) : (bytesI (intsL [SK.f IntKind.u8 32 w])).data.toList = (List.range 32).map fun j => UInt8.ofNat (w j).toNat := by
  rw [byI_list, intsL, intsL, List.append_nil, List.map_map]; rfl
theorem card_bf {gl : Globs} : FnOKs Try.prog gl 22 cBf := by
  refine FnOKs.up0 (FnOKs_Q (cx := Cx.none) ⟨fun _ h => (by cases h), fun _ h => (by cases h)⟩ (sl := []) oks_nil Try.func22 (by kernel_rfl) (by kernel_rfl) fun ls hc => ?_) gl
  unfold bfC at hc
  split at hc
  · rename_i w v
    obtain ⟨p, q, _⟩ := hc
    refine ⟨[], 10, fun r hr => ?_, ?_⟩
    · rw [List.mem_singleton.1 hr]; exact trivial
    · show OwesR _ _ _ _ _ _ [sWh w, sWh v] false [.v (sB _)]
      rw [vc_bf]
      exact kv_less p q (byI_32 w) (byI_32 v)
  · exact hc.1.elim
end Go.Proofs.Ytnkgniedhmnanaa
end

section
namespace Go.Proofs.Ytnkgniedhmnanaa
open Go.Sx
set_option maxRecDepth 100000
def cxPlus : Cx := [(45, specAdd64)]
def cxLess : Cx := [(47, specSub64)]
def cxAdd : Cx := [(37, specUU plusG)]
def cxSub : Cx := [(40, specUU lessG)]
theorem vc_plus (a b : Nat) :
    Owes Try.prog cxPlus [] 100 Try.f37 [sU a, sU b] (plusG a b) =
    ((0 : Int) ≤ limb a 0 ∧ (0 : Int) ≤ limb b 0 ∧ ((0 : Int) ≤ (0 : Int) ∧ (0 : Int) ≤ (1 : Int)) ∧ (0 : Int) ≤ limb a 1 ∧ (0 : Int) ≤ limb b 1 ∧ ((0 : Int) ≤ (limb a 0 + limb b 0 + (0 : Int)) / (18446744073709551616 : Int) ∧ (limb a 0 + limb b 0 + (0 : Int)) / (18446744073709551616 : Int) ≤ (1 : Int)) ∧ (0 : Int) ≤ limb a 2 ∧ (0 : Int) ≤ limb b 2 ∧ ((0 : Int) ≤ (limb a 1 + limb b 1 + (limb a 0 + limb b 0 + (0 : Int)) / (18446744073709551616 : Int)) / (18446744073709551616 : Int) ∧ (limb a 1 + limb b 1 + (limb a 0 + limb b 0 + (0 : Int)) / (18446744073709551616 : Int)) / (18446744073709551616 : Int) ≤ (1 : Int)) ∧ (0 : Int) ≤ limb a 3 ∧ (0 : Int) ≤ limb b 3 ∧ ((0 : Int) ≤ (limb a 2 + limb b 2 + (limb a 1 + limb b 1 + (limb a 0 + limb b 0 + (0 : Int)) / (18446744073709551616 : Int)) / (18446744073709551616 : Int)) / (18446744073709551616 : Int) ∧ (limb a 2 + limb b 2 + (limb a 1 + limb b 1 + (limb a 0 + limb b 0 + (0 : Int)) / (18446744073709551616 : Int)) / (18446744073709551616 : Int)) / (18446744073709551616 : Int) ≤ (1 : Int)) ∧ (((0 : Int) ≤ (limb a 0 + limb b 0 + (0 : Int)) % (18446744073709551616 : Int) ∧ (limb a 0 + limb b 0 + (0 : Int)) % (18446744073709551616 : Int) < (2 : Int) ^ 64) ∧ ((0 : Int) ≤ (limb a 1 + limb b 1 + (limb a 0 + limb b 0 + (0 : Int)) / (18446744073709551616 : Int)) % (18446744073709551616 : Int) ∧ (limb a 1 + limb b 1 + (limb a 0 + limb b 0 + (0 : Int)) / (18446744073709551616 : Int)) % (18446744073709551616 : Int) < (2 : Int) ^ 64) ∧ ((0 : Int) ≤ (limb a 2 + limb b 2 + (limb a 1 + limb b 1 + (limb a 0 + limb b 0 + (0 : Int)) / (18446744073709551616 : Int)) / (18446744073709551616 : Int)) % (18446744073709551616 : Int) ∧ (limb a 2 + limb b 2 + (limb a 1 + limb b 1 + (limb a 0 + limb b 0 + (0 : Int)) / (18446744073709551616 : Int)) / (18446744073709551616 : Int)) % (18446744073709551616 : Int) < (2 : Int) ^ 64) ∧ ((0 : Int) ≤ (limb a 3 + limb b 3 + (limb a 2 + limb b 2 + (limb a 1 + limb b 1 + (limb a 0 + limb b 0 + (0 : Int)) / (18446744073709551616 : Int)) / (18446744073709551616 : Int)) / (18446744073709551616 : Int)) % (18446744073709551616 : Int) ∧ (limb a 3 + limb b 3 + (limb a 2 + limb b 2 + (limb a 1 + limb b 1 + (limb a 0 + limb b 0 + (0 : Int)) / (18446744073709551616 : Int)) / (18446744073709551616 : Int)) / (18446744073709551616 : Int)) % (18446744073709551616 : Int) < (2 : Int) ^ 64) ∧ join ((limb a 0 + limb b 0 + (0 : Int)) % (18446744073709551616 : Int)) ((limb a 1 + limb b 1 + (limb a 0 + limb b 0 + (0 : Int)) / (18446744073709551616 : Int)) % (18446744073709551616 : Int)) ((limb a 2 + limb b 2 + (limb a 1 + limb b 1 + (limb a 0 + limb b 0 + (0 : Int)) / (18446744073709551616 : Int)) / (18446744073709551616 : Int)) % (18446744073709551616 : Int)) ((limb a 3 + limb b 3 + (limb a 2 + limb b 2 + (limb a 1 + limb b 1 + (limb a 0 + limb b 0 + (0 : Int)) / (18446744073709551616 : Int)) / (18446744073709551616 : Int)) / (18446744073709551616 : Int)) % (18446744073709551616 : Int)) % M256 = (a + b) % M256 ∧ True) ∧ (limb a 3 + limb b 3 + (limb a 2 + limb b 2 + (limb a 1 + limb b 1 + (limb a 0 + limb b 0 + (0 : Int)) / (18446744073709551616 : Int)) / (18446744073709551616 : Int)) / (18446744073709551616 : Int)) / (18446744073709551616 : Int) = (↑((a % M256 + b % M256) / M256) : Int)) := by kernel_rfl
theorem vc_less (a b : Nat) :
    Owes Try.prog cxLess [] 100 Try.f40 [sU a, sU b] (lessG a b) =
    (((0 : Int) ≤ limb a 0 ∧ limb a 0 < (18446744073709551616 : Int)) ∧ ((0 : Int) ≤ limb b 0 ∧ limb b 0 < (18446744073709551616 : Int)) ∧ ((0 : Int) ≤ (0 : Int) ∧ (0 : Int) ≤ (1 : Int)) ∧ ((0 : Int) ≤ limb a 1 ∧ limb a 1 < (18446744073709551616 : Int)) ∧ ((0 : Int) ≤ limb b 1 ∧ limb b 1 < (18446744073709551616 : Int)) ∧ ((0 : Int) ≤ -((limb a 0 - limb b 0 - (0 : Int)) / (18446744073709551616 : Int)) ∧ -((limb a 0 - limb b 0 - (0 : Int)) / (18446744073709551616 : Int)) ≤ (1 : Int)) ∧ ((0 : Int) ≤ limb a 2 ∧ limb a 2 < (18446744073709551616 : Int)) ∧ ((0 : Int) ≤ limb b 2 ∧ limb b 2 < (18446744073709551616 : Int)) ∧ ((0 : Int) ≤ -((limb a 1 - limb b 1 - -((limb a 0 - limb b 0 - (0 : Int)) / (18446744073709551616 : Int))) / (18446744073709551616 : Int)) ∧ -((limb a 1 - limb b 1 - -((limb a 0 - limb b 0 - (0 : Int)) / (18446744073709551616 : Int))) / (18446744073709551616 : Int)) ≤ (1 : Int)) ∧ ((0 : Int) ≤ limb a 3 ∧ limb a 3 < (18446744073709551616 : Int)) ∧ ((0 : Int) ≤ limb b 3 ∧ limb b 3 < (18446744073709551616 : Int)) ∧ ((0 : Int) ≤ -((limb a 2 - limb b 2 - -((limb a 1 - limb b 1 - -((limb a 0 - limb b 0 - (0 : Int)) / (18446744073709551616 : Int))) / (18446744073709551616 : Int))) / (18446744073709551616 : Int)) ∧ -((limb a 2 - limb b 2 - -((limb a 1 - limb b 1 - -((limb a 0 - limb b 0 - (0 : Int)) / (18446744073709551616 : Int))) / (18446744073709551616 : Int))) / (18446744073709551616 : Int)) ≤ (1 : Int)) ∧ (((0 : Int) ≤ (limb a 0 - limb b 0 - (0 : Int)) % (18446744073709551616 : Int) ∧ (limb a 0 - limb b 0 - (0 : Int)) % (18446744073709551616 : Int) < (2 : Int) ^ 64) ∧ ((0 : Int) ≤ (limb a 1 - limb b 1 - -((limb a 0 - limb b 0 - (0 : Int)) / (18446744073709551616 : Int))) % (18446744073709551616 : Int) ∧ (limb a 1 - limb b 1 - -((limb a 0 - limb b 0 - (0 : Int)) / (18446744073709551616 : Int))) % (18446744073709551616 : Int) < (2 : Int) ^ 64) ∧ ((0 : Int) ≤ (limb a 2 - limb b 2 - -((limb a 1 - limb b 1 - -((limb a 0 - limb b 0 - (0 : Int)) / (18446744073709551616 : Int))) / (18446744073709551616 : Int))) % (18446744073709551616 : Int) ∧ (limb a 2 - limb b 2 - -((limb a 1 - limb b 1 - -((limb a 0 - limb b 0 - (0 : Int)) / (18446744073709551616 : Int))) / (18446744073709551616 : Int))) % (18446744073709551616 : Int) < (2 : Int) ^ 64) ∧ ((0 : Int) ≤ (limb a 3 - limb b 3 - -((limb a 2 - limb b 2 - -((limb a 1 - limb b 1 - -((limb a 0 - limb b 0 - (0 : Int)) / (18446744073709551616 : Int))) / (18446744073709551616 : Int))) / (18446744073709551616 : Int))) % (18446744073709551616 : Int) ∧ (limb a 3 - limb b 3 - -((limb a 2 - limb b 2 - -((limb a 1 - limb b 1 - -((limb a 0 - limb b 0 - (0 : Int)) / (18446744073709551616 : Int))) / (18446744073709551616 : Int))) / (18446744073709551616 : Int))) % (18446744073709551616 : Int) < (2 : Int) ^ 64) ∧ join ((limb a 0 - limb b 0 - (0 : Int)) % (18446744073709551616 : Int)) ((limb a 1 - limb b 1 - -((limb a 0 - limb b 0 - (0 : Int)) / (18446744073709551616 : Int))) % (18446744073709551616 : Int)) ((limb a 2 - limb b 2 - -((limb a 1 - limb b 1 - -((limb a 0 - limb b 0 - (0 : Int)) / (18446744073709551616 : Int))) / (18446744073709551616 : Int))) % (18446744073709551616 : Int)) ((limb a 3 - limb b 3 - -((limb a 2 - limb b 2 - -((limb a 1 - limb b 1 - -((limb a 0 - limb b 0 - (0 : Int)) / (18446744073709551616 : Int))) / (18446744073709551616 : Int))) / (18446744073709551616 : Int))) % (18446744073709551616 : Int)) % M256 = (a % M256 + M256 - b % M256) % M256 ∧ True) ∧ -((limb a 3 - limb b 3 - -((limb a 2 - limb b 2 - -((limb a 1 - limb b 1 - -((limb a 0 - limb b 0 - (0 : Int)) / (18446744073709551616 : Int))) / (18446744073709551616 : Int))) / (18446744073709551616 : Int))) / (18446744073709551616 : Int)) = if a % M256 < b % M256 then (1 : Int) else (0 : Int)) := by kernel_rfl
theorem vc_Add (a b : Nat) :
    Owes Try.prog cxAdd [] 100 Try.f29 [sU a, sU b] (addG a b) =
    (((a + b) % M256 = (a + b) % M256 ∧ True) ∧ ((↑((a % M256 + b % M256) / M256) : Int) != (0 : Int)) = Decidable.decide (M256 ≤ a % M256 + b % M256)) := by kernel_rfl
theorem vc_Sub (a b : Nat) :
    Owes Try.prog cxSub [] 100 Try.f33 [sU a, sU b] (subG a b) =
    (((a % M256 + M256 - b % M256) % M256 = (a % M256 + M256 - b % M256) % M256 ∧ True) ∧ ((if a % M256 < b % M256 then (1 : Int) else (0 : Int)) != (0 : Int)) = Decidable.decide (a % M256 < b % M256)) := by kernel_rfl
end Go.Proofs.Ytnkgniedhmnanaa
end

section
namespace Go.Proofs.Ytnkgniedhmnanaa
open Go.Sx
theorem split4 (n : Nat) : ∃ a b c d : Nat, limb n 0 = a ∧ limb n 1 = b ∧ limb n 2 = c ∧ limb n 3 = d ∧ a < 18446744073709551616 ∧ b < 18446744073709551616 ∧ c < 18446744073709551616 ∧ d < 18446744073709551616 ∧
    n % M256 = a + 18446744073709551616 * b + 340282366920938463463374607431768211456 * c + 6277101735386680763835789423207666416102355444464034512896 * d := by
  refine ⟨n / 2 ^ (64 * 0) % 2 ^ 64, n / 2 ^ (64 * 1) % 2 ^ 64, n / 2 ^ (64 * 2) % 2 ^ 64, n / 2 ^ (64 * 3) % 2 ^ 64, rfl, rfl, rfl, rfl, Nat.mod_lt _ (by decide), Nat.mod_lt _ (by decide), Nat.mod_lt _ (by decide), Nat.mod_lt _ (by decide), ?_⟩
  rw [limbs_sum]
  simp only [Nat.mul_zero, Nat.pow_zero, Nat.div_one, Nat.mul_one, Nat.reduceMul, Nat.reducePow]
theorem M256_eq : M256 = 115792089237316195423570985008687907853269984665640564039457584007913129639936 := by decide
theorem carry_step (x y c : Nat) (hx : x < 18446744073709551616) (hy : y < 18446744073709551616) (hc : c ≤ 1) :
    ∃ s d : Nat, ((x : Int) + y + c) % 18446744073709551616 = s ∧ ((x : Int) + y + c) / 18446744073709551616 = d ∧ s < 18446744073709551616 ∧ d ≤ 1 ∧ x + y + c = s + 18446744073709551616 * d :=
  ⟨(x + y + c) % 18446744073709551616, (x + y + c) / 18446744073709551616, by omega, by omega, by omega, by omega, by omega⟩
theorem divmod_of {A S c M : Nat} (h : A = S + M * c) (hS : S < M) : A % M = S ∧ A / M = c := by
  subst h
  rw [Nat.add_mul_mod_self_left, Nat.mod_eq_of_lt hS, Nat.add_mul_div_left _ _ (by omega), Nat.div_eq_of_lt hS]
  exact ⟨rfl, by omega⟩
theorem ok_plus : ∀ a b, Owes Try.prog cxPlus [] 100 Try.f37 [sU a, sU b] (plusG a b) := by
  intro a b
  rw [vc_plus]
  have hab := Nat.add_mod a b M256
  obtain ⟨a0, a1, a2, a3, e0, e1, e2, e3, h0, h1, h2, h3, ha⟩ := split4 a
  obtain ⟨b0, b1, b2, b3, f0, f1, f2, f3, k0, k1, k2, k3, hb⟩ := split4 b
  rw [e0, e1, e2, e3, f0, f1, f2, f3]
  rw [ha, hb] at hab
  rw [ha, hb]
  obtain ⟨s0, c0, p0, q0, r0, t0, w0⟩ := carry_step a0 b0 0 h0 k0 (by omega)
  obtain ⟨s1, c1, p1, q1, r1, t1, w1⟩ := carry_step a1 b1 c0 h1 k1 t0
  obtain ⟨s2, c2, p2, q2, r2, t2, w2⟩ := carry_step a2 b2 c1 h2 k2 t1
  obtain ⟨s3, c3, p3, q3, r3, t3, w3⟩ := carry_step a3 b3 c2 h3 k3 t2
  simp only [Int.natCast_zero] at p0 q0
  obtain ⟨m1, m2⟩ := divmod_of (A := a0 + 18446744073709551616 * a1 + 340282366920938463463374607431768211456 * a2 + 6277101735386680763835789423207666416102355444464034512896 * a3 +
    (b0 + 18446744073709551616 * b1 + 340282366920938463463374607431768211456 * b2 + 6277101735386680763835789423207666416102355444464034512896 * b3))
    (S := s0 + 2 ^ 64 * s1 + 2 ^ 128 * s2 + 2 ^ 192 * s3) (c := c3) (M := M256) (by rw [M256_eq]; omega) (by rw [M256_eq]; omega)
  rw [m1] at hab
  have hS : (s0 + 2 ^ 64 * s1 + 2 ^ 128 * s2 + 2 ^ 192 * s3) % M256 = s0 + 2 ^ 64 * s1 + 2 ^ 128 * s2 + 2 ^ 192 * s3 := Nat.mod_eq_of_lt (by rw [M256_eq]; omega)
  simp only [q0, q1, q2, q3, p0, p1, p2, p3, join, Int.toNat_natCast, and_true, hab, hS, m2]
  clear ha hb hab hS m1 m2 p0 p1 p2 p3 q0 q1 q2 q3 w0 w1 w2 w3 e0 e1 e2 e3 f0 f1 f2 f3
  refine ⟨?_, ?_, ?_, ?_, ?_, ?_, ?_, ?_, ?_, ?_, ?_, ?_, ?_, ?_, ?_, ?_⟩ <;> omega
theorem borrow_step (x y c : Nat) (hx : x < 18446744073709551616) (hy : y < 18446744073709551616) (hc : c ≤ 1) :
    ∃ s d : Nat, ((x : Int) - y - c) % 18446744073709551616 = s ∧ -(((x : Int) - y - c) / 18446744073709551616) = d ∧ s < 18446744073709551616 ∧ d ≤ 1 ∧ x + 18446744073709551616 * d = s + y + c :=
  ⟨(((x : Int) - y - c) % 18446744073709551616).toNat, (-(((x : Int) - y - c) / 18446744073709551616)).toNat, by omega, by omega, by omega, by omega, by omega⟩
theorem ok_less : ∀ a b, Owes Try.prog cxLess [] 100 Try.f40 [sU a, sU b] (lessG a b) := by
  intro a b
  rw [vc_less]
  obtain ⟨a0, a1, a2, a3, e0, e1, e2, e3, h0, h1, h2, h3, ha⟩ := split4 a
  obtain ⟨b0, b1, b2, b3, f0, f1, f2, f3, k0, k1, k2, k3, hb⟩ := split4 b
  rw [e0, e1, e2, e3, f0, f1, f2, f3, ha, hb]
  obtain ⟨s0, c0, p0, q0, r0, t0, w0⟩ := borrow_step a0 b0 0 h0 k0 (by omega)
  obtain ⟨s1, c1, p1, q1, r1, t1, w1⟩ := borrow_step a1 b1 c0 h1 k1 t0
  obtain ⟨s2, c2, p2, q2, r2, t2, w2⟩ := borrow_step a2 b2 c1 h2 k2 t1
  obtain ⟨s3, c3, p3, q3, r3, t3, w3⟩ := borrow_step a3 b3 c2 h3 k3 t2
  simp only [Int.natCast_zero] at p0 q0
  have key : a0 + 18446744073709551616 * a1 + 340282366920938463463374607431768211456 * a2 + 6277101735386680763835789423207666416102355444464034512896 * a3 + M256 * c3 =
    (s0 + 2 ^ 64 * s1 + 2 ^ 128 * s2 + 2 ^ 192 * s3) + (b0 + 18446744073709551616 * b1 + 340282366920938463463374607431768211456 * b2 + 6277101735386680763835789423207666416102355444464034512896 * b3) := by
    rw [M256_eq]; omega
  simp only [q0, q1, q2, q3, p0, p1, p2, p3, join, Int.toNat_natCast, and_true]
  generalize hA : a0 + 18446744073709551616 * a1 + 340282366920938463463374607431768211456 * a2 + 6277101735386680763835789423207666416102355444464034512896 * a3 = A at *
  generalize hB : b0 + 18446744073709551616 * b1 + 340282366920938463463374607431768211456 * b2 + 6277101735386680763835789423207666416102355444464034512896 * b3 = B at *
  have hA' : A < M256 := by rw [M256_eq]; omega
  have hB' : B < M256 := by rw [M256_eq]; omega
  have hS' : s0 + 2 ^ 64 * s1 + 2 ^ 128 * s2 + 2 ^ 192 * s3 < M256 := by rw [M256_eq]; omega
  generalize s0 + 2 ^ 64 * s1 + 2 ^ 128 * s2 + 2 ^ 192 * s3 = S at *
  rw [Nat.mod_eq_of_lt hS']
  have hc3 : c3 = 0 ∨ c3 = 1 := by omega
  have fin : S = (A + M256 - B) % M256 ∧ (c3 : Int) = if A < B then 1 else 0 := by
    rcases hc3 with rfl | rfl
    · have : ¬ A < B := by omega
      rw [if_neg this]
      refine ⟨?_, rfl⟩
      rw [show A + M256 - B = S + M256 by omega, Nat.add_mod_right, Nat.mod_eq_of_lt hS']
    · have : A < B := by omega
      rw [if_pos this]
      refine ⟨?_, rfl⟩
      rw [show A + M256 - B = S by omega, Nat.mod_eq_of_lt hS']
  obtain ⟨g1, g2⟩ := fin
  rw [← g1, ← g2]
  clear ha hb hA hB key hA' hB' hS' g1 g2 p0 p1 p2 p3 q0 q1 q2 q3 w0 w1 w2 w3 e0 e1 e2 e3 f0 f1 f2 f3
  repeat' apply And.intro
  all_goals first | rfl | omega
theorem ok_Add : ∀ a b, Owes Try.prog cxAdd [] 100 Try.f29 [sU a, sU b] (addG a b) := by
  intro a b
  rw [vc_Add]
  refine ⟨⟨rfl, trivial⟩, ?_⟩
  have hM : 0 < M256 := by decide
  have h1 := Nat.mod_lt a hM
  have h2 := Nat.mod_lt b hM
  rw [Bool.eq_iff_iff]
  simp only [bne_iff_ne, ne_eq, decide_eq_true_eq]
  by_cases h : M256 ≤ a % M256 + b % M256
  · have : (a % M256 + b % M256) / M256 ≠ 0 := by
      have := Nat.div_pos h hM
      omega
    simp only [h, iff_true]; omega
  · have : (a % M256 + b % M256) / M256 = 0 := Nat.div_eq_of_lt (by omega)
    simp [h, this]
theorem ok_Sub : ∀ a b, Owes Try.prog cxSub [] 100 Try.f33 [sU a, sU b] (subG a b) := by
  intro a b
  rw [vc_Sub]
  refine ⟨⟨rfl, trivial⟩, ?_⟩
  by_cases h : a % M256 < b % M256 <;> simp [h]
end Go.Proofs.Ytnkgniedhmnanaa
end

section
namespace Go.Proofs.Ytnkgniedhmnanaa
open Go.Sx
end Go.Proofs.Ytnkgniedhmnanaa
end

section
namespace Go.Sx
open Go.RowKit Go.ChangeShapes Go.WideShapes
inductive LK where
  | bool
  | int (k : IntKind)
  | text
def LK.fits : LK → Value → Prop
  | .bool, .bool _ => True
  | .int k, .int k' n => k' = k ∧ (Lit.int k n).wf = true
  | .text, .string s => s.size ≤ maxLen
  | _, _ => False
def fitsL : List LK → List Value → Prop
  | [], [] => True
  | l :: ls, v :: vs => l.fits v ∧ fitsL ls vs
  | _, _ => False
theorem fitsL_append : ∀ {a b : List LK} {u v : List Value}, fitsL a u → fitsL b v → fitsL (a ++ b) (u ++ v)
  | [], _, [], _, _, h => h
  | _ :: _, _, _ :: _, _, h, k => ⟨h.1, fitsL_append h.2 k⟩
  | [], _, _ :: _, _, h, _ => h.elim
  | _ :: _, _, [], _, h, _ => h.elim
def lksF (P : Program) (g : TypeId → Option (List LK)) : List Field → Nat → Option (List LK)
  | [], _ => some []
  | f :: fs, n =>
    match g f.type with
    | none => none
    | some a => if Nat.beq f.offset n && Nat.beq (P.cellsOf f.type) a.length then (lksF P g fs (n + a.length)).map (a ++ ·) else none
def lks (P : Program) : Nat → TypeId → Option (List LK)
  | 0, _ => none
  | d + 1, t =>
    match P.underlying t with
    | some .bool => some [.bool]
    | some (.int k) => some [.int k]
    | some .string => some [.text]
    | some (.struct fs) => match lksF P (lks P d) fs.toList 0 with
      | some a => if Nat.beq (P.cellsOf t) a.length then some a else none
      | none => none
    | some (.array n e) => match lks P d e with
      | some a => if Nat.beq (P.cellsOf e) a.length && Nat.beq (P.cellsOf t) (n * a.length) then some (List.replicate n a).flatten else none
      | none => none
    | _ => none
section
variable {H : Type} {enc : TypeId × Value → H} {P : Program} {w : World} {base : Nat} {sp : Nat → Bool} {held : Bool}
theorem fits_fields {fuel : Nat} {g : TypeId → Option (List LK)} {cs : List Value}
    (hg : ∀ {t a cs' x}, g t = some a → DataW.trod enc P w base sp held fuel t cs' = some x → fitsL a cs') :
    ∀ {fs : List Field} {n : Nat} {a : List LK}, lksF P g fs n = some a →
      (∀ f ∈ fs, ∃ x, DataW.trod enc P w base sp held fuel f.type ((cs.drop f.offset).take (P.cellsOf f.type)) = some x) → fitsL a ((cs.drop n).take a.length)
  | [], n, a, h, _ => by
    simp only [lksF, Option.some.injEq] at h
    subst h
    simp [fitsL]
  | f :: fs, n, a, h, hx => by
    simp only [lksF] at h
    split at h
    · cases h
    · rename_i a0 ha
      split at h
      · rename_i hc
        simp only [Bool.and_eq_true] at hc
        have h1 := Nat.eq_of_beq_eq_true hc.1
        have h2 := Nat.eq_of_beq_eq_true hc.2
        cases hr : lksF P g fs (n + a0.length) with
        | none => rw [hr] at h; simp at h
        | some a1 =>
          rw [hr] at h
          simp only [Option.map_some, Option.some.injEq] at h
          subst h
          obtain ⟨x, hx0⟩ := hx f (by simp)
          have f0 := hg ha hx0
          have f1 := fits_fields hg hr (fun f' hf' => hx f' (by simp [hf']))
          rw [h1, h2] at f0
          have := fitsL_append f0 f1
          rwa [List.length_append, List.take_add, List.drop_drop]
      · cases h
theorem fits_rows {a : List LK} : ∀ {n : Nat} {cs : List Value}, (∀ i, i < n → fitsL a ((cs.drop (i * a.length)).take a.length)) → cs.length = n * a.length → fitsL (List.replicate n a).flatten cs
  | 0, cs, _, hl => by
    have : cs = [] := List.eq_nil_of_length_eq_zero (by omega)
    subst this
    trivial
  | n + 1, cs, h, hl => by
    rw [List.replicate_succ, List.flatten_cons]
    have h0 := h 0 (by omega)
    rw [Nat.zero_mul, List.drop_zero] at h0
    have := fitsL_append h0 (fits_rows (n := n) (cs := cs.drop a.length) (fun i hi => by
      have := h (i + 1) (by omega)
      rw [List.drop_drop]
      rwa [Nat.add_mul, Nat.one_mul, Nat.add_comm] at this) (by rw [List.length_drop, hl, Nat.add_mul]; omega))
    rwa [List.take_append_drop] at this
theorem trod_fits : ∀ {d : Nat} {t : TypeId} {a : List LK} {fuel : Nat} {cs : List Value} {x : DataW H × List MemPlace}, lks P d t = some a → DataW.trod enc P w base sp held fuel t cs = some x → fitsL a cs
  | 0, _, _, _, _, _, h, _ => by cases h
  | d + 1, t, a, fuel, cs, x, h, hx => by
    unfold lks at h
    split at h
    · rename_i hu
      obtain ⟨b, rfl, _⟩ := DataW.trod_bool hu hx
      simp only [Option.some.injEq] at h; subst h
      exact ⟨trivial, trivial⟩
    · rename_i k hu
      obtain ⟨n, rfl, _, hw⟩ := DataW.trod_int hu hx
      simp only [Option.some.injEq] at h; subst h
      exact ⟨⟨rfl, hw⟩, trivial⟩
    · rename_i hu
      obtain ⟨s, rfl, _, hs⟩ := DataW.trod_string hu hx
      simp only [Option.some.injEq] at h; subst h
      exact ⟨hs, trivial⟩
    · rename_i fs hu
      split at h
      · rename_i a' ha
        split at h
        · rename_i hc
          simp only [Option.some.injEq] at h; subst h
          obtain ⟨xs, n, rfl, _, hl, hn, hf⟩ := DataW.trod_struct hu hx
          have := fits_fields (cs := cs) (fun h1 h2 => trod_fits (d := d) h1 h2) ha (fun f hm => by
            obtain ⟨i, hi, e⟩ := List.mem_iff_getElem.1 hm
            have e' : fs[i]? = some f := by rw [← e]; simp at hi ⊢
            have hlt : i < xs.length := by simp at hi; omega
            exact ⟨xs[i], by rw [hf i f e']; simp [hlt]⟩)
          rw [List.drop_zero, List.take_of_length_le (by rw [hl, Nat.eq_of_beq_eq_true hc]; exact Nat.le_refl _)] at this
          exact this
        · cases h
      · cases h
    · rename_i n e hu
      split at h
      · rename_i a' ha
        split at h
        · rename_i hc
          simp only [Bool.and_eq_true] at hc
          simp only [Option.some.injEq] at h; subst h
          obtain ⟨xs, m, rfl, _, hl, hn, hf⟩ := DataW.trod_array hu hx
          have h1 := Nat.eq_of_beq_eq_true hc.1
          have h2 := Nat.eq_of_beq_eq_true hc.2
          refine fits_rows (fun i hi => ?_) (by rw [hl, h2])
          have := hf i hi
          have hlt : i < xs.length := by omega
          rw [h1, List.getElem?_eq_getElem hlt] at this
          exact trod_fits ha this
        · cases h
      · cases h
    · cases h
theorem open_flat {d : Nat} {t : TypeId} {a : List LK} {r : Reach} {b0 : Nat} {v : Value} {x : DataW H} {ps : List MemPlace} (ha : lks P d t = some a)
    (hs : (match P.underlying t with | some (.struct _) | some (.array _ _) => true | _ => false) = true)
    (hval : Value.okWide P w r b0 t v) (hd : DataW.Trod enc P w base sp held t v x ps) : ∃ cs : List Value, v = .agg cs.toArray ∧ fitsL a cs := by
  obtain ⟨fuel, hf⟩ := hd
  have : ∃ cs : Array Value, v = .agg cs := by
    unfold Value.okWide at hval
    split at hval
    · obtain ⟨cs, h, _⟩ := hval; exact ⟨cs, h⟩
    · obtain ⟨cs, h, _⟩ := hval; exact ⟨cs, h⟩
    · rename_i h1 h2
      split at hs
      · rename_i e; exact (h1 _ e).elim
      · rename_i e; exact (h2 _ _ e).elim
      · cases hs
  obtain ⟨cs, rfl⟩ := this
  exact ⟨cs.toList, rfl, trod_fits ha hf⟩
theorem trodAll_carry (hl : laidOutB P = true) {W W' : World} (hb : Below W.heap.size W W') {sp' : Nat → Bool} :
    ∀ {ts : List TypeId} {vs : List Value} {ds : List (DataW H)} {ps : List MemPlace}, ts.all (fun t => P.readableRec t && Nat.blt t P.types.size) = true →
      DataW.TrodAll enc P W 0 (fun _ => true) true ts vs ds ps → (∀ x ∈ ps, x.block < W.heap.size) → (∀ x ∈ ps, sp' x.block = true) → DataW.TrodAll enc P W' 0 sp' true ts vs ds ps
  | [], _, _, _, _, h, _, _ => by
    obtain ⟨rfl, rfl, rfl⟩ := trodAll_nil h
    exact rfl
  | t :: ts, _, _, _, hr, h, hlt, hsp => by
    obtain ⟨v, vs, d, ds, p, q, rfl, rfl, rfl, h1, h2⟩ := trodAll_cons h
    simp only [List.all_cons, Bool.and_eq_true] at hr
    obtain ⟨⟨hr1, hr2⟩, hr3⟩ := hr
    refine trodAll_cons_mk (Go.WideElems.Trod_stays hl hr1 (by simpa [Nat.blt, Nat.succ_le_iff] using hr2) h1 (fun x hx => hb.same (hlt x (by simp [hx]))) (fun x hx => hsp x (by simp [hx])))
      (trodAll_carry hl hb hr3 h2 (fun x hx => hlt x (by simp [hx])) (fun x hx => hsp x (by simp [hx])))
theorem law_post {f : Func} {s : ChangeSpec} {fresh handsOn again : Bool} {W W' : World} {args : Array Value} {ds gs : List (DataW H)} {before : List MemPlace} {tb : TypeId}
    (hl : laidOutB P = true) (hp : f.params.toList.all (fun t => P.readableRec t && Nat.blt t P.types.size) = true) (hr : f.resultTypes = #[tb]) (hu : P.underlying tb = some .bool) (hv : s.vars = [])
    (hs : s.fn H (ds ++ gs) = { results := [.lit (.bool true)], args := ds, vars := [] })
    (hW : DataW.Whole enc P f.params.toList s.vars false W args.toList ds gs before) (hb : Below W.heap.size W W') :
    s.post enc P f false fresh handsOn again W args (.bool true) W' := by
  have hlt : ∀ p ∈ before, p.block < W.heap.size := fun p hp => hW.lt p hp
  have hW0 := hW
  obtain ⟨p, q, hA, hV, he, hz, hn⟩ := hW
  rw [hv] at hV
  obtain ⟨rfl, rfl⟩ := trodVars_none hV
  rw [List.append_nil] at he
  subst he
  have hres : ∀ (b : Nat) (sp : Nat → Bool) (hd : Bool), DataW.TrodAll enc P W' b sp hd f.resultTypes.toList (Value.resultList f.resultTypes.size (.bool true)) (s.fn H (ds ++ [])).results [] := by
    intro b sp hd
    rw [hs, hr]
    exact trodAll_mk1 (shut_bool hu true)
  have hargs : ∀ sp : Nat → Bool, (∀ x ∈ before, sp x.block = true) → DataW.TrodAll enc P W' 0 sp true f.params.toList args.toList (s.fn H (ds ++ [])).args before := by
    intro sp hsp
    rw [hs]
    exact trodAll_carry hl hb hp hA hlt hsp
  have hvars : ∀ sp : Nat → Bool, DataW.TrodVars enc P W' sp s.vars (s.fn H (ds ++ [])).vars [] := by
    intro sp
    rw [hv, hs]
    exact rfl
  refine ⟨ds, [], before, [], before, [], hW0, hres _ _ _, hargs _ (fun x hx => by simpa using hlt x hx), hvars _, World.keptBut_mono (fun x hx => ⟨hx, .inr (.inl hx)⟩) (hb.frame (· ∈ before)), fun _ => ⟨?_, _, [], before, ⟨before, [], trodAll_append (hargs _ (fun _ _ => rfl)) (hres _ _ _), ?_, (List.append_nil _).symm, ?_, ?_⟩, fun x hx _ => hx⟩⟩
  · refine ok_one hr rfl ?_
    unfold Value.okWide
    rw [hu]
    unfold Cell.okWide
    rw [hu]
    unfold Cell.ok
    rw [hu]
    trivial
  · have := hvars (fun _ => true)
    rw [hs] at this
    exact this
  · intro b off hm
    rw [hb.frozen (hlt _ hm)]
    exact hz b off hm
  · intro h; cases h
end
end Go.Sx
end

section
namespace Go.Proofs.Ytnkgniedhmnanaa
open Go.Sx
theorem CxOK_nil : CxOK Try.prog Cx.none := ⟨fun _ h => (by cases h), fun _ h => (by cases h)⟩
theorem CxOK_cons {f : Nat} {s : FSpec} {l : List (Nat × FSpec)} {gl : Globs} {wf : List (Nat × WSpec)} (h : FnOKg Try.prog gl f s) (hs : CxOK Try.prog ⟨l, gl, 0, wf⟩) : CxOK Try.prog ⟨(f, s) :: l, gl, 0, wf⟩ := by
  refine ⟨fun p hp => ?_, hs.2⟩
  rcases List.mem_cons.1 hp with rfl | hp
  · exact h
  · exact hs.1 p hp
theorem bnd_U (n : Nat) : SA.bnd none0 (sU n) := by
  intro k hk; simp only [List.mem_singleton] at hk; subst hk; trivial
theorem bnd_I (k : IntKind) (n : Int) : SA.bnd none0 (sI k n) := trivial
theorem bnd_B (b : Bool) : SA.bnd none0 (sB b) := trivial
theorem bnd_one {x : SA} (h : x.bnd none0) : SV.bnd none0 (.one x) := h
theorem bnd_two {x y : SA} (h : x.bnd none0) (h' : y.bnd none0) : SV.bnd none0 (.tup [x, y]) := by
  intro z hz
  simp only [List.mem_cons, List.not_mem_nil, or_false] at hz
  rcases hz with rfl | rfl
  · exact h
  · exact h'
theorem card_Add64 : FnOK Try.prog 45 specAdd64 := FnOK_add64 Try.func45 (by kernel_rfl) (by kernel_rfl) (by kernel_rfl) (by kernel_rfl)
theorem card_Sub64 : FnOK Try.prog 47 specSub64 := FnOK_sub64 Try.func47 (by kernel_rfl) (by kernel_rfl) (by kernel_rfl) (by kernel_rfl)
theorem cxok_plus : CxOK Try.prog cxPlus := CxOK_cons card_Add64 CxOK_nil
theorem card_plus : FnOK Try.prog 37 (specUU plusG) :=
  FnOK_UU cxok_plus (iv := []) (N := 100) Try.func37 (by kernel_rfl) (by kernel_rfl) (fun a b => by unfold plusG; exact bnd_two (bnd_U _) (bnd_I _ _)) ok_plus
theorem cxok_less : CxOK Try.prog cxLess := CxOK_cons card_Sub64 CxOK_nil
theorem card_less : FnOK Try.prog 40 (specUU lessG) :=
  FnOK_UU cxok_less (iv := []) (N := 100) Try.func40 (by kernel_rfl) (by kernel_rfl) (fun a b => by unfold lessG; exact bnd_two (bnd_U _) (bnd_I _ _)) ok_less
theorem cxok_Add : CxOK Try.prog cxAdd := CxOK_cons card_plus CxOK_nil
theorem card_Add : FnOK Try.prog 29 (specUU addG) :=
  FnOK_UU cxok_Add (iv := []) (N := 100) Try.func29 (by kernel_rfl) (by kernel_rfl) (fun a b => by unfold addG; exact bnd_two (bnd_U _) (bnd_B _)) ok_Add
theorem cxok_Sub : CxOK Try.prog cxSub := CxOK_cons card_less CxOK_nil
theorem card_Sub : FnOK Try.prog 33 (specUU subG) :=
  FnOK_UU cxok_Sub (iv := []) (N := 100) Try.func33 (by kernel_rfl) (by kernel_rfl) (fun a b => by unfold subG; exact bnd_two (bnd_U _) (bnd_B _)) ok_Sub
end Go.Proofs.Ytnkgniedhmnanaa
end
