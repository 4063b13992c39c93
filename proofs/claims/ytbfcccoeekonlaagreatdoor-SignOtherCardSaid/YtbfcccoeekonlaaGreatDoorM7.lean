/-
  Texts: Sx12, Sx13, Wsp, V1, V2, V5, Wsp2, Wsp3.
-/
import Derived.Test.YtbfcccoeekonlaaGreatDoorM1
import Derived.Test.YtbfcccoeekonlaaGreatDoorM2
import Derived.Test.YtbfcccoeekonlaaGreatDoorM3
import Derived.Test.YtbfcccoeekonlaaGreatDoorM4
import Derived.Test.YtbfcccoeekonlaaGreatDoorM5
import Derived.Test.YtbfcccoeekonlaaGreatDoorM6
import Derived.Test.YtbfcccoeekonlaaGreatDoorRows
section
/-
  A calculus of symbolic states for walks over translated Go code, part 12: what is said of functions.
-/
namespace Go.Sx
open Go.RowKit

/-- A number of 256 bits as a symbolic value; a whole number; a bool. -/
abbrev sU (n : Nat) : SA := .agg [.u n]
abbrev sI (k : IntKind) (n : Int) : SA := .sc (.val (.int k n))
abbrev sB (b : Bool) : SA := .sc (.val (.bool b))

/-- Of two numbers. -/
def specUU (f : Nat → Nat → SV) : FSpec := fun args =>
  match args with
  | [x, y] => match asU x, asU y with
    | some (p, a), some (q, b) => some (p ++ q, f a b)
    | _, _ => none
  | _ => none

theorem FnOK_of {P : Program} {gl : Globs} {f : Nat} {fn : Func} (hf : P.funcs[f]? = some fn) (hb : fn.body.isSome = true) (hn : (fn.name == "runtime.NumGoroutine") = false) {s : FSpec}
    (h : ∀ args ps sv, s args = some (ps, sv) → Ok ps → sv.bnd none0 ∧ ∀ (ρ : Rho) (w : World), FzOK ρ.fz w → GlobsOK gl ρ.fz → (∀ x ∈ args, x.bnd ⟨fun _ => True, ρ.fz⟩) → Calls P f (args.map (SA.conc ρ)).toArray w fun e w' => ∃ v, e = .returned v ∧ sv.rep ρ v ∧ Below w.heap.size w w') : FnOKg P gl f s :=
  fun args ps sv hs hp => ⟨(h args ps sv hs hp).1, fun ρ w hz hg ha => .inl ⟨run_callFunc_enter hf hb hn _ w, (h args ps sv hs hp).2 ρ w hz hg ha⟩⟩

/-- What a function's text comes to at such arguments: the sentence that is owed. -/
def Owes (P : Program) (cx : Cx) (iv : List (Nat × Hint)) (N : Nat) (fn : Func) (args : List SA) (out : SV) : Prop :=
  sx P cx (inlD P cx drawOK iv N 8) drawOK iv N 0 0 (fn.body.getD .skip) (slots0 args fn.ntmps) [] (ret P fn.results.toList fun sv _ => same sv out)

theorem Mem.start {B : Nat} {ρ : Rho} {w : World} (hz : FzOK ρ.fz w) : Mem B ρ [] w :=
  ⟨fun i x hi => by simp at hi, fun i j ⟨x, hi, _⟩ => by simp at hi, fun b o v hv => ⟨hz b o v hv, fun i ⟨x, hi, _⟩ => by simp at hi⟩⟩
theorem calls_of_owesG {P : Program} {cx : Cx} (hcx : CxOK P cx) {iv : List (Nat × Hint)} {N : Nat} {f : FuncId} {fn : Func} (hf : P.funcs[f]? = some fn) (hb : fn.body.isSome = true) {args : List SA} {out : SV}
    (h : Owes P cx iv N fn args out) (ρ : Rho) (w : World) (hz : FzOK ρ.fz w) (hg : GlobsOK cx.gl ρ.fz) (hargs : ∀ x ∈ args, x.bnd ⟨fun _ => False, ρ.fz⟩) : Calls P f (args.map (SA.conc ρ)).toArray w fun e w' => ∃ v, e = .returned v ∧ (∃ ρ', out.rep ρ' v) ∧ Below w.heap.size w w' := by
  obtain ⟨c, hc⟩ := Option.isSome_iff_exists.1 hb
  unfold Owes at h
  rw [hc] at h
  exact calls_of_sx hcx (inlD_ok hcx (drawOK_ok hcx) iv N 8) (drawOK_ok hcx) iv N 0 hf hc (Z := w) (ob := []) args ρ (fun x hx => SA.bnd_mono (n := ⟨fun _ => False, ρ.fz⟩) (m := lv ρ []) ⟨fun _ k => k.elim, fun _ _ _ k => k⟩ (hargs x hx)) w (Below.refl _ _) (Mem.start hz) hg (Nat.zero_le _) _ (fun sv ob' ρ' v w' hp hr _ hb _ _ _ => ⟨v, rfl, ⟨ρ', same_sound hp ρ' v hr⟩, hb⟩) h
theorem calls_of_owes0 {P : Program} {cx : Cx} (hcx : CxOK P cx) {iv : List (Nat × Hint)} {N : Nat} {f : FuncId} {fn : Func} (hf : P.funcs[f]? = some fn) (hb : fn.body.isSome = true) {args : List SA} (hargs : ∀ x ∈ args, x.bnd none0) {out : SV}
    (h : Owes P cx iv N fn args out) (ρ : Rho) (w : World) (hz : FzOK ρ.fz w) (hg : GlobsOK cx.gl ρ.fz) : Calls P f (args.map (SA.conc ρ)).toArray w fun e w' => ∃ v, e = .returned v ∧ (∃ ρ', out.rep ρ' v) ∧ Below w.heap.size w w' :=
  calls_of_owesG hcx hf hb h ρ w hz hg (fun x hx => SA.bnd_mono none0_le (hargs x hx))
theorem rep_none0 {s : SV} (h : s.bnd none0) {ρ ρ' : Rho} {v : Value} (hr : s.rep ρ v) : s.rep ρ' v := Agree.sv (n := none0) (fun _ hi => hi.elim) h hr

/-- A function's card, by its sentence. 'rd': what stands for the arguments. -/
theorem FnOK_owesG {P : Program} {cx : Cx} (hcx : CxOK P cx) {f : Nat} {fn : Func} (hf : P.funcs[f]? = some fn) (hb : fn.body.isSome = true) (hn : (fn.name == "runtime.NumGoroutine") = false) {s : FSpec}
    (h : ∀ args ps sv, s args = some (ps, sv) → Ok ps → ∃ iv N args', (∀ ρ, args.map (SA.conc ρ) = args'.map (SA.conc ρ)) ∧ (∀ fz, (∀ x ∈ args, x.bnd ⟨fun _ => True, fz⟩) → ∀ x ∈ args', x.bnd ⟨fun _ => False, fz⟩) ∧ sv.bnd none0 ∧ Owes P cx iv N fn args' sv) : FnOKg P cx.gl f s :=
  FnOK_of hf hb hn fun args ps sv hs hp => by
    obtain ⟨iv, N, args', h1, h2, h3, h4⟩ := h args ps sv hs hp
    refine ⟨h3, fun ρ w hz hg ha => ?_⟩
    rw [h1]
    refine (calls_of_owesG hcx hf hb h4 ρ w hz hg (h2 _ ha)).mono ?_
    rintro e w' ⟨v, rfl, ⟨ρ', hr⟩, hbl⟩
    exact ⟨v, rfl, rep_none0 h3 hr, hbl⟩
theorem FnOK_owes {P : Program} {cx : Cx} (hcx : CxOK P cx) {iv : List (Nat × Hint)} {N : Nat} {f : Nat} {fn : Func} (hf : P.funcs[f]? = some fn) (hb : fn.body.isSome = true) (hn : (fn.name == "runtime.NumGoroutine") = false) {s : FSpec}
    (h : ∀ args ps sv, s args = some (ps, sv) → Ok ps → ∃ args', (∀ ρ, args.map (SA.conc ρ) = args'.map (SA.conc ρ)) ∧ (∀ x ∈ args', x.bnd none0) ∧ sv.bnd none0 ∧ Owes P cx iv N fn args' sv) : FnOKg P cx.gl f s :=
  FnOK_of hf hb hn fun args ps sv hs hp => by
    obtain ⟨args', h1, h2, h3, h4⟩ := h args ps sv hs hp
    refine ⟨h3, fun ρ w hz hg _ => ?_⟩
    rw [h1]
    refine (calls_of_owesG hcx hf hb h4 ρ w hz hg (fun x hx => SA.bnd_mono none0_le (h2 x hx))).mono ?_
    rintro e w' ⟨v, rfl, ⟨ρ', hr⟩, hbl⟩
    exact ⟨v, rfl, rep_none0 h3 hr, hbl⟩

/-! ## Cards by what the arguments are -/

theorem asU_canon {x : SA} {p : List Prop} {a : Nat} (h : asU x = some (p, a)) (hp : Ok p) (ρ : Rho) : x.conc ρ = (sU a).conc ρ := asU_sound h hp ρ

theorem FnOK_UU {P : Program} {cx : Cx} (hcx : CxOK P cx) {iv : List (Nat × Hint)} {N : Nat} {f : Nat} {fn : Func} (hf : P.funcs[f]? = some fn) (hb : fn.body.isSome = true) (hn : (fn.name == "runtime.NumGoroutine") = false) {g : Nat → Nat → SV} (hg : ∀ a b, (g a b).bnd none0)
    (h : ∀ a b, Owes P cx iv N fn [sU a, sU b] (g a b)) : FnOKg P cx.gl f (specUU g) := by
  refine FnOK_owes (iv := iv) (N := N) hcx hf hb hn fun args ps sv hs hp => ?_
  unfold specUU at hs
  split at hs
  · rename_i x y
    split at hs
    · rename_i p a q b ha hb'
      simp only [Option.some.injEq, Prod.mk.injEq] at hs
      obtain ⟨rfl, rfl⟩ := hs
      obtain ⟨o1, o2⟩ := Ok.append.1 hp
      refine ⟨_, fun ρ => by simp only [List.map_cons, List.map_nil, asU_canon ha o1 ρ, asU_canon hb' o2 ρ], ?_, hg a b, h a b⟩
      intro z hz
      simp only [List.mem_cons, List.not_mem_nil, or_false] at hz
      rcases hz with rfl | rfl <;> (intro k hk; simp only [List.mem_singleton] at hk; subst hk; trivial)
    · cases hs
  · cases hs

attribute [irreducible] Owes
end Go.Sx
end

section
/-
  A calculus of symbolic states for walks over translated Go code, part 13: the library's sums and differences with a carry.
-/
namespace Go.Sx
open Go.RowKit

def specAdd64 : FSpec := fun args =>
  match args with
  | [x, y, c] => match asI x, asI y, asI c with
    | some (.u64, x), some (.u64, y), some (.u64, c) => some ([0 ≤ x, 0 ≤ y, 0 ≤ c ∧ c ≤ 1], .tup [sI .u64 ((x + y + c) % 18446744073709551616), sI .u64 ((x + y + c) / 18446744073709551616)])
    | _, _, _ => none
  | _ => none
def specSub64 : FSpec := fun args =>
  match args with
  | [x, y, c] => match asI x, asI y, asI c with
    | some (.u64, x), some (.u64, y), some (.u64, c) => some ([0 ≤ x ∧ x < 18446744073709551616, 0 ≤ y ∧ y < 18446744073709551616, 0 ≤ c ∧ c ≤ 1], .tup [sI .u64 ((x - y - c) % 18446744073709551616), sI .u64 (-((x - y - c) / 18446744073709551616))])
    | _, _, _ => none
  | _ => none

/-- The model's own entry, by its place in the model's own table. -/
def sub64E : Array Value → Sem Value := (Extern.MathBitsCarry.rows.map (·.2)).getD 1 fun _ => stuck "none"
theorem run_sub64 {P : Program} (x y b : Nat) (hb : b ≤ 1) (w : World) :
    (sub64E #[.int .u64 x, .int .u64 y, .int .u64 b]).run P w =
      .ok (.tuple #[.int .u64 (((x + 18446744073709551616 - y - b) % 18446744073709551616 : Nat) : Int), .int .u64 ((if x < y + b then 1 else 0 : Nat) : Int)]) w := by
  have : b = 0 ∨ b = 1 := by omega
  rcases this with rfl | rfl <;> rfl
theorem run_sub64I {P : Program} (x y c : Int) (hx : 0 ≤ x ∧ x < 18446744073709551616) (hy : 0 ≤ y ∧ y < 18446744073709551616) (hc : 0 ≤ c ∧ c ≤ 1) (w : World) :
    (sub64E #[.int .u64 x, .int .u64 y, .int .u64 c]).run P w = .ok (.tuple #[.int .u64 ((x - y - c) % 18446744073709551616), .int .u64 (-((x - y - c) / 18446744073709551616))]) w := by
  obtain ⟨k, rfl⟩ := Int.eq_ofNat_of_zero_le hc.1
  obtain ⟨X, rfl⟩ := Int.eq_ofNat_of_zero_le hx.1
  obtain ⟨Y, rfl⟩ := Int.eq_ofNat_of_zero_le hy.1
  rw [run_sub64 (P := P) X Y k (by omega) w]
  congr 5
  · omega
  · congr 2
    split <;> omega

theorem FnOK_add64 {P : Program} {f : Nat} {fn : Func} (hf : P.funcs[f]? = some fn) (hn : (fn.name == "runtime.NumGoroutine") = false) (hb : fn.body.isNone = true) (h1 : Extern.findNext fn = none) (h2 : Extern.find fn = some add64Entry) : FnOK P f specAdd64 := by
  intro args ps sv hs hp
  unfold specAdd64 at hs
  split at hs
  · rename_i x y c
    split at hs
    · rename_i x' y' c' hx hy hc
      simp only [Option.some.injEq, Prod.mk.injEq] at hs
      obtain ⟨rfl, rfl⟩ := hs
      obtain ⟨p1, p2, ⟨p3, p4⟩, _⟩ := hp
      refine ⟨fun z hz => by simp only [List.mem_cons, List.not_mem_nil, or_false] at hz; rcases hz with rfl | rfl <;> trivial, fun ρ w _ _ _ => .inr ⟨.tuple #[.int .u64 ((x' + y' + c') % 18446744073709551616), .int .u64 ((x' + y' + c') / 18446744073709551616)], ?_, ?_⟩⟩
      · rw [run_callFunc_extern hf hn hb h1 h2]
        simp only [List.map_cons, List.map_nil, asI_sound hx ρ, asI_sound hy ρ, asI_sound hc ρ, run_add64 x' y' c' p1 p2 p3 p4 w, Result.andThen_ok]
      · simp [SV.rep, SA.conc, SC.conc]
    · cases hs
  · cases hs
theorem FnOK_sub64 {P : Program} {f : Nat} {fn : Func} (hf : P.funcs[f]? = some fn) (hn : (fn.name == "runtime.NumGoroutine") = false) (hb : fn.body.isNone = true) (h1 : Extern.findNext fn = none) (h2 : Extern.find fn = some sub64E) : FnOK P f specSub64 := by
  intro args ps sv hs hp
  unfold specSub64 at hs
  split at hs
  · rename_i x y c
    split at hs
    · rename_i x' y' c' hx hy hc
      simp only [Option.some.injEq, Prod.mk.injEq] at hs
      obtain ⟨rfl, rfl⟩ := hs
      obtain ⟨p1, p2, p3, _⟩ := hp
      refine ⟨fun z hz => by simp only [List.mem_cons, List.not_mem_nil, or_false] at hz; rcases hz with rfl | rfl <;> trivial, fun ρ w _ _ _ => .inr ⟨.tuple #[.int .u64 ((x' - y' - c') % 18446744073709551616), .int .u64 (-((x' - y' - c') / 18446744073709551616))], ?_, ?_⟩⟩
      · rw [run_callFunc_extern hf hn hb h1 h2]
        simp only [List.map_cons, List.map_nil, asI_sound hx ρ, asI_sound hy ρ, asI_sound hc ρ, run_sub64I x' y' c' p1 p2 p3 w, Result.andThen_ok]
      · simp [SV.rep, SA.conc, SC.conc]
    · cases hs
  · cases hs

end Go.Sx
end

section
/-
  What the functions of package wide come to, as numbers (the cards that their proofs hold them to).
-/
namespace Go.Sx
open Go.RowKit

theorem asI_canon {x : SA} {k : IntKind} {n : Int} (h : asI x = some (k, n)) (ρ : Rho) : x.conc ρ = (sI k n).conc ρ := asI_sound h ρ

/-- A number of 256 bits, and a word. -/
def specUI (g : Nat → Int → SV) : FSpec := fun args =>
  match args with
  | [x, y] => match asU x, asI y with
    | some (p, a), some (.u64, n) => some (p ++ [0 ≤ n ∧ n < 18446744073709551616], g a n)
    | _, _ => none
  | _ => none
theorem FnOK_UI {P : Program} {cx : Cx} (hcx : CxOK P cx) {iv : List (Nat × Hint)} {N : Nat} {f : Nat} {fn : Func} (hf : P.funcs[f]? = some fn) (hb : fn.body.isSome = true) (hn : (fn.name == "runtime.NumGoroutine") = false) {g : Nat → Int → SV} (hg : ∀ a n, (g a n).bnd none0)
    (h : ∀ a n, 0 ≤ n ∧ n < 18446744073709551616 → Owes P cx iv N fn [sU a, sI .u64 n] (g a n)) : FnOKg P cx.gl f (specUI g) := by
  refine FnOK_owes (iv := iv) (N := N) hcx hf hb hn fun args ps sv hs hp => ?_
  unfold specUI at hs
  split at hs
  · rename_i x y
    split at hs
    · rename_i p a n ha hn'
      simp only [Option.some.injEq, Prod.mk.injEq] at hs
      obtain ⟨rfl, rfl⟩ := hs
      obtain ⟨o1, o2, _⟩ := Ok.append.1 hp
      refine ⟨[sU a, sI .u64 n], fun ρ => by simp only [List.map_cons, List.map_nil, asU_canon ha o1 ρ, asI_canon hn' ρ], ?_, hg a n, h a n o2⟩
      intro z hz
      simp only [List.mem_cons, List.not_mem_nil, or_false] at hz
      rcases hz with rfl | rfl
      · intro k hk; simp only [List.mem_singleton] at hk; subst hk; trivial
      · trivial
    · cases hs
  · cases hs
/-- No argument. -/
def spec0 (g : SV) : FSpec := fun args =>
  match args with
  | [] => some ([], g)
  | _ => none
theorem FnOK_0 {P : Program} {cx : Cx} (hcx : CxOK P cx) {iv : List (Nat × Hint)} {N : Nat} {f : Nat} {fn : Func} (hf : P.funcs[f]? = some fn) (hb : fn.body.isSome = true) (hn : (fn.name == "runtime.NumGoroutine") = false) {g : SV} (hg : g.bnd none0)
    (h : Owes P cx iv N fn [] g) : FnOKg P cx.gl f (spec0 g) := by
  refine FnOK_owes (iv := iv) (N := N) hcx hf hb hn fun args ps sv hs hp => ?_
  unfold spec0 at hs
  split at hs
  · simp only [Option.some.injEq, Prod.mk.injEq] at hs
    obtain ⟨rfl, rfl⟩ := hs
    exact ⟨[], fun ρ => rfl, by simp, hg, h⟩
  · cases hs
/-- One number of 256 bits. -/
def specU (g : Nat → SV) : FSpec := fun args =>
  match args with
  | [x] => match asU x with
    | some (p, a) => some (p, g a)
    | none => none
  | _ => none
theorem FnOK_U {P : Program} {cx : Cx} (hcx : CxOK P cx) {iv : List (Nat × Hint)} {N : Nat} {f : Nat} {fn : Func} (hf : P.funcs[f]? = some fn) (hb : fn.body.isSome = true) (hn : (fn.name == "runtime.NumGoroutine") = false) {g : Nat → SV} (hg : ∀ a, (g a).bnd none0)
    (h : ∀ a, Owes P cx iv N fn [sU a] (g a)) : FnOKg P cx.gl f (specU g) := by
  refine FnOK_owes (iv := iv) (N := N) hcx hf hb hn fun args ps sv hs hp => ?_
  unfold specU at hs
  split at hs
  · rename_i x
    split at hs
    · rename_i p a ha
      simp only [Option.some.injEq, Prod.mk.injEq] at hs
      obtain ⟨rfl, rfl⟩ := hs
      refine ⟨[sU a], fun ρ => by simp only [List.map_cons, List.map_nil, asU_canon ha hp ρ], ?_, hg a, h a⟩
      intro z hz
      simp only [List.mem_singleton] at hz
      subst hz
      intro k hk; simp only [List.mem_singleton] at hk; subst hk; trivial
    · cases hs
  · cases hs
/-- Two whole numbers of 64 bits with a sign. -/
def specII (c : Int → Int → List Prop) (g : Int → Int → SV) : FSpec := fun args =>
  match args with
  | [x, y] => match asI x, asI y with
    | some (.i64, a), some (.i64, b) => some (c a b, g a b)
    | _, _ => none
  | _ => none
theorem FnOK_II {P : Program} {cx : Cx} (hcx : CxOK P cx) {iv : List (Nat × Hint)} {N : Nat} {f : Nat} {fn : Func} (hf : P.funcs[f]? = some fn) (hb : fn.body.isSome = true) (hn : (fn.name == "runtime.NumGoroutine") = false) {c : Int → Int → List Prop} {g : Int → Int → SV} (hg : ∀ a b, (g a b).bnd none0)
    (h : ∀ a b, Ok (c a b) → Owes P cx iv N fn [sI .i64 a, sI .i64 b] (g a b)) : FnOKg P cx.gl f (specII c g) := by
  refine FnOK_owes (iv := iv) (N := N) hcx hf hb hn fun args ps sv hs hp => ?_
  unfold specII at hs
  split at hs
  · rename_i x y
    split at hs
    · rename_i a b ha hb'
      simp only [Option.some.injEq, Prod.mk.injEq] at hs
      obtain ⟨rfl, rfl⟩ := hs
      refine ⟨[sI .i64 a, sI .i64 b], fun ρ => by simp only [List.map_cons, List.map_nil, asI_canon ha ρ, asI_canon hb' ρ], ?_, hg a b, h a b hp⟩
      intro z hz
      simp only [List.mem_cons, List.not_mem_nil, or_false] at hz
      rcases hz with rfl | rfl <;> trivial
    · cases hs
  · cases hs

/-- A thing of which others are made: three numbers and a text. -/
abbrev sRaw (k a b : Int) (s : ByteArray) : SA := .agg [.c (.val (.int .i64 k)), .c (.val (.int .i64 a)), .c (.val (.int .i64 b)), .c (.val (.string s))]
def i64ok (n : Int) : Prop := -9223372036854775808 ≤ n ∧ n ≤ 9223372036854775807
def specRaw (g : Int → Int → Int → ByteArray → SV) : FSpec := fun args =>
  match args with
  | [.agg [.c (.val (.int .i64 k)), .c (.val (.int .i64 a)), .c (.val (.int .i64 b)), .c (.val (.string s))]] => some ([i64ok k, i64ok a, i64ok b], g k a b s)
  | _ => none
theorem FnOK_Raw {P : Program} {cx : Cx} (hcx : CxOK P cx) {iv : List (Nat × Hint)} {N : Nat} {f : Nat} {fn : Func} (hf : P.funcs[f]? = some fn) (hb : fn.body.isSome = true) (hn : (fn.name == "runtime.NumGoroutine") = false) {g : Int → Int → Int → ByteArray → SV} (hg : ∀ k a b s, (g k a b s).bnd none0)
    (h : ∀ k a b s, i64ok k → i64ok a → i64ok b → Owes P cx iv N fn [sRaw k a b s] (g k a b s)) : FnOKg P cx.gl f (specRaw g) := by
  refine FnOK_owes (iv := iv) (N := N) hcx hf hb hn fun args ps sv hs hp => ?_
  unfold specRaw at hs
  split at hs
  · rename_i k a b s
    simp only [Option.some.injEq, Prod.mk.injEq] at hs
    obtain ⟨rfl, rfl⟩ := hs
    obtain ⟨h1, h2, h3, _⟩ := hp
    refine ⟨_, fun ρ => rfl, ?_, hg k a b s, h k a b s h1 h2 h3⟩
    intro z hz
    simp only [List.mem_singleton] at hz
    subst hz
    intro q hq
    simp only [List.mem_cons, List.not_mem_nil, or_false] at hq
    rcases hq with rfl | rfl | rfl | rfl <;> trivial
  · cases hs

/-- Two words. -/
def w64ok (n : Int) : Prop := 0 ≤ n ∧ n < 18446744073709551616
def specWW (g : Int → Int → SV) : FSpec := fun args =>
  match args with
  | [x, y] => match asI x, asI y with
    | some (.u64, a), some (.u64, b) => some ([w64ok a, w64ok b], g a b)
    | _, _ => none
  | _ => none
theorem FnOK_WW {P : Program} {cx : Cx} (hcx : CxOK P cx) {iv : List (Nat × Hint)} {N : Nat} {f : Nat} {fn : Func} (hf : P.funcs[f]? = some fn) (hb : fn.body.isSome = true) (hn : (fn.name == "runtime.NumGoroutine") = false) {g : Int → Int → SV} (hg : ∀ a b, (g a b).bnd none0)
    (h : ∀ a b, w64ok a → w64ok b → Owes P cx iv N fn [sI .u64 a, sI .u64 b] (g a b)) : FnOKg P cx.gl f (specWW g) := by
  refine FnOK_owes (iv := iv) (N := N) hcx hf hb hn fun args ps sv hs hp => ?_
  unfold specWW at hs
  split at hs
  · rename_i x y
    split at hs
    · rename_i a b ha hb'
      simp only [Option.some.injEq, Prod.mk.injEq] at hs
      obtain ⟨rfl, rfl⟩ := hs
      obtain ⟨h1, h2, _⟩ := hp
      refine ⟨[sI .u64 a, sI .u64 b], fun ρ => by simp only [List.map_cons, List.map_nil, asI_canon ha ρ, asI_canon hb' ρ], ?_, hg a b, h a b h1 h2⟩
      intro z hz
      simp only [List.mem_cons, List.not_mem_nil, or_false] at hz
      rcases hz with rfl | rfl <;> trivial
    · cases hs
  · cases hs

/-! ## Slots at a loop's head -/
def lookS : List (Nat × SV) → Nat → SV
  | [], _ => .any
  | (k, v) :: r, t => match Nat.beq k t with
    | true => v
    | false => lookS r t
/-- So many slots, of which some are told. -/
def slotsAt (n : Nat) (l : List (Nat × SV)) : List SV := (List.range n).map (lookS l)
/-- A whole number of 64 bits with a sign. -/
def specI (c : Int → List Prop) (g : Int → SV) : FSpec := fun args =>
  match args with
  | [x] => match asI x with
    | some (.i64, a) => some (c a, g a)
    | _ => none
  | _ => none
theorem FnOK_I {P : Program} {cx : Cx} (hcx : CxOK P cx) {iv : Int → List (Nat × Hint)} {N : Nat} {f : Nat} {fn : Func} (hf : P.funcs[f]? = some fn) (hb : fn.body.isSome = true) (hn : (fn.name == "runtime.NumGoroutine") = false) {c : Int → List Prop} {g : Int → SV} (hg : ∀ a, (g a).bnd none0)
    (h : ∀ a, Ok (c a) → Owes P cx (iv a) N fn [sI .i64 a] (g a)) : FnOKg P cx.gl f (specI c g) := by
  refine FnOK_of hf hb hn fun args ps sv hs hp => ?_
  unfold specI at hs
  split at hs
  · rename_i x
    split at hs
    · rename_i a ha
      simp only [Option.some.injEq, Prod.mk.injEq] at hs
      obtain ⟨rfl, rfl⟩ := hs
      refine ⟨hg a, fun ρ w hzz hgg _ => ?_⟩
      rw [show [x].map (SA.conc ρ) = [sI .i64 a].map (SA.conc ρ) by simp only [List.map_cons, List.map_nil, asI_canon ha ρ]]
      refine (calls_of_owes0 hcx hf hb (args := [sI .i64 a]) (by intro z hz; simp only [List.mem_singleton] at hz; subst hz; trivial) (h a hp) ρ w hzz hgg).mono ?_
      rintro e w' ⟨v, rfl, ⟨ρ', hr⟩, hbl⟩
      exact ⟨v, rfl, rep_none0 (hg a) hr, hbl⟩
    · cases hs
  · cases hs

/-! ## Rows of bytes -/
abbrev sBy (n : Nat) (g : Nat → Int) : SA := .agg [.f .u8 n g]
def asBy (n : Nat) : SA → Option (Nat → Int)
  | .agg ks => if kindAll .u8 ks = true ∧ (flat ks).length = n then some (selG ks) else none
  | _ => none
theorem asBy_sound {n : Nat} {x : SA} {g : Nat → Int} (h : asBy n x = some g) (ρ : Rho) : x.conc ρ = (sBy n g).conc ρ := by
  unfold asBy at h
  split at h
  · rename_i ks
    split at h
    · rename_i hc
      obtain ⟨h1, h2⟩ := hc
      simp only [Option.some.injEq] at h
      subst h
      simp only [SA.conc, concs_f]
      congr 2
      apply List.ext_getElem?
      intro j
      rcases Nat.lt_or_ge j n with hj | hj
      · rw [selG_conc h1 ρ (by omega), List.getElem?_map, List.getElem?_range hj]; rfl
      · rw [List.getElem?_eq_none (by simp [concs]; omega), List.getElem?_eq_none (by simpa using hj)]
    · cases h
  · cases h
def byteOK (n : Nat) (g : Nat → Int) : Prop := ∀ j, j < n → 0 ≤ g j ∧ g j < 256
def specB (F : (Nat → Int) → SV) : FSpec := fun args =>
  match args with
  | [x] => match asBy 32 x with
    | some g => some ([byteOK 32 g], F g)
    | none => none
  | _ => none
theorem FnOK_B {P : Program} {cx : Cx} (hcx : CxOK P cx) {iv : List (Nat × Hint)} {N : Nat} {f : Nat} {fn : Func} (hf : P.funcs[f]? = some fn) (hb : fn.body.isSome = true) (hn : (fn.name == "runtime.NumGoroutine") = false) {F : (Nat → Int) → SV} (hg : ∀ g, (F g).bnd none0)
    (h : ∀ g, byteOK 32 g → Owes P cx iv N fn [sBy 32 g] (F g)) : FnOKg P cx.gl f (specB F) := by
  refine FnOK_owes (iv := iv) (N := N) hcx hf hb hn fun args ps sv hs hp => ?_
  unfold specB at hs
  split at hs
  · rename_i x
    split at hs
    · rename_i g hx
      simp only [Option.some.injEq, Prod.mk.injEq] at hs
      obtain ⟨rfl, rfl⟩ := hs
      refine ⟨[sBy 32 g], fun ρ => by simp only [List.map_cons, List.map_nil, asBy_sound hx ρ], ?_, hg g, h g hp.1⟩
      intro z hz
      simp only [List.mem_singleton] at hz
      subst hz
      intro k hk; simp only [List.mem_singleton] at hk; subst hk; trivial
    · cases hs
  · cases hs

/-- A word; three words. -/
def specW (g : Int → SV) : FSpec := fun args =>
  match args with
  | [x] => match asI x with
    | some (.u64, a) => some ([w64ok a], g a)
    | _ => none
  | _ => none
theorem FnOK_W {P : Program} {cx : Cx} (hcx : CxOK P cx) {iv : Int → List (Nat × Hint)} {N : Nat} {f : Nat} {fn : Func} (hf : P.funcs[f]? = some fn) (hb : fn.body.isSome = true) (hn : (fn.name == "runtime.NumGoroutine") = false) {g : Int → SV} (hg : ∀ a, (g a).bnd none0)
    (h : ∀ a, w64ok a → Owes P cx (iv a) N fn [sI .u64 a] (g a)) : FnOKg P cx.gl f (specW g) := by
  refine FnOK_of hf hb hn fun args ps sv hs hp => ?_
  unfold specW at hs
  split at hs
  · rename_i x
    split at hs
    · rename_i a ha
      simp only [Option.some.injEq, Prod.mk.injEq] at hs
      obtain ⟨rfl, rfl⟩ := hs
      refine ⟨hg a, fun ρ w hzz hgg _ => ?_⟩
      rw [show [x].map (SA.conc ρ) = [sI .u64 a].map (SA.conc ρ) by simp only [List.map_cons, List.map_nil, asI_canon ha ρ]]
      refine (calls_of_owes0 hcx hf hb (args := [sI .u64 a]) (by intro z hz; simp only [List.mem_singleton] at hz; subst hz; trivial) (h a hp.1) ρ w hzz hgg).mono ?_
      rintro e w' ⟨v, rfl, ⟨ρ', hr⟩, hbl⟩
      exact ⟨v, rfl, rep_none0 (hg a) hr, hbl⟩
    · cases hs
  · cases hs
def specWWW (c : Int → Int → Int → List Prop) (g : Int → Int → Int → SV) : FSpec := fun args =>
  match args with
  | [x, y, z] => match asI x, asI y, asI z with
    | some (.u64, a), some (.u64, b), some (.u64, d) => some (c a b d, g a b d)
    | _, _, _ => none
  | _ => none
theorem FnOK_WWW {P : Program} {cx : Cx} (hcx : CxOK P cx) {iv : Int → Int → Int → List (Nat × Hint)} {N : Nat} {f : Nat} {fn : Func} (hf : P.funcs[f]? = some fn) (hb : fn.body.isSome = true) (hn : (fn.name == "runtime.NumGoroutine") = false) {c : Int → Int → Int → List Prop} {g : Int → Int → Int → SV} (hg : ∀ a b d, (g a b d).bnd none0)
    (h : ∀ a b d, Ok (c a b d) → Owes P cx (iv a b d) N fn [sI .u64 a, sI .u64 b, sI .u64 d] (g a b d)) : FnOKg P cx.gl f (specWWW c g) := by
  refine FnOK_of hf hb hn fun args ps sv hs hp => ?_
  unfold specWWW at hs
  split at hs
  · rename_i x y z
    split at hs
    · rename_i a b d ha hb' hd
      simp only [Option.some.injEq, Prod.mk.injEq] at hs
      obtain ⟨rfl, rfl⟩ := hs
      refine ⟨hg a b d, fun ρ w hzz hgg _ => ?_⟩
      rw [show [x, y, z].map (SA.conc ρ) = [sI .u64 a, sI .u64 b, sI .u64 d].map (SA.conc ρ) by simp only [List.map_cons, List.map_nil, asI_canon ha ρ, asI_canon hb' ρ, asI_canon hd ρ]]
      refine (calls_of_owes0 hcx hf hb (args := [sI .u64 a, sI .u64 b, sI .u64 d]) (by
        intro z hz
        simp only [List.mem_cons, List.not_mem_nil, or_false] at hz
        rcases hz with rfl | rfl | rfl <;> trivial) (h a b d hp) ρ w hzz hgg).mono ?_
      rintro e w' ⟨v, rfl, ⟨ρ', hr⟩, hbl⟩
      exact ⟨v, rfl, rep_none0 (hg a b d) hr, hbl⟩
    · cases hs
  · cases hs

/-! ## Package wide -/

def plusG (a b : Nat) : SV := .tup [sU (a + b), sI .u64 ((a % M256 + b % M256) / M256 : Nat)]
def lessG (a b : Nat) : SV := .tup [sU (a % M256 + M256 - b % M256), sI .u64 (if a % M256 < b % M256 then 1 else 0)]
def addG (a b : Nat) : SV := .tup [sU (a + b), sB (decide (M256 ≤ a % M256 + b % M256))]
def subG (a b : Nat) : SV := .tup [sU (a % M256 + M256 - b % M256), sB (decide (a % M256 < b % M256))]
def timesG (a : Nat) (n : Int) : SV := .tup [sU (a * n.toNat), sI .u64 ((a % M256 * n.toNat) / M256 : Nat)]
def mulG (a b : Nat) : SV := .tup [sU (a * b), sU ((a % M256) * (b % M256) / M256)]
def mul64G (a b : Int) : SV := .tup [sI .u64 (a * b / 18446744073709551616), sI .u64 (a * b % 18446744073709551616)]
def cmpN (a b : Nat) : Int := if a % M256 < b % M256 then -1 else if b % M256 < a % M256 then 1 else 0
def cmpG (a b : Nat) : SV := .one (sI .i64 (cmpN a b))
def yes : SV := .one (sB true)
def pickedG (n m : Int) : SV := .one (sI .i64 (n % m))
/-- The bytes of a number, the highest one first; the number of bytes. -/
def by8 (a : Nat) (i : Nat) : Int := ((a / 2 ^ (8 * i) % 256 : Nat) : Int)
def bytesG (a : Nat) : SV := .one (sBy 32 fun j => by8 a (31 - j))
def fromN (g : Nat → Int) : Nat → Nat
  | 0 => 0
  | n + 1 => fromN g n + 256 ^ n * (g (31 - n)).toNat
def fromG (g : Nat → Int) : SV := .one (sU (fromN g 32))
/-- How many bits a word has; noughts ahead; two words by one. -/
def lenN (x : Int) : Int := if x.toNat = 0 then 0 else ((Nat.log2 x.toNat + 1 : Nat) : Int)
def lenG (x : Int) : SV := .one (sI .i64 (lenN x))
def lzG (x : Int) : SV := .one (sI .i64 (64 - lenN x))
def divC (h l y : Int) : List Prop := [w64ok h, w64ok l, w64ok y, h < y]
def divG (h l y : Int) : SV := .tup [sI .u64 ((h * 18446744073709551616 + l) / y), sI .u64 ((h * 18446744073709551616 + l) % y)]
end Go.Sx
end

section
/-
  What the functions of package wide, and of the laws on it, come to: reckoned by the kernel. (Laid by program.)
-/
namespace Go.Proofs.YtbfcccoeekonlaaGreatDoor
open Go.Sx
set_option maxRecDepth 100000
def cxPlus : Cx := [(92, specAdd64)]
def cxLess : Cx := [(56, specSub64)]
def cxAdd : Cx := [(73, specUU plusG)]
def cxSub : Cx := [(35, specUU lessG)]
-- VC vc_plus HASH 178c7781736d42d5
theorem vc_plus (a b : Nat) :
    Owes Tryz.prog cxPlus [] 100 Tryz.f73 [sU a, sU b] (plusG a b) =
    ((0 : Int) ≤ Go.Sx.limb a (0 : Nat) ∧ (0 : Int) ≤ Go.Sx.limb b (0 : Nat) ∧ ((0 : Int) ≤ (0 : Int) ∧ (0 : Int) ≤ (1 : Int)) ∧ (0 : Int) ≤ Go.Sx.limb a (1 : Nat) ∧ (0 : Int) ≤ Go.Sx.limb b (1 : Nat) ∧ ((0 : Int) ≤ (Go.Sx.limb a (0 : Nat) + Go.Sx.limb b (0 : Nat) + (0 : Int)) / (18446744073709551616 : Int) ∧ (Go.Sx.limb a (0 : Nat) + Go.Sx.limb b (0 : Nat) + (0 : Int)) / (18446744073709551616 : Int) ≤ (1 : Int)) ∧ (0 : Int) ≤ Go.Sx.limb a (2 : Nat) ∧ (0 : Int) ≤ Go.Sx.limb b (2 : Nat) ∧ ((0 : Int) ≤ (Go.Sx.limb a (1 : Nat) + Go.Sx.limb b (1 : Nat) + (Go.Sx.limb a (0 : Nat) + Go.Sx.limb b (0 : Nat) + (0 : Int)) / (18446744073709551616 : Int)) / (18446744073709551616 : Int) ∧ (Go.Sx.limb a (1 : Nat) + Go.Sx.limb b (1 : Nat) + (Go.Sx.limb a (0 : Nat) + Go.Sx.limb b (0 : Nat) + (0 : Int)) / (18446744073709551616 : Int)) / (18446744073709551616 : Int) ≤ (1 : Int)) ∧ (0 : Int) ≤ Go.Sx.limb a (3 : Nat) ∧ (0 : Int) ≤ Go.Sx.limb b (3 : Nat) ∧ ((0 : Int) ≤ (Go.Sx.limb a (2 : Nat) + Go.Sx.limb b (2 : Nat) + (Go.Sx.limb a (1 : Nat) + Go.Sx.limb b (1 : Nat) + (Go.Sx.limb a (0 : Nat) + Go.Sx.limb b (0 : Nat) + (0 : Int)) / (18446744073709551616 : Int)) / (18446744073709551616 : Int)) / (18446744073709551616 : Int) ∧ (Go.Sx.limb a (2 : Nat) + Go.Sx.limb b (2 : Nat) + (Go.Sx.limb a (1 : Nat) + Go.Sx.limb b (1 : Nat) + (Go.Sx.limb a (0 : Nat) + Go.Sx.limb b (0 : Nat) + (0 : Int)) / (18446744073709551616 : Int)) / (18446744073709551616 : Int)) / (18446744073709551616 : Int) ≤ (1 : Int)) ∧ (((0 : Int) ≤ (Go.Sx.limb a (0 : Nat) + Go.Sx.limb b (0 : Nat) + (0 : Int)) % (18446744073709551616 : Int) ∧ (Go.Sx.limb a (0 : Nat) + Go.Sx.limb b (0 : Nat) + (0 : Int)) % (18446744073709551616 : Int) < (2 : Int) ^ (64 : Nat)) ∧ ((0 : Int) ≤ (Go.Sx.limb a (1 : Nat) + Go.Sx.limb b (1 : Nat) + (Go.Sx.limb a (0 : Nat) + Go.Sx.limb b (0 : Nat) + (0 : Int)) / (18446744073709551616 : Int)) % (18446744073709551616 : Int) ∧ (Go.Sx.limb a (1 : Nat) + Go.Sx.limb b (1 : Nat) + (Go.Sx.limb a (0 : Nat) + Go.Sx.limb b (0 : Nat) + (0 : Int)) / (18446744073709551616 : Int)) % (18446744073709551616 : Int) < (2 : Int) ^ (64 : Nat)) ∧ ((0 : Int) ≤ (Go.Sx.limb a (2 : Nat) + Go.Sx.limb b (2 : Nat) + (Go.Sx.limb a (1 : Nat) + Go.Sx.limb b (1 : Nat) + (Go.Sx.limb a (0 : Nat) + Go.Sx.limb b (0 : Nat) + (0 : Int)) / (18446744073709551616 : Int)) / (18446744073709551616 : Int)) % (18446744073709551616 : Int) ∧ (Go.Sx.limb a (2 : Nat) + Go.Sx.limb b (2 : Nat) + (Go.Sx.limb a (1 : Nat) + Go.Sx.limb b (1 : Nat) + (Go.Sx.limb a (0 : Nat) + Go.Sx.limb b (0 : Nat) + (0 : Int)) / (18446744073709551616 : Int)) / (18446744073709551616 : Int)) % (18446744073709551616 : Int) < (2 : Int) ^ (64 : Nat)) ∧ ((0 : Int) ≤ (Go.Sx.limb a (3 : Nat) + Go.Sx.limb b (3 : Nat) + (Go.Sx.limb a (2 : Nat) + Go.Sx.limb b (2 : Nat) + (Go.Sx.limb a (1 : Nat) + Go.Sx.limb b (1 : Nat) + (Go.Sx.limb a (0 : Nat) + Go.Sx.limb b (0 : Nat) + (0 : Int)) / (18446744073709551616 : Int)) / (18446744073709551616 : Int)) / (18446744073709551616 : Int)) % (18446744073709551616 : Int) ∧ (Go.Sx.limb a (3 : Nat) + Go.Sx.limb b (3 : Nat) + (Go.Sx.limb a (2 : Nat) + Go.Sx.limb b (2 : Nat) + (Go.Sx.limb a (1 : Nat) + Go.Sx.limb b (1 : Nat) + (Go.Sx.limb a (0 : Nat) + Go.Sx.limb b (0 : Nat) + (0 : Int)) / (18446744073709551616 : Int)) / (18446744073709551616 : Int)) / (18446744073709551616 : Int)) % (18446744073709551616 : Int) < (2 : Int) ^ (64 : Nat)) ∧ Go.Sx.join ((Go.Sx.limb a (0 : Nat) + Go.Sx.limb b (0 : Nat) + (0 : Int)) % (18446744073709551616 : Int)) ((Go.Sx.limb a (1 : Nat) + Go.Sx.limb b (1 : Nat) + (Go.Sx.limb a (0 : Nat) + Go.Sx.limb b (0 : Nat) + (0 : Int)) / (18446744073709551616 : Int)) % (18446744073709551616 : Int)) ((Go.Sx.limb a (2 : Nat) + Go.Sx.limb b (2 : Nat) + (Go.Sx.limb a (1 : Nat) + Go.Sx.limb b (1 : Nat) + (Go.Sx.limb a (0 : Nat) + Go.Sx.limb b (0 : Nat) + (0 : Int)) / (18446744073709551616 : Int)) / (18446744073709551616 : Int)) % (18446744073709551616 : Int)) ((Go.Sx.limb a (3 : Nat) + Go.Sx.limb b (3 : Nat) + (Go.Sx.limb a (2 : Nat) + Go.Sx.limb b (2 : Nat) + (Go.Sx.limb a (1 : Nat) + Go.Sx.limb b (1 : Nat) + (Go.Sx.limb a (0 : Nat) + Go.Sx.limb b (0 : Nat) + (0 : Int)) / (18446744073709551616 : Int)) / (18446744073709551616 : Int)) / (18446744073709551616 : Int)) % (18446744073709551616 : Int)) % Go.Sx.M256 = (a + b) % Go.Sx.M256 ∧ True) ∧ (Go.Sx.limb a (3 : Nat) + Go.Sx.limb b (3 : Nat) + (Go.Sx.limb a (2 : Nat) + Go.Sx.limb b (2 : Nat) + (Go.Sx.limb a (1 : Nat) + Go.Sx.limb b (1 : Nat) + (Go.Sx.limb a (0 : Nat) + Go.Sx.limb b (0 : Nat) + (0 : Int)) / (18446744073709551616 : Int)) / (18446744073709551616 : Int)) / (18446744073709551616 : Int)) / (18446744073709551616 : Int) = (↑((a % Go.Sx.M256 + b % Go.Sx.M256) / Go.Sx.M256) : Int)) := by kernel_rfl
-- END VC
-- VC vc_less HASH ad2bd2c1708ef4a5
theorem vc_less (a b : Nat) :
    Owes Tryz.prog cxLess [] 100 Tryz.f35 [sU a, sU b] (lessG a b) =
    (((0 : Int) ≤ Go.Sx.limb a (0 : Nat) ∧ Go.Sx.limb a (0 : Nat) < (18446744073709551616 : Int)) ∧ ((0 : Int) ≤ Go.Sx.limb b (0 : Nat) ∧ Go.Sx.limb b (0 : Nat) < (18446744073709551616 : Int)) ∧ ((0 : Int) ≤ (0 : Int) ∧ (0 : Int) ≤ (1 : Int)) ∧ ((0 : Int) ≤ Go.Sx.limb a (1 : Nat) ∧ Go.Sx.limb a (1 : Nat) < (18446744073709551616 : Int)) ∧ ((0 : Int) ≤ Go.Sx.limb b (1 : Nat) ∧ Go.Sx.limb b (1 : Nat) < (18446744073709551616 : Int)) ∧ ((0 : Int) ≤ -((Go.Sx.limb a (0 : Nat) - Go.Sx.limb b (0 : Nat) - (0 : Int)) / (18446744073709551616 : Int)) ∧ -((Go.Sx.limb a (0 : Nat) - Go.Sx.limb b (0 : Nat) - (0 : Int)) / (18446744073709551616 : Int)) ≤ (1 : Int)) ∧ ((0 : Int) ≤ Go.Sx.limb a (2 : Nat) ∧ Go.Sx.limb a (2 : Nat) < (18446744073709551616 : Int)) ∧ ((0 : Int) ≤ Go.Sx.limb b (2 : Nat) ∧ Go.Sx.limb b (2 : Nat) < (18446744073709551616 : Int)) ∧ ((0 : Int) ≤ -((Go.Sx.limb a (1 : Nat) - Go.Sx.limb b (1 : Nat) - -((Go.Sx.limb a (0 : Nat) - Go.Sx.limb b (0 : Nat) - (0 : Int)) / (18446744073709551616 : Int))) / (18446744073709551616 : Int)) ∧ -((Go.Sx.limb a (1 : Nat) - Go.Sx.limb b (1 : Nat) - -((Go.Sx.limb a (0 : Nat) - Go.Sx.limb b (0 : Nat) - (0 : Int)) / (18446744073709551616 : Int))) / (18446744073709551616 : Int)) ≤ (1 : Int)) ∧ ((0 : Int) ≤ Go.Sx.limb a (3 : Nat) ∧ Go.Sx.limb a (3 : Nat) < (18446744073709551616 : Int)) ∧ ((0 : Int) ≤ Go.Sx.limb b (3 : Nat) ∧ Go.Sx.limb b (3 : Nat) < (18446744073709551616 : Int)) ∧ ((0 : Int) ≤ -((Go.Sx.limb a (2 : Nat) - Go.Sx.limb b (2 : Nat) - -((Go.Sx.limb a (1 : Nat) - Go.Sx.limb b (1 : Nat) - -((Go.Sx.limb a (0 : Nat) - Go.Sx.limb b (0 : Nat) - (0 : Int)) / (18446744073709551616 : Int))) / (18446744073709551616 : Int))) / (18446744073709551616 : Int)) ∧ -((Go.Sx.limb a (2 : Nat) - Go.Sx.limb b (2 : Nat) - -((Go.Sx.limb a (1 : Nat) - Go.Sx.limb b (1 : Nat) - -((Go.Sx.limb a (0 : Nat) - Go.Sx.limb b (0 : Nat) - (0 : Int)) / (18446744073709551616 : Int))) / (18446744073709551616 : Int))) / (18446744073709551616 : Int)) ≤ (1 : Int)) ∧ (((0 : Int) ≤ (Go.Sx.limb a (0 : Nat) - Go.Sx.limb b (0 : Nat) - (0 : Int)) % (18446744073709551616 : Int) ∧ (Go.Sx.limb a (0 : Nat) - Go.Sx.limb b (0 : Nat) - (0 : Int)) % (18446744073709551616 : Int) < (2 : Int) ^ (64 : Nat)) ∧ ((0 : Int) ≤ (Go.Sx.limb a (1 : Nat) - Go.Sx.limb b (1 : Nat) - -((Go.Sx.limb a (0 : Nat) - Go.Sx.limb b (0 : Nat) - (0 : Int)) / (18446744073709551616 : Int))) % (18446744073709551616 : Int) ∧ (Go.Sx.limb a (1 : Nat) - Go.Sx.limb b (1 : Nat) - -((Go.Sx.limb a (0 : Nat) - Go.Sx.limb b (0 : Nat) - (0 : Int)) / (18446744073709551616 : Int))) % (18446744073709551616 : Int) < (2 : Int) ^ (64 : Nat)) ∧ ((0 : Int) ≤ (Go.Sx.limb a (2 : Nat) - Go.Sx.limb b (2 : Nat) - -((Go.Sx.limb a (1 : Nat) - Go.Sx.limb b (1 : Nat) - -((Go.Sx.limb a (0 : Nat) - Go.Sx.limb b (0 : Nat) - (0 : Int)) / (18446744073709551616 : Int))) / (18446744073709551616 : Int))) % (18446744073709551616 : Int) ∧ (Go.Sx.limb a (2 : Nat) - Go.Sx.limb b (2 : Nat) - -((Go.Sx.limb a (1 : Nat) - Go.Sx.limb b (1 : Nat) - -((Go.Sx.limb a (0 : Nat) - Go.Sx.limb b (0 : Nat) - (0 : Int)) / (18446744073709551616 : Int))) / (18446744073709551616 : Int))) % (18446744073709551616 : Int) < (2 : Int) ^ (64 : Nat)) ∧ ((0 : Int) ≤ (Go.Sx.limb a (3 : Nat) - Go.Sx.limb b (3 : Nat) - -((Go.Sx.limb a (2 : Nat) - Go.Sx.limb b (2 : Nat) - -((Go.Sx.limb a (1 : Nat) - Go.Sx.limb b (1 : Nat) - -((Go.Sx.limb a (0 : Nat) - Go.Sx.limb b (0 : Nat) - (0 : Int)) / (18446744073709551616 : Int))) / (18446744073709551616 : Int))) / (18446744073709551616 : Int))) % (18446744073709551616 : Int) ∧ (Go.Sx.limb a (3 : Nat) - Go.Sx.limb b (3 : Nat) - -((Go.Sx.limb a (2 : Nat) - Go.Sx.limb b (2 : Nat) - -((Go.Sx.limb a (1 : Nat) - Go.Sx.limb b (1 : Nat) - -((Go.Sx.limb a (0 : Nat) - Go.Sx.limb b (0 : Nat) - (0 : Int)) / (18446744073709551616 : Int))) / (18446744073709551616 : Int))) / (18446744073709551616 : Int))) % (18446744073709551616 : Int) < (2 : Int) ^ (64 : Nat)) ∧ Go.Sx.join ((Go.Sx.limb a (0 : Nat) - Go.Sx.limb b (0 : Nat) - (0 : Int)) % (18446744073709551616 : Int)) ((Go.Sx.limb a (1 : Nat) - Go.Sx.limb b (1 : Nat) - -((Go.Sx.limb a (0 : Nat) - Go.Sx.limb b (0 : Nat) - (0 : Int)) / (18446744073709551616 : Int))) % (18446744073709551616 : Int)) ((Go.Sx.limb a (2 : Nat) - Go.Sx.limb b (2 : Nat) - -((Go.Sx.limb a (1 : Nat) - Go.Sx.limb b (1 : Nat) - -((Go.Sx.limb a (0 : Nat) - Go.Sx.limb b (0 : Nat) - (0 : Int)) / (18446744073709551616 : Int))) / (18446744073709551616 : Int))) % (18446744073709551616 : Int)) ((Go.Sx.limb a (3 : Nat) - Go.Sx.limb b (3 : Nat) - -((Go.Sx.limb a (2 : Nat) - Go.Sx.limb b (2 : Nat) - -((Go.Sx.limb a (1 : Nat) - Go.Sx.limb b (1 : Nat) - -((Go.Sx.limb a (0 : Nat) - Go.Sx.limb b (0 : Nat) - (0 : Int)) / (18446744073709551616 : Int))) / (18446744073709551616 : Int))) / (18446744073709551616 : Int))) % (18446744073709551616 : Int)) % Go.Sx.M256 = (a % Go.Sx.M256 + Go.Sx.M256 - b % Go.Sx.M256) % Go.Sx.M256 ∧ True) ∧ -((Go.Sx.limb a (3 : Nat) - Go.Sx.limb b (3 : Nat) - -((Go.Sx.limb a (2 : Nat) - Go.Sx.limb b (2 : Nat) - -((Go.Sx.limb a (1 : Nat) - Go.Sx.limb b (1 : Nat) - -((Go.Sx.limb a (0 : Nat) - Go.Sx.limb b (0 : Nat) - (0 : Int)) / (18446744073709551616 : Int))) / (18446744073709551616 : Int))) / (18446744073709551616 : Int))) / (18446744073709551616 : Int)) = if a % Go.Sx.M256 < b % Go.Sx.M256 then (1 : Int) else (0 : Int)) := by kernel_rfl
-- END VC
-- VC vc_Add HASH f007b94b00e223b1
theorem vc_Add (a b : Nat) :
    Owes Tryz.prog cxAdd [] 100 Tryz.f50 [sU a, sU b] (addG a b) =
    (((a + b) % Go.Sx.M256 = (a + b) % Go.Sx.M256 ∧ True) ∧ ((↑((a % Go.Sx.M256 + b % Go.Sx.M256) / Go.Sx.M256) : Int) != (0 : Int)) = Decidable.decide (Go.Sx.M256 ≤ a % Go.Sx.M256 + b % Go.Sx.M256)) := by kernel_rfl
-- END VC
-- VC vc_Sub HASH fbd9d78c311374f3
theorem vc_Sub (a b : Nat) :
    Owes Tryz.prog cxSub [] 100 Tryz.f14 [sU a, sU b] (subG a b) =
    (((a % Go.Sx.M256 + Go.Sx.M256 - b % Go.Sx.M256) % Go.Sx.M256 = (a % Go.Sx.M256 + Go.Sx.M256 - b % Go.Sx.M256) % Go.Sx.M256 ∧ True) ∧ ((if a % Go.Sx.M256 < b % Go.Sx.M256 then (1 : Int) else (0 : Int)) != (0 : Int)) = Decidable.decide (a % Go.Sx.M256 < b % Go.Sx.M256)) := by kernel_rfl
-- END VC
-- VC vc_Cmp HASH 7612095f625b123f
theorem vc_Cmp (a b : Nat) :
    Owes Tryz.prog Cx.none [] 100 Tryz.f15 [sU a, sU b] (cmpG a b) =
    ((Decidable.decide (Go.Sx.limb a (3 : Nat) < Go.Sx.limb b (3 : Nat)) = Bool.true → (-1 : Int) = Go.Sx.cmpN a b) ∧ (Decidable.decide (Go.Sx.limb a (3 : Nat) < Go.Sx.limb b (3 : Nat)) = Bool.false → (Decidable.decide (Go.Sx.limb a (3 : Nat) > Go.Sx.limb b (3 : Nat)) = Bool.true → (1 : Int) = Go.Sx.cmpN a b) ∧ (Decidable.decide (Go.Sx.limb a (3 : Nat) > Go.Sx.limb b (3 : Nat)) = Bool.false → (Decidable.decide (Go.Sx.limb a (2 : Nat) < Go.Sx.limb b (2 : Nat)) = Bool.true → (-1 : Int) = Go.Sx.cmpN a b) ∧ (Decidable.decide (Go.Sx.limb a (2 : Nat) < Go.Sx.limb b (2 : Nat)) = Bool.false → (Decidable.decide (Go.Sx.limb a (2 : Nat) > Go.Sx.limb b (2 : Nat)) = Bool.true → (1 : Int) = Go.Sx.cmpN a b) ∧ (Decidable.decide (Go.Sx.limb a (2 : Nat) > Go.Sx.limb b (2 : Nat)) = Bool.false → (Decidable.decide (Go.Sx.limb a (1 : Nat) < Go.Sx.limb b (1 : Nat)) = Bool.true → (-1 : Int) = Go.Sx.cmpN a b) ∧ (Decidable.decide (Go.Sx.limb a (1 : Nat) < Go.Sx.limb b (1 : Nat)) = Bool.false → (Decidable.decide (Go.Sx.limb a (1 : Nat) > Go.Sx.limb b (1 : Nat)) = Bool.true → (1 : Int) = Go.Sx.cmpN a b) ∧ (Decidable.decide (Go.Sx.limb a (1 : Nat) > Go.Sx.limb b (1 : Nat)) = Bool.false → (Decidable.decide (Go.Sx.limb a (0 : Nat) < Go.Sx.limb b (0 : Nat)) = Bool.true → (-1 : Int) = Go.Sx.cmpN a b) ∧ (Decidable.decide (Go.Sx.limb a (0 : Nat) < Go.Sx.limb b (0 : Nat)) = Bool.false → (Decidable.decide (Go.Sx.limb a (0 : Nat) > Go.Sx.limb b (0 : Nat)) = Bool.true → (1 : Int) = Go.Sx.cmpN a b) ∧ (Decidable.decide (Go.Sx.limb a (0 : Nat) > Go.Sx.limb b (0 : Nat)) = Bool.false → (0 : Int) = Go.Sx.cmpN a b))))))))) := by kernel_rfl
-- END VC
end Go.Proofs.YtbfcccoeekonlaaGreatDoor
end

section
/-
  What products come to: reckoned by the kernel. (Laid by program.)
-/
namespace Go.Proofs.YtbfcccoeekonlaaGreatDoor
open Go.Sx
set_option maxRecDepth 100000
def cxTimes2 : Cx := [(104, specWW mul64G), (92, specAdd64)]
def cxMul2 : Cx := [(104, specWW mul64G), (92, specAdd64)]
-- VC vc_Mul64 HASH 9811843492575cc1
theorem vc_Mul64 (a b : Int) :
    Owes Tryz.prog Cx.none [] 100 Tryz.f104 [sI .u64 a, sI .u64 b] (mul64G a b) =
    (let x1 : Int := Go.IntKind.u64.wrap (↑(BitVec.ofInt (64 : Nat) b &&& BitVec.ofInt (64 : Nat) (4294967295 : Int)).toNat : Int); let x2 : Int := Go.IntKind.u64.wrap (Go.IntKind.u64.wrap (a.fdiv (4294967296 : Int) * x1) + (Go.IntKind.u64.wrap (Go.IntKind.u64.wrap (↑(BitVec.ofInt (64 : Nat) a &&& BitVec.ofInt (64 : Nat) (4294967295 : Int)).toNat : Int) * x1)).fdiv (4294967296 : Int)); let x3 : Int := a * b; Go.IntKind.u64.wrap (Go.IntKind.u64.wrap (Go.IntKind.u64.wrap (a.fdiv (4294967296 : Int) * b.fdiv (4294967296 : Int)) + x2.fdiv (4294967296 : Int)) + (Go.IntKind.u64.wrap (Go.IntKind.u64.wrap (↑(BitVec.ofInt (64 : Nat) x2 &&& BitVec.ofInt (64 : Nat) (4294967295 : Int)).toNat : Int) + Go.IntKind.u64.wrap (Go.IntKind.u64.wrap (↑(BitVec.ofInt (64 : Nat) a &&& BitVec.ofInt (64 : Nat) (4294967295 : Int)).toNat : Int) * b.fdiv (4294967296 : Int)))).fdiv (4294967296 : Int)) = x3 / (18446744073709551616 : Int) ∧ Go.IntKind.u64.wrap x3 = x3 % (18446744073709551616 : Int)) := by kernel_rfl
-- END VC
-- VC vc_times HASH d73b831b7a770911
theorem vc_times (a : Nat) (n : Int) :
    Owes Tryz.prog cxTimes2 [] 100 Tryz.f83 [sU a, sI .u64 n] (timesG a n) =
    (let x1 : Int := Go.Sx.limb a (0 : Nat) * n; let x2 : Int := x1 % (18446744073709551616 : Int); let x3 : Int := Go.Sx.limb a (1 : Nat) * n; let x4 : Int := x3 % (18446744073709551616 : Int); let x5 : Int := x2 + (0 : Int) + (0 : Int); let x6 : Int := Go.IntKind.u64.wrap (x1 / (18446744073709551616 : Int) + x5 / (18446744073709551616 : Int)); let x7 : Int := Go.Sx.limb a (2 : Nat) * n; let x8 : Int := x7 % (18446744073709551616 : Int); let x9 : Int := x4 + x6 + (0 : Int); let x10 : Int := Go.IntKind.u64.wrap (x3 / (18446744073709551616 : Int) + x9 / (18446744073709551616 : Int)); let x11 : Int := Go.Sx.limb a (3 : Nat) * n; let x12 : Int := x11 % (18446744073709551616 : Int); let x13 : Int := x8 + x10 + (0 : Int); let x14 : Int := Go.IntKind.u64.wrap (x7 / (18446744073709551616 : Int) + x13 / (18446744073709551616 : Int)); let x15 : Int := x5 % (18446744073709551616 : Int); let x16 : Int := x9 % (18446744073709551616 : Int); let x17 : Int := x13 % (18446744073709551616 : Int); let x18 : Int := x12 + x14 + (0 : Int); let x19 : Int := x18 % (18446744073709551616 : Int); ((0 : Int) ≤ Go.Sx.limb a (0 : Nat) ∧ Go.Sx.limb a (0 : Nat) < (18446744073709551616 : Int)) ∧ ((0 : Int) ≤ n ∧ n < (18446744073709551616 : Int)) ∧ (0 : Int) ≤ x2 ∧ (0 : Int) ≤ (0 : Int) ∧ ((0 : Int) ≤ (0 : Int) ∧ (0 : Int) ≤ (1 : Int)) ∧ ((0 : Int) ≤ Go.Sx.limb a (1 : Nat) ∧ Go.Sx.limb a (1 : Nat) < (18446744073709551616 : Int)) ∧ ((0 : Int) ≤ n ∧ n < (18446744073709551616 : Int)) ∧ (0 : Int) ≤ x4 ∧ (0 : Int) ≤ x6 ∧ ((0 : Int) ≤ (0 : Int) ∧ (0 : Int) ≤ (1 : Int)) ∧ ((0 : Int) ≤ Go.Sx.limb a (2 : Nat) ∧ Go.Sx.limb a (2 : Nat) < (18446744073709551616 : Int)) ∧ ((0 : Int) ≤ n ∧ n < (18446744073709551616 : Int)) ∧ (0 : Int) ≤ x8 ∧ (0 : Int) ≤ x10 ∧ ((0 : Int) ≤ (0 : Int) ∧ (0 : Int) ≤ (1 : Int)) ∧ ((0 : Int) ≤ Go.Sx.limb a (3 : Nat) ∧ Go.Sx.limb a (3 : Nat) < (18446744073709551616 : Int)) ∧ ((0 : Int) ≤ n ∧ n < (18446744073709551616 : Int)) ∧ (0 : Int) ≤ x12 ∧ (0 : Int) ≤ x14 ∧ ((0 : Int) ≤ (0 : Int) ∧ (0 : Int) ≤ (1 : Int)) ∧ (((0 : Int) ≤ x15 ∧ x15 < (18446744073709551616 : Int)) ∧ ((0 : Int) ≤ x16 ∧ x16 < (18446744073709551616 : Int)) ∧ ((0 : Int) ≤ x17 ∧ x17 < (18446744073709551616 : Int)) ∧ ((0 : Int) ≤ x19 ∧ x19 < (18446744073709551616 : Int)) ∧ Go.Sx.join x15 x16 x17 x19 % Go.Sx.M256 = a * n.toNat % Go.Sx.M256 ∧ True) ∧ Go.IntKind.u64.wrap (x11 / (18446744073709551616 : Int) + x18 / (18446744073709551616 : Int)) = (↑(a % Go.Sx.M256 * n.toNat / Go.Sx.M256) : Int)) := by kernel_rfl
-- END VC
-- VC vc_Mul HASH 171788dfa6d62cfa
theorem vc_Mul (a b : Nat) :
    Owes Tryz.prog cxMul2 [] 100 Tryz.f100 [sU a, sU b] (mulG a b) =
    (let x1 : Int := Go.Sx.limb a (0 : Nat) * Go.Sx.limb b (0 : Nat); let x2 : Int := x1 % (18446744073709551616 : Int); let x3 : Int := x2 + (0 : Int) + (0 : Int); let x4 : Int := x3 % (18446744073709551616 : Int); let x5 : Int := Go.Sx.limb a (0 : Nat) * Go.Sx.limb b (1 : Nat); let x6 : Int := x5 % (18446744073709551616 : Int); let x7 : Int := (0 : Int) + x4 + (0 : Int); let x8 : Int := Go.IntKind.u64.wrap (Go.IntKind.u64.wrap (x1 / (18446744073709551616 : Int) + x3 / (18446744073709551616 : Int)) + x7 / (18446744073709551616 : Int)); let x9 : Int := x6 + x8 + (0 : Int); let x10 : Int := x9 % (18446744073709551616 : Int); let x11 : Int := Go.Sx.limb a (0 : Nat) * Go.Sx.limb b (2 : Nat); let x12 : Int := x11 % (18446744073709551616 : Int); let x13 : Int := (0 : Int) + x10 + (0 : Int); let x14 : Int := Go.IntKind.u64.wrap (Go.IntKind.u64.wrap (x5 / (18446744073709551616 : Int) + x9 / (18446744073709551616 : Int)) + x13 / (18446744073709551616 : Int)); let x15 : Int := x12 + x14 + (0 : Int); let x16 : Int := x15 % (18446744073709551616 : Int); let x17 : Int := Go.Sx.limb a (0 : Nat) * Go.Sx.limb b (3 : Nat); let x18 : Int := x17 % (18446744073709551616 : Int); let x19 : Int := (0 : Int) + x16 + (0 : Int); let x20 : Int := Go.IntKind.u64.wrap (Go.IntKind.u64.wrap (x11 / (18446744073709551616 : Int) + x15 / (18446744073709551616 : Int)) + x19 / (18446744073709551616 : Int)); let x21 : Int := x18 + x20 + (0 : Int); let x22 : Int := x21 % (18446744073709551616 : Int); let x23 : Int := Go.Sx.limb a (1 : Nat) * Go.Sx.limb b (0 : Nat); let x24 : Int := x23 % (18446744073709551616 : Int); let x25 : Int := x13 % (18446744073709551616 : Int); let x26 : Int := x24 + (0 : Int) + (0 : Int); let x27 : Int := x26 % (18446744073709551616 : Int); let x28 : Int := Go.Sx.limb a (1 : Nat) * Go.Sx.limb b (1 : Nat); let x29 : Int := x28 % (18446744073709551616 : Int); let x30 : Int := x25 + x27 + (0 : Int); let x31 : Int := Go.IntKind.u64.wrap (Go.IntKind.u64.wrap (x23 / (18446744073709551616 : Int) + x26 / (18446744073709551616 : Int)) + x30 / (18446744073709551616 : Int)); let x32 : Int := x19 % (18446744073709551616 : Int); let x33 : Int := x29 + x31 + (0 : Int); let x34 : Int := x33 % (18446744073709551616 : Int); let x35 : Int := Go.Sx.limb a (1 : Nat) * Go.Sx.limb b (2 : Nat); let x36 : Int := x35 % (18446744073709551616 : Int); let x37 : Int := x32 + x34 + (0 : Int); let x38 : Int := Go.IntKind.u64.wrap (Go.IntKind.u64.wrap (x28 / (18446744073709551616 : Int) + x33 / (18446744073709551616 : Int)) + x37 / (18446744073709551616 : Int)); let x39 : Int := (0 : Int) + x22 + (0 : Int); let x40 : Int := x39 % (18446744073709551616 : Int); let x41 : Int := x36 + x38 + (0 : Int); let x42 : Int := x41 % (18446744073709551616 : Int); let x43 : Int := Go.Sx.limb a (1 : Nat) * Go.Sx.limb b (3 : Nat); let x44 : Int := x43 % (18446744073709551616 : Int); let x45 : Int := x40 + x42 + (0 : Int); let x46 : Int := Go.IntKind.u64.wrap (Go.IntKind.u64.wrap (x35 / (18446744073709551616 : Int) + x41 / (18446744073709551616 : Int)) + x45 / (18446744073709551616 : Int)); let x47 : Int := Go.IntKind.u64.wrap (Go.IntKind.u64.wrap (x17 / (18446744073709551616 : Int) + x21 / (18446744073709551616 : Int)) + x39 / (18446744073709551616 : Int)); let x48 : Int := x44 + x46 + (0 : Int); let x49 : Int := x48 % (18446744073709551616 : Int); let x50 : Int := Go.Sx.limb a (2 : Nat) * Go.Sx.limb b (0 : Nat); let x51 : Int := x50 % (18446744073709551616 : Int); let x52 : Int := x37 % (18446744073709551616 : Int); let x53 : Int := x51 + (0 : Int) + (0 : Int); let x54 : Int := x53 % (18446744073709551616 : Int); let x55 : Int := Go.Sx.limb a (2 : Nat) * Go.Sx.limb b (1 : Nat); let x56 : Int := x55 % (18446744073709551616 : Int); let x57 : Int := x52 + x54 + (0 : Int); let x58 : Int := Go.IntKind.u64.wrap (Go.IntKind.u64.wrap (x50 / (18446744073709551616 : Int) + x53 / (18446744073709551616 : Int)) + x57 / (18446744073709551616 : Int)); let x59 : Int := x45 % (18446744073709551616 : Int); let x60 : Int := x56 + x58 + (0 : Int); let x61 : Int := x60 % (18446744073709551616 : Int); let x62 : Int := Go.Sx.limb a (2 : Nat) * Go.Sx.limb b (2 : Nat); let x63 : Int := x62 % (18446744073709551616 : Int); let x64 : Int := x59 + x61 + (0 : Int); let x65 : Int := Go.IntKind.u64.wrap (Go.IntKind.u64.wrap (x55 / (18446744073709551616 : Int) + x60 / (18446744073709551616 : Int)) + x64 / (18446744073709551616 : Int)); let x66 : Int := x47 + x49 + (0 : Int); let x67 : Int := x66 % (18446744073709551616 : Int); let x68 : Int := x63 + x65 + (0 : Int); let x69 : Int := x68 % (18446744073709551616 : Int); let x70 : Int := Go.Sx.limb a (2 : Nat) * Go.Sx.limb b (3 : Nat); let x71 : Int := x70 % (18446744073709551616 : Int); let x72 : Int := x67 + x69 + (0 : Int); let x73 : Int := Go.IntKind.u64.wrap (Go.IntKind.u64.wrap (x62 / (18446744073709551616 : Int) + x68 / (18446744073709551616 : Int)) + x72 / (18446744073709551616 : Int)); let x74 : Int := Go.IntKind.u64.wrap (Go.IntKind.u64.wrap (x43 / (18446744073709551616 : Int) + x48 / (18446744073709551616 : Int)) + x66 / (18446744073709551616 : Int)); let x75 : Int := x71 + x73 + (0 : Int); let x76 : Int := x75 % (18446744073709551616 : Int); let x77 : Int := Go.Sx.limb a (3 : Nat) * Go.Sx.limb b (0 : Nat); let x78 : Int := x77 % (18446744073709551616 : Int); let x79 : Int := x64 % (18446744073709551616 : Int); let x80 : Int := x78 + (0 : Int) + (0 : Int); let x81 : Int := x80 % (18446744073709551616 : Int); let x82 : Int := Go.Sx.limb a (3 : Nat) * Go.Sx.limb b (1 : Nat); let x83 : Int := x82 % (18446744073709551616 : Int); let x84 : Int := x79 + x81 + (0 : Int); let x85 : Int := Go.IntKind.u64.wrap (Go.IntKind.u64.wrap (x77 / (18446744073709551616 : Int) + x80 / (18446744073709551616 : Int)) + x84 / (18446744073709551616 : Int)); let x86 : Int := x72 % (18446744073709551616 : Int); let x87 : Int := x83 + x85 + (0 : Int); let x88 : Int := x87 % (18446744073709551616 : Int); let x89 : Int := Go.Sx.limb a (3 : Nat) * Go.Sx.limb b (2 : Nat); let x90 : Int := x89 % (18446744073709551616 : Int); let x91 : Int := x86 + x88 + (0 : Int); let x92 : Int := Go.IntKind.u64.wrap (Go.IntKind.u64.wrap (x82 / (18446744073709551616 : Int) + x87 / (18446744073709551616 : Int)) + x91 / (18446744073709551616 : Int)); let x93 : Int := x74 + x76 + (0 : Int); let x94 : Int := x93 % (18446744073709551616 : Int); let x95 : Int := x90 + x92 + (0 : Int); let x96 : Int := x95 % (18446744073709551616 : Int); let x97 : Int := Go.Sx.limb a (3 : Nat) * Go.Sx.limb b (3 : Nat); let x98 : Int := x97 % (18446744073709551616 : Int); let x99 : Int := x94 + x96 + (0 : Int); let x100 : Int := Go.IntKind.u64.wrap (Go.IntKind.u64.wrap (x89 / (18446744073709551616 : Int) + x95 / (18446744073709551616 : Int)) + x99 / (18446744073709551616 : Int)); let x101 : Int := Go.IntKind.u64.wrap (Go.IntKind.u64.wrap (x70 / (18446744073709551616 : Int) + x75 / (18446744073709551616 : Int)) + x93 / (18446744073709551616 : Int)); let x102 : Int := x98 + x100 + (0 : Int); let x103 : Int := x102 % (18446744073709551616 : Int); let x104 : Int := x7 % (18446744073709551616 : Int); let x105 : Int := x30 % (18446744073709551616 : Int); let x106 : Int := x57 % (18446744073709551616 : Int); let x107 : Int := x84 % (18446744073709551616 : Int); let x108 : Int := x91 % (18446744073709551616 : Int); let x109 : Int := x99 % (18446744073709551616 : Int); let x110 : Int := x101 + x103 + (0 : Int); let x111 : Int := x110 % (18446744073709551616 : Int); let x112 : Int := Go.IntKind.u64.wrap (Go.IntKind.u64.wrap (x97 / (18446744073709551616 : Int) + x102 / (18446744073709551616 : Int)) + x110 / (18446744073709551616 : Int)); ((0 : Int) ≤ Go.Sx.limb a (0 : Nat) ∧ Go.Sx.limb a (0 : Nat) < (18446744073709551616 : Int)) ∧ ((0 : Int) ≤ Go.Sx.limb b (0 : Nat) ∧ Go.Sx.limb b (0 : Nat) < (18446744073709551616 : Int)) ∧ (0 : Int) ≤ x2 ∧ (0 : Int) ≤ (0 : Int) ∧ ((0 : Int) ≤ (0 : Int) ∧ (0 : Int) ≤ (1 : Int)) ∧ (0 : Int) ≤ (0 : Int) ∧ (0 : Int) ≤ x4 ∧ ((0 : Int) ≤ (0 : Int) ∧ (0 : Int) ≤ (1 : Int)) ∧ ((0 : Int) ≤ Go.Sx.limb a (0 : Nat) ∧ Go.Sx.limb a (0 : Nat) < (18446744073709551616 : Int)) ∧ ((0 : Int) ≤ Go.Sx.limb b (1 : Nat) ∧ Go.Sx.limb b (1 : Nat) < (18446744073709551616 : Int)) ∧ (0 : Int) ≤ x6 ∧ (0 : Int) ≤ x8 ∧ ((0 : Int) ≤ (0 : Int) ∧ (0 : Int) ≤ (1 : Int)) ∧ (0 : Int) ≤ (0 : Int) ∧ (0 : Int) ≤ x10 ∧ ((0 : Int) ≤ (0 : Int) ∧ (0 : Int) ≤ (1 : Int)) ∧ ((0 : Int) ≤ Go.Sx.limb a (0 : Nat) ∧ Go.Sx.limb a (0 : Nat) < (18446744073709551616 : Int)) ∧ ((0 : Int) ≤ Go.Sx.limb b (2 : Nat) ∧ Go.Sx.limb b (2 : Nat) < (18446744073709551616 : Int)) ∧ (0 : Int) ≤ x12 ∧ (0 : Int) ≤ x14 ∧ ((0 : Int) ≤ (0 : Int) ∧ (0 : Int) ≤ (1 : Int)) ∧ (0 : Int) ≤ (0 : Int) ∧ (0 : Int) ≤ x16 ∧ ((0 : Int) ≤ (0 : Int) ∧ (0 : Int) ≤ (1 : Int)) ∧ ((0 : Int) ≤ Go.Sx.limb a (0 : Nat) ∧ Go.Sx.limb a (0 : Nat) < (18446744073709551616 : Int)) ∧ ((0 : Int) ≤ Go.Sx.limb b (3 : Nat) ∧ Go.Sx.limb b (3 : Nat) < (18446744073709551616 : Int)) ∧ (0 : Int) ≤ x18 ∧ (0 : Int) ≤ x20 ∧ ((0 : Int) ≤ (0 : Int) ∧ (0 : Int) ≤ (1 : Int)) ∧ (0 : Int) ≤ (0 : Int) ∧ (0 : Int) ≤ x22 ∧ ((0 : Int) ≤ (0 : Int) ∧ (0 : Int) ≤ (1 : Int)) ∧ ((0 : Int) ≤ Go.Sx.limb a (1 : Nat) ∧ Go.Sx.limb a (1 : Nat) < (18446744073709551616 : Int)) ∧ ((0 : Int) ≤ Go.Sx.limb b (0 : Nat) ∧ Go.Sx.limb b (0 : Nat) < (18446744073709551616 : Int)) ∧ (0 : Int) ≤ x24 ∧ (0 : Int) ≤ (0 : Int) ∧ ((0 : Int) ≤ (0 : Int) ∧ (0 : Int) ≤ (1 : Int)) ∧ (0 : Int) ≤ x25 ∧ (0 : Int) ≤ x27 ∧ ((0 : Int) ≤ (0 : Int) ∧ (0 : Int) ≤ (1 : Int)) ∧ ((0 : Int) ≤ Go.Sx.limb a (1 : Nat) ∧ Go.Sx.limb a (1 : Nat) < (18446744073709551616 : Int)) ∧ ((0 : Int) ≤ Go.Sx.limb b (1 : Nat) ∧ Go.Sx.limb b (1 : Nat) < (18446744073709551616 : Int)) ∧ (0 : Int) ≤ x29 ∧ (0 : Int) ≤ x31 ∧ ((0 : Int) ≤ (0 : Int) ∧ (0 : Int) ≤ (1 : Int)) ∧ (0 : Int) ≤ x32 ∧ (0 : Int) ≤ x34 ∧ ((0 : Int) ≤ (0 : Int) ∧ (0 : Int) ≤ (1 : Int)) ∧ ((0 : Int) ≤ Go.Sx.limb a (1 : Nat) ∧ Go.Sx.limb a (1 : Nat) < (18446744073709551616 : Int)) ∧ ((0 : Int) ≤ Go.Sx.limb b (2 : Nat) ∧ Go.Sx.limb b (2 : Nat) < (18446744073709551616 : Int)) ∧ (0 : Int) ≤ x36 ∧ (0 : Int) ≤ x38 ∧ ((0 : Int) ≤ (0 : Int) ∧ (0 : Int) ≤ (1 : Int)) ∧ (0 : Int) ≤ x40 ∧ (0 : Int) ≤ x42 ∧ ((0 : Int) ≤ (0 : Int) ∧ (0 : Int) ≤ (1 : Int)) ∧ ((0 : Int) ≤ Go.Sx.limb a (1 : Nat) ∧ Go.Sx.limb a (1 : Nat) < (18446744073709551616 : Int)) ∧ ((0 : Int) ≤ Go.Sx.limb b (3 : Nat) ∧ Go.Sx.limb b (3 : Nat) < (18446744073709551616 : Int)) ∧ (0 : Int) ≤ x44 ∧ (0 : Int) ≤ x46 ∧ ((0 : Int) ≤ (0 : Int) ∧ (0 : Int) ≤ (1 : Int)) ∧ (0 : Int) ≤ x47 ∧ (0 : Int) ≤ x49 ∧ ((0 : Int) ≤ (0 : Int) ∧ (0 : Int) ≤ (1 : Int)) ∧ ((0 : Int) ≤ Go.Sx.limb a (2 : Nat) ∧ Go.Sx.limb a (2 : Nat) < (18446744073709551616 : Int)) ∧ ((0 : Int) ≤ Go.Sx.limb b (0 : Nat) ∧ Go.Sx.limb b (0 : Nat) < (18446744073709551616 : Int)) ∧ (0 : Int) ≤ x51 ∧ (0 : Int) ≤ (0 : Int) ∧ ((0 : Int) ≤ (0 : Int) ∧ (0 : Int) ≤ (1 : Int)) ∧ (0 : Int) ≤ x52 ∧ (0 : Int) ≤ x54 ∧ ((0 : Int) ≤ (0 : Int) ∧ (0 : Int) ≤ (1 : Int)) ∧ ((0 : Int) ≤ Go.Sx.limb a (2 : Nat) ∧ Go.Sx.limb a (2 : Nat) < (18446744073709551616 : Int)) ∧ ((0 : Int) ≤ Go.Sx.limb b (1 : Nat) ∧ Go.Sx.limb b (1 : Nat) < (18446744073709551616 : Int)) ∧ (0 : Int) ≤ x56 ∧ (0 : Int) ≤ x58 ∧ ((0 : Int) ≤ (0 : Int) ∧ (0 : Int) ≤ (1 : Int)) ∧ (0 : Int) ≤ x59 ∧ (0 : Int) ≤ x61 ∧ ((0 : Int) ≤ (0 : Int) ∧ (0 : Int) ≤ (1 : Int)) ∧ ((0 : Int) ≤ Go.Sx.limb a (2 : Nat) ∧ Go.Sx.limb a (2 : Nat) < (18446744073709551616 : Int)) ∧ ((0 : Int) ≤ Go.Sx.limb b (2 : Nat) ∧ Go.Sx.limb b (2 : Nat) < (18446744073709551616 : Int)) ∧ (0 : Int) ≤ x63 ∧ (0 : Int) ≤ x65 ∧ ((0 : Int) ≤ (0 : Int) ∧ (0 : Int) ≤ (1 : Int)) ∧ (0 : Int) ≤ x67 ∧ (0 : Int) ≤ x69 ∧ ((0 : Int) ≤ (0 : Int) ∧ (0 : Int) ≤ (1 : Int)) ∧ ((0 : Int) ≤ Go.Sx.limb a (2 : Nat) ∧ Go.Sx.limb a (2 : Nat) < (18446744073709551616 : Int)) ∧ ((0 : Int) ≤ Go.Sx.limb b (3 : Nat) ∧ Go.Sx.limb b (3 : Nat) < (18446744073709551616 : Int)) ∧ (0 : Int) ≤ x71 ∧ (0 : Int) ≤ x73 ∧ ((0 : Int) ≤ (0 : Int) ∧ (0 : Int) ≤ (1 : Int)) ∧ (0 : Int) ≤ x74 ∧ (0 : Int) ≤ x76 ∧ ((0 : Int) ≤ (0 : Int) ∧ (0 : Int) ≤ (1 : Int)) ∧ ((0 : Int) ≤ Go.Sx.limb a (3 : Nat) ∧ Go.Sx.limb a (3 : Nat) < (18446744073709551616 : Int)) ∧ ((0 : Int) ≤ Go.Sx.limb b (0 : Nat) ∧ Go.Sx.limb b (0 : Nat) < (18446744073709551616 : Int)) ∧ (0 : Int) ≤ x78 ∧ (0 : Int) ≤ (0 : Int) ∧ ((0 : Int) ≤ (0 : Int) ∧ (0 : Int) ≤ (1 : Int)) ∧ (0 : Int) ≤ x79 ∧ (0 : Int) ≤ x81 ∧ ((0 : Int) ≤ (0 : Int) ∧ (0 : Int) ≤ (1 : Int)) ∧ ((0 : Int) ≤ Go.Sx.limb a (3 : Nat) ∧ Go.Sx.limb a (3 : Nat) < (18446744073709551616 : Int)) ∧ ((0 : Int) ≤ Go.Sx.limb b (1 : Nat) ∧ Go.Sx.limb b (1 : Nat) < (18446744073709551616 : Int)) ∧ (0 : Int) ≤ x83 ∧ (0 : Int) ≤ x85 ∧ ((0 : Int) ≤ (0 : Int) ∧ (0 : Int) ≤ (1 : Int)) ∧ (0 : Int) ≤ x86 ∧ (0 : Int) ≤ x88 ∧ ((0 : Int) ≤ (0 : Int) ∧ (0 : Int) ≤ (1 : Int)) ∧ ((0 : Int) ≤ Go.Sx.limb a (3 : Nat) ∧ Go.Sx.limb a (3 : Nat) < (18446744073709551616 : Int)) ∧ ((0 : Int) ≤ Go.Sx.limb b (2 : Nat) ∧ Go.Sx.limb b (2 : Nat) < (18446744073709551616 : Int)) ∧ (0 : Int) ≤ x90 ∧ (0 : Int) ≤ x92 ∧ ((0 : Int) ≤ (0 : Int) ∧ (0 : Int) ≤ (1 : Int)) ∧ (0 : Int) ≤ x94 ∧ (0 : Int) ≤ x96 ∧ ((0 : Int) ≤ (0 : Int) ∧ (0 : Int) ≤ (1 : Int)) ∧ ((0 : Int) ≤ Go.Sx.limb a (3 : Nat) ∧ Go.Sx.limb a (3 : Nat) < (18446744073709551616 : Int)) ∧ ((0 : Int) ≤ Go.Sx.limb b (3 : Nat) ∧ Go.Sx.limb b (3 : Nat) < (18446744073709551616 : Int)) ∧ (0 : Int) ≤ x98 ∧ (0 : Int) ≤ x100 ∧ ((0 : Int) ≤ (0 : Int) ∧ (0 : Int) ≤ (1 : Int)) ∧ (0 : Int) ≤ x101 ∧ (0 : Int) ≤ x103 ∧ ((0 : Int) ≤ (0 : Int) ∧ (0 : Int) ≤ (1 : Int)) ∧ (((0 : Int) ≤ x104 ∧ x104 < (18446744073709551616 : Int)) ∧ ((0 : Int) ≤ x105 ∧ x105 < (18446744073709551616 : Int)) ∧ ((0 : Int) ≤ x106 ∧ x106 < (18446744073709551616 : Int)) ∧ ((0 : Int) ≤ x107 ∧ x107 < (18446744073709551616 : Int)) ∧ Go.Sx.join x104 x105 x106 x107 % Go.Sx.M256 = a * b % Go.Sx.M256 ∧ True) ∧ ((0 : Int) ≤ x108 ∧ x108 < (18446744073709551616 : Int)) ∧ ((0 : Int) ≤ x109 ∧ x109 < (18446744073709551616 : Int)) ∧ ((0 : Int) ≤ x111 ∧ x111 < (18446744073709551616 : Int)) ∧ ((0 : Int) ≤ x112 ∧ x112 < (18446744073709551616 : Int)) ∧ Go.Sx.join x108 x109 x111 x112 % Go.Sx.M256 = a % Go.Sx.M256 * (b % Go.Sx.M256) / Go.Sx.M256 % Go.Sx.M256 ∧ True) := by kernel_rfl
-- END VC
end Go.Proofs.YtbfcccoeekonlaaGreatDoor
end

section
/-
  The library's counting of bits, and its quotient of two words by one: reckoned by the kernel. (Laid by program.)
-/
namespace Go.Proofs.YtbfcccoeekonlaaGreatDoor
open Go.Sx
set_option maxRecDepth 100000
def cxLz : Cx := [(102, specW lenG)]
def cxDiv64 : Cx := [(81, specW lzG)]
/-- At the heads of the two loops: the digit and what it leaves. h', l' are the two words moved, y1, y0 the divisor's halves, U the upper word, w1, w0 the lower word's halves, s the shift. -/
structure DivAt where
  q : Nat
  r : Nat
def invDiv1 (h l _ s y' y1 y0 U L w1 w0 : Int) : Inv where
  X := DivAt
  tm x := slotsAt 135 [(0, .one (sI .u64 h)), (1, .one (sI .u64 l)), (2, .one (sI .u64 y')), (8, .one (sI .u64 s)), (9, .one (sI .u64 y1)), (10, .one (sI .u64 y0)), (11, .one (sI .u64 U)), (12, .one (sI .u64 L)), (13, .one (sI .u64 w1)), (14, .one (sI .u64 w0)), (15, .one (sI .u64 x.q)), (16, .one (sI .u64 x.r)), (6, .one (.sc (.num .u64 0))), (7, .one (.sc (.num .u64 0)))]
  ob _ := []
  holds x := (x.q : Int) * y1 + x.r = U ∧ x.r < 4294967296 ∧ (U * 4294967296 + w1) / y' ≤ x.q ∧ x.q ≤ 4294967297
  less x := x.q
def invDiv2 (h l _ s y' y1 y0 U L w1 w0 q1 V : Int) : Inv where
  X := DivAt
  tm x := slotsAt 135 [(0, .one (sI .u64 h)), (1, .one (sI .u64 l)), (2, .one (sI .u64 y')), (8, .one (sI .u64 s)), (9, .one (sI .u64 y1)), (10, .one (sI .u64 y0)), (11, .one (sI .u64 U)), (12, .one (sI .u64 L)), (13, .one (sI .u64 w1)), (14, .one (sI .u64 w0)), (15, .one (sI .u64 q1)), (17, .one (sI .u64 V)), (18, .one (sI .u64 x.q)), (16, .one (sI .u64 x.r)), (6, .one (.sc (.num .u64 0))), (7, .one (.sc (.num .u64 0)))]
  ob _ := []
  holds x := (x.q : Int) * y1 + x.r = V ∧ x.r < 4294967296 ∧ (V * 4294967296 + w0) / y' ≤ x.q ∧ x.q ≤ 4294967297
  less x := x.q
def shY (y : Int) : Int := y * 2 ^ (64 - lenN y).toNat
def shU (h l y : Int) : Int := h * 2 ^ (64 - lenN y).toNat + l / 2 ^ (lenN y).toNat
def shL (l y : Int) : Int := l * 2 ^ (64 - lenN y).toNat % 18446744073709551616
def dq1 (h l y : Int) : Int := (shU h l y * 4294967296 + shL l y / 4294967296) / shY y
def dV (h l y : Int) : Int := (shU h l y * 4294967296 + shL l y / 4294967296) % shY y
def ivDiv (h l y : Int) : List (Nat × Hint) :=
  [(17, .inv (invDiv1 h l y (64 - lenN y) (shY y) (shY y / 4294967296) (shY y % 4294967296) (shU h l y) (shL l y) (shL l y / 4294967296) (shL l y % 4294967296))),
   (24, .inv (invDiv2 h l y (64 - lenN y) (shY y) (shY y / 4294967296) (shY y % 4294967296) (shU h l y) (shL l y) (shL l y / 4294967296) (shL l y % 4294967296) (dq1 h l y) (dV h l y)))]
-- VC vc_Len64 HASH dd73c16809bf9018
def lit_650f3990 : ByteArray := { data := (([(0 : UInt8), (1 : UInt8), (2 : UInt8), (2 : UInt8), (3 : UInt8), (3 : UInt8), (3 : UInt8), (3 : UInt8), (4 : UInt8), (4 : UInt8), (4 : UInt8), (4 : UInt8), (4 : UInt8), (4 : UInt8), (4 : UInt8), (4 : UInt8), (5 : UInt8), (5 : UInt8), (5 : UInt8), (5 : UInt8), (5 : UInt8), (5 : UInt8), (5 : UInt8), (5 : UInt8), (5 : UInt8), (5 : UInt8), (5 : UInt8), (5 : UInt8), (5 : UInt8), (5 : UInt8), (5 : UInt8), (5 : UInt8), (6 : UInt8), (6 : UInt8), (6 : UInt8), (6 : UInt8), (6 : UInt8), (6 : UInt8), (6 : UInt8), (6 : UInt8), (6 : UInt8), (6 : UInt8), (6 : UInt8), (6 : UInt8), (6 : UInt8), (6 : UInt8), (6 : UInt8), (6 : UInt8), (6 : UInt8), (6 : UInt8), (6 : UInt8), (6 : UInt8), (6 : UInt8), (6 : UInt8), (6 : UInt8), (6 : UInt8), (6 : UInt8), (6 : UInt8), (6 : UInt8), (6 : UInt8), (6 : UInt8), (6 : UInt8), (6 : UInt8), (6 : UInt8)].append [(7 : UInt8), (7 : UInt8), (7 : UInt8), (7 : UInt8), (7 : UInt8), (7 : UInt8), (7 : UInt8), (7 : UInt8), (7 : UInt8), (7 : UInt8), (7 : UInt8), (7 : UInt8), (7 : UInt8), (7 : UInt8), (7 : UInt8), (7 : UInt8), (7 : UInt8), (7 : UInt8), (7 : UInt8), (7 : UInt8), (7 : UInt8), (7 : UInt8), (7 : UInt8), (7 : UInt8), (7 : UInt8), (7 : UInt8), (7 : UInt8), (7 : UInt8), (7 : UInt8), (7 : UInt8), (7 : UInt8), (7 : UInt8), (7 : UInt8), (7 : UInt8), (7 : UInt8), (7 : UInt8), (7 : UInt8), (7 : UInt8), (7 : UInt8), (7 : UInt8), (7 : UInt8), (7 : UInt8), (7 : UInt8), (7 : UInt8), (7 : UInt8), (7 : UInt8), (7 : UInt8), (7 : UInt8), (7 : UInt8), (7 : UInt8), (7 : UInt8), (7 : UInt8), (7 : UInt8), (7 : UInt8), (7 : UInt8), (7 : UInt8), (7 : UInt8), (7 : UInt8), (7 : UInt8), (7 : UInt8), (7 : UInt8), (7 : UInt8), (7 : UInt8), (7 : UInt8)]).append ([(8 : UInt8), (8 : UInt8), (8 : UInt8), (8 : UInt8), (8 : UInt8), (8 : UInt8), (8 : UInt8), (8 : UInt8), (8 : UInt8), (8 : UInt8), (8 : UInt8), (8 : UInt8), (8 : UInt8), (8 : UInt8), (8 : UInt8), (8 : UInt8), (8 : UInt8), (8 : UInt8), (8 : UInt8), (8 : UInt8), (8 : UInt8), (8 : UInt8), (8 : UInt8), (8 : UInt8), (8 : UInt8), (8 : UInt8), (8 : UInt8), (8 : UInt8), (8 : UInt8), (8 : UInt8), (8 : UInt8), (8 : UInt8), (8 : UInt8), (8 : UInt8), (8 : UInt8), (8 : UInt8), (8 : UInt8), (8 : UInt8), (8 : UInt8), (8 : UInt8), (8 : UInt8), (8 : UInt8), (8 : UInt8), (8 : UInt8), (8 : UInt8), (8 : UInt8), (8 : UInt8), (8 : UInt8), (8 : UInt8), (8 : UInt8), (8 : UInt8), (8 : UInt8), (8 : UInt8), (8 : UInt8), (8 : UInt8), (8 : UInt8), (8 : UInt8), (8 : UInt8), (8 : UInt8), (8 : UInt8), (8 : UInt8), (8 : UInt8), (8 : UInt8), (8 : UInt8)].append [(8 : UInt8), (8 : UInt8), (8 : UInt8), (8 : UInt8), (8 : UInt8), (8 : UInt8), (8 : UInt8), (8 : UInt8), (8 : UInt8), (8 : UInt8), (8 : UInt8), (8 : UInt8), (8 : UInt8), (8 : UInt8), (8 : UInt8), (8 : UInt8), (8 : UInt8), (8 : UInt8), (8 : UInt8), (8 : UInt8), (8 : UInt8), (8 : UInt8), (8 : UInt8), (8 : UInt8), (8 : UInt8), (8 : UInt8), (8 : UInt8), (8 : UInt8), (8 : UInt8), (8 : UInt8), (8 : UInt8), (8 : UInt8), (8 : UInt8), (8 : UInt8), (8 : UInt8), (8 : UInt8), (8 : UInt8), (8 : UInt8), (8 : UInt8), (8 : UInt8), (8 : UInt8), (8 : UInt8), (8 : UInt8), (8 : UInt8), (8 : UInt8), (8 : UInt8), (8 : UInt8), (8 : UInt8), (8 : UInt8), (8 : UInt8), (8 : UInt8), (8 : UInt8), (8 : UInt8), (8 : UInt8), (8 : UInt8), (8 : UInt8), (8 : UInt8), (8 : UInt8), (8 : UInt8), (8 : UInt8), (8 : UInt8), (8 : UInt8), (8 : UInt8), (8 : UInt8)])).toArray }
theorem vc_Len64 (x : Int) :
    Owes Tryz.prog Cx.none [] 100 Tryz.f102 [sI .u64 x] (lenG x) =
    (let x1 : Int := (x.fdiv (4294967296 : Int)).fdiv (65536 : Int); let x2 : Int := Go.IntKind.u8.wrap (x1.fdiv (256 : Int)); let x3 : Nat := x2.toNat; let x4 : Int := Go.IntKind.u8.wrap x1; let x5 : Nat := x4.toNat; let x6 : Int := Go.IntKind.u8.wrap ((x.fdiv (4294967296 : Int)).fdiv (256 : Int)); let x7 : Nat := x6.toNat; let x8 : Int := Go.IntKind.u8.wrap (x.fdiv (4294967296 : Int)); let x9 : Nat := x8.toNat; let x10 : Int := Go.IntKind.u8.wrap ((x.fdiv (65536 : Int)).fdiv (256 : Int)); let x11 : Nat := x10.toNat; let x12 : Int := Go.IntKind.u8.wrap (x.fdiv (65536 : Int)); let x13 : Nat := x12.toNat; let x14 : Int := Go.IntKind.u8.wrap (x.fdiv (256 : Int)); let x15 : Nat := x14.toNat; (Decidable.decide (x ≥ (4294967296 : Int)) = Bool.true → (Decidable.decide (x.fdiv (4294967296 : Int) ≥ (65536 : Int)) = Bool.true → (Decidable.decide (x1 ≥ (256 : Int)) = Bool.true → ((0 : Int) ≤ x2 ∧ x3 < (256 : Nat)) ∧ Go.IntKind.i64.wrap ((56 : Int) + Go.IntKind.i64.wrap (↑(lit_650f3990.data.getD x3 (0 : UInt8)).toNat : Int)) = Go.Sx.lenN x) ∧ (Decidable.decide (x1 ≥ (256 : Int)) = Bool.false → ((0 : Int) ≤ x4 ∧ x5 < (256 : Nat)) ∧ Go.IntKind.i64.wrap ((48 : Int) + Go.IntKind.i64.wrap (↑(lit_650f3990.data.getD x5 (0 : UInt8)).toNat : Int)) = Go.Sx.lenN x)) ∧ (Decidable.decide (x.fdiv (4294967296 : Int) ≥ (65536 : Int)) = Bool.false → (Decidable.decide (x.fdiv (4294967296 : Int) ≥ (256 : Int)) = Bool.true → ((0 : Int) ≤ x6 ∧ x7 < (256 : Nat)) ∧ Go.IntKind.i64.wrap ((40 : Int) + Go.IntKind.i64.wrap (↑(lit_650f3990.data.getD x7 (0 : UInt8)).toNat : Int)) = Go.Sx.lenN x) ∧ (Decidable.decide (x.fdiv (4294967296 : Int) ≥ (256 : Int)) = Bool.false → ((0 : Int) ≤ x8 ∧ x9 < (256 : Nat)) ∧ Go.IntKind.i64.wrap ((32 : Int) + Go.IntKind.i64.wrap (↑(lit_650f3990.data.getD x9 (0 : UInt8)).toNat : Int)) = Go.Sx.lenN x))) ∧ (Decidable.decide (x ≥ (4294967296 : Int)) = Bool.false → (Decidable.decide (x ≥ (65536 : Int)) = Bool.true → (Decidable.decide (x.fdiv (65536 : Int) ≥ (256 : Int)) = Bool.true → ((0 : Int) ≤ x10 ∧ x11 < (256 : Nat)) ∧ Go.IntKind.i64.wrap ((24 : Int) + Go.IntKind.i64.wrap (↑(lit_650f3990.data.getD x11 (0 : UInt8)).toNat : Int)) = Go.Sx.lenN x) ∧ (Decidable.decide (x.fdiv (65536 : Int) ≥ (256 : Int)) = Bool.false → ((0 : Int) ≤ x12 ∧ x13 < (256 : Nat)) ∧ Go.IntKind.i64.wrap ((16 : Int) + Go.IntKind.i64.wrap (↑(lit_650f3990.data.getD x13 (0 : UInt8)).toNat : Int)) = Go.Sx.lenN x)) ∧ (Decidable.decide (x ≥ (65536 : Int)) = Bool.false → (Decidable.decide (x ≥ (256 : Int)) = Bool.true → ((0 : Int) ≤ x14 ∧ x15 < (256 : Nat)) ∧ Go.IntKind.i64.wrap ((8 : Int) + Go.IntKind.i64.wrap (↑(lit_650f3990.data.getD x15 (0 : UInt8)).toNat : Int)) = Go.Sx.lenN x) ∧ (Decidable.decide (x ≥ (256 : Int)) = Bool.false → ((0 : Int) ≤ Go.IntKind.u8.wrap x ∧ (Go.IntKind.u8.wrap x).toNat < (256 : Nat)) ∧ Go.IntKind.i64.wrap ((0 : Int) + Go.IntKind.i64.wrap (↑(lit_650f3990.data.getD (Go.IntKind.u8.wrap x).toNat (0 : UInt8)).toNat : Int)) = Go.Sx.lenN x)))) := by kernel_rfl
-- END VC
-- VC vc_LZ64 HASH 23bea001194db56a
theorem vc_LZ64 (x : Int) :
    Owes Tryz.prog cxLz [] 100 Tryz.f81 [sI .u64 x] (lzG x) =
    (let x1 : Int := (64 : Int) - Go.Sx.lenN x; ((0 : Int) ≤ x ∧ x < (18446744073709551616 : Int)) ∧ Go.IntKind.i64.wrap x1 = x1) := by kernel_rfl
-- END VC
-- VC vc_Div64 HASH 489e86658c03af1a
theorem vc_Div64 (h l y : Int) :
    Owes Tryz.prog cxDiv64 (ivDiv h l y) 100 Tryz.f103 [sI .u64 h, sI .u64 l, sI .u64 y] (divG h l y) =
    (let x1 : Int := h * (18446744073709551616 : Int) + l; let x2 : Int := x1 / y; let x3 : Int := x1 % y; let x4 : Int := (64 : Int) - Go.Sx.lenN y; let x5 : Int := Go.IntKind.u64.wrap x4; let x6 : Int := Go.IntKind.u64.wrap ((64 : Int) - x5); let x7 : Int := (2 : Int) ^ Min.min x5.toNat (64 : Nat); let x8 : Int := Go.IntKind.u64.wrap (y * x7); let x9 : Int := x8.fdiv (4294967296 : Int); let x10 : Int := shY y / (4294967296 : Int); let x11 : Int := shY y % (4294967296 : Int); let x12 : Int := shL l y / (4294967296 : Int); let x13 : Int := shL l y % (4294967296 : Int); let x14 : Int := shU h l y * (4294967296 : Int); let x15 : Int := Go.IntKind.u64.wrap (↑(BitVec.ofInt (64 : Nat) (Go.IntKind.u64.wrap (h * x7)) ||| BitVec.ofInt (64 : Nat) (l.fdiv ((2 : Int) ^ Min.min x6.toNat (64 : Nat)))).toNat : Int); let x16 : Int := Go.IntKind.u64.wrap (l * x7); let x17 : Int := Go.IntKind.u64.wrap (x15.tdiv x9); let x18 : Int := dV h l y * (4294967296 : Int); let x19 : Int := (2 : Int) ^ Min.min x4.toNat (64 : Nat); ((y == (0 : Int)) = Bool.true → Go.Sx.Stuck { dst := Option.some (21 : Nat), op := Go.Op.load (144 : Nat) (Go.Operand.global (0 : Nat)), type := (144 : Nat), pos := "bits.go:520", after := #[], guard := Option.none }) ∧ ((y == (0 : Int)) = Bool.false → (Decidable.decide (y ≤ h) = Bool.true → Go.Sx.Stuck { dst := Option.some (25 : Nat), op := Go.Op.load (144 : Nat) (Go.Operand.global (1 : Nat)), type := (144 : Nat), pos := "bits.go:523", after := #[], guard := Option.none }) ∧ (Decidable.decide (y ≤ h) = Bool.false → ((h == (0 : Int)) = Bool.true → y ≠ (0 : Int) ∧ y ≠ (0 : Int) ∧ Go.IntKind.u64.wrap (l.tdiv y) = x2 ∧ l.tmod y = x3) ∧ ((h == (0 : Int)) = Bool.false → ((0 : Int) ≤ y ∧ y < (18446744073709551616 : Int)) ∧ (0 : Int) ≤ x5 ∧ (0 : Int) ≤ x5 ∧ (0 : Int) ≤ x6 ∧ (0 : Int) ≤ x5 ∧ x9 ≠ (0 : Int) ∧ (∀ (y_1 : DivAt), Go.Sx.closedB (Go.Sx.slotsAt (135 : Nat) [((0 : Nat), Go.Sx.SV.one (Go.Sx.sI Go.IntKind.u64 h)), ((1 : Nat), Go.Sx.SV.one (Go.Sx.sI Go.IntKind.u64 l)), ((2 : Nat), Go.Sx.SV.one (Go.Sx.sI Go.IntKind.u64 (shY y))), ((8 : Nat), Go.Sx.SV.one (Go.Sx.sI Go.IntKind.u64 x4)), ((9 : Nat), Go.Sx.SV.one (Go.Sx.sI Go.IntKind.u64 x10)), ((10 : Nat), Go.Sx.SV.one (Go.Sx.sI Go.IntKind.u64 x11)), ((11 : Nat), Go.Sx.SV.one (Go.Sx.sI Go.IntKind.u64 (shU h l y))), ((12 : Nat), Go.Sx.SV.one (Go.Sx.sI Go.IntKind.u64 (shL l y))), ((13 : Nat), Go.Sx.SV.one (Go.Sx.sI Go.IntKind.u64 x12)), ((14 : Nat), Go.Sx.SV.one (Go.Sx.sI Go.IntKind.u64 x13)), ((15 : Nat), Go.Sx.SV.one (Go.Sx.sI Go.IntKind.u64 (↑y_1.q : Int))), ((16 : Nat), Go.Sx.SV.one (Go.Sx.sI Go.IntKind.u64 (↑y_1.r : Int))), ((6 : Nat), Go.Sx.SV.one (Go.Sx.SA.sc (Go.Sx.SC.num Go.IntKind.u64 (0 : Int)))), ((7 : Nat), Go.Sx.SV.one (Go.Sx.SA.sc (Go.Sx.SC.num Go.IntKind.u64 (0 : Int))))]) [] = Bool.true) ∧ ∃ (y_1 : DivAt), ((↑y_1.q : Int) * x10 + (↑y_1.r : Int) = shU h l y ∧ y_1.r < (4294967296 : Nat) ∧ (x14 + x12) / shY y ≤ (↑y_1.q : Int) ∧ y_1.q ≤ (4294967297 : Nat)) ∧ h = h ∧ l = l ∧ x8 = shY y ∧ x5 = x4 ∧ x9 = x10 ∧ Go.IntKind.u64.wrap (↑(BitVec.ofInt (64 : Nat) x8 &&& BitVec.ofInt (64 : Nat) (4294967295 : Int)).toNat : Int) = x11 ∧ x15 = shU h l y ∧ x16 = shL l y ∧ x16.fdiv (4294967296 : Int) = x12 ∧ Go.IntKind.u64.wrap (↑(BitVec.ofInt (64 : Nat) x16 &&& BitVec.ofInt (64 : Nat) (4294967295 : Int)).toNat : Int) = x13 ∧ x17 = (↑y_1.q : Int) ∧ Go.IntKind.u64.wrap (x15 - Go.IntKind.u64.wrap (x17 * x9)) = (↑y_1.r : Int) ∧ ∀ (y_2 : DivAt), (↑y_2.q : Int) * x10 + (↑y_2.r : Int) = shU h l y ∧ y_2.r < (4294967296 : Nat) ∧ (x14 + x12) / shY y ≤ (↑y_2.q : Int) ∧ y_2.q ≤ (4294967297 : Nat) → ((!Decidable.decide ((↑y_2.q : Int) ≥ (4294967296 : Int))) = Bool.true → (!Decidable.decide ((↑y_2.q : Int) ≥ (4294967296 : Int))) = Bool.true) ∧ ((!Decidable.decide ((↑y_2.q : Int) ≥ (4294967296 : Int))) = Bool.true → (!Decidable.decide ((↑y_2.q : Int) ≥ (4294967296 : Int))) = Bool.true) ∧ ((!Decidable.decide ((↑y_2.q : Int) ≥ (4294967296 : Int))) = Bool.true → (!Decidable.decide ((↑y_2.q : Int) ≥ (4294967296 : Int))) = Bool.true) ∧ ((!Decidable.decide ((↑y_2.q : Int) ≥ (4294967296 : Int))) = Bool.true → (!Decidable.decide ((↑y_2.q : Int) ≥ (4294967296 : Int))) = Bool.true) ∧ ((!Decidable.decide ((↑y_2.q : Int) ≥ (4294967296 : Int))) = Bool.true → (!Decidable.decide ((↑y_2.q : Int) ≥ (4294967296 : Int))) = Bool.true) ∧ ((!Decidable.decide ((↑y_2.q : Int) ≥ (4294967296 : Int))) = Bool.true → (!Decidable.decide ((↑y_2.q : Int) ≥ (4294967296 : Int))) = Bool.true) ∧ ((!Decidable.decide ((↑y_2.q : Int) ≥ (4294967296 : Int))) = Bool.true → (!Decidable.decide ((↑y_2.q : Int) ≥ (4294967296 : Int))) = Bool.true) ∧ (Decidable.decide ((↑y_2.q : Int) ≥ (4294967296 : Int)) = Bool.false → (!Decidable.decide ((↑y_2.q : Int) ≥ (4294967296 : Int))) = Bool.true) ∧ ((Decidable.decide ((↑y_2.q : Int) ≥ (4294967296 : Int)) || Decidable.decide (Go.IntKind.u64.wrap ((↑y_2.q : Int) * x11) > Go.IntKind.u64.wrap (Go.IntKind.u64.wrap ((4294967296 : Int) * (↑y_2.r : Int)) + x12))) = Bool.true → (Decidable.decide (Go.IntKind.u64.wrap ((↑y_2.r : Int) + x10) ≥ (4294967296 : Int)) = Bool.true → x10 ≠ (0 : Int) ∧ (∀ (y_3 : DivAt), Go.Sx.closedB (Go.Sx.slotsAt (135 : Nat) [((0 : Nat), Go.Sx.SV.one (Go.Sx.sI Go.IntKind.u64 h)), ((1 : Nat), Go.Sx.SV.one (Go.Sx.sI Go.IntKind.u64 l)), ((2 : Nat), Go.Sx.SV.one (Go.Sx.sI Go.IntKind.u64 (shY y))), ((8 : Nat), Go.Sx.SV.one (Go.Sx.sI Go.IntKind.u64 x4)), ((9 : Nat), Go.Sx.SV.one (Go.Sx.sI Go.IntKind.u64 x10)), ((10 : Nat), Go.Sx.SV.one (Go.Sx.sI Go.IntKind.u64 x11)), ((11 : Nat), Go.Sx.SV.one (Go.Sx.sI Go.IntKind.u64 (shU h l y))), ((12 : Nat), Go.Sx.SV.one (Go.Sx.sI Go.IntKind.u64 (shL l y))), ((13 : Nat), Go.Sx.SV.one (Go.Sx.sI Go.IntKind.u64 x12)), ((14 : Nat), Go.Sx.SV.one (Go.Sx.sI Go.IntKind.u64 x13)), ((15 : Nat), Go.Sx.SV.one (Go.Sx.sI Go.IntKind.u64 (dq1 h l y))), ((17 : Nat), Go.Sx.SV.one (Go.Sx.sI Go.IntKind.u64 (dV h l y))), ((18 : Nat), Go.Sx.SV.one (Go.Sx.sI Go.IntKind.u64 (↑y_3.q : Int))), ((16 : Nat), Go.Sx.SV.one (Go.Sx.sI Go.IntKind.u64 (↑y_3.r : Int))), ((6 : Nat), Go.Sx.SV.one (Go.Sx.SA.sc (Go.Sx.SC.num Go.IntKind.u64 (0 : Int)))), ((7 : Nat), Go.Sx.SV.one (Go.Sx.SA.sc (Go.Sx.SC.num Go.IntKind.u64 (0 : Int))))]) [] = Bool.true) ∧ ∃ (y_3 : DivAt), ((↑y_3.q : Int) * x10 + (↑y_3.r : Int) = dV h l y ∧ y_3.r < (4294967296 : Nat) ∧ (x18 + x13) / shY y ≤ (↑y_3.q : Int) ∧ y_3.q ≤ (4294967297 : Nat)) ∧ h = h ∧ l = l ∧ shY y = shY y ∧ x4 = x4 ∧ x10 = x10 ∧ x11 = x11 ∧ shU h l y = shU h l y ∧ shL l y = shL l y ∧ x12 = x12 ∧ x13 = x13 ∧ Go.IntKind.u64.wrap ((↑y_2.q : Int) - (1 : Int)) = dq1 h l y ∧ Go.IntKind.u64.wrap (Go.IntKind.u64.wrap (Go.IntKind.u64.wrap (Go.IntKind.u64.wrap x14 + x12) - Go.IntKind.u64.wrap (Go.IntKind.u64.wrap ((↑y_2.q : Int) - (1 : Int)) * shY y)) - Go.IntKind.u64.wrap (Go.IntKind.u64.wrap ((Go.IntKind.u64.wrap (Go.IntKind.u64.wrap (Go.IntKind.u64.wrap x14 + x12) - Go.IntKind.u64.wrap (Go.IntKind.u64.wrap ((↑y_2.q : Int) - (1 : Int)) * shY y))).tdiv x10) * x10)) = (↑y_3.r : Int) ∧ Go.IntKind.u64.wrap (Go.IntKind.u64.wrap (Go.IntKind.u64.wrap x14 + x12) - Go.IntKind.u64.wrap (Go.IntKind.u64.wrap ((↑y_2.q : Int) - (1 : Int)) * shY y)) = dV h l y ∧ Go.IntKind.u64.wrap ((Go.IntKind.u64.wrap (Go.IntKind.u64.wrap (Go.IntKind.u64.wrap x14 + x12) - Go.IntKind.u64.wrap (Go.IntKind.u64.wrap ((↑y_2.q : Int) - (1 : Int)) * shY y))).tdiv x10) = (↑y_3.q : Int) ∧ ∀ (y_4 : DivAt), (↑y_4.q : Int) * x10 + (↑y_4.r : Int) = dV h l y ∧ y_4.r < (4294967296 : Nat) ∧ (x18 + x13) / shY y ≤ (↑y_4.q : Int) ∧ y_4.q ≤ (4294967297 : Nat) → ((!Decidable.decide ((↑y_4.q : Int) ≥ (4294967296 : Int))) = Bool.true → (!Decidable.decide ((↑y_4.q : Int) ≥ (4294967296 : Int))) = Bool.true) ∧ ((!Decidable.decide ((↑y_4.q : Int) ≥ (4294967296 : Int))) = Bool.true → (!Decidable.decide ((↑y_4.q : Int) ≥ (4294967296 : Int))) = Bool.true) ∧ ((!Decidable.decide ((↑y_4.q : Int) ≥ (4294967296 : Int))) = Bool.true → (!Decidable.decide ((↑y_4.q : Int) ≥ (4294967296 : Int))) = Bool.true) ∧ ((!Decidable.decide ((↑y_4.q : Int) ≥ (4294967296 : Int))) = Bool.true → (!Decidable.decide ((↑y_4.q : Int) ≥ (4294967296 : Int))) = Bool.true) ∧ ((!Decidable.decide ((↑y_4.q : Int) ≥ (4294967296 : Int))) = Bool.true → (!Decidable.decide ((↑y_4.q : Int) ≥ (4294967296 : Int))) = Bool.true) ∧ ((!Decidable.decide ((↑y_4.q : Int) ≥ (4294967296 : Int))) = Bool.true → (!Decidable.decide ((↑y_4.q : Int) ≥ (4294967296 : Int))) = Bool.true) ∧ ((!Decidable.decide ((↑y_4.q : Int) ≥ (4294967296 : Int))) = Bool.true → (!Decidable.decide ((↑y_4.q : Int) ≥ (4294967296 : Int))) = Bool.true) ∧ (Decidable.decide ((↑y_4.q : Int) ≥ (4294967296 : Int)) = Bool.false → (!Decidable.decide ((↑y_4.q : Int) ≥ (4294967296 : Int))) = Bool.true) ∧ ((Decidable.decide ((↑y_4.q : Int) ≥ (4294967296 : Int)) || Decidable.decide (Go.IntKind.u64.wrap ((↑y_4.q : Int) * x11) > Go.IntKind.u64.wrap (Go.IntKind.u64.wrap ((4294967296 : Int) * (↑y_4.r : Int)) + x13))) = Bool.true → (Decidable.decide (Go.IntKind.u64.wrap ((↑y_4.r : Int) + x10) ≥ (4294967296 : Int)) = Bool.true → (0 : Int) ≤ x4 ∧ Go.IntKind.u64.wrap (Go.IntKind.u64.wrap (dq1 h l y * (4294967296 : Int)) + Go.IntKind.u64.wrap ((↑y_4.q : Int) - (1 : Int))) = x2 ∧ (Go.IntKind.u64.wrap (Go.IntKind.u64.wrap (Go.IntKind.u64.wrap x18 + x13) - Go.IntKind.u64.wrap (Go.IntKind.u64.wrap ((↑y_4.q : Int) - (1 : Int)) * shY y))).fdiv x19 = x3) ∧ (Decidable.decide (Go.IntKind.u64.wrap ((↑y_4.r : Int) + x10) ≥ (4294967296 : Int)) = Bool.false → ∃ (y' : DivAt), ((↑y'.q : Int) * x10 + (↑y'.r : Int) = dV h l y ∧ y'.r < (4294967296 : Nat) ∧ (x18 + x13) / shY y ≤ (↑y'.q : Int) ∧ y'.q ≤ (4294967297 : Nat)) ∧ h = h ∧ l = l ∧ shY y = shY y ∧ x4 = x4 ∧ x10 = x10 ∧ x11 = x11 ∧ shU h l y = shU h l y ∧ shL l y = shL l y ∧ x12 = x12 ∧ x13 = x13 ∧ dq1 h l y = dq1 h l y ∧ Go.IntKind.u64.wrap ((↑y_4.r : Int) + x10) = (↑y'.r : Int) ∧ dV h l y = dV h l y ∧ Go.IntKind.u64.wrap ((↑y_4.q : Int) - (1 : Int)) = (↑y'.q : Int) ∧ y'.q < y_4.q)) ∧ ((Decidable.decide ((↑y_4.q : Int) ≥ (4294967296 : Int)) || Decidable.decide (Go.IntKind.u64.wrap ((↑y_4.q : Int) * x11) > Go.IntKind.u64.wrap (Go.IntKind.u64.wrap ((4294967296 : Int) * (↑y_4.r : Int)) + x13))) = Bool.false → (0 : Int) ≤ x4 ∧ Go.IntKind.u64.wrap (Go.IntKind.u64.wrap (dq1 h l y * (4294967296 : Int)) + (↑y_4.q : Int)) = x2 ∧ (Go.IntKind.u64.wrap (Go.IntKind.u64.wrap (Go.IntKind.u64.wrap x18 + x13) - Go.IntKind.u64.wrap ((↑y_4.q : Int) * shY y))).fdiv x19 = x3)) ∧ (Decidable.decide (Go.IntKind.u64.wrap ((↑y_2.r : Int) + x10) ≥ (4294967296 : Int)) = Bool.false → ∃ (y' : DivAt), ((↑y'.q : Int) * x10 + (↑y'.r : Int) = shU h l y ∧ y'.r < (4294967296 : Nat) ∧ (x14 + x12) / shY y ≤ (↑y'.q : Int) ∧ y'.q ≤ (4294967297 : Nat)) ∧ h = h ∧ l = l ∧ shY y = shY y ∧ x4 = x4 ∧ x10 = x10 ∧ x11 = x11 ∧ shU h l y = shU h l y ∧ shL l y = shL l y ∧ x12 = x12 ∧ x13 = x13 ∧ Go.IntKind.u64.wrap ((↑y_2.q : Int) - (1 : Int)) = (↑y'.q : Int) ∧ Go.IntKind.u64.wrap ((↑y_2.r : Int) + x10) = (↑y'.r : Int) ∧ y'.q < y_2.q)) ∧ ((Decidable.decide ((↑y_2.q : Int) ≥ (4294967296 : Int)) || Decidable.decide (Go.IntKind.u64.wrap ((↑y_2.q : Int) * x11) > Go.IntKind.u64.wrap (Go.IntKind.u64.wrap ((4294967296 : Int) * (↑y_2.r : Int)) + x12))) = Bool.false → x10 ≠ (0 : Int) ∧ (∀ (y_3 : DivAt), Go.Sx.closedB (Go.Sx.slotsAt (135 : Nat) [((0 : Nat), Go.Sx.SV.one (Go.Sx.sI Go.IntKind.u64 h)), ((1 : Nat), Go.Sx.SV.one (Go.Sx.sI Go.IntKind.u64 l)), ((2 : Nat), Go.Sx.SV.one (Go.Sx.sI Go.IntKind.u64 (shY y))), ((8 : Nat), Go.Sx.SV.one (Go.Sx.sI Go.IntKind.u64 x4)), ((9 : Nat), Go.Sx.SV.one (Go.Sx.sI Go.IntKind.u64 x10)), ((10 : Nat), Go.Sx.SV.one (Go.Sx.sI Go.IntKind.u64 x11)), ((11 : Nat), Go.Sx.SV.one (Go.Sx.sI Go.IntKind.u64 (shU h l y))), ((12 : Nat), Go.Sx.SV.one (Go.Sx.sI Go.IntKind.u64 (shL l y))), ((13 : Nat), Go.Sx.SV.one (Go.Sx.sI Go.IntKind.u64 x12)), ((14 : Nat), Go.Sx.SV.one (Go.Sx.sI Go.IntKind.u64 x13)), ((15 : Nat), Go.Sx.SV.one (Go.Sx.sI Go.IntKind.u64 (dq1 h l y))), ((17 : Nat), Go.Sx.SV.one (Go.Sx.sI Go.IntKind.u64 (dV h l y))), ((18 : Nat), Go.Sx.SV.one (Go.Sx.sI Go.IntKind.u64 (↑y_3.q : Int))), ((16 : Nat), Go.Sx.SV.one (Go.Sx.sI Go.IntKind.u64 (↑y_3.r : Int))), ((6 : Nat), Go.Sx.SV.one (Go.Sx.SA.sc (Go.Sx.SC.num Go.IntKind.u64 (0 : Int)))), ((7 : Nat), Go.Sx.SV.one (Go.Sx.SA.sc (Go.Sx.SC.num Go.IntKind.u64 (0 : Int))))]) [] = Bool.true) ∧ ∃ (y_3 : DivAt), ((↑y_3.q : Int) * x10 + (↑y_3.r : Int) = dV h l y ∧ y_3.r < (4294967296 : Nat) ∧ (x18 + x13) / shY y ≤ (↑y_3.q : Int) ∧ y_3.q ≤ (4294967297 : Nat)) ∧ h = h ∧ l = l ∧ shY y = shY y ∧ x4 = x4 ∧ x10 = x10 ∧ x11 = x11 ∧ shU h l y = shU h l y ∧ shL l y = shL l y ∧ x12 = x12 ∧ x13 = x13 ∧ (↑y_2.q : Int) = dq1 h l y ∧ Go.IntKind.u64.wrap (Go.IntKind.u64.wrap (Go.IntKind.u64.wrap (Go.IntKind.u64.wrap x14 + x12) - Go.IntKind.u64.wrap ((↑y_2.q : Int) * shY y)) - Go.IntKind.u64.wrap (Go.IntKind.u64.wrap ((Go.IntKind.u64.wrap (Go.IntKind.u64.wrap (Go.IntKind.u64.wrap x14 + x12) - Go.IntKind.u64.wrap ((↑y_2.q : Int) * shY y))).tdiv x10) * x10)) = (↑y_3.r : Int) ∧ Go.IntKind.u64.wrap (Go.IntKind.u64.wrap (Go.IntKind.u64.wrap x14 + x12) - Go.IntKind.u64.wrap ((↑y_2.q : Int) * shY y)) = dV h l y ∧ Go.IntKind.u64.wrap ((Go.IntKind.u64.wrap (Go.IntKind.u64.wrap (Go.IntKind.u64.wrap x14 + x12) - Go.IntKind.u64.wrap ((↑y_2.q : Int) * shY y))).tdiv x10) = (↑y_3.q : Int) ∧ ∀ (y_4 : DivAt), (↑y_4.q : Int) * x10 + (↑y_4.r : Int) = dV h l y ∧ y_4.r < (4294967296 : Nat) ∧ (x18 + x13) / shY y ≤ (↑y_4.q : Int) ∧ y_4.q ≤ (4294967297 : Nat) → ((!Decidable.decide ((↑y_4.q : Int) ≥ (4294967296 : Int))) = Bool.true → (!Decidable.decide ((↑y_4.q : Int) ≥ (4294967296 : Int))) = Bool.true) ∧ ((!Decidable.decide ((↑y_4.q : Int) ≥ (4294967296 : Int))) = Bool.true → (!Decidable.decide ((↑y_4.q : Int) ≥ (4294967296 : Int))) = Bool.true) ∧ ((!Decidable.decide ((↑y_4.q : Int) ≥ (4294967296 : Int))) = Bool.true → (!Decidable.decide ((↑y_4.q : Int) ≥ (4294967296 : Int))) = Bool.true) ∧ ((!Decidable.decide ((↑y_4.q : Int) ≥ (4294967296 : Int))) = Bool.true → (!Decidable.decide ((↑y_4.q : Int) ≥ (4294967296 : Int))) = Bool.true) ∧ ((!Decidable.decide ((↑y_4.q : Int) ≥ (4294967296 : Int))) = Bool.true → (!Decidable.decide ((↑y_4.q : Int) ≥ (4294967296 : Int))) = Bool.true) ∧ ((!Decidable.decide ((↑y_4.q : Int) ≥ (4294967296 : Int))) = Bool.true → (!Decidable.decide ((↑y_4.q : Int) ≥ (4294967296 : Int))) = Bool.true) ∧ ((!Decidable.decide ((↑y_4.q : Int) ≥ (4294967296 : Int))) = Bool.true → (!Decidable.decide ((↑y_4.q : Int) ≥ (4294967296 : Int))) = Bool.true) ∧ (Decidable.decide ((↑y_4.q : Int) ≥ (4294967296 : Int)) = Bool.false → (!Decidable.decide ((↑y_4.q : Int) ≥ (4294967296 : Int))) = Bool.true) ∧ ((Decidable.decide ((↑y_4.q : Int) ≥ (4294967296 : Int)) || Decidable.decide (Go.IntKind.u64.wrap ((↑y_4.q : Int) * x11) > Go.IntKind.u64.wrap (Go.IntKind.u64.wrap ((4294967296 : Int) * (↑y_4.r : Int)) + x13))) = Bool.true → (Decidable.decide (Go.IntKind.u64.wrap ((↑y_4.r : Int) + x10) ≥ (4294967296 : Int)) = Bool.true → (0 : Int) ≤ x4 ∧ Go.IntKind.u64.wrap (Go.IntKind.u64.wrap (dq1 h l y * (4294967296 : Int)) + Go.IntKind.u64.wrap ((↑y_4.q : Int) - (1 : Int))) = x2 ∧ (Go.IntKind.u64.wrap (Go.IntKind.u64.wrap (Go.IntKind.u64.wrap x18 + x13) - Go.IntKind.u64.wrap (Go.IntKind.u64.wrap ((↑y_4.q : Int) - (1 : Int)) * shY y))).fdiv x19 = x3) ∧ (Decidable.decide (Go.IntKind.u64.wrap ((↑y_4.r : Int) + x10) ≥ (4294967296 : Int)) = Bool.false → ∃ (y' : DivAt), ((↑y'.q : Int) * x10 + (↑y'.r : Int) = dV h l y ∧ y'.r < (4294967296 : Nat) ∧ (x18 + x13) / shY y ≤ (↑y'.q : Int) ∧ y'.q ≤ (4294967297 : Nat)) ∧ h = h ∧ l = l ∧ shY y = shY y ∧ x4 = x4 ∧ x10 = x10 ∧ x11 = x11 ∧ shU h l y = shU h l y ∧ shL l y = shL l y ∧ x12 = x12 ∧ x13 = x13 ∧ dq1 h l y = dq1 h l y ∧ Go.IntKind.u64.wrap ((↑y_4.r : Int) + x10) = (↑y'.r : Int) ∧ dV h l y = dV h l y ∧ Go.IntKind.u64.wrap ((↑y_4.q : Int) - (1 : Int)) = (↑y'.q : Int) ∧ y'.q < y_4.q)) ∧ ((Decidable.decide ((↑y_4.q : Int) ≥ (4294967296 : Int)) || Decidable.decide (Go.IntKind.u64.wrap ((↑y_4.q : Int) * x11) > Go.IntKind.u64.wrap (Go.IntKind.u64.wrap ((4294967296 : Int) * (↑y_4.r : Int)) + x13))) = Bool.false → (0 : Int) ≤ x4 ∧ Go.IntKind.u64.wrap (Go.IntKind.u64.wrap (dq1 h l y * (4294967296 : Int)) + (↑y_4.q : Int)) = x2 ∧ (Go.IntKind.u64.wrap (Go.IntKind.u64.wrap (Go.IntKind.u64.wrap x18 + x13) - Go.IntKind.u64.wrap ((↑y_4.q : Int) * shY y))).fdiv x19 = x3)))))) := by kernel_rfl
-- END VC

end Go.Proofs.YtbfcccoeekonlaaGreatDoor
end

section
/-
  More shapes of cards: a number and a word under a condition; a text.
-/
namespace Go.Sx
open Go.RowKit

end Go.Sx
end

section
/-
  More shapes of cards: two numbers under a condition; a number and an int; a number, a word and a number.
-/
namespace Go.Sx
open Go.RowKit

theorem bnd_sU (a : Nat) : SA.bnd none0 (sU a) := by
  intro k hk; simp only [List.mem_singleton] at hk; subst hk; trivial
/-- A number of 256 bits, and an int, under a condition. -/
def specUJ (c : Nat → Int → List Prop) (g : Nat → Int → SV) : FSpec := fun args =>
  match args with
  | [x, y] => match asU x, asI y with
    | some (p, a), some (.i64, n) => some (p ++ c a n, g a n)
    | _, _ => none
  | _ => none
theorem FnOK_UJ {P : Program} {cx : Cx} (hcx : CxOK P cx) {iv : Nat → Int → List (Nat × Hint)} {N : Nat} {f : Nat} {fn : Func} (hf : P.funcs[f]? = some fn) (hb : fn.body.isSome = true) (hn : (fn.name == "runtime.NumGoroutine") = false) {c : Nat → Int → List Prop} {g : Nat → Int → SV} (hg : ∀ a n, (g a n).bnd none0)
    (h : ∀ a n, Ok (c a n) → Owes P cx (iv a n) N fn [sU a, sI .i64 n] (g a n)) : FnOKg P cx.gl f (specUJ c g) := by
  refine FnOK_of hf hb hn fun args ps sv hs hp => ?_
  unfold specUJ at hs
  split at hs
  · rename_i x y
    split at hs
    · rename_i p a n ha hn'
      simp only [Option.some.injEq, Prod.mk.injEq] at hs
      obtain ⟨rfl, rfl⟩ := hs
      obtain ⟨o1, o2⟩ := Ok.append.1 hp
      refine ⟨hg a n, fun ρ w hzz hgg _ => ?_⟩
      rw [show [x, y].map (SA.conc ρ) = [sU a, sI .i64 n].map (SA.conc ρ) by simp only [List.map_cons, List.map_nil, asU_canon ha o1 ρ, asI_canon hn' ρ]]
      refine (calls_of_owes0 hcx hf hb (args := [sU a, sI .i64 n]) (by
        intro z hz
        simp only [List.mem_cons, List.not_mem_nil, or_false] at hz
        rcases hz with rfl | rfl
        · exact bnd_sU _
        · trivial) (h a n o2) ρ w hzz hgg).mono ?_
      rintro e w' ⟨v, rfl, ⟨ρ', hr⟩, hbl⟩
      exact ⟨v, rfl, rep_none0 (hg a n) hr, hbl⟩
    · cases hs
  · cases hs
/-- Two numbers of 256 bits, under a condition. -/
def specUUC (c : Nat → Nat → List Prop) (g : Nat → Nat → SV) : FSpec := fun args =>
  match args with
  | [x, y] => match asU x, asU y with
    | some (p, a), some (q, b) => some ((p ++ q) ++ c a b, g a b)
    | _, _ => none
  | _ => none
theorem FnOK_UUC {P : Program} {cx : Cx} (hcx : CxOK P cx) {iv : Nat → Nat → List (Nat × Hint)} {N : Nat} {f : Nat} {fn : Func} (hf : P.funcs[f]? = some fn) (hb : fn.body.isSome = true) (hn : (fn.name == "runtime.NumGoroutine") = false) {c : Nat → Nat → List Prop} {g : Nat → Nat → SV} (hg : ∀ a b, (g a b).bnd none0)
    (h : ∀ a b, Ok (c a b) → Owes P cx (iv a b) N fn [sU a, sU b] (g a b)) : FnOKg P cx.gl f (specUUC c g) := by
  refine FnOK_of hf hb hn fun args ps sv hs hp => ?_
  unfold specUUC at hs
  split at hs
  · rename_i x y
    split at hs
    · rename_i p a q b ha hb'
      simp only [Option.some.injEq, Prod.mk.injEq] at hs
      obtain ⟨rfl, rfl⟩ := hs
      obtain ⟨o12, o3⟩ := Ok.append.1 hp
      obtain ⟨o1, o2⟩ := Ok.append.1 o12
      refine ⟨hg a b, fun ρ w hzz hgg _ => ?_⟩
      rw [show [x, y].map (SA.conc ρ) = [sU a, sU b].map (SA.conc ρ) by simp only [List.map_cons, List.map_nil, asU_canon ha o1 ρ, asU_canon hb' o2 ρ]]
      refine (calls_of_owes0 hcx hf hb (args := [sU a, sU b]) (by
        intro z hz
        simp only [List.mem_cons, List.not_mem_nil, or_false] at hz
        rcases hz with rfl | rfl <;> exact bnd_sU _) (h a b o3) ρ w hzz hgg).mono ?_
      rintro e w' ⟨v, rfl, ⟨ρ', hr⟩, hbl⟩
      exact ⟨v, rfl, rep_none0 (hg a b) hr, hbl⟩
    · cases hs
  · cases hs
/-- A number, a word, a number, under a condition. -/
def specUWU (c : Nat → Int → Nat → List Prop) (g : Nat → Int → Nat → SV) : FSpec := fun args =>
  match args with
  | [x, y, z] => match asU x, asI y, asU z with
    | some (p, a), some (.u64, n), some (q, b) => some ((p ++ q) ++ c a n b, g a n b)
    | _, _, _ => none
  | _ => none
theorem FnOK_UWU {P : Program} {cx : Cx} (hcx : CxOK P cx) {iv : Nat → Int → Nat → List (Nat × Hint)} {N : Nat} {f : Nat} {fn : Func} (hf : P.funcs[f]? = some fn) (hb : fn.body.isSome = true) (hn : (fn.name == "runtime.NumGoroutine") = false) {c : Nat → Int → Nat → List Prop} {g : Nat → Int → Nat → SV} (hg : ∀ a n b, (g a n b).bnd none0)
    (h : ∀ a n b, Ok (c a n b) → Owes P cx (iv a n b) N fn [sU a, sI .u64 n, sU b] (g a n b)) : FnOKg P cx.gl f (specUWU c g) := by
  refine FnOK_of hf hb hn fun args ps sv hs hp => ?_
  unfold specUWU at hs
  split at hs
  · rename_i x y z
    split at hs
    · rename_i p a n q b ha hn' hb'
      simp only [Option.some.injEq, Prod.mk.injEq] at hs
      obtain ⟨rfl, rfl⟩ := hs
      obtain ⟨o12, o3⟩ := Ok.append.1 hp
      obtain ⟨o1, o2⟩ := Ok.append.1 o12
      refine ⟨hg a n b, fun ρ w hzz hgg _ => ?_⟩
      rw [show [x, y, z].map (SA.conc ρ) = [sU a, sI .u64 n, sU b].map (SA.conc ρ) by simp only [List.map_cons, List.map_nil, asU_canon ha o1 ρ, asI_canon hn' ρ, asU_canon hb' o2 ρ]]
      refine (calls_of_owes0 hcx hf hb (args := [sU a, sI .u64 n, sU b]) (by
        intro z hz
        simp only [List.mem_cons, List.not_mem_nil, or_false] at hz
        rcases hz with rfl | rfl | rfl
        · exact bnd_sU _
        · trivial
        · exact bnd_sU _) (h a n b o3) ρ w hzz hgg).mono ?_
      rintro e w' ⟨v, rfl, ⟨ρ', hr⟩, hbl⟩
      exact ⟨v, rfl, rep_none0 (hg a n b) hr, hbl⟩
    · cases hs
  · cases hs
end Go.Sx
end
