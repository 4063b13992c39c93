/-
  A calculus of symbolic states for walks over translated Go code, part 12: what is said of functions.
-/
import Derived.Test.YtbkdokofapbagaaSx11
namespace Go.Sx
open Go.RowKit

/-- A number of 256 bits as a symbolic value; a whole number; a bool. -/
abbrev sU (n : Nat) : SA := .agg [.u n]
abbrev sI (k : IntKind) (n : Int) : SA := .sc (.val (.int k n))
abbrev sB (b : Bool) : SA := .sc (.val (.bool b))

/-- Of two numbers. -/
def specUU (f : Nat → Nat → SV) : FSpec := fun args =>
  match args with
  | [x, y] => match asU x, asU y with
    | some (p, a), some (q, b) => some (p ++ q, f a b)
    | _, _ => none
  | _ => none

theorem FnOK_of {P : Program} {f : Nat} {fn : Func} (hf : P.funcs[f]? = some fn) (hb : fn.body.isSome = true) (hn : (fn.name == "runtime.NumGoroutine") = false) {s : FSpec}
    (h : ∀ args ps sv, s args = some (ps, sv) → Ok ps → sv.bnd none0 ∧ ∀ (ρ : Nat → Nat) (w : World), Calls P f (args.map (SA.conc ρ)).toArray w fun e w' => ∃ v, e = .returned v ∧ sv.rep ρ v ∧ Below w.heap.size w w') : FnOK P f s :=
  fun args ps sv hs hp => ⟨(h args ps sv hs hp).1, fun ρ w => .inl ⟨run_callFunc_enter hf hb hn _ w, (h args ps sv hs hp).2 ρ w⟩⟩

/-- What a function's text comes to at such arguments: the sentence that is owed. -/
def Owes (P : Program) (cx : Cx) (iv : List (Nat × Hint)) (N : Nat) (fn : Func) (args : List SA) (out : SV) : Prop :=
  sx P cx (inlD P cx drawOK iv N 8) drawOK iv N 0 0 (fn.body.getD .skip) (slots0 args fn.ntmps) [] (ret P fn.results.toList fun sv _ => same sv out)

theorem calls_of_owes {P : Program} {cx : Cx} (hcx : CxOK P cx) {iv : List (Nat × Hint)} {N : Nat} {f : FuncId} {fn : Func} (hf : P.funcs[f]? = some fn) (hb : fn.body.isSome = true) {args : List SA} (hargs : ∀ x ∈ args, x.bnd none0) {out : SV}
    (h : Owes P cx iv N fn args out) (ρ : Nat → Nat) (w : World) : Calls P f (args.map (SA.conc ρ)).toArray w fun e w' => ∃ v, e = .returned v ∧ (∃ ρ', out.rep ρ' v) ∧ Below w.heap.size w w' := by
  obtain ⟨c, hc⟩ := Option.isSome_iff_exists.1 hb
  unfold Owes at h
  rw [hc] at h
  exact calls_of_sx hcx (inlD_ok hcx (drawOK_ok hcx) iv N 8) (drawOK_ok hcx) iv N 0 hf hc (Z := w) (ob := []) args (fun x hx => SA.bnd_mono none0_le (hargs x hx)) ρ w (Below.refl _ _) ⟨fun i e ks sp hi => by simp at hi, fun i j e ks sp e' ks' sp' hi => by simp at hi⟩ _ (fun sv ob' ρ' v w' hp hr _ hb _ _ => ⟨v, rfl, ⟨ρ', same_sound hp ρ' v hr⟩, hb⟩) h
theorem rep_none0 {s : SV} (h : s.bnd none0) {ρ ρ' : Nat → Nat} {v : Value} (hr : s.rep ρ v) : s.rep ρ' v := Agree.sv (n := none0) (fun _ hi => hi.elim) h hr

/-- A function's card, by its sentence. 'rd': what stands for the arguments. -/
theorem FnOK_owes {P : Program} {cx : Cx} (hcx : CxOK P cx) {iv : List (Nat × Hint)} {N : Nat} {f : Nat} {fn : Func} (hf : P.funcs[f]? = some fn) (hb : fn.body.isSome = true) (hn : (fn.name == "runtime.NumGoroutine") = false) {s : FSpec}
    (h : ∀ args ps sv, s args = some (ps, sv) → Ok ps → ∃ args', (∀ ρ, args.map (SA.conc ρ) = args'.map (SA.conc ρ)) ∧ (∀ x ∈ args', x.bnd none0) ∧ sv.bnd none0 ∧ Owes P cx iv N fn args' sv) : FnOK P f s :=
  FnOK_of hf hb hn fun args ps sv hs hp => by
    obtain ⟨args', h1, h2, h3, h4⟩ := h args ps sv hs hp
    refine ⟨h3, fun ρ w => ?_⟩
    rw [h1]
    refine (calls_of_owes hcx hf hb h2 h4 ρ w).mono ?_
    rintro e w' ⟨v, rfl, ⟨ρ', hr⟩, hbl⟩
    exact ⟨v, rfl, rep_none0 h3 hr, hbl⟩

/-! ## Cards by what the arguments are -/

theorem asU_canon {x : SA} {p : List Prop} {a : Nat} (h : asU x = some (p, a)) (hp : Ok p) (ρ : Nat → Nat) : x.conc ρ = (sU a).conc ρ := asU_sound h hp ρ

theorem FnOK_UU {P : Program} {cx : Cx} (hcx : CxOK P cx) {iv : List (Nat × Hint)} {N : Nat} {f : Nat} {fn : Func} (hf : P.funcs[f]? = some fn) (hb : fn.body.isSome = true) (hn : (fn.name == "runtime.NumGoroutine") = false) {g : Nat → Nat → SV} (hg : ∀ a b, (g a b).bnd none0)
    (h : ∀ a b, Owes P cx iv N fn [sU a, sU b] (g a b)) : FnOK P f (specUU g) := by
  refine FnOK_owes (iv := iv) (N := N) hcx hf hb hn fun args ps sv hs hp => ?_
  unfold specUU at hs
  split at hs
  · rename_i x y
    split at hs
    · rename_i p a q b ha hb'
      simp only [Option.some.injEq, Prod.mk.injEq] at hs
      obtain ⟨rfl, rfl⟩ := hs
      obtain ⟨o1, o2⟩ := Ok.append.1 hp
      refine ⟨_, fun ρ => by simp only [List.map_cons, List.map_nil, asU_canon ha o1 ρ, asU_canon hb' o2 ρ], ?_, hg a b, h a b⟩
      intro z hz
      simp only [List.mem_cons, List.not_mem_nil, or_false] at hz
      rcases hz with rfl | rfl <;> (intro k hk; simp only [List.mem_singleton] at hk; subst hk; trivial)
    · cases hs
  · cases hs

attribute [irreducible] Owes
end Go.Sx
