/-
  A calculus of symbolic states for walks over translated Go code, part 12: what is said of functions.
-/
import Derived.Test.YtdcnlghfgkkcoabSx11
namespace Go.Sx
open Go.RowKit

/-- A number of 256 bits, read. -/
def asU : SA → Option (List Prop × Nat)
  | .agg [.u n] => some ([], n)
  | .agg [.c (.num .u64 a), .c (.num .u64 b), .c (.num .u64 c), .c (.num .u64 d)] => if okLit a && okLit b && okLit c && okLit d then some ([], join a b c d) else none
  | .agg [.c a, .c b, .c c, .c d] =>
    match asI (.sc a), asI (.sc b), asI (.sc c), asI (.sc d) with
    | some (.u64, a), some (.u64, b), some (.u64, c), some (.u64, d) => some ([0 ≤ a ∧ a < 2 ^ 64, 0 ≤ b ∧ b < 2 ^ 64, 0 ≤ c ∧ c < 2 ^ 64, 0 ≤ d ∧ d < 2 ^ 64], join a b c d)
    | _, _, _, _ => none
  | _ => none
theorem asU_sound {x : SA} {ps : List Prop} {n : Nat} (h : asU x = some (ps, n)) (hp : Ok ps) (ρ : Nat → Nat) : x.conc ρ = U n := by
  unfold asU at h
  split at h
  · simp only [Option.some.injEq, Prod.mk.injEq] at h; obtain ⟨_, rfl⟩ := h; rfl
  · rename_i a b c d
    split at h
    · rename_i hl
      simp only [Option.some.injEq, Prod.mk.injEq] at h
      obtain ⟨_, rfl⟩ := h
      simp only [Bool.and_eq_true] at hl
      obtain ⟨⟨⟨ha, hb⟩, hc⟩, hd⟩ := hl
      rw [U_join (okLit_iff ha) (okLit_iff hb) (okLit_iff hc) (okLit_iff hd)]; rfl
    · cases h
  · split at h
    · rename_i ha hb hc hd
      simp only [Option.some.injEq, Prod.mk.injEq] at h
      obtain ⟨rfl, rfl⟩ := h
      obtain ⟨h1, h2, h3, h4, _⟩ := hp
      rw [U_join h1 h2 h3 h4]
      have e1 := asI_sound ha ρ; have e2 := asI_sound hb ρ; have e3 := asI_sound hc ρ; have e4 := asI_sound hd ρ
      simp only [SA.conc] at e1 e2 e3 e4
      simp [SA.conc, concs, flat, SK.cells, e1, e2, e3, e4]
    · cases h
  · cases h

/-- A number of 256 bits as a symbolic value; a whole number; a bool. -/
abbrev sU (n : Nat) : SA := .agg [.u n]
abbrev sI (k : IntKind) (n : Int) : SA := .sc (.val (.int k n))
abbrev sB (b : Bool) : SA := .sc (.val (.bool b))

/-- Of two numbers. -/
def specUU (f : Nat → Nat → SV) : FSpec := fun args =>
  match args with
  | [x, y] => match asU x, asU y with
    | some (p, a), some (q, b) => some (p ++ q, f a b)
    | _, _ => none
  | _ => none

/-- A function with a body is entered. -/
theorem run_callFunc_enter {P : Program} {f : Nat} {fn : Func} (hf : P.funcs[f]? = some fn) (hb : fn.body.isSome = true) (hn : (fn.name == "runtime.NumGoroutine") = false) (args : Array Value) (w : World) : (callFunc f args).run P w = .ok (.enter f args) w := by
  have hb' : fn.body.isNone = false := by cases h : fn.body <;> simp [h] at hb ⊢
  unfold callFunc
  rw [Sem.run_bind, run_program, Result.andThen_ok]
  simp only [hf, hn, hb', Bool.false_eq_true, if_false, Sem.run_pure]

theorem FnOK_of {P : Program} {f : Nat} {fn : Func} (hf : P.funcs[f]? = some fn) (hb : fn.body.isSome = true) (hn : (fn.name == "runtime.NumGoroutine") = false) {s : FSpec}
    (h : ∀ args ps sv, s args = some (ps, sv) → Ok ps → sv.bnd none0 ∧ ∀ (ρ : Nat → Nat) (w : World), Calls P f (args.map (SA.conc ρ)).toArray w fun e w' => ∃ v, e = .returned v ∧ sv.rep ρ v ∧ Below w.heap.size w w') : FnOK P f s :=
  fun args ps sv hs hp => ⟨(h args ps sv hs hp).1, fun ρ w => .inl ⟨run_callFunc_enter hf hb hn _ w, (h args ps sv hs hp).2 ρ w⟩⟩

/-- What has come out says what was to come out: as plain sentences on numbers. -/
def sameV : Value → Value → Prop
  | .int .u64 a, .int .u64 b | .int .i64 a, .int .i64 b | .int .u8 a, .int .u8 b | .int .i32 a, .int .i32 b => a = b
  | .bool a, .bool b => a = b
  | .string a, .string b => a = b
  | v, w => v = w
def sameC (x y : SC) : Prop :=
  match asV (.sc x), asV (.sc y) with
  | some v, some w => sameV v w
  | _, _ => False
def sameK : List SK → List SK → Prop
  | [], [] => True
  | .u a :: r, .u b :: r' => a % M256 = b % M256 ∧ sameK r r'
  | .c a :: .c b :: .c c :: .c d :: r, .u n :: r' =>
    match asU (.agg [.c a, .c b, .c c, .c d]) with
    | some (ps, m) => ands ps (m % M256 = n % M256 ∧ sameK r r')
    | none => False
  | .u n :: r, .c a :: .c b :: .c c :: .c d :: r' =>
    match asU (.agg [.c a, .c b, .c c, .c d]) with
    | some (ps, m) => ands ps (n % M256 = m % M256 ∧ sameK r r')
    | none => False
  | .c x :: r, .c y :: r' => sameC x y ∧ sameK r r'
  | _, _ => False
def sameA : SA → SA → Prop
  | .sc x, .sc y => sameC x y
  | .agg ks, .agg ks' => sameK ks ks'
  | _, _ => False
def sameL : List SA → List SA → Prop
  | [], [] => True
  | [x], [y] => sameA x y
  | x :: r, y :: r' => sameA x y ∧ sameL r r'
  | _, _ => False
def same : SV → SV → Prop
  | .one x, .one y => sameA x y
  | .tup xs, .tup ys => sameL xs ys
  | _, _ => False

theorem sameV_sound {v w : Value} (h : sameV v w) : v = w := by
  unfold sameV at h
  split at h <;> first | (rw [h]; done) | exact h
theorem sameC_sound {x y : SC} (h : sameC x y) (ρ : Nat → Nat) : x.conc ρ = y.conc ρ := by
  unfold sameC at h
  split at h
  · rename_i v w hv hw
    have h1 := asV_sound hv ρ
    have h2 := asV_sound hw ρ
    simp only [SA.conc] at h1 h2
    rw [h1, h2]; exact sameV_sound h
  · exact h.elim
theorem concs_cons (ρ : Nat → Nat) (k : SK) (r : List SK) : concs ρ (k :: r) = concs ρ [k] ++ concs ρ r := by simp [concs, flat]
theorem concs_u (ρ : Nat → Nat) (n : Nat) : concs ρ [.u n] = [.int .u64 (limb n 0), .int .u64 (limb n 1), .int .u64 (limb n 2), .int .u64 (limb n 3)] := rfl
theorem asU_concs {ks : List SK} {ps : List Prop} {n : Nat} (h : asU (.agg ks) = some (ps, n)) (hp : Ok ps) (ρ : Nat → Nat) : concs ρ ks = concs ρ [.u n] := by
  have := asU_sound h hp ρ
  simp only [SA.conc, U, Value.agg.injEq] at this
  rw [concs_u]
  have e := congrArg Array.toList this
  simpa using e
theorem concs_u_congr {a b : Nat} (h : a % M256 = b % M256) (ρ : Nat → Nat) : concs ρ [.u a] = concs ρ [.u b] := by
  obtain ⟨h0, h1, h2, h3⟩ := limbs_eq.1 h
  rw [concs_u, concs_u, h0, h1, h2, h3]
theorem sameK_sound (ρ : Nat → Nat) (xs ys : List SK) : sameK xs ys → concs ρ xs = concs ρ ys := by
  induction xs, ys using sameK.induct with
  | case1 => intro _; rfl
  | case2 a r b r' ih =>
    intro h
    simp only [sameK] at h
    rw [concs_cons, concs_cons ρ (.u b), concs_u_congr h.1, ih h.2]
  | case3 a b c d r n r' ps m hm ih =>
    intro h
    simp only [sameK, hm] at h
    obtain ⟨hp, h1, h2⟩ := ands_iff.1 h
    have := asU_concs hm hp ρ
    rw [concs_cons ρ (.u n), ← concs_u_congr h1, ← this, ← ih h2]
    simp [concs, flat]
  | case4 a b c d r n r' hm =>
    intro h
    simp only [sameK, hm] at h
  | case5 n r a b c d r' ps m hm ih =>
    intro h
    simp only [sameK, hm] at h
    obtain ⟨hp, h1, h2⟩ := ands_iff.1 h
    have := asU_concs hm hp ρ
    rw [concs_cons ρ (.u n), concs_u_congr h1, ← this, ih h2]
    simp [concs, flat]
  | case6 n r a b c d r' hm =>
    intro h
    simp only [sameK, hm] at h
  | case7 x r y r' ih =>
    intro h
    simp only [sameK] at h
    rw [concs_cons, concs_cons ρ (.c y), ih h.2]
    simp [concs, flat, SK.cells, sameC_sound h.1 ρ]
  | case8 xs ys h1 h2 h3 h4 h5 =>
    intro h
    rw [sameK] at h <;> first | exact h.elim | assumption
theorem sameA_sound (ρ : Nat → Nat) {x y : SA} (h : sameA x y) : x.conc ρ = y.conc ρ := by
  unfold sameA at h
  split at h
  · exact sameC_sound h ρ
  · simp only [SA.conc, sameK_sound ρ _ _ h]
  · exact h.elim
theorem sameL_sound (ρ : Nat → Nat) : ∀ {xs ys : List SA}, sameL xs ys → xs.map (SA.conc ρ) = ys.map (SA.conc ρ)
  | [], [], _ => rfl
  | [x], [y], h => by simp only [sameL] at h; simp [sameA_sound ρ h]
  | x :: x' :: r, y :: y' :: r', h => by
    simp only [sameL] at h
    rw [List.map_cons, sameA_sound ρ h.1, sameL_sound ρ (ys := y' :: r') h.2]; rfl
  | [x], y :: y' :: r', h => by simp only [sameL] at h; cases r' <;> simp at h
  | x :: x' :: r, [y], h => by simp only [sameL] at h; cases r <;> simp at h
  | [], _ :: _, h => by simp [sameL] at h
  | _ :: _, [], h => by simp [sameL] at h
theorem same_sound {s s' : SV} (h : same s s') (ρ : Nat → Nat) (v : Value) (hr : s.rep ρ v) : s'.rep ρ v := by
  unfold same at h
  split at h
  · simp only [SV.rep] at hr ⊢; rw [hr, sameA_sound ρ h]
  · simp only [SV.rep] at hr ⊢; rw [hr, sameL_sound ρ h]
  · exact h.elim

/-- What a function's text comes to at such arguments: the sentence that is owed. -/
def Owes (P : Program) (cx : Cx) (iv : List (Nat × Inv)) (N : Nat) (fn : Func) (args : List SA) (out : SV) : Prop :=
  sx P cx drawOK iv N (fn.body.getD .skip) (slots0 args fn.ntmps) [] (ret P fn.results.toList fun sv => same sv out)

theorem calls_of_owes {P : Program} {cx : Cx} (hcx : CxOK P cx) {iv : List (Nat × Inv)} {N : Nat} {f : FuncId} {fn : Func} (hf : P.funcs[f]? = some fn) (hb : fn.body.isSome = true) {args : List SA} (hargs : ∀ x ∈ args, x.bnd none0) {out : SV}
    (h : Owes P cx iv N fn args out) (ρ : Nat → Nat) (w : World) : Calls P f (args.map (SA.conc ρ)).toArray w fun e w' => ∃ v, e = .returned v ∧ (∃ ρ', out.rep ρ' v) ∧ Below w.heap.size w w' := by
  obtain ⟨c, hc⟩ := Option.isSome_iff_exists.1 hb
  unfold Owes at h
  rw [hc] at h
  exact calls_of_sx hcx (drawOK_ok hcx) iv N hf hc args hargs ρ w _ (fun sv ρ' v w' hp hr hb => ⟨v, rfl, ⟨ρ', same_sound hp ρ' v hr⟩, hb⟩) h
theorem rep_none0 {s : SV} (h : s.bnd none0) {ρ ρ' : Nat → Nat} {v : Value} (hr : s.rep ρ v) : s.rep ρ' v := Agree.sv (n := none0) (fun _ hi => hi.elim) h hr

/-- A function's card, by its sentence. 'rd': what stands for the arguments. -/
theorem FnOK_owes {P : Program} {cx : Cx} (hcx : CxOK P cx) {iv : List (Nat × Inv)} {N : Nat} {f : Nat} {fn : Func} (hf : P.funcs[f]? = some fn) (hb : fn.body.isSome = true) (hn : (fn.name == "runtime.NumGoroutine") = false) {s : FSpec}
    (h : ∀ args ps sv, s args = some (ps, sv) → Ok ps → ∃ args', (∀ ρ, args.map (SA.conc ρ) = args'.map (SA.conc ρ)) ∧ (∀ x ∈ args', x.bnd none0) ∧ sv.bnd none0 ∧ Owes P cx iv N fn args' sv) : FnOK P f s :=
  FnOK_of hf hb hn fun args ps sv hs hp => by
    obtain ⟨args', h1, h2, h3, h4⟩ := h args ps sv hs hp
    refine ⟨h3, fun ρ w => ?_⟩
    rw [h1]
    refine (calls_of_owes hcx hf hb h2 h4 ρ w).mono ?_
    rintro e w' ⟨v, rfl, ⟨ρ', hr⟩, hbl⟩
    exact ⟨v, rfl, rep_none0 h3 hr, hbl⟩

/-! ## Cards by what the arguments are -/

theorem asU_canon {x : SA} {p : List Prop} {a : Nat} (h : asU x = some (p, a)) (hp : Ok p) (ρ : Nat → Nat) : x.conc ρ = (sU a).conc ρ := asU_sound h hp ρ

theorem FnOK_UU {P : Program} {cx : Cx} (hcx : CxOK P cx) {iv : List (Nat × Inv)} {N : Nat} {f : Nat} {fn : Func} (hf : P.funcs[f]? = some fn) (hb : fn.body.isSome = true) (hn : (fn.name == "runtime.NumGoroutine") = false) {g : Nat → Nat → SV} (hg : ∀ a b, (g a b).bnd none0)
    (h : ∀ a b, Owes P cx iv N fn [sU a, sU b] (g a b)) : FnOK P f (specUU g) := by
  refine FnOK_owes (iv := iv) (N := N) hcx hf hb hn fun args ps sv hs hp => ?_
  unfold specUU at hs
  split at hs
  · rename_i x y
    split at hs
    · rename_i p a q b ha hb'
      simp only [Option.some.injEq, Prod.mk.injEq] at hs
      obtain ⟨rfl, rfl⟩ := hs
      obtain ⟨o1, o2⟩ := Ok.append.1 hp
      refine ⟨_, fun ρ => by simp only [List.map_cons, List.map_nil, asU_canon ha o1 ρ, asU_canon hb' o2 ρ], ?_, hg a b, h a b⟩
      intro z hz
      simp only [List.mem_cons, List.not_mem_nil, or_false] at hz
      rcases hz with rfl | rfl <;> (intro k hk; simp only [List.mem_singleton] at hk; subst hk; trivial)
    · cases hs
  · cases hs

attribute [irreducible] Owes
end Go.Sx
