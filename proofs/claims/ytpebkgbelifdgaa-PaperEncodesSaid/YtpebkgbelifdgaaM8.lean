/-
  Texts: Wsp, Wsp2, Wsp3, Wsp4, Wsp6, Wsp5, Wsp7, Wsp8, V90, P140, V92, P141, V93, V1, V2, V4, P1, P2, P3, P4, P5, P6, P7, Lift, C1, C2, P9, Sx15.
-/
import Derived.Test.YtpebkgbelifdgaaM1
import Derived.Test.YtpebkgbelifdgaaM2
import Derived.Test.YtpebkgbelifdgaaM3
import Derived.Test.YtpebkgbelifdgaaM4
import Derived.Test.YtpebkgbelifdgaaM5
import Derived.Test.YtpebkgbelifdgaaM6
import Derived.Test.YtpebkgbelifdgaaM7
import Derived.Test.YtpebkgbelifdgaaChecked
import Derived.Test.YtpebkgbelifdgaaRows
import Derived.Lib.Mul64
import Derived.ProofKit
import Derived.OpenShut
section
namespace Go.Sx
open Go.RowKit
theorem asI_canon {x : SA} {k : IntKind} {n : Int} (h : asI x = some (k, n)) (ρ : Rho) : x.conc ρ = (sI k n).conc ρ := asI_sound h ρ
def specU (g : Nat → SV) : FSpec := fun args =>
  match args with
  | [x] => match asU x with
    | some (p, a) => some (p, g a)
    | none => none
  | _ => none
theorem FnOK_U {P : Program} {cx : Cx} (hcx : CxOK P cx) {iv : List (Nat × Hint)} {N : Nat} {f : Nat} {fn : Func} (hf : P.funcs[f]? = some fn) (hb : fn.body.isSome = true) (hn : (fn.name == "runtime.NumGoroutine") = false) {g : Nat → SV} (hg : ∀ a, (g a).bnd none0)
    (h : ∀ a, Owes P cx iv N fn [sU a] (g a)) : FnOKg P cx.gl f (specU g) := by
  refine FnOK_owes (iv := iv) (N := N) hcx hf hb hn fun args ps sv hs hp => ?_
  unfold specU at hs
  split at hs
  · rename_i x
    split at hs
    · rename_i p a ha
      simp only [Option.some.injEq, Prod.mk.injEq] at hs
      obtain ⟨rfl, rfl⟩ := hs
      refine ⟨[sU a], fun ρ => by simp only [List.map_cons, List.map_nil, asU_canon ha hp ρ], ?_, hg a, h a⟩
      intro z hz
      simp only [List.mem_singleton] at hz
      subst hz
      intro k hk; simp only [List.mem_singleton] at hk; subst hk; trivial
    · cases hs
  · cases hs
def specII (c : Int → Int → List Prop) (g : Int → Int → SV) : FSpec := fun args =>
  match args with
  | [x, y] => match asI x, asI y with
    | some (.i64, a), some (.i64, b) => some (c a b, g a b)
    | _, _ => none
  | _ => none
theorem FnOK_II {P : Program} {cx : Cx} (hcx : CxOK P cx) {iv : List (Nat × Hint)} {N : Nat} {f : Nat} {fn : Func} (hf : P.funcs[f]? = some fn) (hb : fn.body.isSome = true) (hn : (fn.name == "runtime.NumGoroutine") = false) {c : Int → Int → List Prop} {g : Int → Int → SV} (hg : ∀ a b, (g a b).bnd none0)
    (h : ∀ a b, Ok (c a b) → Owes P cx iv N fn [sI .i64 a, sI .i64 b] (g a b)) : FnOKg P cx.gl f (specII c g) := by
  refine FnOK_owes (iv := iv) (N := N) hcx hf hb hn fun args ps sv hs hp => ?_
  unfold specII at hs
  split at hs
  · rename_i x y
    split at hs
    · rename_i a b ha hb'
      simp only [Option.some.injEq, Prod.mk.injEq] at hs
      obtain ⟨rfl, rfl⟩ := hs
      refine ⟨[sI .i64 a, sI .i64 b], fun ρ => by simp only [List.map_cons, List.map_nil, asI_canon ha ρ, asI_canon hb' ρ], ?_, hg a b, h a b hp⟩
      intro z hz
      simp only [List.mem_cons, List.not_mem_nil, or_false] at hz
      rcases hz with rfl | rfl <;> trivial
    · cases hs
  · cases hs
def lookS : List (Nat × SV) → Nat → SV
  | [], _ => .any
  | (k, v) :: r, t => match Nat.beq k t with
    | true => v
    | false => lookS r t
def slotsAt (n : Nat) (l : List (Nat × SV)) : List SV := (List.range n).map (lookS l)
abbrev sBy (n : Nat) (g : Nat → Int) : SA := .agg [.f .u8 n g]
def yes : SV := .one (sB true)
def by8 (a : Nat) (i : Nat) : Int := ((a / 2 ^ (8 * i) % 256 : Nat) : Int)
def bytesG (a : Nat) : SV := .one (sBy 32 fun j => by8 a (31 - j))
end Go.Sx
end

section
namespace Go.Sx
open Go.RowKit
def sStr (s : ByteArray) : SA := .sc (.val (.string s))
end Go.Sx
end

section
namespace Go.Sx
open Go.RowKit
end Go.Sx
end

section
namespace Go.Sx
open Go.RowKit
end Go.Sx
end

section
namespace Go.Sx
open Go.RowKit
section
variable {P : Program} {cx : Cx} {sl : List (Nat × SSpec)} {f : Nat} {fn : Func}
end
end Go.Sx
end

section
namespace Go.Sx
open Go.RowKit
def asBit : SC → Option Bool
  | .bit x => some x
  | .val (.bool x) => some x
  | _ => none
theorem asBit_sound {s : SC} {x : Bool} (h : asBit s = some x) (ρ : Rho) : s.conc ρ = .bool x := by
  unfold asBit at h
  split at h
  · cases h; rfl
  · cases h; rfl
  · cases h
def takeU : List SK → Option (List Prop × Nat × List SK)
  | .u n :: r => some ([], n, r)
  | .c a :: .c b :: .c c :: .c d :: r => match asU4 [a, b, c, d] with
    | some (ps, n) => some (ps, n, r)
    | none => none
  | _ => none
theorem takeU_sound {ks r : List SK} {ps : List Prop} {n : Nat} (h : takeU ks = some (ps, n, r)) (hp : Ok ps) (ρ : Rho) : concs ρ ks = concs ρ (.u n :: r) := by
  unfold takeU at h
  split at h
  · cases h; rfl
  · rename_i a b c d r'
    split at h
    · rename_i ps' n' h4
      simp only [Option.some.injEq, Prod.mk.injEq] at h
      obtain ⟨rfl, rfl, rfl⟩ := h
      have := asU4_sound h4 hp ρ
      simp only [U, List.map_cons, List.map_nil, Value.agg.injEq] at this
      have := congrArg Array.toList this
      simp only [List.cons.injEq, and_true] at this
      obtain ⟨e1, e2, e3, e4⟩ := this
      simp [concs, flat, SK.cells, e1, e2, e3, e4, show ∀ v, (SC.val v).conc ρ = v from fun _ => rfl]
    · cases h
  · cases h
theorem concs_app (ρ : Rho) (k : SK) {xs ys : List SK} (h : concs ρ xs = concs ρ ys) : concs ρ (k :: xs) = concs ρ (k :: ys) := by
  rw [concs_cons ρ k xs, concs_cons ρ k ys, h]
end Go.Sx
end

section
namespace Go.Sx
open Go.RowKit
inductive PQ where
  | u | b | t
  | i (k : IntKind)
  | y (n : Nat)
  | x (w : Nat)
inductive FD where
  | u (n : Nat)
  | b (v : Bool)
  | i (n : Int)
  | y (g : Nat → Int)
  | x (a : Option Addr) (n cap : Nat) (f : Nat → Nat → SC)
  | t (s : ByteArray)
inductive AQ where
  | st (ps : List PQ)
  | one (p : PQ)
def fdK : PQ → FD → SK
  | .u, .u n => .u n
  | .b, .b v => .c (.val (.bool v))
  | .i k, .i n => .c (.val (.int k n))
  | .y n, .y g => .f .u8 n g
  | .x w, .x a n cap f => .c (.xs a n cap w f)
  | .t, .t s => .c (.val (.string s))
  | _, _ => .c (.bit false)
def fdKs : List PQ → List FD → List SK
  | p :: ps, d :: ds => fdK p d :: fdKs ps ds
  | _, _ => []
def takeF : PQ → List SK → Option (List Prop × FD × List SK)
  | .u, ks => match takeU ks with
    | some (p, n, r) => some (p, .u n, r)
    | none => none
  | .b, .c s :: r => match asBit s with
    | some v => some ([], .b v, r)
    | none => none
  | .i k, .c s :: r => match asI (.sc s) with
    | some (k', n) => if k' = k then some ([], .i n, r) else none
    | none => none
  | .y n, .f k m g :: r => if k = .u8 ∧ m = n then some ([], .y g, r) else none
  | .x w, .c (.xs a n cap w' f) :: r => if w' = w then some ([], .x a n cap f, r) else none
  | .x _, .c (.val (.slice none 0 0)) :: r => some ([], .x none 0 0 (fun _ _ => .bit false), r)
  | .t, .c (.val (.string s)) :: r => some ([], .t s, r)
  | _, _ => none
theorem takeF_sound {p : PQ} {ks r : List SK} {q : List Prop} {d : FD} (h : takeF p ks = some (q, d, r)) (hq : Ok q) (ρ : Rho) : concs ρ ks = concs ρ (fdK p d :: r) := by
  unfold takeF at h
  split at h
  · split at h
    · rename_i hu
      simp only [Option.some.injEq, Prod.mk.injEq] at h
      obtain ⟨rfl, rfl, rfl⟩ := h
      exact takeU_sound hu hq ρ
    · cases h
  · split at h
    · rename_i s r' v hv
      simp only [Option.some.injEq, Prod.mk.injEq] at h
      obtain ⟨rfl, rfl, rfl⟩ := h
      rw [concs_cons, concs_cons ρ (fdK .b (.b v))]
      congr 1
      simp [concs, flat, SK.cells, fdK, asBit_sound hv ρ, show ∀ v, (SC.val v).conc ρ = v from fun _ => rfl]
    · cases h
  · rename_i k s r'
    split at h
    · rename_i k' n hi
      split at h
      · rename_i e
        subst e
        simp only [Option.some.injEq, Prod.mk.injEq] at h
        obtain ⟨rfl, rfl, rfl⟩ := h
        rw [concs_cons, concs_cons ρ (fdK (.i k') (.i n))]
        congr 1
        have e : s.conc ρ = .int k' n := asI_sound hi ρ
        simp [concs, flat, SK.cells, fdK, e, show ∀ v, (SC.val v).conc ρ = v from fun _ => rfl]
      · cases h
    · cases h
  · split at h
    · rename_i e
      obtain ⟨rfl, rfl⟩ := e
      simp only [Option.some.injEq, Prod.mk.injEq] at h
      obtain ⟨rfl, rfl, rfl⟩ := h
      rfl
    · cases h
  · split at h
    · rename_i e
      subst e
      simp only [Option.some.injEq, Prod.mk.injEq] at h
      obtain ⟨rfl, rfl, rfl⟩ := h
      rfl
    · cases h
  · simp only [Option.some.injEq, Prod.mk.injEq] at h
    obtain ⟨rfl, rfl, rfl⟩ := h
    rfl
  · simp only [Option.some.injEq, Prod.mk.injEq] at h
    obtain ⟨rfl, rfl, rfl⟩ := h
    rfl
  · cases h
theorem takeF_bnd {p : PQ} {ks r : List SK} {q : List Prop} {d : FD} (h : takeF p ks = some (q, d, r)) {E : Env} (hb : ∀ k ∈ ks, k.bnd E) : (fdK p d).bnd E.bare ∧ ∀ k ∈ r, k.bnd E := by
  unfold takeF at h
  split at h
  · split at h
    · rename_i p' n r' hu
      simp only [Option.some.injEq, Prod.mk.injEq] at h
      obtain ⟨rfl, rfl, rfl⟩ := h
      refine ⟨trivial, ?_⟩
      unfold takeU at hu
      split at hu
      · cases hu; exact fun k hk => hb k (by simp [hk])
      · split at hu
        · simp only [Option.some.injEq, Prod.mk.injEq] at hu
          obtain ⟨_, _, rfl⟩ := hu
          exact fun k hk => hb k (by simp [hk])
        · cases hu
      · cases hu
    · cases h
  · split at h
    · simp only [Option.some.injEq, Prod.mk.injEq] at h
      obtain ⟨rfl, rfl, rfl⟩ := h
      exact ⟨trivial, fun k hk => hb k (by simp [hk])⟩
    · cases h
  · split at h
    · split at h
      · simp only [Option.some.injEq, Prod.mk.injEq] at h
        obtain ⟨rfl, rfl, rfl⟩ := h
        exact ⟨trivial, fun k hk => hb k (by simp [hk])⟩
      · cases h
    · cases h
  · split at h
    · simp only [Option.some.injEq, Prod.mk.injEq] at h
      obtain ⟨rfl, rfl, rfl⟩ := h
      exact ⟨trivial, fun k hk => hb k (by simp [hk])⟩
    · cases h
  · rename_i w a n cap w' f r'
    split at h
    · rename_i e
      subst e
      simp only [Option.some.injEq, Prod.mk.injEq] at h
      obtain ⟨rfl, rfl, rfl⟩ := h
      exact ⟨hb (.c (.xs a n cap w' f)) (by simp), fun k hk => hb k (by simp [hk])⟩
    · cases h
  · simp only [Option.some.injEq, Prod.mk.injEq] at h
    obtain ⟨rfl, rfl, rfl⟩ := h
    exact ⟨⟨fun _ => ⟨rfl, rfl⟩, Nat.le_refl _, fun b hb => by cases hb⟩, fun k hk => hb k (by simp [hk])⟩
  · simp only [Option.some.injEq, Prod.mk.injEq] at h
    obtain ⟨rfl, rfl, rfl⟩ := h
    exact ⟨trivial, fun k hk => hb k (by simp [hk])⟩
  · cases h
def asFs : List PQ → List SK → Option (List Prop × List FD)
  | [], [] => some ([], [])
  | p :: ps, ks => match takeF p ks with
    | some (q, d, r) => match asFs ps r with
      | some (q', ds) => some (q ++ q', d :: ds)
      | none => none
    | none => none
  | _, _ => none
theorem asFs_one {p : PQ} {k : SK} {q : List Prop} {l : List FD} (h : asFs [p] [k] = some (q, l)) : ∃ q1 d, takeF p [k] = some (q1, d, []) ∧ l = [d] := by
  have e : asFs [p] [k] = match takeF p [k] with
    | some (q, d, r) => match asFs [] r with
      | some (q', ds) => some (q ++ q', d :: ds)
      | none => none
    | none => none := by rw [asFs]
  rw [e] at h
  split at h
  · rename_i q1 d r ht
    cases r with
    | nil =>
      simp only [asFs, Option.some.injEq, Prod.mk.injEq] at h
      exact ⟨q1, d, ht, h.2.symm⟩
    | cons _ _ => simp [asFs] at h
  · cases h
theorem asFs_sound : ∀ {ps : List PQ} {ks : List SK} {q : List Prop} {l : List FD}, asFs ps ks = some (q, l) → (Ok q → ∀ ρ, concs ρ ks = concs ρ (fdKs ps l)) ∧ ∀ E : Env, (∀ k ∈ ks, k.bnd E) → ∀ k ∈ fdKs ps l, k.bnd E.bare
  | [], [], q, l, h => by
    simp only [asFs, Option.some.injEq, Prod.mk.injEq] at h
    obtain ⟨_, rfl⟩ := h
    exact ⟨fun _ _ => rfl, fun E _ k hk => by cases hk⟩
  | [], _ :: _, q, l, h => by simp [asFs] at h
  | p :: ps, ks, q, l, h => by
    simp only [asFs] at h
    split at h
    · rename_i q1 d r ht
      split at h
      · rename_i q2 ds hr
        simp only [Option.some.injEq, Prod.mk.injEq] at h
        obtain ⟨rfl, rfl⟩ := h
        obtain ⟨i1, i2⟩ := asFs_sound hr
        refine ⟨fun hq ρ => ?_, fun E hb k hk => ?_⟩
        · obtain ⟨h1, h2⟩ := Ok.append.1 hq
          rw [takeF_sound ht h1 ρ]
          exact concs_app ρ _ (i1 h2 ρ)
        · obtain ⟨b1, b2⟩ := takeF_bnd ht hb
          rcases List.mem_cons.1 hk with rfl | hk
          · exact b1
          · exact i2 E b2 k hk
      · cases h
    · cases h
def asQ : AQ → SA → Option (List Prop × List FD)
  | .st ps, .agg ks => asFs ps ks
  | .one p, .sc s => asFs [p] [.c s]
  | _, _ => none
def mkQ : AQ → List FD → SA
  | .st ps, l => .agg (fdKs ps l)
  | .one p, [d] => match fdK p d with
    | .c s => .sc s
    | _ => .agg []
  | _, _ => .agg []
theorem asQ_sound {aq : AQ} {x : SA} {q : List Prop} {l : List FD} (h : asQ aq x = some (q, l)) : (Ok q → ∀ ρ, x.conc ρ = (mkQ aq l).conc ρ) ∧ ∀ E : Env, x.bnd E → (mkQ aq l).bnd E.bare := by
  unfold asQ at h
  split at h
  · rename_i ps ks
    obtain ⟨h1, h2⟩ := asFs_sound h
    exact ⟨fun hq ρ => by simp only [SA.conc, mkQ, h1 hq ρ], fun E hb => h2 E hb⟩
  · rename_i p s
    obtain ⟨h1, h2⟩ := asFs_sound h
    obtain ⟨q1, d, ht, rfl⟩ := asFs_one h
    have e : ∀ (s : SC) ρ, concs ρ [SK.c s] = [s.conc ρ] := fun _ _ => rfl
    have h2' : ∀ E : Env, s.bnd E → (fdK p d).bnd E.bare := fun E hb => h2 E (fun k hk => by rw [List.mem_singleton.1 hk]; exact hb) _ (by simp [fdKs])
    have h1' : Ok q → ∀ ρ, [s.conc ρ] = concs ρ [fdK p d] := fun hq ρ => by rw [← e]; exact h1 hq ρ
    unfold mkQ
    simp only
    split
    · rename_i s' hs
      rw [hs] at h1' h2'
      refine ⟨fun hq ρ => ?_, fun E hb => h2' E hb⟩
      have := h1' hq ρ
      rw [e] at this
      exact (List.cons.inj this).1
    · rename_i hne
      exfalso
      unfold takeF at ht
      split at ht
      · split at ht
        · rename_i hu
          unfold takeU at hu
          simp at hu
        · cases ht
      · split at ht
        · simp only [Option.some.injEq, Prod.mk.injEq] at ht; obtain ⟨_, rfl, _⟩ := ht; exact hne _ rfl
        · cases ht
      · split at ht
        · split at ht
          · simp only [Option.some.injEq, Prod.mk.injEq] at ht; obtain ⟨_, rfl, _⟩ := ht; exact hne _ rfl
          · cases ht
        · cases ht
      · rename_i heq; cases heq
      · split at ht
        · simp only [Option.some.injEq, Prod.mk.injEq] at ht; obtain ⟨_, rfl, _⟩ := ht; exact hne _ rfl
        · cases ht
      · simp only [Option.some.injEq, Prod.mk.injEq] at ht; obtain ⟨_, rfl, _⟩ := ht; exact hne _ rfl
      · simp only [Option.some.injEq, Prod.mk.injEq] at ht; obtain ⟨_, rfl, _⟩ := ht; exact hne _ rfl
      · cases ht
  · cases h
def asQs : List AQ → List SA → Option (List Prop × List (List FD))
  | [], [] => some ([], [])
  | a :: aqs, x :: xs => match asQ a x, asQs aqs xs with
    | some (q, l), some (q', ls) => some (q ++ q', l :: ls)
    | _, _ => none
  | _, _ => none
def mkQs : List AQ → List (List FD) → List SA
  | a :: aqs, l :: ls => mkQ a l :: mkQs aqs ls
  | _, _ => []
theorem asQs_sound : ∀ {aqs : List AQ} {xs : List SA} {q : List Prop} {ls : List (List FD)}, asQs aqs xs = some (q, ls) → (Ok q → ∀ ρ, xs.map (SA.conc ρ) = (mkQs aqs ls).map (SA.conc ρ)) ∧ ∀ E : Env, (∀ x ∈ xs, x.bnd E) → ∀ x ∈ mkQs aqs ls, x.bnd E.bare
  | [], [], q, ls, h => by
    simp only [asQs, Option.some.injEq, Prod.mk.injEq] at h
    obtain ⟨_, rfl⟩ := h
    exact ⟨fun _ _ => rfl, fun E _ k hk => by cases hk⟩
  | [], _ :: _, _, _, h => by simp [asQs] at h
  | _ :: _, [], _, _, h => by simp [asQs] at h
  | a :: aqs, x :: xs, q, ls, h => by
    simp only [asQs] at h
    split at h
    · rename_i q1 l q2 ls' h1 h2
      simp only [Option.some.injEq, Prod.mk.injEq] at h
      obtain ⟨rfl, rfl⟩ := h
      obtain ⟨a1, a2⟩ := asQ_sound h1
      obtain ⟨b1, b2⟩ := asQs_sound h2
      refine ⟨fun hq ρ => ?_, fun E hb y hy => ?_⟩
      · obtain ⟨o1, o2⟩ := Ok.append.1 hq
        simp only [List.map_cons, mkQs, a1 o1 ρ, b1 o2 ρ]
      · rcases List.mem_cons.1 hy with rfl | hy
        · exact a2 E (hb x (by simp))
        · exact b2 E (fun z hz => hb z (by simp [hz])) y hy
    · cases h
def simD : PQ → FD → FD → List Prop
  | .x w, .x a n c f, .x a' n' c' f' => [a = a', n = n', c = c', ∀ i, i < n → allC w fun k => simC (f i k) (f' i k)]
  | _, .u n, .u m => [n = m]
  | _, .b x, .b y => [x = y]
  | _, .i n, .i m => [n = m]
  | _, .t x, .t y => [x = y]
  | .y n, .y f, .y g => [∀ j, j < n → f j = g j]
  | _, _, _ => [False]
def simDs : List PQ → List FD → List FD → List Prop
  | p :: ps, d :: ds, e :: es => simD p d e ++ simDs ps ds es
  | [], [], [] => []
  | _, _, _ => [False]
def simQ : AQ → List FD → List FD → List Prop
  | .st ps, l, m => simDs ps l m
  | .one p, l, m => simDs [p] l m
def simQs : List AQ → List (List FD) → List (List FD) → List Prop
  | a :: aqs, l :: ls, m :: ms => simQ a l m ++ simQs aqs ls ms
  | [], [], [] => []
  | _, _, _ => [False]
theorem simD_sound {p : PQ} {d e : FD} (h : Ok (simD p d e)) : (∀ ρ, concs ρ [fdK p d] = concs ρ [fdK p e]) ∧ ∀ E : Env, (fdK p d).bnd E → (fdK p e).bnd E := by
  unfold simD at h
  split at h
  · rename_i w a n c f a' n' c' f'
    obtain ⟨rfl, rfl, rfl, h, _⟩ := h
    refine ⟨fun _ => rfl, fun E hb => simC_bnd (SC.xs a n c w f) (y := .xs a n c w f') ?_ hb⟩
    unfold simC
    simp only [Nat.beq_refl, true_and]
    exact h
  · obtain ⟨rfl, _⟩ := h; exact ⟨fun _ => rfl, fun _ k => k⟩
  · obtain ⟨rfl, _⟩ := h; exact ⟨fun _ => rfl, fun _ k => k⟩
  · obtain ⟨rfl, _⟩ := h; exact ⟨fun _ => rfl, fun _ k => k⟩
  · obtain ⟨rfl, _⟩ := h; exact ⟨fun _ => rfl, fun _ k => k⟩
  · rename_i n f g
    obtain ⟨h, _⟩ := h
    refine ⟨fun ρ => ?_, fun _ _ => trivial⟩
    rw [fdK, fdK, concs_f, concs_f]
    exact List.map_congr_left fun j hj => by rw [h j (List.mem_range.1 hj)]
  · exact h.1.elim
theorem simDs_sound : ∀ {ps : List PQ} {l m : List FD}, Ok (simDs ps l m) → (∀ ρ, concs ρ (fdKs ps l) = concs ρ (fdKs ps m)) ∧ ∀ E : Env, (∀ k ∈ fdKs ps l, k.bnd E) → ∀ k ∈ fdKs ps m, k.bnd E
  | [], [], [], _ => ⟨fun _ => rfl, fun _ h => h⟩
  | p :: ps, d :: ds, e :: es, h => by
    obtain ⟨o1, o2⟩ := Ok.append.1 h
    obtain ⟨a1, a2⟩ := simD_sound o1
    obtain ⟨b1, b2⟩ := simDs_sound o2
    refine ⟨fun ρ => ?_, fun E hb k hk => ?_⟩
    · simp only [fdKs]
      rw [concs_cons, concs_cons ρ (fdK p e), a1 ρ, b1 ρ]
    · rcases List.mem_cons.1 hk with rfl | hk
      · exact a2 E (hb _ (by simp [fdKs]))
      · exact b2 E (fun k hk => hb k (by simp [fdKs, hk])) k hk
  | [], [], _ :: _, h | [], _ :: _, [], h | [], _ :: _, _ :: _, h | _ :: _, [], [], h | _ :: _, [], _ :: _, h | _ :: _, _ :: _, [], h => by exact h.1.elim
theorem simQ_sound {a : AQ} {l m : List FD} (h : Ok (simQ a l m)) : (∀ ρ, (mkQ a l).conc ρ = (mkQ a m).conc ρ) ∧ ∀ E : Env, (mkQ a l).bnd E → (mkQ a m).bnd E := by
  cases a with
  | st ps =>
    obtain ⟨h1, h2⟩ := simDs_sound (show Ok (simDs ps l m) from h)
    exact ⟨fun ρ => by simp only [mkQ, SA.conc, h1 ρ], fun E hb => h2 E hb⟩
  | one p =>
    have h : Ok (simDs [p] l m) := h
    match l, m, h with
    | [], [], h => exact h.1.elim
    | [], _ :: _, h => exact h.1.elim
    | _ :: _, [], h => exact h.1.elim
    | d :: d2 :: ds, e :: es, h =>
      exfalso
      obtain ⟨_, o2⟩ := Ok.append.1 h
      cases es <;> exact o2.1.elim
    | [d], e :: e2 :: es, h =>
      exfalso
      obtain ⟨_, o2⟩ := Ok.append.1 h
      exact o2.1.elim
    | [d], [e], h =>
      obtain ⟨o1, _⟩ := Ok.append.1 h
      obtain ⟨h1, h2⟩ := simD_sound o1
      unfold mkQ
      simp only
      cases p <;> cases d <;> cases e <;> first
        | exact ⟨fun _ => rfl, fun _ k => k⟩
        | (exfalso; exact o1.1.elim)
        | (refine ⟨fun ρ => ?_, fun E hb => h2 E hb⟩
           have := h1 ρ
           exact (List.cons.inj this).1)
theorem simQs_sound : ∀ {aqs : List AQ} {l m : List (List FD)}, Ok (simQs aqs l m) → (∀ ρ, (mkQs aqs l).map (SA.conc ρ) = (mkQs aqs m).map (SA.conc ρ)) ∧ ∀ E : Env, (∀ x ∈ mkQs aqs l, x.bnd E) → ∀ x ∈ mkQs aqs m, x.bnd E
  | [], [], [], _ => ⟨fun _ => rfl, fun _ h => h⟩
  | a :: aqs, d :: ds, e :: es, h => by
    obtain ⟨o1, o2⟩ := Ok.append.1 h
    obtain ⟨a1, a2⟩ := simQ_sound o1
    obtain ⟨b1, b2⟩ := simQs_sound o2
    refine ⟨fun ρ => by simp only [mkQs, List.map_cons, a1 ρ, b1 ρ], fun E hb k hk => ?_⟩
    rcases List.mem_cons.1 hk with rfl | hk
    · exact a2 E (hb _ (by simp [mkQs]))
    · exact b2 E (fun k hk => hb k (by simp [mkQs, hk])) k hk
  | [], [], _ :: _, h | [], _ :: _, [], h | [], _ :: _, _ :: _, h | _ :: _, [], [], h | _ :: _, [], _ :: _, h | _ :: _, _ :: _, [], h => by exact h.1.elim
def specQ (share : Bool) (aq : List AQ) (nf : List (List FD) → List (List FD)) (c : List (List FD) → List Prop) (g : List (List FD) → List RS) : SSpec :=
  ⟨share, fun args => match asQs aq args with
    | some (ps, ls) => some (ps ++ (simQs aq ls (nf ls) ++ c (nf ls)), g (nf ls))
    | none => none⟩
theorem FnOKs_Q {P : Program} {cx : Cx} (hcx : CxOK P cx) {sl : List (Nat × SSpec)} (hsl : ∀ p ∈ sl, FnOKs P cx.gl p.1 p.2) {f : Nat} {fn : Func} (hf : P.funcs[f]? = some fn) (hb : fn.body.isSome = true) (hn : (fn.name == "runtime.NumGoroutine") = false)
    {share : Bool} {aq : List AQ} {nf : List (List FD) → List (List FD)} {c : List (List FD) → List Prop} {g : List (List FD) → List RS}
    (h : ∀ ls, Ok (c ls) → ∃ iv N, (∀ r ∈ g ls, r.closed) ∧ OwesR P cx sl iv N fn (mkQs aq ls) share (g ls)) : FnOKs P cx.gl f (specQ share aq nf c g) := by
  refine FnOKs_owes hcx hsl hf hb hn fun args ps rs hs hp => ?_
  simp only [specQ] at hs
  split at hs
  case h_2 => cases hs
  rename_i q ls ha
  simp only [Option.some.injEq, Prod.mk.injEq] at hs
  obtain ⟨rfl, rfl⟩ := hs
  obtain ⟨o1, o23⟩ := Ok.append.1 hp
  obtain ⟨o2, o3⟩ := Ok.append.1 o23
  obtain ⟨a1, a2⟩ := asQs_sound ha
  obtain ⟨b1, b2⟩ := simQs_sound o2
  obtain ⟨iv, N, hc, hw⟩ := h (nf ls) o3
  refine ⟨iv, N, mkQs aq (nf ls), fun ρ => by rw [a1 o1 ρ, b1 ρ], fun fz hx x hxm => ?_, hc, hw⟩
  exact b2 ⟨fun _ => False, fz⟩ (fun y hy => a2 ⟨fun _ => True, fz⟩ hx y hy) x hxm
end Go.Sx
end

section
namespace Go.Sx
def intOf : SC → Int
  | .val (.int _ x) => x
  | .num _ x => x
  | _ => 0
def natOf (f : Nat → SC) (c : Nat) : Nat := join (intOf (f c)) (intOf (f (c + 1))) (intOf (f (c + 2))) (intOf (f (c + 3)))
def u8F (k : Nat → Nat → Int) (i c : Nat) : SC := .val (.int .u8 (k i c))
def kOf (f : Nat → Nat → SC) (i c : Nat) : Int := intOf (f i c)
def sgnF (w : Nat → Int) (R S : Nat → Nat) (o : Nat → Int) (i c : Nat) : SC :=
  match c with
  | 0 => .val (.int .i64 (w i))
  | 1 => .val (.int .u64 (limb (R i) 0))
  | 2 => .val (.int .u64 (limb (R i) 1))
  | 3 => .val (.int .u64 (limb (R i) 2))
  | 4 => .val (.int .u64 (limb (R i) 3))
  | 5 => .val (.int .u64 (limb (S i) 0))
  | 6 => .val (.int .u64 (limb (S i) 1))
  | 7 => .val (.int .u64 (limb (S i) 2))
  | 8 => .val (.int .u64 (limb (S i) 3))
  | _ => .val (.int .i64 (o i))
def wOf (f : Nat → Nat → SC) (i : Nat) : Int := intOf (f i 0)
def ROf (f : Nat → Nat → SC) (i : Nat) : Nat := natOf (f i) 1
def SOf (f : Nat → Nat → SC) (i : Nat) : Nat := natOf (f i) 5
def oOf (f : Nat → Nat → SC) (i : Nat) : Int := intOf (f i 9)
theorem FnOKs.up0 {P : Program} {f : Nat} {s : SSpec} (h : FnOKs P [] f s) (gl : Globs) : FnOKs P gl f s := fun args ps rs hs hp ρ w hz _ hb =>
  h args ps rs hs hp ρ w hz (fun p hp => by cases hp) hb
end Go.Sx
end

section
namespace Go.Proofs.Ytpebkgbelifdgaa
open Go.Sx
set_option maxRecDepth 100000
abbrev ksBody (t n c : Int) (em : Nat → Int) (u l : Int) (a : Option Addr) (m cap : Nat) (k : Nat → Nat → Int) : List SK := [.c (.val (.int .i64 t)), .c (.val (.int .i64 n)), .c (.val (.int .i64 c)), .f .u8 32 em, .c (.val (.int .i64 u)), .c (.val (.int .i64 l)), .c (.xs a m cap 1 (u8F k))]
abbrev sBody (t n c : Int) (em : Nat → Int) (u l : Int) (a : Option Addr) (m cap : Nat) (k : Nat → Nat → Int) : SA := .agg (ksBody t n c em u l a m cap k)
def pqBd : List PQ := [.i .i64, .i .i64, .i .i64, .y 32, .i .i64, .i .i64, .x 1]
def bodyE (t n c u l : Int) (m : Nat) : Int :=
  if (0 ≤ t ∧ t ≤ 1099511627776) ∧ (0 ≤ n ∧ n ≤ 4294967295) ∧ (0 ≤ c ∧ c ≤ 65535) ∧ (0 ≤ u ∧ u ≤ 1099511627776) ∧ (0 ≤ l ∧ l ≤ 255) then if m ≤ 300 then 0 else 1 else 6
def shBd : List AQ := [.st pqBd]
def nfBd : List (List FD) → List (List FD)
  | [[.i t, .i n, .i c, .y em, .i u, .i l, .x a m cap f]] => [[.i t, .i n, .i c, .y em, .i u, .i l, .x a m cap (u8F (kOf f))]]
  | ls => ls
def nfC : List (List FD) → List Prop
  | [[.i _, .i _, .i _, .y _, .i _, .i _, .x _ _ _ f]] => [f = u8F (kOf f)]
  | _ => [False]
def bckG : List (List FD) → List RS
  | [[.i t, .i n, .i c, .y _, .i u, .i l, .x _ m _ _]] => [.v (sI .i64 (bodyE t n c u l m))]
  | _ => []
def cBckS : SSpec := specQ false shBd nfBd nfC bckG
def slBck : List (Nat × SSpec) := [(9, cBckS)]
def slBft : List (Nat × SSpec) := [(10, cBckS)]
def slBC : List (Nat × SSpec) := [(9, cBckS), (10, cBckS)]
def inG (n m : Int) : SV := .one (sB (decide (0 ≤ n) && decide (n ≤ m)))
def cxIn : Cx := ⟨[(24, specII (fun _ _ => []) inG)], [], 0, []⟩
theorem vc_win (n m : Int) (b : Bool) :
    Owes Try.prog Cx.none [] 10 Try.f24 [sI .i64 n, sI .i64 m] (.one (sB b)) =
    (let x1 : Bool := Decidable.decide (n ≥ (0 : Int)); (x1 = Bool.true → x1 = Bool.true) ∧ (x1 = Bool.true → x1 = Bool.true) ∧ (x1 = Bool.true → x1 = Bool.true) ∧ (x1 && Decidable.decide (n ≤ m)) = b) := by kernel_rfl
theorem vc_bck (t n c u l e : Int) (em : Nat → Int) (a : Option Addr) (m cap : Nat) (k : Nat → Nat → Int) :
    OwesR Try.prog cxIn [] [] 30 Try.f9 [sBody t n c em u l a m cap k] false [.v (sI .i64 e)] =
    (let x1 : Bool := !(Decidable.decide ((0 : Int) ≤ t) && Decidable.decide (t ≤ (1099511627776 : Int))); let x2 : Bool := x1 || !(Decidable.decide ((0 : Int) ≤ n) && Decidable.decide (n ≤ (4294967295 : Int))); let x3 : Bool := x2 || !(Decidable.decide ((0 : Int) ≤ c) && Decidable.decide (c ≤ (65535 : Int))); let x4 : Bool := x3 || !(Decidable.decide ((0 : Int) ≤ u) && Decidable.decide (u ≤ (1099511627776 : Int))); ((!x1) = Bool.true → (!x1) = Bool.true) ∧ ((!x1) = Bool.true → (!x1) = Bool.true) ∧ ((!x1) = Bool.true → (!x1) = Bool.true) ∧ (x1 = Bool.false → (!x1) = Bool.true) ∧ ((!x2) = Bool.true → (!x2) = Bool.true) ∧ ((!x2) = Bool.true → (!x2) = Bool.true) ∧ ((!x2) = Bool.true → (!x2) = Bool.true) ∧ (x2 = Bool.false → (!x2) = Bool.true) ∧ ((!x3) = Bool.true → (!x3) = Bool.true) ∧ ((!x3) = Bool.true → (!x3) = Bool.true) ∧ ((!x3) = Bool.true → (!x3) = Bool.true) ∧ (x3 = Bool.false → (!x3) = Bool.true) ∧ ((!x4) = Bool.true → (!x4) = Bool.true) ∧ ((!x4) = Bool.true → (!x4) = Bool.true) ∧ ((!x4) = Bool.true → (!x4) = Bool.true) ∧ (x4 = Bool.false → (!x4) = Bool.true) ∧ ((x4 || !(Decidable.decide ((0 : Int) ≤ l) && Decidable.decide (l ≤ (255 : Int)))) = Bool.true → (6 : Int) = e) ∧ ((x4 || !(Decidable.decide ((0 : Int) ≤ l) && Decidable.decide (l ≤ (255 : Int)))) = Bool.false → (Decidable.decide ((↑m : Int) > (300 : Int)) = Bool.true → (1 : Int) = e) ∧ (Decidable.decide ((↑m : Int) > (300 : Int)) = Bool.false → (0 : Int) = e))) := by kernel_rfl
theorem vc_bft (t n c u l e : Int) (em : Nat → Int) (a : Option Addr) (m cap : Nat) (k : Nat → Nat → Int) :
    OwesR Try.prog Cx.none [] [] 30 Try.f10 [sBody t n c em u l a m cap k] false [.v (sI .i64 e)] =
    (let x1 : Bool := Decidable.decide ((0 : Int) ≤ t); let x2 : Bool := Decidable.decide ((0 : Int) ≤ n); let x3 : Bool := Decidable.decide ((0 : Int) ≤ c); let x4 : Bool := Decidable.decide ((0 : Int) ≤ u); let x5 : Bool := Decidable.decide ((0 : Int) ≤ l); (x1 = Bool.true → x1 = Bool.true) ∧ (x1 = Bool.true → x1 = Bool.true) ∧ (x1 = Bool.true → x1 = Bool.true) ∧ ((!(x1 && Decidable.decide (t ≤ (1099511627776 : Int)))) = Bool.true → (6 : Int) = e) ∧ ((!(x1 && Decidable.decide (t ≤ (1099511627776 : Int)))) = Bool.false → (x2 = Bool.true → x2 = Bool.true) ∧ (x2 = Bool.true → x2 = Bool.true) ∧ (x2 = Bool.true → x2 = Bool.true) ∧ ((!(x2 && Decidable.decide (n ≤ (4294967295 : Int)))) = Bool.true → (6 : Int) = e) ∧ ((!(x2 && Decidable.decide (n ≤ (4294967295 : Int)))) = Bool.false → (x3 = Bool.true → x3 = Bool.true) ∧ (x3 = Bool.true → x3 = Bool.true) ∧ (x3 = Bool.true → x3 = Bool.true) ∧ ((!(x3 && Decidable.decide (c ≤ (65535 : Int)))) = Bool.true → (6 : Int) = e) ∧ ((!(x3 && Decidable.decide (c ≤ (65535 : Int)))) = Bool.false → (x4 = Bool.true → x4 = Bool.true) ∧ (x4 = Bool.true → x4 = Bool.true) ∧ (x4 = Bool.true → x4 = Bool.true) ∧ ((!(x4 && Decidable.decide (u ≤ (1099511627776 : Int)))) = Bool.true → (6 : Int) = e) ∧ ((!(x4 && Decidable.decide (u ≤ (1099511627776 : Int)))) = Bool.false → (x5 = Bool.true → x5 = Bool.true) ∧ (x5 = Bool.true → x5 = Bool.true) ∧ (x5 = Bool.true → x5 = Bool.true) ∧ ((!(x5 && Decidable.decide (l ≤ (255 : Int)))) = Bool.true → (6 : Int) = e) ∧ ((!(x5 && Decidable.decide (l ≤ (255 : Int)))) = Bool.false → (Decidable.decide ((↑m : Int) > (300 : Int)) = Bool.true → (1 : Int) = e) ∧ (Decidable.decide ((↑m : Int) > (300 : Int)) = Bool.false → (0 : Int) = e))))))) := by kernel_rfl
theorem vc_BodyChecks (t n c u l : Int) (em : Nat → Int) (a : Option Addr) (m cap : Nat) (k : Nat → Nat → Int) :
    OwesV Try.prog Cx.none slBC [] 30 Try.f3 [sBody t n c em u l a m cap k] yes =
    (t = t ∧ n = n ∧ c = c ∧ (∀ (j : Nat), j < 32 → em j = em j) ∧ u = u ∧ l = l ∧ a = a ∧ m = m ∧ cap = cap ∧ (∀ (i : Nat), i < m → k i 0 = kOf (u8F k) i 0) ∧ u8F (kOf (u8F k)) = u8F (kOf (u8F (kOf (u8F k)))) ∧ t = t ∧ n = n ∧ c = c ∧ (∀ (j : Nat), j < 32 → em j = em j) ∧ u = u ∧ l = l ∧ a = a ∧ m = m ∧ cap = cap ∧ (∀ (i : Nat), i < m → k i 0 = kOf (u8F k) i 0) ∧ u8F (kOf (u8F k)) = u8F (kOf (u8F (kOf (u8F k)))) ∧ (bodyE t n c u l m == bodyE t n c u l m) = Bool.true) := by kernel_rfl
end Go.Proofs.Ytpebkgbelifdgaa
end

section
namespace Go.Proofs.Ytpebkgbelifdgaa
open Go.Sx
theorem pcx_none : CxOK Try.prog Cx.none := ⟨fun _ h => (by cases h), fun _ h => (by cases h)⟩
theorem pgl_nil {gl : Globs} : CxOK Try.prog ⟨[], gl, 0, []⟩ := ⟨fun _ h => (by cases h), fun _ h => (by cases h)⟩
theorem pgl_cons {gl : Globs} {f : Nat} {s : FSpec} {l : List (Nat × FSpec)} (h : FnOKg Try.prog gl f s) (hs : CxOK Try.prog ⟨l, gl, 0, []⟩) : CxOK Try.prog ⟨(f, s) :: l, gl, 0, []⟩ := by
  refine ⟨fun p hp => ?_, hs.2⟩
  rcases List.mem_cons.1 hp with rfl | hp
  · exact h
  · exact hs.1 p hp
theorem ok_win (n m : Int) : Owes Try.prog Cx.none [] 10 Try.f24 [sI .i64 n, sI .i64 m] (inG n m) := by
  unfold inG
  rw [vc_win]
  exact ⟨id, id, id, rfl⟩
theorem card_win : FnOK Try.prog 24 (specII (fun _ _ => []) inG) :=
  FnOK_II (iv := []) (N := 10) pcx_none Try.func24 (by kernel_rfl) (by kernel_rfl) (fun _ _ => trivial) fun a b _ => ok_win a b
theorem cxok_In : CxOK Try.prog cxIn := pgl_cons card_win pgl_nil
theorem ok_bck (t n c u l : Int) (em : Nat → Int) (a : Option Addr) (m cap : Nat) (k : Nat → Nat → Int) :
    OwesR Try.prog cxIn [] [] 30 Try.f9 [sBody t n c em u l a m cap k] false [.v (sI .i64 (bodyE t n c u l m))] := by
  rw [vc_bck]
  unfold bodyE
  grind
theorem ok_bft (t n c u l : Int) (em : Nat → Int) (a : Option Addr) (m cap : Nat) (k : Nat → Nat → Int) :
    OwesR Try.prog Cx.none [] [] 30 Try.f10 [sBody t n c em u l a m cap k] false [.v (sI .i64 (bodyE t n c u l m))] := by
  rw [vc_bft]
  unfold bodyE
  grind
end Go.Proofs.Ytpebkgbelifdgaa
end

section
namespace Go.Proofs.Ytpebkgbelifdgaa
open Go.Sx
set_option maxRecDepth 100000
abbrev ksPap (s : Int) (b : Option Addr) (y cy : Nat) (w : Nat → Int) (R S : Nat → Nat) (o : Nat → Int) (t n c : Int) (em : Nat → Int) (u l : Int) (a : Option Addr) (m cap : Nat) (k : Nat → Nat → Int) : List SK := .c (.val (.int .i64 s)) :: .c (.xs b y cy 10 (sgnF w R S o)) :: ksBody t n c em u l a m cap k
def okSg (w o : Nat → Int) (i : Nat) : Bool := (decide (0 ≤ w i) && decide (w i ≤ 255)) && (decide (0 ≤ o i) && decide (o i ≤ 255))
def allSg (w o : Nat → Int) : Nat → Bool
  | 0 => true
  | i + 1 => allSg w o i && okSg w o i
def papE (s : Int) (y : Nat) (w o : Nat → Int) (t n c u l : Int) (m : Nat) : Int :=
  if 0 ≤ s ∧ s ≤ 4294967295 then if y > 19 then 1 else if allSg w o y = true then bodyE t n c u l m else 6 else 6
def invLook (s : Int) (b : Option Addr) (y cy : Nat) (w : Nat → Int) (R S : Nat → Nat) (o : Nat → Int) (t n c : Int) (em : Nat → Int) (u l : Int) (a : Option Addr) (m cap : Nat) (k : Nat → Nat → Int) : Inv where
  X := Nat
  tm i := slotsAt 35 [(1, .one (.sc (.ptr 0 0))), (2, .one (.sc (.num .i64 0))), (14, .one (.sc (.xs b y cy 10 (sgnF w R S o)))), (15, .one (sI .i64 (y : Int))), (16, .one (sI .i64 (i : Int)))]
  ob _ := [.cells 31 (ksPap s b y cy w R S o t n c em u l a m cap k) 0]
  holds i := i ≤ y ∧ allSg w o i = true
  less i := y - i
def cxUp : Cx := ⟨[(25, specII (fun _ _ => []) inG)], [], 0, []⟩
def shPap : List AQ := [.st (.i .i64 :: .x 10 :: pqBd)]
def nfPap : List (List FD) → List (List FD)
  | [[.i s, .x b y cy f2, .i t, .i n, .i c, .y em, .i u, .i l, .x a m cap f]] => [[.i s, .x b y cy (sgnF (wOf f2) (ROf f2) (SOf f2) (oOf f2)), .i t, .i n, .i c, .y em, .i u, .i l, .x a m cap (u8F (kOf f))]]
  | ls => ls
structure papP (f2 f : Nat → Nat → SC) (y : Nat) : Prop where
  nf : f2 = sgnF (wOf f2) (ROf f2) (SOf f2) (oOf f2)
  mf : f = u8F (kOf f)
  yl : (y : Int) ≤ 9223372036854775807
def papC : List (List FD) → List Prop
  | [[.i _, .x _ y _ f2, .i _, .i _, .i _, .y _, .i _, .i _, .x _ _ _ f]] => [papP f2 f y]
  | _ => [False]
def plkG : List (List FD) → List RS
  | [[.i s, .x _ y _ f2, .i t, .i n, .i c, .y _, .i u, .i l, .x _ m _ _]] => [.v (sI .i64 (papE s y (wOf f2) (oOf f2) t n c u l m))]
  | _ => []
def cPlkS : SSpec := specQ false shPap nfPap papC plkG
theorem vc_upT (n m : Int) (b : Bool) :
    Owes Try.prog Cx.none [] 10 Try.f25 [sI .i64 n, sI .i64 m] (.one (sB b)) =
    (let x1 : Bool := Decidable.decide ((0 : Int) ≤ n); (x1 = Bool.true → x1 = Bool.true) ∧ (x1 = Bool.true → x1 = Bool.true) ∧ (x1 = Bool.true → x1 = Bool.true) ∧ (x1 && Decidable.decide (n ≤ m)) = b) := by kernel_rfl
theorem vc_plk (s : Int) (b : Option Addr) (y cy : Nat) (w : Nat → Int) (R S : Nat → Nat) (o : Nat → Int) (t n c u l e : Int) (em : Nat → Int) (a : Option Addr) (m cap : Nat) (k : Nat → Nat → Int) :
    OwesR Try.prog cxIn slBck [(6, .inv (invLook s b y cy w R S o t n c em u l a m cap k))] 30 Try.f26 [.agg (ksPap s b y cy w R S o t n c em u l a m cap k)] false [.v (sI .i64 e)] =
    (((!(Decidable.decide ((0 : Int) ≤ s) && Decidable.decide (s ≤ (4294967295 : Int)))) = Bool.true → (6 : Int) = e) ∧ ((!(Decidable.decide ((0 : Int) ≤ s) && Decidable.decide (s ≤ (4294967295 : Int)))) = Bool.false → (Decidable.decide ((↑y : Int) > (19 : Int)) = Bool.true → (1 : Int) = e) ∧ (Decidable.decide ((↑y : Int) > (19 : Int)) = Bool.false → (∀ (y_1 : Nat), closedB (slotsAt 35 [(1, SV.one (SA.sc (SC.ptr 0 0))), (2, SV.one (SA.sc (SC.num Go.IntKind.i64 (0 : Int)))), (14, SV.one (SA.sc (SC.xs b y cy 10 (sgnF w R S o)))), (15, SV.one (sI Go.IntKind.i64 (↑y : Int))), (16, SV.one (sI Go.IntKind.i64 (↑y_1 : Int)))]) [SO.cells (31 : Go.TypeId) (ksPap s b y cy w R S o t n c em u l a m cap k) 0] = Bool.true) ∧ ∃ (y_1 : Nat), (y_1 ≤ y ∧ allSg w o y_1 = Bool.true) ∧ (b = b ∧ y = y ∧ cy = cy ∧ ∀ (i : Nat), i < y → w i = w i ∧ limb (R i) 0 = limb (R i) 0 ∧ limb (R i) 1 = limb (R i) 1 ∧ limb (R i) 2 = limb (R i) 2 ∧ limb (R i) 3 = limb (R i) 3 ∧ limb (S i) 0 = limb (S i) 0 ∧ limb (S i) 1 = limb (S i) 1 ∧ limb (S i) 2 = limb (S i) 2 ∧ limb (S i) 3 = limb (S i) 3 ∧ o i = o i) ∧ (↑y : Int) = (↑y : Int) ∧ (0 : Int) = (↑y_1 : Int) ∧ s = s ∧ (b = b ∧ y = y ∧ cy = cy ∧ ∀ (i : Nat), i < y → w i = w i ∧ limb (R i) 0 = limb (R i) 0 ∧ limb (R i) 1 = limb (R i) 1 ∧ limb (R i) 2 = limb (R i) 2 ∧ limb (R i) 3 = limb (R i) 3 ∧ limb (S i) 0 = limb (S i) 0 ∧ limb (S i) 1 = limb (S i) 1 ∧ limb (S i) 2 = limb (S i) 2 ∧ limb (S i) 3 = limb (S i) 3 ∧ o i = o i) ∧ t = t ∧ n = n ∧ c = c ∧ (∀ (j : Nat), j < 32 → em j = em j) ∧ u = u ∧ l = l ∧ (a = a ∧ m = m ∧ cap = cap ∧ ∀ (i : Nat), i < m → k i 0 = k i 0) ∧ 0 = 0 ∧ ∀ (y_2 : Nat), y_2 ≤ y ∧ allSg w o y_2 = Bool.true → (Decidable.decide ((↑y_2 : Int) < (↑y : Int)) = Bool.true → ((0 : Int) ≤ (↑y_2 : Int) ∧ (↑y_2 : Int) < (↑y : Int)) ∧ ((!!(Decidable.decide ((0 : Int) ≤ w (↑y_2 : Int).toNat) && Decidable.decide (w (↑y_2 : Int).toNat ≤ (255 : Int)))) = Bool.true → (!!(Decidable.decide ((0 : Int) ≤ w (↑y_2 : Int).toNat) && Decidable.decide (w (↑y_2 : Int).toNat ≤ (255 : Int)))) = Bool.true) ∧ ((!!(Decidable.decide ((0 : Int) ≤ w (↑y_2 : Int).toNat) && Decidable.decide (w (↑y_2 : Int).toNat ≤ (255 : Int)))) = Bool.true → (!!(Decidable.decide ((0 : Int) ≤ w (↑y_2 : Int).toNat) && Decidable.decide (w (↑y_2 : Int).toNat ≤ (255 : Int)))) = Bool.true) ∧ ((!!(Decidable.decide ((0 : Int) ≤ w (↑y_2 : Int).toNat) && Decidable.decide (w (↑y_2 : Int).toNat ≤ (255 : Int)))) = Bool.true → (!!(Decidable.decide ((0 : Int) ≤ w (↑y_2 : Int).toNat) && Decidable.decide (w (↑y_2 : Int).toNat ≤ (255 : Int)))) = Bool.true) ∧ ((!!(Decidable.decide ((0 : Int) ≤ w (↑y_2 : Int).toNat) && Decidable.decide (w (↑y_2 : Int).toNat ≤ (255 : Int)))) = Bool.true → (!!(Decidable.decide ((0 : Int) ≤ w (↑y_2 : Int).toNat) && Decidable.decide (w (↑y_2 : Int).toNat ≤ (255 : Int)))) = Bool.true) ∧ ((!(Decidable.decide ((0 : Int) ≤ w (↑y_2 : Int).toNat) && Decidable.decide (w (↑y_2 : Int).toNat ≤ (255 : Int)))) = Bool.false → (!!(Decidable.decide ((0 : Int) ≤ w (↑y_2 : Int).toNat) && Decidable.decide (w (↑y_2 : Int).toNat ≤ (255 : Int)))) = Bool.true) ∧ ((!(Decidable.decide ((0 : Int) ≤ w (↑y_2 : Int).toNat) && Decidable.decide (w (↑y_2 : Int).toNat ≤ (255 : Int))) || !(Decidable.decide ((0 : Int) ≤ o (↑y_2 : Int).toNat) && Decidable.decide (o (↑y_2 : Int).toNat ≤ (255 : Int)))) = Bool.true → (6 : Int) = e) ∧ ((!(Decidable.decide ((0 : Int) ≤ w (↑y_2 : Int).toNat) && Decidable.decide (w (↑y_2 : Int).toNat ≤ (255 : Int))) || !(Decidable.decide ((0 : Int) ≤ o (↑y_2 : Int).toNat) && Decidable.decide (o (↑y_2 : Int).toNat ≤ (255 : Int)))) = Bool.false → ∃ (y' : Nat), (y' ≤ y ∧ allSg w o y' = Bool.true) ∧ (b = b ∧ y = y ∧ cy = cy ∧ ∀ (i : Nat), i < y → w i = w i ∧ limb (R i) 0 = limb (R i) 0 ∧ limb (R i) 1 = limb (R i) 1 ∧ limb (R i) 2 = limb (R i) 2 ∧ limb (R i) 3 = limb (R i) 3 ∧ limb (S i) 0 = limb (S i) 0 ∧ limb (S i) 1 = limb (S i) 1 ∧ limb (S i) 2 = limb (S i) 2 ∧ limb (S i) 3 = limb (S i) 3 ∧ o i = o i) ∧ (↑y : Int) = (↑y : Int) ∧ Go.IntKind.i64.wrap ((↑y_2 : Int) + (1 : Int)) = (↑y' : Int) ∧ s = s ∧ (b = b ∧ y = y ∧ cy = cy ∧ ∀ (i : Nat), i < y → w i = w i ∧ limb (R i) 0 = limb (R i) 0 ∧ limb (R i) 1 = limb (R i) 1 ∧ limb (R i) 2 = limb (R i) 2 ∧ limb (R i) 3 = limb (R i) 3 ∧ limb (S i) 0 = limb (S i) 0 ∧ limb (S i) 1 = limb (S i) 1 ∧ limb (S i) 2 = limb (S i) 2 ∧ limb (S i) 3 = limb (S i) 3 ∧ o i = o i) ∧ t = t ∧ n = n ∧ c = c ∧ (∀ (j : Nat), j < 32 → em j = em j) ∧ u = u ∧ l = l ∧ (a = a ∧ m = m ∧ cap = cap ∧ ∀ (i : Nat), i < m → k i 0 = k i 0) ∧ 0 = 0 ∧ y - y' < y - y_2)) ∧ (Decidable.decide ((↑y_2 : Int) < (↑y : Int)) = Bool.false → t = t ∧ n = n ∧ c = c ∧ (∀ (j : Nat), j < 32 → em j = em j) ∧ u = u ∧ l = l ∧ a = a ∧ m = m ∧ cap = cap ∧ (∀ (i : Nat), i < m → k i 0 = kOf (u8F k) i 0) ∧ u8F (kOf (u8F k)) = u8F (kOf (u8F (kOf (u8F k)))) ∧ bodyE t n c u l m = e)))) := by kernel_rfl
theorem vc_pft (s : Int) (b : Option Addr) (y cy : Nat) (w : Nat → Int) (R S : Nat → Nat) (o : Nat → Int) (t n c u l e : Int) (em : Nat → Int) (a : Option Addr) (m cap : Nat) (k : Nat → Nat → Int) :
    OwesR Try.prog cxUp slBft [(6, .inv (invLook s b y cy w R S o t n c em u l a m cap k))] 30 Try.f28 [.agg (ksPap s b y cy w R S o t n c em u l a m cap k)] false [.v (sI .i64 e)] =
    (((!(Decidable.decide ((0 : Int) ≤ s) && Decidable.decide (s ≤ (4294967295 : Int)))) = Bool.true → (6 : Int) = e) ∧ ((!(Decidable.decide ((0 : Int) ≤ s) && Decidable.decide (s ≤ (4294967295 : Int)))) = Bool.false → (Decidable.decide ((↑y : Int) > (19 : Int)) = Bool.true → (1 : Int) = e) ∧ (Decidable.decide ((↑y : Int) > (19 : Int)) = Bool.false → (∀ (y_1 : Nat), closedB (slotsAt 35 [(1, SV.one (SA.sc (SC.ptr 0 0))), (2, SV.one (SA.sc (SC.num Go.IntKind.i64 (0 : Int)))), (14, SV.one (SA.sc (SC.xs b y cy 10 (sgnF w R S o)))), (15, SV.one (sI Go.IntKind.i64 (↑y : Int))), (16, SV.one (sI Go.IntKind.i64 (↑y_1 : Int)))]) [SO.cells (31 : Go.TypeId) (ksPap s b y cy w R S o t n c em u l a m cap k) 0] = Bool.true) ∧ ∃ (y_1 : Nat), (y_1 ≤ y ∧ allSg w o y_1 = Bool.true) ∧ (b = b ∧ y = y ∧ cy = cy ∧ ∀ (i : Nat), i < y → w i = w i ∧ limb (R i) 0 = limb (R i) 0 ∧ limb (R i) 1 = limb (R i) 1 ∧ limb (R i) 2 = limb (R i) 2 ∧ limb (R i) 3 = limb (R i) 3 ∧ limb (S i) 0 = limb (S i) 0 ∧ limb (S i) 1 = limb (S i) 1 ∧ limb (S i) 2 = limb (S i) 2 ∧ limb (S i) 3 = limb (S i) 3 ∧ o i = o i) ∧ (↑y : Int) = (↑y : Int) ∧ (0 : Int) = (↑y_1 : Int) ∧ s = s ∧ (b = b ∧ y = y ∧ cy = cy ∧ ∀ (i : Nat), i < y → w i = w i ∧ limb (R i) 0 = limb (R i) 0 ∧ limb (R i) 1 = limb (R i) 1 ∧ limb (R i) 2 = limb (R i) 2 ∧ limb (R i) 3 = limb (R i) 3 ∧ limb (S i) 0 = limb (S i) 0 ∧ limb (S i) 1 = limb (S i) 1 ∧ limb (S i) 2 = limb (S i) 2 ∧ limb (S i) 3 = limb (S i) 3 ∧ o i = o i) ∧ t = t ∧ n = n ∧ c = c ∧ (∀ (j : Nat), j < 32 → em j = em j) ∧ u = u ∧ l = l ∧ (a = a ∧ m = m ∧ cap = cap ∧ ∀ (i : Nat), i < m → k i 0 = k i 0) ∧ 0 = 0 ∧ ∀ (y_2 : Nat), y_2 ≤ y ∧ allSg w o y_2 = Bool.true → (Decidable.decide ((↑y_2 : Int) < (↑y : Int)) = Bool.true → ((0 : Int) ≤ (↑y_2 : Int) ∧ (↑y_2 : Int) < (↑y : Int)) ∧ ((!!(Decidable.decide ((0 : Int) ≤ w (↑y_2 : Int).toNat) && Decidable.decide (w (↑y_2 : Int).toNat ≤ (255 : Int)))) = Bool.true → (!!(Decidable.decide ((0 : Int) ≤ w (↑y_2 : Int).toNat) && Decidable.decide (w (↑y_2 : Int).toNat ≤ (255 : Int)))) = Bool.true) ∧ ((!!(Decidable.decide ((0 : Int) ≤ w (↑y_2 : Int).toNat) && Decidable.decide (w (↑y_2 : Int).toNat ≤ (255 : Int)))) = Bool.true → (!!(Decidable.decide ((0 : Int) ≤ w (↑y_2 : Int).toNat) && Decidable.decide (w (↑y_2 : Int).toNat ≤ (255 : Int)))) = Bool.true) ∧ ((!!(Decidable.decide ((0 : Int) ≤ w (↑y_2 : Int).toNat) && Decidable.decide (w (↑y_2 : Int).toNat ≤ (255 : Int)))) = Bool.true → (!!(Decidable.decide ((0 : Int) ≤ w (↑y_2 : Int).toNat) && Decidable.decide (w (↑y_2 : Int).toNat ≤ (255 : Int)))) = Bool.true) ∧ ((!!(Decidable.decide ((0 : Int) ≤ w (↑y_2 : Int).toNat) && Decidable.decide (w (↑y_2 : Int).toNat ≤ (255 : Int)))) = Bool.true → (!!(Decidable.decide ((0 : Int) ≤ w (↑y_2 : Int).toNat) && Decidable.decide (w (↑y_2 : Int).toNat ≤ (255 : Int)))) = Bool.true) ∧ ((!(Decidable.decide ((0 : Int) ≤ w (↑y_2 : Int).toNat) && Decidable.decide (w (↑y_2 : Int).toNat ≤ (255 : Int)))) = Bool.false → (!!(Decidable.decide ((0 : Int) ≤ w (↑y_2 : Int).toNat) && Decidable.decide (w (↑y_2 : Int).toNat ≤ (255 : Int)))) = Bool.true) ∧ ((!(Decidable.decide ((0 : Int) ≤ w (↑y_2 : Int).toNat) && Decidable.decide (w (↑y_2 : Int).toNat ≤ (255 : Int))) || !(Decidable.decide ((0 : Int) ≤ o (↑y_2 : Int).toNat) && Decidable.decide (o (↑y_2 : Int).toNat ≤ (255 : Int)))) = Bool.true → (6 : Int) = e) ∧ ((!(Decidable.decide ((0 : Int) ≤ w (↑y_2 : Int).toNat) && Decidable.decide (w (↑y_2 : Int).toNat ≤ (255 : Int))) || !(Decidable.decide ((0 : Int) ≤ o (↑y_2 : Int).toNat) && Decidable.decide (o (↑y_2 : Int).toNat ≤ (255 : Int)))) = Bool.false → ∃ (y' : Nat), (y' ≤ y ∧ allSg w o y' = Bool.true) ∧ (b = b ∧ y = y ∧ cy = cy ∧ ∀ (i : Nat), i < y → w i = w i ∧ limb (R i) 0 = limb (R i) 0 ∧ limb (R i) 1 = limb (R i) 1 ∧ limb (R i) 2 = limb (R i) 2 ∧ limb (R i) 3 = limb (R i) 3 ∧ limb (S i) 0 = limb (S i) 0 ∧ limb (S i) 1 = limb (S i) 1 ∧ limb (S i) 2 = limb (S i) 2 ∧ limb (S i) 3 = limb (S i) 3 ∧ o i = o i) ∧ (↑y : Int) = (↑y : Int) ∧ Go.IntKind.i64.wrap ((↑y_2 : Int) + (1 : Int)) = (↑y' : Int) ∧ s = s ∧ (b = b ∧ y = y ∧ cy = cy ∧ ∀ (i : Nat), i < y → w i = w i ∧ limb (R i) 0 = limb (R i) 0 ∧ limb (R i) 1 = limb (R i) 1 ∧ limb (R i) 2 = limb (R i) 2 ∧ limb (R i) 3 = limb (R i) 3 ∧ limb (S i) 0 = limb (S i) 0 ∧ limb (S i) 1 = limb (S i) 1 ∧ limb (S i) 2 = limb (S i) 2 ∧ limb (S i) 3 = limb (S i) 3 ∧ o i = o i) ∧ t = t ∧ n = n ∧ c = c ∧ (∀ (j : Nat), j < 32 → em j = em j) ∧ u = u ∧ l = l ∧ (a = a ∧ m = m ∧ cap = cap ∧ ∀ (i : Nat), i < m → k i 0 = k i 0) ∧ 0 = 0 ∧ y - y' < y - y_2)) ∧ (Decidable.decide ((↑y_2 : Int) < (↑y : Int)) = Bool.false → t = t ∧ n = n ∧ c = c ∧ (∀ (j : Nat), j < 32 → em j = em j) ∧ u = u ∧ l = l ∧ a = a ∧ m = m ∧ cap = cap ∧ (∀ (i : Nat), i < m → k i 0 = kOf (u8F k) i 0) ∧ u8F (kOf (u8F k)) = u8F (kOf (u8F (kOf (u8F k)))) ∧ bodyE t n c u l m = e)))) := by kernel_rfl
end Go.Proofs.Ytpebkgbelifdgaa
end

section
namespace Go.Proofs.Ytpebkgbelifdgaa
open Go.Sx
theorem k_u8F (k : Nat → Nat → Int) : kOf (u8F k) = k := rfl
theorem mem_one {α : Type} {x : α} {p : α → Prop} (h : p x) : ∀ r ∈ [x], p r := fun r hr => by rw [List.mem_singleton.1 hr]; exact h
theorem card_bck {gl : Globs} : FnOKs Try.prog gl 9 cBckS := by
  refine FnOKs.up0 (FnOKs_Q (cx := cxIn) (sl := []) cxok_In (fun _ h => (by cases h)) Try.func9 (by kernel_rfl) (by kernel_rfl) fun ls hc => ?_) gl
  unfold nfC at hc
  split at hc
  · rename_i t n c em u l a m cap f
    obtain ⟨h, _⟩ := hc
    have := ok_bck t n c u l em a m cap (kOf f)
    unfold sBody ksBody at this
    rw [← h] at this
    exact ⟨[], 30, mem_one trivial, this⟩
  · exact hc.1.elim
theorem card_bft {gl : Globs} : FnOKs Try.prog gl 10 cBckS := by
  refine FnOKs.up0 (FnOKs_Q (cx := Cx.none) (sl := []) pcx_none (fun _ h => (by cases h)) Try.func10 (by kernel_rfl) (by kernel_rfl) fun ls hc => ?_) gl
  unfold nfC at hc
  split at hc
  · rename_i t n c em u l a m cap f
    obtain ⟨h, _⟩ := hc
    have := ok_bft t n c u l em a m cap (kOf f)
    unfold sBody ksBody at this
    rw [← h] at this
    exact ⟨[], 30, mem_one trivial, this⟩
  · exact hc.1.elim
theorem allSg_fail {w o : Nat → Int} {i y : Nat} (h : i < y) (hf : okSg w o i = false) : allSg w o y = false := by
  induction y with
  | zero => omega
  | succ y ih =>
    unfold allSg
    by_cases e : i = y
    · subst e; rw [hf, Bool.and_false]
    · rw [ih (by omega), Bool.false_and]
theorem wrap_next {i y : Nat} (h : i < y) (hy : (y : Int) ≤ 9223372036854775807) : IntKind.i64.wrap ((i : Int) + 1) = ((i + 1 : Nat) : Int) := by
  rw [IntKind.wrap_i64]; omega
theorem ok_plk (s : Int) (b : Option Addr) (y cy : Nat) (w : Nat → Int) (R S : Nat → Nat) (o : Nat → Int) (t n c u l : Int) (em : Nat → Int) (a : Option Addr) (m cap : Nat) (k : Nat → Nat → Int) (hy : (y : Int) ≤ 9223372036854775807) :
    OwesR Try.prog cxIn slBck [(6, .inv (invLook s b y cy w R S o t n c em u l a m cap k))] 30 Try.f26 [.agg (ksPap s b y cy w R S o t n c em u l a m cap k)] false [.v (sI .i64 (papE s y w o t n c u l m))] := by
  rw [vc_plk]
  simp only [eq_self, implies_true, and_self, true_and, and_true, k_u8F, Bool.not_not, imp_self]
  unfold papE
  refine ⟨fun h => ?_, fun h => ⟨fun h2 => ?_, fun h2 => ⟨fun _ => rfl, 0, ⟨Nat.zero_le _, rfl⟩, rfl, fun i hi => ⟨fun h3 => ⟨by grind, by grind, fun h4 => ?_, fun h4 => ⟨i + 1, ⟨by grind, ?_⟩, wrap_next (by grind) hy, by grind⟩⟩, fun h3 => ?_⟩⟩⟩⟩
  · grind
  · grind
  · have : allSg w o y = false := allSg_fail (i := i) (by grind) (by unfold okSg; grind)
    grind
  · unfold allSg okSg; grind
  · have : i = y := by grind
    grind
theorem ok_pft (s : Int) (b : Option Addr) (y cy : Nat) (w : Nat → Int) (R S : Nat → Nat) (o : Nat → Int) (t n c u l : Int) (em : Nat → Int) (a : Option Addr) (m cap : Nat) (k : Nat → Nat → Int) (hy : (y : Int) ≤ 9223372036854775807) :
    OwesR Try.prog cxUp slBft [(6, .inv (invLook s b y cy w R S o t n c em u l a m cap k))] 30 Try.f28 [.agg (ksPap s b y cy w R S o t n c em u l a m cap k)] false [.v (sI .i64 (papE s y w o t n c u l m))] := by
  rw [vc_pft]
  simp only [eq_self, implies_true, and_self, true_and, and_true, k_u8F, Bool.not_not, imp_self]
  unfold papE
  refine ⟨fun h => ?_, fun h => ⟨fun h2 => ?_, fun h2 => ⟨fun _ => rfl, 0, ⟨Nat.zero_le _, rfl⟩, rfl, fun i hi => ⟨fun h3 => ⟨by grind, by grind, fun h4 => ?_, fun h4 => ⟨i + 1, ⟨by grind, ?_⟩, wrap_next (by grind) hy, by grind⟩⟩, fun h3 => ?_⟩⟩⟩⟩
  · grind
  · grind
  · have : allSg w o y = false := allSg_fail (i := i) (by grind) (by unfold okSg; grind)
    grind
  · unfold allSg okSg; grind
  · have : i = y := by grind
    grind
theorem ok_upT (n m : Int) : Owes Try.prog Cx.none [] 10 Try.f25 [sI .i64 n, sI .i64 m] (inG n m) := by
  unfold inG
  rw [vc_upT]
  exact ⟨id, id, id, rfl⟩
theorem card_upT : FnOK Try.prog 25 (specII (fun _ _ => []) inG) :=
  FnOK_II (iv := []) (N := 10) pcx_none Try.func25 (by kernel_rfl) (by kernel_rfl) (fun _ _ => trivial) fun a b _ => ok_upT a b
theorem card_plk {gl : Globs} : FnOKs Try.prog gl 26 cPlkS := by
  refine FnOKs.up0 (FnOKs_Q (cx := cxIn) (sl := slBck) cxok_In (mem_one card_bck) Try.func26 (by kernel_rfl) (by kernel_rfl) fun ls hc => ?_) gl
  unfold papC at hc
  split at hc
  · rename_i s b y cy f2 t n c em u l a m cap f
    obtain ⟨h, _⟩ := hc
    have := ok_plk s b y cy (wOf f2) (ROf f2) (SOf f2) (oOf f2) t n c u l em a m cap (kOf f) h.yl
    unfold ksPap ksBody at this
    rw [← h.nf, ← h.mf] at this
    exact ⟨_, 30, mem_one trivial, this⟩
  · exact hc.1.elim
theorem card_pft {gl : Globs} : FnOKs Try.prog gl 28 cPlkS := by
  refine FnOKs.up0 (FnOKs_Q (cx := cxUp) (sl := slBft) (pgl_cons card_upT pgl_nil) (mem_one card_bft) Try.func28 (by kernel_rfl) (by kernel_rfl) fun ls hc => ?_) gl
  unfold papC at hc
  split at hc
  · rename_i s b y cy f2 t n c em u l a m cap f
    obtain ⟨h, _⟩ := hc
    have := ok_pft s b y cy (wOf f2) (ROf f2) (SOf f2) (oOf f2) t n c u l em a m cap (kOf f) h.yl
    unfold ksPap ksBody at this
    rw [← h.nf, ← h.mf] at this
    exact ⟨_, 30, mem_one trivial, this⟩
  · exact hc.1.elim
end Go.Proofs.Ytpebkgbelifdgaa
end

section
namespace Go.Proofs.Ytpebkgbelifdgaa
open Go.Sx
set_option maxRecDepth 100000
def bigL (k : Nat) (v : Int) : List Int := (List.range k).map fun j => v / 256 ^ (k - 1 - j) % 256
def bigB (k : Nat) (v : Int) : ByteArray := bytesI (bigL k v)
def cBigK : FSpec := fun args =>
  match args with
  | [x, y] => match asI x, asI y with
    | some (.u64, v), some (.i64, 1) => some ([0 ≤ v ∧ v < 18446744073709551616], .one (sStr (bigB 1 v)))
    | some (.u64, v), some (.i64, 2) => some ([0 ≤ v ∧ v < 18446744073709551616], .one (sStr (bigB 2 v)))
    | some (.u64, v), some (.i64, 4) => some ([0 ≤ v ∧ v < 18446744073709551616], .one (sStr (bigB 4 v)))
    | some (.u64, v), some (.i64, 8) => some ([0 ≤ v ∧ v < 18446744073709551616], .one (sStr (bigB 8 v)))
    | _, _ => none
  | _ => none
def txtB (a : Nat) : ByteArray := bigB 8 (limb a 3) ++ bigB 8 (limb a 2) ++ bigB 8 (limb a 1) ++ bigB 8 (limb a 0)
def txtG (a : Nat) : SV := .one (sStr (txtB a))
def cxTxt : Cx := ⟨[(29, cBigK)], [], 0, []⟩
def bodyStr (t n c : Int) (em : Nat → Int) (u l : Int) (m : Nat) (k : Nat → Nat → Int) : ByteArray :=
  bigB 8 t ++ bigB 4 n ++ bigB 2 c ++ bytesI ((List.range 32).map em) ++ bigB 8 u ++ bigB 1 l ++ bytesI ((List.range m).map fun j => k j 0)
theorem vc_rbig1 (v : Int) :
    Owes Try.prog Cx.none [] 12 Try.f29 [sI .u64 v, .sc (.num .i64 1)] (.one (sStr (bigB 1 v))) =
    ((bytesI (intsL [SK.c (SC.val (Go.Value.int Go.IntKind.u8 (Go.IntKind.u8.wrap v)))])).size + 0 ≤ 9223372036854775807 ∧ bytesI (intsL [SK.c (SC.val (Go.Value.int Go.IntKind.u8 (Go.IntKind.u8.wrap v)))]) ++ (ByteArray.mk #[]) = bigB 1 v) := by kernel_rfl
theorem vc_rbig2 (v : Int) :
    Owes Try.prog Cx.none [] 12 Try.f29 [sI .u64 v, .sc (.num .i64 2)] (.one (sStr (bigB 2 v))) =
    ((bytesI (intsL [SK.c (SC.val (Go.Value.int Go.IntKind.u8 (Go.IntKind.u8.wrap v)))])).size + 0 ≤ 9223372036854775807 ∧ (bytesI (intsL [SK.c (SC.val (Go.Value.int Go.IntKind.u8 (Go.IntKind.u8.wrap (v.fdiv (256 : Int)))))])).size + (bytesI (intsL [SK.c (SC.val (Go.Value.int Go.IntKind.u8 (Go.IntKind.u8.wrap v)))]) ++ (ByteArray.mk #[])).size ≤ 9223372036854775807 ∧ bytesI (intsL [SK.c (SC.val (Go.Value.int Go.IntKind.u8 (Go.IntKind.u8.wrap (v.fdiv (256 : Int)))))]) ++ (bytesI (intsL [SK.c (SC.val (Go.Value.int Go.IntKind.u8 (Go.IntKind.u8.wrap v)))]) ++ (ByteArray.mk #[])) = bigB 2 v) := by kernel_rfl
theorem vc_rbig4 (v : Int) :
    Owes Try.prog Cx.none [] 12 Try.f29 [sI .u64 v, .sc (.num .i64 4)] (.one (sStr (bigB 4 v))) =
    (let x1 : Int := (v.fdiv (256 : Int)).fdiv (256 : Int); (bytesI (intsL [SK.c (SC.val (Go.Value.int Go.IntKind.u8 (Go.IntKind.u8.wrap v)))])).size + 0 ≤ 9223372036854775807 ∧ (bytesI (intsL [SK.c (SC.val (Go.Value.int Go.IntKind.u8 (Go.IntKind.u8.wrap (v.fdiv (256 : Int)))))])).size + (bytesI (intsL [SK.c (SC.val (Go.Value.int Go.IntKind.u8 (Go.IntKind.u8.wrap v)))]) ++ (ByteArray.mk #[])).size ≤ 9223372036854775807 ∧ (bytesI (intsL [SK.c (SC.val (Go.Value.int Go.IntKind.u8 (Go.IntKind.u8.wrap x1)))])).size + (bytesI (intsL [SK.c (SC.val (Go.Value.int Go.IntKind.u8 (Go.IntKind.u8.wrap (v.fdiv (256 : Int)))))]) ++ (bytesI (intsL [SK.c (SC.val (Go.Value.int Go.IntKind.u8 (Go.IntKind.u8.wrap v)))]) ++ (ByteArray.mk #[]))).size ≤ 9223372036854775807 ∧ (bytesI (intsL [SK.c (SC.val (Go.Value.int Go.IntKind.u8 (Go.IntKind.u8.wrap (x1.fdiv (256 : Int)))))])).size + (bytesI (intsL [SK.c (SC.val (Go.Value.int Go.IntKind.u8 (Go.IntKind.u8.wrap x1)))]) ++ (bytesI (intsL [SK.c (SC.val (Go.Value.int Go.IntKind.u8 (Go.IntKind.u8.wrap (v.fdiv (256 : Int)))))]) ++ (bytesI (intsL [SK.c (SC.val (Go.Value.int Go.IntKind.u8 (Go.IntKind.u8.wrap v)))]) ++ (ByteArray.mk #[])))).size ≤ 9223372036854775807 ∧ bytesI (intsL [SK.c (SC.val (Go.Value.int Go.IntKind.u8 (Go.IntKind.u8.wrap (x1.fdiv (256 : Int)))))]) ++ (bytesI (intsL [SK.c (SC.val (Go.Value.int Go.IntKind.u8 (Go.IntKind.u8.wrap x1)))]) ++ (bytesI (intsL [SK.c (SC.val (Go.Value.int Go.IntKind.u8 (Go.IntKind.u8.wrap (v.fdiv (256 : Int)))))]) ++ (bytesI (intsL [SK.c (SC.val (Go.Value.int Go.IntKind.u8 (Go.IntKind.u8.wrap v)))]) ++ (ByteArray.mk #[])))) = bigB 4 v) := by kernel_rfl
theorem vc_rbig8 (v : Int) :
    Owes Try.prog Cx.none [] 12 Try.f29 [sI .u64 v, .sc (.num .i64 8)] (.one (sStr (bigB 8 v))) =
    (let x1 : Int := (v.fdiv (256 : Int)).fdiv (256 : Int); let x2 : Int := x1.fdiv (256 : Int); let x3 : Int := x2.fdiv (256 : Int); let x4 : Int := x3.fdiv (256 : Int); let x5 : Int := x4.fdiv (256 : Int); (bytesI (intsL [SK.c (SC.val (Go.Value.int Go.IntKind.u8 (Go.IntKind.u8.wrap v)))])).size + 0 ≤ 9223372036854775807 ∧ (bytesI (intsL [SK.c (SC.val (Go.Value.int Go.IntKind.u8 (Go.IntKind.u8.wrap (v.fdiv (256 : Int)))))])).size + (bytesI (intsL [SK.c (SC.val (Go.Value.int Go.IntKind.u8 (Go.IntKind.u8.wrap v)))]) ++ (ByteArray.mk #[])).size ≤ 9223372036854775807 ∧ (bytesI (intsL [SK.c (SC.val (Go.Value.int Go.IntKind.u8 (Go.IntKind.u8.wrap x1)))])).size + (bytesI (intsL [SK.c (SC.val (Go.Value.int Go.IntKind.u8 (Go.IntKind.u8.wrap (v.fdiv (256 : Int)))))]) ++ (bytesI (intsL [SK.c (SC.val (Go.Value.int Go.IntKind.u8 (Go.IntKind.u8.wrap v)))]) ++ (ByteArray.mk #[]))).size ≤ 9223372036854775807 ∧ (bytesI (intsL [SK.c (SC.val (Go.Value.int Go.IntKind.u8 (Go.IntKind.u8.wrap x2)))])).size + (bytesI (intsL [SK.c (SC.val (Go.Value.int Go.IntKind.u8 (Go.IntKind.u8.wrap x1)))]) ++ (bytesI (intsL [SK.c (SC.val (Go.Value.int Go.IntKind.u8 (Go.IntKind.u8.wrap (v.fdiv (256 : Int)))))]) ++ (bytesI (intsL [SK.c (SC.val (Go.Value.int Go.IntKind.u8 (Go.IntKind.u8.wrap v)))]) ++ (ByteArray.mk #[])))).size ≤ 9223372036854775807 ∧ (bytesI (intsL [SK.c (SC.val (Go.Value.int Go.IntKind.u8 (Go.IntKind.u8.wrap x3)))])).size + (bytesI (intsL [SK.c (SC.val (Go.Value.int Go.IntKind.u8 (Go.IntKind.u8.wrap x2)))]) ++ (bytesI (intsL [SK.c (SC.val (Go.Value.int Go.IntKind.u8 (Go.IntKind.u8.wrap x1)))]) ++ (bytesI (intsL [SK.c (SC.val (Go.Value.int Go.IntKind.u8 (Go.IntKind.u8.wrap (v.fdiv (256 : Int)))))]) ++ (bytesI (intsL [SK.c (SC.val (Go.Value.int Go.IntKind.u8 (Go.IntKind.u8.wrap v)))]) ++ (ByteArray.mk #[]))))).size ≤ 9223372036854775807 ∧ (bytesI (intsL [SK.c (SC.val (Go.Value.int Go.IntKind.u8 (Go.IntKind.u8.wrap x4)))])).size + (bytesI (intsL [SK.c (SC.val (Go.Value.int Go.IntKind.u8 (Go.IntKind.u8.wrap x3)))]) ++ (bytesI (intsL [SK.c (SC.val (Go.Value.int Go.IntKind.u8 (Go.IntKind.u8.wrap x2)))]) ++ (bytesI (intsL [SK.c (SC.val (Go.Value.int Go.IntKind.u8 (Go.IntKind.u8.wrap x1)))]) ++ (bytesI (intsL [SK.c (SC.val (Go.Value.int Go.IntKind.u8 (Go.IntKind.u8.wrap (v.fdiv (256 : Int)))))]) ++ (bytesI (intsL [SK.c (SC.val (Go.Value.int Go.IntKind.u8 (Go.IntKind.u8.wrap v)))]) ++ (ByteArray.mk #[])))))).size ≤ 9223372036854775807 ∧ (bytesI (intsL [SK.c (SC.val (Go.Value.int Go.IntKind.u8 (Go.IntKind.u8.wrap x5)))])).size + (bytesI (intsL [SK.c (SC.val (Go.Value.int Go.IntKind.u8 (Go.IntKind.u8.wrap x4)))]) ++ (bytesI (intsL [SK.c (SC.val (Go.Value.int Go.IntKind.u8 (Go.IntKind.u8.wrap x3)))]) ++ (bytesI (intsL [SK.c (SC.val (Go.Value.int Go.IntKind.u8 (Go.IntKind.u8.wrap x2)))]) ++ (bytesI (intsL [SK.c (SC.val (Go.Value.int Go.IntKind.u8 (Go.IntKind.u8.wrap x1)))]) ++ (bytesI (intsL [SK.c (SC.val (Go.Value.int Go.IntKind.u8 (Go.IntKind.u8.wrap (v.fdiv (256 : Int)))))]) ++ (bytesI (intsL [SK.c (SC.val (Go.Value.int Go.IntKind.u8 (Go.IntKind.u8.wrap v)))]) ++ (ByteArray.mk #[]))))))).size ≤ 9223372036854775807 ∧ (bytesI (intsL [SK.c (SC.val (Go.Value.int Go.IntKind.u8 (Go.IntKind.u8.wrap (x5.fdiv (256 : Int)))))])).size + (bytesI (intsL [SK.c (SC.val (Go.Value.int Go.IntKind.u8 (Go.IntKind.u8.wrap x5)))]) ++ (bytesI (intsL [SK.c (SC.val (Go.Value.int Go.IntKind.u8 (Go.IntKind.u8.wrap x4)))]) ++ (bytesI (intsL [SK.c (SC.val (Go.Value.int Go.IntKind.u8 (Go.IntKind.u8.wrap x3)))]) ++ (bytesI (intsL [SK.c (SC.val (Go.Value.int Go.IntKind.u8 (Go.IntKind.u8.wrap x2)))]) ++ (bytesI (intsL [SK.c (SC.val (Go.Value.int Go.IntKind.u8 (Go.IntKind.u8.wrap x1)))]) ++ (bytesI (intsL [SK.c (SC.val (Go.Value.int Go.IntKind.u8 (Go.IntKind.u8.wrap (v.fdiv (256 : Int)))))]) ++ (bytesI (intsL [SK.c (SC.val (Go.Value.int Go.IntKind.u8 (Go.IntKind.u8.wrap v)))]) ++ (ByteArray.mk #[])))))))).size ≤ 9223372036854775807 ∧ bytesI (intsL [SK.c (SC.val (Go.Value.int Go.IntKind.u8 (Go.IntKind.u8.wrap (x5.fdiv (256 : Int)))))]) ++ (bytesI (intsL [SK.c (SC.val (Go.Value.int Go.IntKind.u8 (Go.IntKind.u8.wrap x5)))]) ++ (bytesI (intsL [SK.c (SC.val (Go.Value.int Go.IntKind.u8 (Go.IntKind.u8.wrap x4)))]) ++ (bytesI (intsL [SK.c (SC.val (Go.Value.int Go.IntKind.u8 (Go.IntKind.u8.wrap x3)))]) ++ (bytesI (intsL [SK.c (SC.val (Go.Value.int Go.IntKind.u8 (Go.IntKind.u8.wrap x2)))]) ++ (bytesI (intsL [SK.c (SC.val (Go.Value.int Go.IntKind.u8 (Go.IntKind.u8.wrap x1)))]) ++ (bytesI (intsL [SK.c (SC.val (Go.Value.int Go.IntKind.u8 (Go.IntKind.u8.wrap (v.fdiv (256 : Int)))))]) ++ (bytesI (intsL [SK.c (SC.val (Go.Value.int Go.IntKind.u8 (Go.IntKind.u8.wrap v)))]) ++ (ByteArray.mk #[])))))))) = bigB 8 v) := by kernel_rfl
theorem vc_rtxt (a : Nat) :
    Owes Try.prog cxTxt [] 12 Try.f30 [sU a] (txtG a) =
    (((0 : Int) ≤ limb a 3 ∧ limb a 3 < (18446744073709551616 : Int)) ∧ ((0 : Int) ≤ limb a 2 ∧ limb a 2 < (18446744073709551616 : Int)) ∧ (bigB 8 (limb a 3)).size + (bigB 8 (limb a 2)).size ≤ 9223372036854775807 ∧ ((0 : Int) ≤ limb a 1 ∧ limb a 1 < (18446744073709551616 : Int)) ∧ (bigB 8 (limb a 3) ++ bigB 8 (limb a 2)).size + (bigB 8 (limb a 1)).size ≤ 9223372036854775807 ∧ ((0 : Int) ≤ limb a 0 ∧ limb a 0 < (18446744073709551616 : Int)) ∧ (bigB 8 (limb a 3) ++ bigB 8 (limb a 2) ++ bigB 8 (limb a 1)).size + (bigB 8 (limb a 0)).size ≤ 9223372036854775807 ∧ bigB 8 (limb a 3) ++ bigB 8 (limb a 2) ++ bigB 8 (limb a 1) ++ bigB 8 (limb a 0) = txtB a) := by kernel_rfl
theorem vc_rbdt (t n c u l : Int) (em : Nat → Int) (a : Option Addr) (m cap : Nat) (k : Nat → Nat → Int) (r : ByteArray) :
    OwesR Try.prog cxTxt [] [] 30 Try.f31 [sBody t n c em u l a m cap k] false [.v (sStr r)] =
    (((0 : Int) ≤ Go.IntKind.u64.wrap t ∧ Go.IntKind.u64.wrap t < (18446744073709551616 : Int)) ∧ ((0 : Int) ≤ Go.IntKind.u64.wrap n ∧ Go.IntKind.u64.wrap n < (18446744073709551616 : Int)) ∧ (bigB 8 (Go.IntKind.u64.wrap t)).size + (bigB 4 (Go.IntKind.u64.wrap n)).size ≤ 9223372036854775807 ∧ ((0 : Int) ≤ Go.IntKind.u64.wrap c ∧ Go.IntKind.u64.wrap c < (18446744073709551616 : Int)) ∧ (bigB 8 (Go.IntKind.u64.wrap t) ++ bigB 4 (Go.IntKind.u64.wrap n)).size + (bigB 2 (Go.IntKind.u64.wrap c)).size ≤ 9223372036854775807 ∧ (bigB 8 (Go.IntKind.u64.wrap t) ++ bigB 4 (Go.IntKind.u64.wrap n) ++ bigB 2 (Go.IntKind.u64.wrap c)).size + (bytesI (intsL [SK.f Go.IntKind.u8 32 em])).size ≤ 9223372036854775807 ∧ ((0 : Int) ≤ Go.IntKind.u64.wrap u ∧ Go.IntKind.u64.wrap u < (18446744073709551616 : Int)) ∧ (bigB 8 (Go.IntKind.u64.wrap t) ++ bigB 4 (Go.IntKind.u64.wrap n) ++ bigB 2 (Go.IntKind.u64.wrap c) ++ bytesI (intsL [SK.f Go.IntKind.u8 32 em])).size + (bigB 8 (Go.IntKind.u64.wrap u)).size ≤ 9223372036854775807 ∧ ((0 : Int) ≤ Go.IntKind.u64.wrap l ∧ Go.IntKind.u64.wrap l < (18446744073709551616 : Int)) ∧ (bigB 8 (Go.IntKind.u64.wrap t) ++ bigB 4 (Go.IntKind.u64.wrap n) ++ bigB 2 (Go.IntKind.u64.wrap c) ++ bytesI (intsL [SK.f Go.IntKind.u8 32 em]) ++ bigB 8 (Go.IntKind.u64.wrap u)).size + (bigB 1 (Go.IntKind.u64.wrap l)).size ≤ 9223372036854775807 ∧ (∀ (j : Nat), True) ∧ (bigB 8 (Go.IntKind.u64.wrap t) ++ bigB 4 (Go.IntKind.u64.wrap n) ++ bigB 2 (Go.IntKind.u64.wrap c) ++ bytesI (intsL [SK.f Go.IntKind.u8 32 em]) ++ bigB 8 (Go.IntKind.u64.wrap u) ++ bigB 1 (Go.IntKind.u64.wrap l)).size + (bytesI (List.map (fun (j : Nat) => k j 0) (List.range m))).size ≤ 9223372036854775807 ∧ bigB 8 (Go.IntKind.u64.wrap t) ++ bigB 4 (Go.IntKind.u64.wrap n) ++ bigB 2 (Go.IntKind.u64.wrap c) ++ bytesI (intsL [SK.f Go.IntKind.u8 32 em]) ++ bigB 8 (Go.IntKind.u64.wrap u) ++ bigB 1 (Go.IntKind.u64.wrap l) ++ bytesI (List.map (fun (j : Nat) => k j 0) (List.range m)) = r) := by kernel_rfl
end Go.Proofs.Ytpebkgbelifdgaa
end

section
namespace Go.Proofs.Ytpebkgbelifdgaa
open Go.Sx
set_option maxRecDepth 100000
end Go.Proofs.Ytpebkgbelifdgaa
end

section
namespace Go.Proofs.Ytpebkgbelifdgaa
open Go.Sx
set_option maxRecDepth 100000
end Go.Proofs.Ytpebkgbelifdgaa
end

section
namespace Go.Proofs.Ytpebkgbelifdgaa
open Go.Sx
set_option maxRecDepth 100000
theorem vc_Bytes (a : Nat) :
    Owes Try.prog Cx.none [] 400 Try.f60 [sU a] (bytesG a) =
    (Go.IntKind.u8.wrap ((limb a 3).fdiv (72057594037927936 : Int)) = by8 a 31 ∧ Go.IntKind.u8.wrap ((limb a 3).fdiv (281474976710656 : Int)) = by8 a 30 ∧ Go.IntKind.u8.wrap ((limb a 3).fdiv (1099511627776 : Int)) = by8 a 29 ∧ Go.IntKind.u8.wrap ((limb a 3).fdiv (4294967296 : Int)) = by8 a 28 ∧ Go.IntKind.u8.wrap ((limb a 3).fdiv (16777216 : Int)) = by8 a 27 ∧ Go.IntKind.u8.wrap ((limb a 3).fdiv (65536 : Int)) = by8 a 26 ∧ Go.IntKind.u8.wrap ((limb a 3).fdiv (256 : Int)) = by8 a 25 ∧ Go.IntKind.u8.wrap ((limb a 3).fdiv (1 : Int)) = by8 a 24 ∧ Go.IntKind.u8.wrap ((limb a 2).fdiv (72057594037927936 : Int)) = by8 a 23 ∧ Go.IntKind.u8.wrap ((limb a 2).fdiv (281474976710656 : Int)) = by8 a 22 ∧ Go.IntKind.u8.wrap ((limb a 2).fdiv (1099511627776 : Int)) = by8 a 21 ∧ Go.IntKind.u8.wrap ((limb a 2).fdiv (4294967296 : Int)) = by8 a 20 ∧ Go.IntKind.u8.wrap ((limb a 2).fdiv (16777216 : Int)) = by8 a 19 ∧ Go.IntKind.u8.wrap ((limb a 2).fdiv (65536 : Int)) = by8 a 18 ∧ Go.IntKind.u8.wrap ((limb a 2).fdiv (256 : Int)) = by8 a 17 ∧ Go.IntKind.u8.wrap ((limb a 2).fdiv (1 : Int)) = by8 a 16 ∧ Go.IntKind.u8.wrap ((limb a 1).fdiv (72057594037927936 : Int)) = by8 a 15 ∧ Go.IntKind.u8.wrap ((limb a 1).fdiv (281474976710656 : Int)) = by8 a 14 ∧ Go.IntKind.u8.wrap ((limb a 1).fdiv (1099511627776 : Int)) = by8 a 13 ∧ Go.IntKind.u8.wrap ((limb a 1).fdiv (4294967296 : Int)) = by8 a 12 ∧ Go.IntKind.u8.wrap ((limb a 1).fdiv (16777216 : Int)) = by8 a 11 ∧ Go.IntKind.u8.wrap ((limb a 1).fdiv (65536 : Int)) = by8 a 10 ∧ Go.IntKind.u8.wrap ((limb a 1).fdiv (256 : Int)) = by8 a 9 ∧ Go.IntKind.u8.wrap ((limb a 1).fdiv (1 : Int)) = by8 a 8 ∧ Go.IntKind.u8.wrap ((limb a 0).fdiv (72057594037927936 : Int)) = by8 a 7 ∧ Go.IntKind.u8.wrap ((limb a 0).fdiv (281474976710656 : Int)) = by8 a 6 ∧ Go.IntKind.u8.wrap ((limb a 0).fdiv (1099511627776 : Int)) = by8 a 5 ∧ Go.IntKind.u8.wrap ((limb a 0).fdiv (4294967296 : Int)) = by8 a 4 ∧ Go.IntKind.u8.wrap ((limb a 0).fdiv (16777216 : Int)) = by8 a 3 ∧ Go.IntKind.u8.wrap ((limb a 0).fdiv (65536 : Int)) = by8 a 2 ∧ Go.IntKind.u8.wrap ((limb a 0).fdiv (256 : Int)) = by8 a 1 ∧ Go.IntKind.u8.wrap ((limb a 0).fdiv (1 : Int)) = by8 a 0 ∧ True) := by kernel_rfl
end Go.Proofs.Ytpebkgbelifdgaa
end

section
namespace Go.Proofs.Ytpebkgbelifdgaa
open Go.Sx
end Go.Proofs.Ytpebkgbelifdgaa
end

section
namespace Go.Proofs.Ytpebkgbelifdgaa
open Go.Sx
end Go.Proofs.Ytpebkgbelifdgaa
end

section
namespace Go.Proofs.Ytpebkgbelifdgaa
open Go.Sx
theorem wrap_id {n : Int} (h : 0 ≤ n ∧ n < 18446744073709551616) : IntKind.u64.wrap n = n := by
  unfold IntKind.wrap
  simp [IntKind.signed, IntKind.bits]
  omega
end Go.Proofs.Ytpebkgbelifdgaa
end

section
namespace Go.Proofs.Ytpebkgbelifdgaa
open Go.Sx
end Go.Proofs.Ytpebkgbelifdgaa
end

section
namespace Go.Proofs.Ytpebkgbelifdgaa
open Go.Sx
end Go.Proofs.Ytpebkgbelifdgaa
end

section
namespace Go.Proofs.Ytpebkgbelifdgaa
open Go.Sx
end Go.Proofs.Ytpebkgbelifdgaa
end

section
namespace Go.Proofs.Ytpebkgbelifdgaa
open Go.Sx
end Go.Proofs.Ytpebkgbelifdgaa
end

section
namespace Go.Sx
open Go.RowKit Go.ChangeShapes Go.WideShapes
inductive LK where
  | bool
  | int (k : IntKind)
  | text
def LK.fits : LK → Value → Prop
  | .bool, .bool _ => True
  | .int k, .int k' n => k' = k ∧ (Lit.int k n).wf = true
  | .text, .string s => s.size ≤ maxLen
  | _, _ => False
def fitsL : List LK → List Value → Prop
  | [], [] => True
  | l :: ls, v :: vs => l.fits v ∧ fitsL ls vs
  | _, _ => False
theorem fitsL_append : ∀ {a b : List LK} {u v : List Value}, fitsL a u → fitsL b v → fitsL (a ++ b) (u ++ v)
  | [], _, [], _, _, h => h
  | _ :: _, _, _ :: _, _, h, k => ⟨h.1, fitsL_append h.2 k⟩
  | [], _, _ :: _, _, h, _ => h.elim
  | _ :: _, _, [], _, h, _ => h.elim
def lksF (P : Program) (g : TypeId → Option (List LK)) : List Field → Nat → Option (List LK)
  | [], _ => some []
  | f :: fs, n =>
    match g f.type with
    | none => none
    | some a => if Nat.beq f.offset n && Nat.beq (P.cellsOf f.type) a.length then (lksF P g fs (n + a.length)).map (a ++ ·) else none
def lks (P : Program) : Nat → TypeId → Option (List LK)
  | 0, _ => none
  | d + 1, t =>
    match P.underlying t with
    | some .bool => some [.bool]
    | some (.int k) => some [.int k]
    | some .string => some [.text]
    | some (.struct fs) => match lksF P (lks P d) fs.toList 0 with
      | some a => if Nat.beq (P.cellsOf t) a.length then some a else none
      | none => none
    | some (.array n e) => match lks P d e with
      | some a => if Nat.beq (P.cellsOf e) a.length && Nat.beq (P.cellsOf t) (n * a.length) then some (List.replicate n a).flatten else none
      | none => none
    | _ => none
section
variable {H : Type} {enc : TypeId × Value → H} {P : Program} {w : World} {base : Nat} {sp : Nat → Bool} {held : Bool}
theorem fits_fields {fuel : Nat} {g : TypeId → Option (List LK)} {cs : List Value}
    (hg : ∀ {t a cs' x}, g t = some a → DataW.trod enc P w base sp held fuel t cs' = some x → fitsL a cs') :
    ∀ {fs : List Field} {n : Nat} {a : List LK}, lksF P g fs n = some a →
      (∀ f ∈ fs, ∃ x, DataW.trod enc P w base sp held fuel f.type ((cs.drop f.offset).take (P.cellsOf f.type)) = some x) → fitsL a ((cs.drop n).take a.length)
  | [], n, a, h, _ => by
    simp only [lksF, Option.some.injEq] at h
    subst h
    simp [fitsL]
  | f :: fs, n, a, h, hx => by
    simp only [lksF] at h
    split at h
    · cases h
    · rename_i a0 ha
      split at h
      · rename_i hc
        simp only [Bool.and_eq_true] at hc
        have h1 := Nat.eq_of_beq_eq_true hc.1
        have h2 := Nat.eq_of_beq_eq_true hc.2
        cases hr : lksF P g fs (n + a0.length) with
        | none => rw [hr] at h; simp at h
        | some a1 =>
          rw [hr] at h
          simp only [Option.map_some, Option.some.injEq] at h
          subst h
          obtain ⟨x, hx0⟩ := hx f (by simp)
          have f0 := hg ha hx0
          have f1 := fits_fields hg hr (fun f' hf' => hx f' (by simp [hf']))
          rw [h1, h2] at f0
          have := fitsL_append f0 f1
          rwa [List.length_append, List.take_add, List.drop_drop]
      · cases h
theorem fits_rows {a : List LK} : ∀ {n : Nat} {cs : List Value}, (∀ i, i < n → fitsL a ((cs.drop (i * a.length)).take a.length)) → cs.length = n * a.length → fitsL (List.replicate n a).flatten cs
  | 0, cs, _, hl => by
    have : cs = [] := List.eq_nil_of_length_eq_zero (by omega)
    subst this
    trivial
  | n + 1, cs, h, hl => by
    rw [List.replicate_succ, List.flatten_cons]
    have h0 := h 0 (by omega)
    rw [Nat.zero_mul, List.drop_zero] at h0
    have := fitsL_append h0 (fits_rows (n := n) (cs := cs.drop a.length) (fun i hi => by
      have := h (i + 1) (by omega)
      rw [List.drop_drop]
      rwa [Nat.add_mul, Nat.one_mul, Nat.add_comm] at this) (by rw [List.length_drop, hl, Nat.add_mul]; omega))
    rwa [List.take_append_drop] at this
theorem trod_fits : ∀ {d : Nat} {t : TypeId} {a : List LK} {fuel : Nat} {cs : List Value} {x : DataW H × List MemPlace}, lks P d t = some a → DataW.trod enc P w base sp held fuel t cs = some x → fitsL a cs
  | 0, _, _, _, _, _, h, _ => by cases h
  | d + 1, t, a, fuel, cs, x, h, hx => by
    unfold lks at h
    split at h
    · rename_i hu
      obtain ⟨b, rfl, _⟩ := DataW.trod_bool hu hx
      simp only [Option.some.injEq] at h; subst h
      exact ⟨trivial, trivial⟩
    · rename_i k hu
      obtain ⟨n, rfl, _, hw⟩ := DataW.trod_int hu hx
      simp only [Option.some.injEq] at h; subst h
      exact ⟨⟨rfl, hw⟩, trivial⟩
    · rename_i hu
      obtain ⟨s, rfl, _, hs⟩ := DataW.trod_string hu hx
      simp only [Option.some.injEq] at h; subst h
      exact ⟨hs, trivial⟩
    · rename_i fs hu
      split at h
      · rename_i a' ha
        split at h
        · rename_i hc
          simp only [Option.some.injEq] at h; subst h
          obtain ⟨xs, n, rfl, _, hl, hn, hf⟩ := DataW.trod_struct hu hx
          have := fits_fields (cs := cs) (fun h1 h2 => trod_fits (d := d) h1 h2) ha (fun f hm => by
            obtain ⟨i, hi, e⟩ := List.mem_iff_getElem.1 hm
            have e' : fs[i]? = some f := by rw [← e]; simp at hi ⊢
            have hlt : i < xs.length := by simp at hi; omega
            exact ⟨xs[i], by rw [hf i f e']; simp [hlt]⟩)
          rw [List.drop_zero, List.take_of_length_le (by rw [hl, Nat.eq_of_beq_eq_true hc]; exact Nat.le_refl _)] at this
          exact this
        · cases h
      · cases h
    · rename_i n e hu
      split at h
      · rename_i a' ha
        split at h
        · rename_i hc
          simp only [Bool.and_eq_true] at hc
          simp only [Option.some.injEq] at h; subst h
          obtain ⟨xs, m, rfl, _, hl, hn, hf⟩ := DataW.trod_array hu hx
          have h1 := Nat.eq_of_beq_eq_true hc.1
          have h2 := Nat.eq_of_beq_eq_true hc.2
          refine fits_rows (fun i hi => ?_) (by rw [hl, h2])
          have := hf i hi
          have hlt : i < xs.length := by omega
          rw [h1, List.getElem?_eq_getElem hlt] at this
          exact trod_fits ha this
        · cases h
      · cases h
    · cases h
theorem trodAll_carry (hl : laidOutB P = true) {W W' : World} (hb : Below W.heap.size W W') {sp' : Nat → Bool} :
    ∀ {ts : List TypeId} {vs : List Value} {ds : List (DataW H)} {ps : List MemPlace}, ts.all (fun t => P.readableRec t && Nat.blt t P.types.size) = true →
      DataW.TrodAll enc P W 0 (fun _ => true) true ts vs ds ps → (∀ x ∈ ps, x.block < W.heap.size) → (∀ x ∈ ps, sp' x.block = true) → DataW.TrodAll enc P W' 0 sp' true ts vs ds ps
  | [], _, _, _, _, h, _, _ => by
    obtain ⟨rfl, rfl, rfl⟩ := trodAll_nil h
    exact rfl
  | t :: ts, _, _, _, hr, h, hlt, hsp => by
    obtain ⟨v, vs, d, ds, p, q, rfl, rfl, rfl, h1, h2⟩ := trodAll_cons h
    simp only [List.all_cons, Bool.and_eq_true] at hr
    obtain ⟨⟨hr1, hr2⟩, hr3⟩ := hr
    refine trodAll_cons_mk (Go.WideElems.Trod_stays hl hr1 (by simpa [Nat.blt, Nat.succ_le_iff] using hr2) h1 (fun x hx => hb.same (hlt x (by simp [hx]))) (fun x hx => hsp x (by simp [hx])))
      (trodAll_carry hl hb hr3 h2 (fun x hx => hlt x (by simp [hx])) (fun x hx => hsp x (by simp [hx])))
theorem law_post {f : Func} {s : ChangeSpec} {fresh handsOn again : Bool} {W W' : World} {args : Array Value} {ds gs : List (DataW H)} {before : List MemPlace} {tb : TypeId}
    (hl : laidOutB P = true) (hp : f.params.toList.all (fun t => P.readableRec t && Nat.blt t P.types.size) = true) (hr : f.resultTypes = #[tb]) (hu : P.underlying tb = some .bool) (hv : s.vars = [])
    (hs : s.fn H (ds ++ gs) = { results := [.lit (.bool true)], args := ds, vars := [] })
    (hW : DataW.Whole enc P f.params.toList s.vars false W args.toList ds gs before) (hb : Below W.heap.size W W') :
    s.post enc P f false fresh handsOn again W args (.bool true) W' := by
  have hlt : ∀ p ∈ before, p.block < W.heap.size := fun p hp => hW.lt p hp
  have hW0 := hW
  obtain ⟨p, q, hA, hV, he, hz, hn⟩ := hW
  rw [hv] at hV
  obtain ⟨rfl, rfl⟩ := trodVars_none hV
  rw [List.append_nil] at he
  subst he
  have hres : ∀ (b : Nat) (sp : Nat → Bool) (hd : Bool), DataW.TrodAll enc P W' b sp hd f.resultTypes.toList (Value.resultList f.resultTypes.size (.bool true)) (s.fn H (ds ++ [])).results [] := by
    intro b sp hd
    rw [hs, hr]
    exact trodAll_mk1 (shut_bool hu true)
  have hargs : ∀ sp : Nat → Bool, (∀ x ∈ before, sp x.block = true) → DataW.TrodAll enc P W' 0 sp true f.params.toList args.toList (s.fn H (ds ++ [])).args before := by
    intro sp hsp
    rw [hs]
    exact trodAll_carry hl hb hp hA hlt hsp
  have hvars : ∀ sp : Nat → Bool, DataW.TrodVars enc P W' sp s.vars (s.fn H (ds ++ [])).vars [] := by
    intro sp
    rw [hv, hs]
    exact rfl
  refine ⟨ds, [], before, [], before, [], hW0, hres _ _ _, hargs _ (fun x hx => by simpa using hlt x hx), hvars _, World.keptBut_mono (fun x hx => ⟨hx, .inr (.inl hx)⟩) (hb.frame (· ∈ before)), fun _ => ⟨?_, _, [], before, ⟨before, [], trodAll_append (hargs _ (fun _ _ => rfl)) (hres _ _ _), ?_, (List.append_nil _).symm, ?_, ?_⟩, fun x hx _ => hx⟩⟩
  · refine ok_one hr rfl ?_
    unfold Value.okWide
    rw [hu]
    unfold Cell.okWide
    rw [hu]
    unfold Cell.ok
    rw [hu]
    trivial
  · have := hvars (fun _ => true)
    rw [hs] at this
    exact this
  · intro b off hm
    rw [hb.frozen (hlt _ hm)]
    exact hz b off hm
  · intro h; cases h
end
end Go.Sx
end

section
namespace Go.Proofs.Ytpebkgbelifdgaa
open Go.Sx
theorem CxOK_nil : CxOK Try.prog Cx.none := ⟨fun _ h => (by cases h), fun _ h => (by cases h)⟩
end Go.Proofs.Ytpebkgbelifdgaa
end

section
namespace Go.Proofs.Ytpebkgbelifdgaa
open Go.Sx
end Go.Proofs.Ytpebkgbelifdgaa
end

section
namespace Go.Proofs.Ytpebkgbelifdgaa
open Go.Sx
theorem byte_cut (c m : Nat) (hm : m < 8) : c % 2 ^ 64 / 2 ^ (8 * m) % 256 = c / 2 ^ (8 * m) % 256 := by
  match m, hm with
  | 0, _ | 1, _ | 2, _ | 3, _ | 4, _ | 5, _ | 6, _ | 7, _ => all_goals (simp only [Nat.reduceMul, Nat.reducePow, Nat.pow_zero]; omega)
theorem u8_wrap (n : Nat) : IntKind.u8.wrap (n : Int) = ((n % 256 : Nat) : Int) := by
  unfold IntKind.wrap
  simp [IntKind.signed, IntKind.bits]
theorem byte_of (a i m j : Nat) (d : Int) (hm : m < 8) (hd : d = ((2 ^ (8 * m) : Nat) : Int)) (hj : j = 8 * i + m) : IntKind.u8.wrap ((limb a i).fdiv d) = by8 a j := by
  subst hd hj
  unfold limb by8
  rw [Int.fdiv_eq_ediv_of_nonneg _ (Int.natCast_nonneg _), ← Int.natCast_ediv, u8_wrap, byte_cut _ _ hm, Nat.div_div_eq_div_mul, ← Nat.pow_add]
  have : 64 * i + 8 * m = 8 * (8 * i + m) := by omega
  rw [this]
theorem ok_Bytes : ∀ a, Owes Try.prog Cx.none [] 400 Try.f60 [sU a] (bytesG a) := by
  intro a
  rw [vc_Bytes]
  have h : ∀ i m j d, m < 8 → d = ((2 ^ (8 * m) : Nat) : Int) → j = 8 * i + m → IntKind.u8.wrap ((limb a i).fdiv d) = by8 a j := fun i m j d => byte_of a i m j d
  exact ⟨h 3 7 _ _ (by decide) rfl rfl,
    h 3 6 _ _ (by decide) rfl rfl,
    h 3 5 _ _ (by decide) rfl rfl,
    h 3 4 _ _ (by decide) rfl rfl,
    h 3 3 _ _ (by decide) rfl rfl,
    h 3 2 _ _ (by decide) rfl rfl,
    h 3 1 _ _ (by decide) rfl rfl,
    h 3 0 _ _ (by decide) rfl rfl,
    h 2 7 _ _ (by decide) rfl rfl,
    h 2 6 _ _ (by decide) rfl rfl,
    h 2 5 _ _ (by decide) rfl rfl,
    h 2 4 _ _ (by decide) rfl rfl,
    h 2 3 _ _ (by decide) rfl rfl,
    h 2 2 _ _ (by decide) rfl rfl,
    h 2 1 _ _ (by decide) rfl rfl,
    h 2 0 _ _ (by decide) rfl rfl,
    h 1 7 _ _ (by decide) rfl rfl,
    h 1 6 _ _ (by decide) rfl rfl,
    h 1 5 _ _ (by decide) rfl rfl,
    h 1 4 _ _ (by decide) rfl rfl,
    h 1 3 _ _ (by decide) rfl rfl,
    h 1 2 _ _ (by decide) rfl rfl,
    h 1 1 _ _ (by decide) rfl rfl,
    h 1 0 _ _ (by decide) rfl rfl,
    h 0 7 _ _ (by decide) rfl rfl,
    h 0 6 _ _ (by decide) rfl rfl,
    h 0 5 _ _ (by decide) rfl rfl,
    h 0 4 _ _ (by decide) rfl rfl,
    h 0 3 _ _ (by decide) rfl rfl,
    h 0 2 _ _ (by decide) rfl rfl,
    h 0 1 _ _ (by decide) rfl rfl,
    h 0 0 _ _ (by decide) rfl rfl, trivial⟩
theorem card_Bytes : FnOK Try.prog 60 (specU bytesG) :=
  FnOK_U CxOK_nil (iv := []) (N := 400) Try.func60 (by kernel_rfl) (by kernel_rfl) (fun a => by unfold bytesG; intro k hk; simp only [List.mem_singleton] at hk; subst hk; trivial) ok_Bytes
end Go.Proofs.Ytpebkgbelifdgaa
end

section
namespace Go.Sx
open Go.RowKit
def inlW (wl : List (Nat × WSpec)) (inner : Inl) : Inl := fun f args ob k =>
  match getW wl f with
  | none => inner f args ob k
  | some s => match wdo s args ob with
    | some (ps, sv, o, _, m) => ands ps (k sv (ob.set o (noteO s.e s.k m)))
    | none => StuckAt "cell"
theorem inlW_ok {P : Program} {gl : Globs} {wl : List (Nat × WSpec)} (hwl : ∀ p ∈ wl, FnOKw P gl p.1 p.2) {inner : Inl} (hin : InlOK P gl inner) : InlOK P gl (inlW wl inner) := by
  intro f args ob k h Z ρ tm a w hz H hargs
  unfold inlW at h
  split at h
  · exact hin f args ob k h hz H hargs
  rename_i s hs
  split at h
  case h_2 => exact h.no
  rename_i ps sv o n m hd
  obtain ⟨hp, h⟩ := ands_iff.1 h
  obtain ⟨r, hc⟩ := wdo_sound H (hz ▸ getW_ok hwl hs) hargs hd hp
  refine ⟨r, hc.mono ?_⟩
  rintro e w' ⟨v, rfl, hv, hb, H'⟩
  exact ⟨v, rfl, ρ, sv, _, h, hv, SV.bnd_mono none0_le hb, H'.scrubbed⟩
section
variable {P : Program}
def inlY (P : Program) (cx : Cx) (sl : List (Nat × SSpec)) (dr : Drawn) (iv : List (Nat × Hint)) (N : Nat) : Nat → Inl
  | 0 => inlW cx.wf (inlS sl noInl)
  | d + 1 => inlW cx.wf (inlS sl fun f args ob k =>
    match P.funcs[f]? with
    | some fn =>
      match fn.body, fn.name == "runtime.NumGoroutine" with
      | some c, false => sx P { cx with kn := ob.length } (inlY P cx sl dr iv N d) dr iv N ((f + 1) * 100000) ob.length c (slots0 args fn.ntmps) ob (ret P fn.results.toList k)
      | _, _ => StuckAt "no text"
    | none => StuckAt "no function")
def noteIs (ob : List SO) (e : TypeId) (k : IntKind) (m : Int) : Prop :=
  match ob with
  | .cells e' [.c x] 0 :: _ => match Nat.beq e' e with
    | true => isInt k m x
    | false => False
  | _ => False
def OwesW (P : Program) (cx : Cx) (sl : List (Nat × SSpec)) (iv : List (Nat × Hint)) (N : Nat) (fn : Func) (args : List SA) (e : TypeId) (k : IntKind) (n : Int) (out : SV) (m : Int) : Prop :=
  sx P { cx with kn := 1 } (inlY P cx sl drawOK iv N 8) drawOK iv N 0 1 (fn.body.getD .skip) (slots0 args fn.ntmps) [noteO e k n] (ret P fn.results.toList fun sv ob => same sv out ∧ noteIs ob e k m)
def OwesU (P : Program) (cx : Cx) (sl : List (Nat × SSpec)) (iv : List (Nat × Hint)) (N : Nat) (fn : Func) (args : List SA) (out : SV) : Prop :=
  sx P { cx with kn := 0 } (inlY P cx sl drawOK iv N 8) drawOK iv N 0 0 (fn.body.getD .skip) (slots0 args fn.ntmps) [] (ret P fn.results.toList fun sv _ => same sv out)
end
attribute [irreducible] OwesW OwesU
end Go.Sx
end
