/-
  Texts: Wsp, Wsp2, Wsp3, Wsp4, Wsp6, Wsp5, Wsp7, Wsp8, V90, P140, V92, P141, V1, V2, V4, P1, P2, P3, P4, P5, P6, P7, Lift, C1, C2, P9, Sx15, Sx16, Wsp9, V94, P142, V95.
-/
import Derived.Test.YtpebkgbelifdgaaDoorM1
import Derived.Test.YtpebkgbelifdgaaDoorM2
import Derived.Test.YtpebkgbelifdgaaDoorM3
import Derived.Test.YtpebkgbelifdgaaDoorM4
import Derived.Test.YtpebkgbelifdgaaDoorM5
import Derived.Test.YtpebkgbelifdgaaDoorM6
import Derived.Test.YtpebkgbelifdgaaDoorM7
import Derived.Test.YtpebkgbelifdgaaDoorM8
import Derived.Test.YtpebkgbelifdgaaDoorChecked
import Derived.Test.YtpebkgbelifdgaaDoorRows
import Derived.Lib.Mul64
import Derived.ProofKit
import Derived.OpenShut
section
namespace Go.Sx
open Go.RowKit
theorem asI_canon {x : SA} {k : IntKind} {n : Int} (h : asI x = some (k, n)) (ρ : Rho) : x.conc ρ = (sI k n).conc ρ := asI_sound h ρ
def specII (c : Int → Int → List Prop) (g : Int → Int → SV) : FSpec := fun args =>
  match args with
  | [x, y] => match asI x, asI y with
    | some (.i64, a), some (.i64, b) => some (c a b, g a b)
    | _, _ => none
  | _ => none
theorem FnOK_II {P : Program} {cx : Cx} (hcx : CxOK P cx) {iv : List (Nat × Hint)} {N : Nat} {f : Nat} {fn : Func} (hf : P.funcs[f]? = some fn) (hb : fn.body.isSome = true) (hn : (fn.name == "runtime.NumGoroutine") = false) {c : Int → Int → List Prop} {g : Int → Int → SV} (hg : ∀ a b, (g a b).bnd none0)
    (h : ∀ a b, Ok (c a b) → Owes P cx iv N fn [sI .i64 a, sI .i64 b] (g a b)) : FnOKg P cx.gl f (specII c g) := by
  refine FnOK_owes (iv := iv) (N := N) hcx hf hb hn fun args ps sv hs hp => ?_
  unfold specII at hs
  split at hs
  · rename_i x y
    split at hs
    · rename_i a b ha hb'
      simp only [Option.some.injEq, Prod.mk.injEq] at hs
      obtain ⟨rfl, rfl⟩ := hs
      refine ⟨[sI .i64 a, sI .i64 b], fun ρ => by simp only [List.map_cons, List.map_nil, asI_canon ha ρ, asI_canon hb' ρ], ?_, hg a b, h a b hp⟩
      intro z hz
      simp only [List.mem_cons, List.not_mem_nil, or_false] at hz
      rcases hz with rfl | rfl <;> trivial
    · cases hs
  · cases hs
def lookS : List (Nat × SV) → Nat → SV
  | [], _ => .any
  | (k, v) :: r, t => match Nat.beq k t with
    | true => v
    | false => lookS r t
def slotsAt (n : Nat) (l : List (Nat × SV)) : List SV := (List.range n).map (lookS l)
def specI (c : Int → List Prop) (g : Int → SV) : FSpec := fun args =>
  match args with
  | [x] => match asI x with
    | some (.i64, a) => some (c a, g a)
    | _ => none
  | _ => none
theorem FnOK_I {P : Program} {cx : Cx} (hcx : CxOK P cx) {iv : Int → List (Nat × Hint)} {N : Nat} {f : Nat} {fn : Func} (hf : P.funcs[f]? = some fn) (hb : fn.body.isSome = true) (hn : (fn.name == "runtime.NumGoroutine") = false) {c : Int → List Prop} {g : Int → SV} (hg : ∀ a, (g a).bnd none0)
    (h : ∀ a, Ok (c a) → Owes P cx (iv a) N fn [sI .i64 a] (g a)) : FnOKg P cx.gl f (specI c g) := by
  refine FnOK_of hf hb hn fun args ps sv hs hp => ?_
  unfold specI at hs
  split at hs
  · rename_i x
    split at hs
    · rename_i a ha
      simp only [Option.some.injEq, Prod.mk.injEq] at hs
      obtain ⟨rfl, rfl⟩ := hs
      refine ⟨hg a, fun ρ w hzz hgg _ => ?_⟩
      rw [show [x].map (SA.conc ρ) = [sI .i64 a].map (SA.conc ρ) by simp only [List.map_cons, List.map_nil, asI_canon ha ρ]]
      refine (calls_of_owes0 hcx hf hb (args := [sI .i64 a]) (by intro z hz; simp only [List.mem_singleton] at hz; subst hz; trivial) (h a hp) ρ w hzz hgg).mono ?_
      rintro e w' ⟨v, rfl, ⟨ρ', hr⟩, hbl⟩
      exact ⟨v, rfl, rep_none0 (hg a) hr, hbl⟩
    · cases hs
  · cases hs
def yes : SV := .one (sB true)
end Go.Sx
end

section
namespace Go.Sx
open Go.RowKit
def sStr (s : ByteArray) : SA := .sc (.val (.string s))
end Go.Sx
end

section
namespace Go.Sx
open Go.RowKit
end Go.Sx
end

section
namespace Go.Sx
open Go.RowKit
end Go.Sx
end

section
namespace Go.Sx
open Go.RowKit
section
variable {P : Program} {cx : Cx} {sl : List (Nat × SSpec)} {f : Nat} {fn : Func}
end
end Go.Sx
end

section
namespace Go.Sx
open Go.RowKit
def asBit : SC → Option Bool
  | .bit x => some x
  | .val (.bool x) => some x
  | _ => none
theorem asBit_sound {s : SC} {x : Bool} (h : asBit s = some x) (ρ : Rho) : s.conc ρ = .bool x := by
  unfold asBit at h
  split at h
  · cases h; rfl
  · cases h; rfl
  · cases h
def takeU : List SK → Option (List Prop × Nat × List SK)
  | .u n :: r => some ([], n, r)
  | .c a :: .c b :: .c c :: .c d :: r => match asU4 [a, b, c, d] with
    | some (ps, n) => some (ps, n, r)
    | none => none
  | _ => none
theorem takeU_sound {ks r : List SK} {ps : List Prop} {n : Nat} (h : takeU ks = some (ps, n, r)) (hp : Ok ps) (ρ : Rho) : concs ρ ks = concs ρ (.u n :: r) := by
  unfold takeU at h
  split at h
  · cases h; rfl
  · rename_i a b c d r'
    split at h
    · rename_i ps' n' h4
      simp only [Option.some.injEq, Prod.mk.injEq] at h
      obtain ⟨rfl, rfl, rfl⟩ := h
      have := asU4_sound h4 hp ρ
      simp only [U, List.map_cons, List.map_nil, Value.agg.injEq] at this
      have := congrArg Array.toList this
      simp only [List.cons.injEq, and_true] at this
      obtain ⟨e1, e2, e3, e4⟩ := this
      simp [concs, flat, SK.cells, e1, e2, e3, e4, show ∀ v, (SC.val v).conc ρ = v from fun _ => rfl]
    · cases h
  · cases h
theorem concs_app (ρ : Rho) (k : SK) {xs ys : List SK} (h : concs ρ xs = concs ρ ys) : concs ρ (k :: xs) = concs ρ (k :: ys) := by
  rw [concs_cons ρ k xs, concs_cons ρ k ys, h]
end Go.Sx
end

section
namespace Go.Sx
open Go.RowKit
inductive PQ where
  | u | b | t
  | i (k : IntKind)
  | y (n : Nat)
  | x (w : Nat)
inductive FD where
  | u (n : Nat)
  | b (v : Bool)
  | i (n : Int)
  | y (g : Nat → Int)
  | x (a : Option Addr) (n cap : Nat) (f : Nat → Nat → SC)
  | t (s : ByteArray)
inductive AQ where
  | st (ps : List PQ)
  | one (p : PQ)
def fdK : PQ → FD → SK
  | .u, .u n => .u n
  | .b, .b v => .c (.val (.bool v))
  | .i k, .i n => .c (.val (.int k n))
  | .y n, .y g => .f .u8 n g
  | .x w, .x a n cap f => .c (.xs a n cap w f)
  | .t, .t s => .c (.val (.string s))
  | _, _ => .c (.bit false)
def fdKs : List PQ → List FD → List SK
  | p :: ps, d :: ds => fdK p d :: fdKs ps ds
  | _, _ => []
def takeF : PQ → List SK → Option (List Prop × FD × List SK)
  | .u, ks => match takeU ks with
    | some (p, n, r) => some (p, .u n, r)
    | none => none
  | .b, .c s :: r => match asBit s with
    | some v => some ([], .b v, r)
    | none => none
  | .i k, .c s :: r => match asI (.sc s) with
    | some (k', n) => if k' = k then some ([], .i n, r) else none
    | none => none
  | .y n, .f k m g :: r => if k = .u8 ∧ m = n then some ([], .y g, r) else none
  | .y n, ks => match grab ks n, seek ks n with
    | some cs, some r => match kindAll .u8 cs && Nat.ble 2 n with
      | true => some ([], .y (selG cs), r)
      | false => none
    | _, _ => none
  | .x w, .c (.xs a n cap w' f) :: r => if w' = w then some ([], .x a n cap f, r) else none
  | .x _, .c (.val (.slice none 0 0)) :: r => some ([], .x none 0 0 (fun _ _ => .bit false), r)
  | .t, .c (.val (.string s)) :: r => some ([], .t s, r)
  | _, _ => none
theorem cut_concs {ks cs r : List SK} {n : Nat} (h1 : grab ks n = some cs) (h2 : seek ks n = some r) (hk : kindAll .u8 cs = true) (ρ : Rho) : concs ρ ks = concs ρ (.f .u8 n (selG cs) :: r) := by
  obtain ⟨l1, e1⟩ := grab_flat ks n h1
  obtain ⟨_, e2⟩ := seek_flat ks n h2
  have hl : (flat cs).length = n := by rw [e1, List.length_take]; omega
  have hi : (intsL cs).length = n := by rw [intsL_length cs ρ .u8 hk, hl]
  have e3 : concs ρ cs = (List.range n).map fun j => .int .u8 (selG cs j) := by
    rw [ints_conc ρ .u8 hk]
    apply List.ext_getElem
    · simp [hi]
    · intro j h1 h2
      have hj : j < (intsL cs).length := by simpa using h1
      simp only [List.getElem_map, List.getElem_range]
      rw [selG_eq hj, List.getD_eq_getElem?_getD, List.getElem?_eq_getElem hj, Option.getD_some]
  rw [concs_cons, concs_f, ← e3]
  unfold concs
  rw [e1, e2, ← List.map_append, List.take_append_drop]
theorem takeF_sound {p : PQ} {ks r : List SK} {q : List Prop} {d : FD} (h : takeF p ks = some (q, d, r)) (hq : Ok q) (ρ : Rho) : concs ρ ks = concs ρ (fdK p d :: r) := by
  unfold takeF at h
  split at h
  · split at h
    · rename_i hu
      simp only [Option.some.injEq, Prod.mk.injEq] at h
      obtain ⟨rfl, rfl, rfl⟩ := h
      exact takeU_sound hu hq ρ
    · cases h
  · split at h
    · rename_i s r' v hv
      simp only [Option.some.injEq, Prod.mk.injEq] at h
      obtain ⟨rfl, rfl, rfl⟩ := h
      rw [concs_cons, concs_cons ρ (fdK .b (.b v))]
      congr 1
      simp [concs, flat, SK.cells, fdK, asBit_sound hv ρ, show ∀ v, (SC.val v).conc ρ = v from fun _ => rfl]
    · cases h
  · rename_i k s r'
    split at h
    · rename_i k' n hi
      split at h
      · rename_i e
        subst e
        simp only [Option.some.injEq, Prod.mk.injEq] at h
        obtain ⟨rfl, rfl, rfl⟩ := h
        rw [concs_cons, concs_cons ρ (fdK (.i k') (.i n))]
        congr 1
        have e : s.conc ρ = .int k' n := asI_sound hi ρ
        simp [concs, flat, SK.cells, fdK, e, show ∀ v, (SC.val v).conc ρ = v from fun _ => rfl]
      · cases h
    · cases h
  · split at h
    · rename_i e
      obtain ⟨rfl, rfl⟩ := e
      simp only [Option.some.injEq, Prod.mk.injEq] at h
      obtain ⟨rfl, rfl, rfl⟩ := h
      rfl
    · cases h
  · split at h
    · rename_i h1 h2
      split at h
      · rename_i hk
        simp only [Option.some.injEq, Prod.mk.injEq] at h
        obtain ⟨rfl, rfl, rfl⟩ := h
        exact cut_concs h1 h2 (Bool.and_eq_true_iff.1 hk).1 ρ
      · cases h
    · cases h
  · split at h
    · rename_i e
      subst e
      simp only [Option.some.injEq, Prod.mk.injEq] at h
      obtain ⟨rfl, rfl, rfl⟩ := h
      rfl
    · cases h
  · simp only [Option.some.injEq, Prod.mk.injEq] at h
    obtain ⟨rfl, rfl, rfl⟩ := h
    rfl
  · simp only [Option.some.injEq, Prod.mk.injEq] at h
    obtain ⟨rfl, rfl, rfl⟩ := h
    rfl
  · cases h
theorem takeF_bnd {p : PQ} {ks r : List SK} {q : List Prop} {d : FD} (h : takeF p ks = some (q, d, r)) {E : Env} (hb : ∀ k ∈ ks, k.bnd E) : (fdK p d).bnd E.bare ∧ ∀ k ∈ r, k.bnd E := by
  unfold takeF at h
  split at h
  · split at h
    · rename_i p' n r' hu
      simp only [Option.some.injEq, Prod.mk.injEq] at h
      obtain ⟨rfl, rfl, rfl⟩ := h
      refine ⟨trivial, ?_⟩
      unfold takeU at hu
      split at hu
      · cases hu; exact fun k hk => hb k (by simp [hk])
      · split at hu
        · simp only [Option.some.injEq, Prod.mk.injEq] at hu
          obtain ⟨_, _, rfl⟩ := hu
          exact fun k hk => hb k (by simp [hk])
        · cases hu
      · cases hu
    · cases h
  · split at h
    · simp only [Option.some.injEq, Prod.mk.injEq] at h
      obtain ⟨rfl, rfl, rfl⟩ := h
      exact ⟨trivial, fun k hk => hb k (by simp [hk])⟩
    · cases h
  · split at h
    · split at h
      · simp only [Option.some.injEq, Prod.mk.injEq] at h
        obtain ⟨rfl, rfl, rfl⟩ := h
        exact ⟨trivial, fun k hk => hb k (by simp [hk])⟩
      · cases h
    · cases h
  · split at h
    · simp only [Option.some.injEq, Prod.mk.injEq] at h
      obtain ⟨rfl, rfl, rfl⟩ := h
      exact ⟨trivial, fun k hk => hb k (by simp [hk])⟩
    · cases h
  · split at h
    · rename_i h1 h2
      split at h
      · simp only [Option.some.injEq, Prod.mk.injEq] at h
        obtain ⟨rfl, rfl, rfl⟩ := h
        exact ⟨trivial, bnd_flat.2 (mem_seek h2 (bnd_flat.1 hb))⟩
      · cases h
    · cases h
  · rename_i w a n cap w' f r'
    split at h
    · rename_i e
      subst e
      simp only [Option.some.injEq, Prod.mk.injEq] at h
      obtain ⟨rfl, rfl, rfl⟩ := h
      exact ⟨hb (.c (.xs a n cap w' f)) (by simp), fun k hk => hb k (by simp [hk])⟩
    · cases h
  · simp only [Option.some.injEq, Prod.mk.injEq] at h
    obtain ⟨rfl, rfl, rfl⟩ := h
    exact ⟨⟨fun _ => ⟨rfl, rfl⟩, Nat.le_refl _, fun b hb => by cases hb⟩, fun k hk => hb k (by simp [hk])⟩
  · simp only [Option.some.injEq, Prod.mk.injEq] at h
    obtain ⟨rfl, rfl, rfl⟩ := h
    exact ⟨trivial, fun k hk => hb k (by simp [hk])⟩
  · cases h
def asFs : List PQ → List SK → Option (List Prop × List FD)
  | [], [] => some ([], [])
  | p :: ps, ks => match takeF p ks with
    | some (q, d, r) => match asFs ps r with
      | some (q', ds) => some (q ++ q', d :: ds)
      | none => none
    | none => none
  | _, _ => none
theorem asFs_one {p : PQ} {k : SK} {q : List Prop} {l : List FD} (h : asFs [p] [k] = some (q, l)) : ∃ q1 d, takeF p [k] = some (q1, d, []) ∧ l = [d] := by
  have e : asFs [p] [k] = match takeF p [k] with
    | some (q, d, r) => match asFs [] r with
      | some (q', ds) => some (q ++ q', d :: ds)
      | none => none
    | none => none := by rw [asFs]
  rw [e] at h
  split at h
  · rename_i q1 d r ht
    cases r with
    | nil =>
      simp only [asFs, Option.some.injEq, Prod.mk.injEq] at h
      exact ⟨q1, d, ht, h.2.symm⟩
    | cons _ _ => simp [asFs] at h
  · cases h
theorem asFs_sound : ∀ {ps : List PQ} {ks : List SK} {q : List Prop} {l : List FD}, asFs ps ks = some (q, l) → (Ok q → ∀ ρ, concs ρ ks = concs ρ (fdKs ps l)) ∧ ∀ E : Env, (∀ k ∈ ks, k.bnd E) → ∀ k ∈ fdKs ps l, k.bnd E.bare
  | [], [], q, l, h => by
    simp only [asFs, Option.some.injEq, Prod.mk.injEq] at h
    obtain ⟨_, rfl⟩ := h
    exact ⟨fun _ _ => rfl, fun E _ k hk => by cases hk⟩
  | [], _ :: _, q, l, h => by simp [asFs] at h
  | p :: ps, ks, q, l, h => by
    simp only [asFs] at h
    split at h
    · rename_i q1 d r ht
      split at h
      · rename_i q2 ds hr
        simp only [Option.some.injEq, Prod.mk.injEq] at h
        obtain ⟨rfl, rfl⟩ := h
        obtain ⟨i1, i2⟩ := asFs_sound hr
        refine ⟨fun hq ρ => ?_, fun E hb k hk => ?_⟩
        · obtain ⟨h1, h2⟩ := Ok.append.1 hq
          rw [takeF_sound ht h1 ρ]
          exact concs_app ρ _ (i1 h2 ρ)
        · obtain ⟨b1, b2⟩ := takeF_bnd ht hb
          rcases List.mem_cons.1 hk with rfl | hk
          · exact b1
          · exact i2 E b2 k hk
      · cases h
    · cases h
def asQ : AQ → SA → Option (List Prop × List FD)
  | .st ps, .agg ks => asFs ps ks
  | .one p, .sc s => asFs [p] [.c s]
  | _, _ => none
def mkQ : AQ → List FD → SA
  | .st ps, l => .agg (fdKs ps l)
  | .one p, [d] => match fdK p d with
    | .c s => .sc s
    | _ => .agg []
  | _, _ => .agg []
theorem asQ_sound {aq : AQ} {x : SA} {q : List Prop} {l : List FD} (h : asQ aq x = some (q, l)) : (Ok q → ∀ ρ, x.conc ρ = (mkQ aq l).conc ρ) ∧ ∀ E : Env, x.bnd E → (mkQ aq l).bnd E.bare := by
  unfold asQ at h
  split at h
  · rename_i ps ks
    obtain ⟨h1, h2⟩ := asFs_sound h
    exact ⟨fun hq ρ => by simp only [SA.conc, mkQ, h1 hq ρ], fun E hb => h2 E hb⟩
  · rename_i p s
    obtain ⟨h1, h2⟩ := asFs_sound h
    obtain ⟨q1, d, ht, rfl⟩ := asFs_one h
    have e : ∀ (s : SC) ρ, concs ρ [SK.c s] = [s.conc ρ] := fun _ _ => rfl
    have h2' : ∀ E : Env, s.bnd E → (fdK p d).bnd E.bare := fun E hb => h2 E (fun k hk => by rw [List.mem_singleton.1 hk]; exact hb) _ (by simp [fdKs])
    have h1' : Ok q → ∀ ρ, [s.conc ρ] = concs ρ [fdK p d] := fun hq ρ => by rw [← e]; exact h1 hq ρ
    unfold mkQ
    simp only
    split
    · rename_i s' hs
      rw [hs] at h1' h2'
      refine ⟨fun hq ρ => ?_, fun E hb => h2' E hb⟩
      have := h1' hq ρ
      rw [e] at this
      exact (List.cons.inj this).1
    · rename_i hne
      exfalso
      unfold takeF at ht
      split at ht
      · split at ht
        · rename_i hu
          unfold takeU at hu
          simp at hu
        · cases ht
      · split at ht
        · simp only [Option.some.injEq, Prod.mk.injEq] at ht; obtain ⟨_, rfl, _⟩ := ht; exact hne _ rfl
        · cases ht
      · split at ht
        · split at ht
          · simp only [Option.some.injEq, Prod.mk.injEq] at ht; obtain ⟨_, rfl, _⟩ := ht; exact hne _ rfl
          · cases ht
        · cases ht
      · rename_i heq; cases heq
      · split at ht
        · rename_i hg _
          split at ht
          · rename_i hk
            have h2 := Nat.le_of_ble_eq_true (Bool.and_eq_true_iff.1 hk).2
            have h3 := (grab_flat _ _ hg).1
            simp [flat, SK.cells] at h3
            omega
          · cases ht
        · cases ht
      · split at ht
        · simp only [Option.some.injEq, Prod.mk.injEq] at ht; obtain ⟨_, rfl, _⟩ := ht; exact hne _ rfl
        · cases ht
      · simp only [Option.some.injEq, Prod.mk.injEq] at ht; obtain ⟨_, rfl, _⟩ := ht; exact hne _ rfl
      · simp only [Option.some.injEq, Prod.mk.injEq] at ht; obtain ⟨_, rfl, _⟩ := ht; exact hne _ rfl
      · cases ht
  · cases h
def asQs : List AQ → List SA → Option (List Prop × List (List FD))
  | [], [] => some ([], [])
  | a :: aqs, x :: xs => match asQ a x, asQs aqs xs with
    | some (q, l), some (q', ls) => some (q ++ q', l :: ls)
    | _, _ => none
  | _, _ => none
def mkQs : List AQ → List (List FD) → List SA
  | a :: aqs, l :: ls => mkQ a l :: mkQs aqs ls
  | _, _ => []
theorem asQs_sound : ∀ {aqs : List AQ} {xs : List SA} {q : List Prop} {ls : List (List FD)}, asQs aqs xs = some (q, ls) → (Ok q → ∀ ρ, xs.map (SA.conc ρ) = (mkQs aqs ls).map (SA.conc ρ)) ∧ ∀ E : Env, (∀ x ∈ xs, x.bnd E) → ∀ x ∈ mkQs aqs ls, x.bnd E.bare
  | [], [], q, ls, h => by
    simp only [asQs, Option.some.injEq, Prod.mk.injEq] at h
    obtain ⟨_, rfl⟩ := h
    exact ⟨fun _ _ => rfl, fun E _ k hk => by cases hk⟩
  | [], _ :: _, _, _, h => by simp [asQs] at h
  | _ :: _, [], _, _, h => by simp [asQs] at h
  | a :: aqs, x :: xs, q, ls, h => by
    simp only [asQs] at h
    split at h
    · rename_i q1 l q2 ls' h1 h2
      simp only [Option.some.injEq, Prod.mk.injEq] at h
      obtain ⟨rfl, rfl⟩ := h
      obtain ⟨a1, a2⟩ := asQ_sound h1
      obtain ⟨b1, b2⟩ := asQs_sound h2
      refine ⟨fun hq ρ => ?_, fun E hb y hy => ?_⟩
      · obtain ⟨o1, o2⟩ := Ok.append.1 hq
        simp only [List.map_cons, mkQs, a1 o1 ρ, b1 o2 ρ]
      · rcases List.mem_cons.1 hy with rfl | hy
        · exact a2 E (hb x (by simp))
        · exact b2 E (fun z hz => hb z (by simp [hz])) y hy
    · cases h
def simD : PQ → FD → FD → List Prop
  | .x w, .x a n c f, .x a' n' c' f' => [a = a', n = n', c = c', ∀ i, i < n → allC w fun k => simC (f i k) (f' i k)]
  | _, .u n, .u m => [n = m]
  | _, .b x, .b y => [x = y]
  | _, .i n, .i m => [n = m]
  | _, .t x, .t y => [x = y]
  | .y n, .y f, .y g => [∀ j, j < n → f j = g j]
  | _, _, _ => [False]
def simDs : List PQ → List FD → List FD → List Prop
  | p :: ps, d :: ds, e :: es => simD p d e ++ simDs ps ds es
  | [], [], [] => []
  | _, _, _ => [False]
def simQ : AQ → List FD → List FD → List Prop
  | .st ps, l, m => simDs ps l m
  | .one p, l, m => simDs [p] l m
def simQs : List AQ → List (List FD) → List (List FD) → List Prop
  | a :: aqs, l :: ls, m :: ms => simQ a l m ++ simQs aqs ls ms
  | [], [], [] => []
  | _, _, _ => [False]
theorem simD_sound {p : PQ} {d e : FD} (h : Ok (simD p d e)) : (∀ ρ, concs ρ [fdK p d] = concs ρ [fdK p e]) ∧ ∀ E : Env, (fdK p d).bnd E → (fdK p e).bnd E := by
  unfold simD at h
  split at h
  · rename_i w a n c f a' n' c' f'
    obtain ⟨rfl, rfl, rfl, h, _⟩ := h
    refine ⟨fun _ => rfl, fun E hb => simC_bnd (SC.xs a n c w f) (y := .xs a n c w f') ?_ hb⟩
    unfold simC
    simp only [Nat.beq_refl, true_and]
    exact h
  · obtain ⟨rfl, _⟩ := h; exact ⟨fun _ => rfl, fun _ k => k⟩
  · obtain ⟨rfl, _⟩ := h; exact ⟨fun _ => rfl, fun _ k => k⟩
  · obtain ⟨rfl, _⟩ := h; exact ⟨fun _ => rfl, fun _ k => k⟩
  · obtain ⟨rfl, _⟩ := h; exact ⟨fun _ => rfl, fun _ k => k⟩
  · rename_i n f g
    obtain ⟨h, _⟩ := h
    refine ⟨fun ρ => ?_, fun _ _ => trivial⟩
    rw [fdK, fdK, concs_f, concs_f]
    exact List.map_congr_left fun j hj => by rw [h j (List.mem_range.1 hj)]
  · exact h.1.elim
theorem simDs_sound : ∀ {ps : List PQ} {l m : List FD}, Ok (simDs ps l m) → (∀ ρ, concs ρ (fdKs ps l) = concs ρ (fdKs ps m)) ∧ ∀ E : Env, (∀ k ∈ fdKs ps l, k.bnd E) → ∀ k ∈ fdKs ps m, k.bnd E
  | [], [], [], _ => ⟨fun _ => rfl, fun _ h => h⟩
  | p :: ps, d :: ds, e :: es, h => by
    obtain ⟨o1, o2⟩ := Ok.append.1 h
    obtain ⟨a1, a2⟩ := simD_sound o1
    obtain ⟨b1, b2⟩ := simDs_sound o2
    refine ⟨fun ρ => ?_, fun E hb k hk => ?_⟩
    · simp only [fdKs]
      rw [concs_cons, concs_cons ρ (fdK p e), a1 ρ, b1 ρ]
    · rcases List.mem_cons.1 hk with rfl | hk
      · exact a2 E (hb _ (by simp [fdKs]))
      · exact b2 E (fun k hk => hb k (by simp [fdKs, hk])) k hk
  | [], [], _ :: _, h | [], _ :: _, [], h | [], _ :: _, _ :: _, h | _ :: _, [], [], h | _ :: _, [], _ :: _, h | _ :: _, _ :: _, [], h => by exact h.1.elim
theorem simQ_sound {a : AQ} {l m : List FD} (h : Ok (simQ a l m)) : (∀ ρ, (mkQ a l).conc ρ = (mkQ a m).conc ρ) ∧ ∀ E : Env, (mkQ a l).bnd E → (mkQ a m).bnd E := by
  cases a with
  | st ps =>
    obtain ⟨h1, h2⟩ := simDs_sound (show Ok (simDs ps l m) from h)
    exact ⟨fun ρ => by simp only [mkQ, SA.conc, h1 ρ], fun E hb => h2 E hb⟩
  | one p =>
    have h : Ok (simDs [p] l m) := h
    match l, m, h with
    | [], [], h => exact h.1.elim
    | [], _ :: _, h => exact h.1.elim
    | _ :: _, [], h => exact h.1.elim
    | d :: d2 :: ds, e :: es, h =>
      exfalso
      obtain ⟨_, o2⟩ := Ok.append.1 h
      cases es <;> exact o2.1.elim
    | [d], e :: e2 :: es, h =>
      exfalso
      obtain ⟨_, o2⟩ := Ok.append.1 h
      exact o2.1.elim
    | [d], [e], h =>
      obtain ⟨o1, _⟩ := Ok.append.1 h
      obtain ⟨h1, h2⟩ := simD_sound o1
      unfold mkQ
      simp only
      cases p <;> cases d <;> cases e <;> first
        | exact ⟨fun _ => rfl, fun _ k => k⟩
        | (exfalso; exact o1.1.elim)
        | (refine ⟨fun ρ => ?_, fun E hb => h2 E hb⟩
           have := h1 ρ
           exact (List.cons.inj this).1)
theorem simQs_sound : ∀ {aqs : List AQ} {l m : List (List FD)}, Ok (simQs aqs l m) → (∀ ρ, (mkQs aqs l).map (SA.conc ρ) = (mkQs aqs m).map (SA.conc ρ)) ∧ ∀ E : Env, (∀ x ∈ mkQs aqs l, x.bnd E) → ∀ x ∈ mkQs aqs m, x.bnd E
  | [], [], [], _ => ⟨fun _ => rfl, fun _ h => h⟩
  | a :: aqs, d :: ds, e :: es, h => by
    obtain ⟨o1, o2⟩ := Ok.append.1 h
    obtain ⟨a1, a2⟩ := simQ_sound o1
    obtain ⟨b1, b2⟩ := simQs_sound o2
    refine ⟨fun ρ => by simp only [mkQs, List.map_cons, a1 ρ, b1 ρ], fun E hb k hk => ?_⟩
    rcases List.mem_cons.1 hk with rfl | hk
    · exact a2 E (hb _ (by simp [mkQs]))
    · exact b2 E (fun k hk => hb k (by simp [mkQs, hk])) k hk
  | [], [], _ :: _, h | [], _ :: _, [], h | [], _ :: _, _ :: _, h | _ :: _, [], [], h | _ :: _, [], _ :: _, h | _ :: _, _ :: _, [], h => by exact h.1.elim
def specQ (share : Bool) (aq : List AQ) (nf : List (List FD) → List (List FD)) (c : List (List FD) → List Prop) (g : List (List FD) → List RS) : SSpec :=
  ⟨share, fun args => match asQs aq args with
    | some (ps, ls) => some (ps ++ (simQs aq ls (nf ls) ++ c (nf ls)), g (nf ls))
    | none => none⟩
theorem FnOKs_Q {P : Program} {cx : Cx} (hcx : CxOK P cx) {sl : List (Nat × SSpec)} (hsl : ∀ p ∈ sl, FnOKs P cx.gl p.1 p.2) {f : Nat} {fn : Func} (hf : P.funcs[f]? = some fn) (hb : fn.body.isSome = true) (hn : (fn.name == "runtime.NumGoroutine") = false)
    {share : Bool} {aq : List AQ} {nf : List (List FD) → List (List FD)} {c : List (List FD) → List Prop} {g : List (List FD) → List RS}
    (h : ∀ ls, Ok (c ls) → ∃ iv N, (∀ r ∈ g ls, r.closed) ∧ OwesR P cx sl iv N fn (mkQs aq ls) share (g ls)) : FnOKs P cx.gl f (specQ share aq nf c g) := by
  refine FnOKs_owes hcx hsl hf hb hn fun args ps rs hs hp => ?_
  simp only [specQ] at hs
  split at hs
  case h_2 => cases hs
  rename_i q ls ha
  simp only [Option.some.injEq, Prod.mk.injEq] at hs
  obtain ⟨rfl, rfl⟩ := hs
  obtain ⟨o1, o23⟩ := Ok.append.1 hp
  obtain ⟨o2, o3⟩ := Ok.append.1 o23
  obtain ⟨a1, a2⟩ := asQs_sound ha
  obtain ⟨b1, b2⟩ := simQs_sound o2
  obtain ⟨iv, N, hc, hw⟩ := h (nf ls) o3
  refine ⟨iv, N, mkQs aq (nf ls), fun ρ => by rw [a1 o1 ρ, b1 ρ], fun fz hx x hxm => ?_, hc, hw⟩
  exact b2 ⟨fun _ => False, fz⟩ (fun y hy => a2 ⟨fun _ => True, fz⟩ hx y hy) x hxm
end Go.Sx
end

section
namespace Go.Sx
def intOf : SC → Int
  | .val (.int _ x) => x
  | .num _ x => x
  | _ => 0
def u8F (k : Nat → Nat → Int) (i c : Nat) : SC := .val (.int .u8 (k i c))
def kOf (f : Nat → Nat → SC) (i c : Nat) : Int := intOf (f i c)
theorem FnOKs.up0 {P : Program} {f : Nat} {s : SSpec} (h : FnOKs P [] f s) (gl : Globs) : FnOKs P gl f s := fun args ps rs hs hp ρ w hz _ hb =>
  h args ps rs hs hp ρ w hz (fun p hp => by cases hp) hb
end Go.Sx
end

section
namespace Go.Proofs.YtpebkgbelifdgaaDoor
open Go.Sx
set_option maxRecDepth 100000
abbrev ksBody (t n c : Int) (em : Nat → Int) (u l : Int) (a : Option Addr) (m cap : Nat) (k : Nat → Nat → Int) : List SK := [.c (.val (.int .i64 t)), .c (.val (.int .i64 n)), .c (.val (.int .i64 c)), .f .u8 32 em, .c (.val (.int .i64 u)), .c (.val (.int .i64 l)), .c (.xs a m cap 1 (u8F k))]
abbrev sBody (t n c : Int) (em : Nat → Int) (u l : Int) (a : Option Addr) (m cap : Nat) (k : Nat → Nat → Int) : SA := .agg (ksBody t n c em u l a m cap k)
def pqBd : List PQ := [.i .i64, .i .i64, .i .i64, .y 32, .i .i64, .i .i64, .x 1]
def bodyE (t n c u l : Int) (m : Nat) : Int :=
  if (0 ≤ t ∧ t ≤ 1099511627776) ∧ (0 ≤ n ∧ n ≤ 4294967295) ∧ (0 ≤ c ∧ c ≤ 65535) ∧ (0 ≤ u ∧ u ≤ 1099511627776) ∧ (0 ≤ l ∧ l ≤ 255) then if m ≤ 300 then 0 else 1 else 6
def shBd : List AQ := [.st pqBd]
def nfBd : List (List FD) → List (List FD)
  | [[.i t, .i n, .i c, .y em, .i u, .i l, .x a m cap f]] => [[.i t, .i n, .i c, .y em, .i u, .i l, .x a m cap (u8F (kOf f))]]
  | ls => ls
def nfC : List (List FD) → List Prop
  | [[.i _, .i _, .i _, .y _, .i _, .i _, .x _ _ _ f]] => [f = u8F (kOf f)]
  | _ => [False]
def bckG : List (List FD) → List RS
  | [[.i t, .i n, .i c, .y _, .i u, .i l, .x _ m _ _]] => [.v (sI .i64 (bodyE t n c u l m))]
  | _ => []
def cBckS : SSpec := specQ false shBd nfBd nfC bckG
def slBck : List (Nat × SSpec) := [(9, cBckS)]
def inG (n m : Int) : SV := .one (sB (decide (0 ≤ n) && decide (n ≤ m)))
def cxIn : Cx := ⟨[(15, specII (fun _ _ => []) inG)], [], 0, []⟩
theorem vc_win (n m : Int) (b : Bool) :
    Owes Tryd.prog Cx.none [] 10 Tryd.f15 [sI .i64 n, sI .i64 m] (.one (sB b)) =
    (let x1 : Bool := Decidable.decide (n ≥ (0 : Int)); (x1 = Bool.true → x1 = Bool.true) ∧ (x1 = Bool.true → x1 = Bool.true) ∧ (x1 = Bool.true → x1 = Bool.true) ∧ (x1 && Decidable.decide (n ≤ m)) = b) := by kernel_rfl
theorem vc_bck (t n c u l e : Int) (em : Nat → Int) (a : Option Addr) (m cap : Nat) (k : Nat → Nat → Int) :
    OwesR Tryd.prog cxIn [] [] 30 Tryd.f9 [sBody t n c em u l a m cap k] false [.v (sI .i64 e)] =
    (let x1 : Bool := !(Decidable.decide ((0 : Int) ≤ t) && Decidable.decide (t ≤ (1099511627776 : Int))); let x2 : Bool := x1 || !(Decidable.decide ((0 : Int) ≤ n) && Decidable.decide (n ≤ (4294967295 : Int))); let x3 : Bool := x2 || !(Decidable.decide ((0 : Int) ≤ c) && Decidable.decide (c ≤ (65535 : Int))); let x4 : Bool := x3 || !(Decidable.decide ((0 : Int) ≤ u) && Decidable.decide (u ≤ (1099511627776 : Int))); ((!x1) = Bool.true → (!x1) = Bool.true) ∧ ((!x1) = Bool.true → (!x1) = Bool.true) ∧ ((!x1) = Bool.true → (!x1) = Bool.true) ∧ (x1 = Bool.false → (!x1) = Bool.true) ∧ ((!x2) = Bool.true → (!x2) = Bool.true) ∧ ((!x2) = Bool.true → (!x2) = Bool.true) ∧ ((!x2) = Bool.true → (!x2) = Bool.true) ∧ (x2 = Bool.false → (!x2) = Bool.true) ∧ ((!x3) = Bool.true → (!x3) = Bool.true) ∧ ((!x3) = Bool.true → (!x3) = Bool.true) ∧ ((!x3) = Bool.true → (!x3) = Bool.true) ∧ (x3 = Bool.false → (!x3) = Bool.true) ∧ ((!x4) = Bool.true → (!x4) = Bool.true) ∧ ((!x4) = Bool.true → (!x4) = Bool.true) ∧ ((!x4) = Bool.true → (!x4) = Bool.true) ∧ (x4 = Bool.false → (!x4) = Bool.true) ∧ ((x4 || !(Decidable.decide ((0 : Int) ≤ l) && Decidable.decide (l ≤ (255 : Int)))) = Bool.true → (6 : Int) = e) ∧ ((x4 || !(Decidable.decide ((0 : Int) ≤ l) && Decidable.decide (l ≤ (255 : Int)))) = Bool.false → (Decidable.decide ((↑m : Int) > (300 : Int)) = Bool.true → (1 : Int) = e) ∧ (Decidable.decide ((↑m : Int) > (300 : Int)) = Bool.false → (0 : Int) = e))) := by kernel_rfl
theorem vc_bft (t n c u l e : Int) (em : Nat → Int) (a : Option Addr) (m cap : Nat) (k : Nat → Nat → Int) :
    OwesR Tryd.prog Cx.none [] [] 30 Tryd.f12 [sBody t n c em u l a m cap k] false [.v (sI .i64 e)] =
    (let x1 : Bool := Decidable.decide ((0 : Int) ≤ t); let x2 : Bool := Decidable.decide ((0 : Int) ≤ n); let x3 : Bool := Decidable.decide ((0 : Int) ≤ c); let x4 : Bool := Decidable.decide ((0 : Int) ≤ u); let x5 : Bool := Decidable.decide ((0 : Int) ≤ l); (x1 = Bool.true → x1 = Bool.true) ∧ (x1 = Bool.true → x1 = Bool.true) ∧ (x1 = Bool.true → x1 = Bool.true) ∧ ((!(x1 && Decidable.decide (t ≤ (1099511627776 : Int)))) = Bool.true → (6 : Int) = e) ∧ ((!(x1 && Decidable.decide (t ≤ (1099511627776 : Int)))) = Bool.false → (x2 = Bool.true → x2 = Bool.true) ∧ (x2 = Bool.true → x2 = Bool.true) ∧ (x2 = Bool.true → x2 = Bool.true) ∧ ((!(x2 && Decidable.decide (n ≤ (4294967295 : Int)))) = Bool.true → (6 : Int) = e) ∧ ((!(x2 && Decidable.decide (n ≤ (4294967295 : Int)))) = Bool.false → (x3 = Bool.true → x3 = Bool.true) ∧ (x3 = Bool.true → x3 = Bool.true) ∧ (x3 = Bool.true → x3 = Bool.true) ∧ ((!(x3 && Decidable.decide (c ≤ (65535 : Int)))) = Bool.true → (6 : Int) = e) ∧ ((!(x3 && Decidable.decide (c ≤ (65535 : Int)))) = Bool.false → (x4 = Bool.true → x4 = Bool.true) ∧ (x4 = Bool.true → x4 = Bool.true) ∧ (x4 = Bool.true → x4 = Bool.true) ∧ ((!(x4 && Decidable.decide (u ≤ (1099511627776 : Int)))) = Bool.true → (6 : Int) = e) ∧ ((!(x4 && Decidable.decide (u ≤ (1099511627776 : Int)))) = Bool.false → (x5 = Bool.true → x5 = Bool.true) ∧ (x5 = Bool.true → x5 = Bool.true) ∧ (x5 = Bool.true → x5 = Bool.true) ∧ ((!(x5 && Decidable.decide (l ≤ (255 : Int)))) = Bool.true → (6 : Int) = e) ∧ ((!(x5 && Decidable.decide (l ≤ (255 : Int)))) = Bool.false → (Decidable.decide ((↑m : Int) > (300 : Int)) = Bool.true → (1 : Int) = e) ∧ (Decidable.decide ((↑m : Int) > (300 : Int)) = Bool.false → (0 : Int) = e))))))) := by kernel_rfl
end Go.Proofs.YtpebkgbelifdgaaDoor
end

section
namespace Go.Proofs.YtpebkgbelifdgaaDoor
open Go.Sx
theorem pcx_none : CxOK Tryd.prog Cx.none := ⟨fun _ h => (by cases h), fun _ h => (by cases h)⟩
theorem pgl_nil {gl : Globs} : CxOK Tryd.prog ⟨[], gl, 0, []⟩ := ⟨fun _ h => (by cases h), fun _ h => (by cases h)⟩
theorem pgl_cons {gl : Globs} {f : Nat} {s : FSpec} {l : List (Nat × FSpec)} (h : FnOKg Tryd.prog gl f s) (hs : CxOK Tryd.prog ⟨l, gl, 0, []⟩) : CxOK Tryd.prog ⟨(f, s) :: l, gl, 0, []⟩ := by
  refine ⟨fun p hp => ?_, hs.2⟩
  rcases List.mem_cons.1 hp with rfl | hp
  · exact h
  · exact hs.1 p hp
theorem ok_win (n m : Int) : Owes Tryd.prog Cx.none [] 10 Tryd.f15 [sI .i64 n, sI .i64 m] (inG n m) := by
  unfold inG
  rw [vc_win]
  exact ⟨id, id, id, rfl⟩
theorem card_win : FnOK Tryd.prog 15 (specII (fun _ _ => []) inG) :=
  FnOK_II (iv := []) (N := 10) pcx_none Tryd.func15 (by kernel_rfl) (by kernel_rfl) (fun _ _ => trivial) fun a b _ => ok_win a b
theorem cxok_In : CxOK Tryd.prog cxIn := pgl_cons card_win pgl_nil
theorem ok_bck (t n c u l : Int) (em : Nat → Int) (a : Option Addr) (m cap : Nat) (k : Nat → Nat → Int) :
    OwesR Tryd.prog cxIn [] [] 30 Tryd.f9 [sBody t n c em u l a m cap k] false [.v (sI .i64 (bodyE t n c u l m))] := by
  rw [vc_bck]
  unfold bodyE
  grind
theorem ok_bft (t n c u l : Int) (em : Nat → Int) (a : Option Addr) (m cap : Nat) (k : Nat → Nat → Int) :
    OwesR Tryd.prog Cx.none [] [] 30 Tryd.f12 [sBody t n c em u l a m cap k] false [.v (sI .i64 (bodyE t n c u l m))] := by
  rw [vc_bft]
  unfold bodyE
  grind
end Go.Proofs.YtpebkgbelifdgaaDoor
end

section
namespace Go.Proofs.YtpebkgbelifdgaaDoor
open Go.Sx
set_option maxRecDepth 100000
end Go.Proofs.YtpebkgbelifdgaaDoor
end

section
namespace Go.Proofs.YtpebkgbelifdgaaDoor
open Go.Sx
theorem k_u8F (k : Nat → Nat → Int) : kOf (u8F k) = k := rfl
theorem mem_one {α : Type} {x : α} {p : α → Prop} (h : p x) : ∀ r ∈ [x], p r := fun r hr => by rw [List.mem_singleton.1 hr]; exact h
theorem card_bck {gl : Globs} : FnOKs Tryd.prog gl 9 cBckS := by
  refine FnOKs.up0 (FnOKs_Q (cx := cxIn) (sl := []) cxok_In (fun _ h => (by cases h)) Tryd.func9 (by kernel_rfl) (by kernel_rfl) fun ls hc => ?_) gl
  unfold nfC at hc
  split at hc
  · rename_i t n c em u l a m cap f
    obtain ⟨h, _⟩ := hc
    have := ok_bck t n c u l em a m cap (kOf f)
    unfold sBody ksBody at this
    rw [← h] at this
    exact ⟨[], 30, mem_one trivial, this⟩
  · exact hc.1.elim
theorem card_bft {gl : Globs} : FnOKs Tryd.prog gl 12 cBckS := by
  refine FnOKs.up0 (FnOKs_Q (cx := Cx.none) (sl := []) pcx_none (fun _ h => (by cases h)) Tryd.func12 (by kernel_rfl) (by kernel_rfl) fun ls hc => ?_) gl
  unfold nfC at hc
  split at hc
  · rename_i t n c em u l a m cap f
    obtain ⟨h, _⟩ := hc
    have := ok_bft t n c u l em a m cap (kOf f)
    unfold sBody ksBody at this
    rw [← h] at this
    exact ⟨[], 30, mem_one trivial, this⟩
  · exact hc.1.elim
end Go.Proofs.YtpebkgbelifdgaaDoor
end

section
namespace Go.Proofs.YtpebkgbelifdgaaDoor
open Go.Sx
set_option maxRecDepth 100000
end Go.Proofs.YtpebkgbelifdgaaDoor
end

section
namespace Go.Proofs.YtpebkgbelifdgaaDoor
open Go.Sx
set_option maxRecDepth 100000
end Go.Proofs.YtpebkgbelifdgaaDoor
end

section
namespace Go.Proofs.YtpebkgbelifdgaaDoor
open Go.Sx
set_option maxRecDepth 100000
end Go.Proofs.YtpebkgbelifdgaaDoor
end

section
namespace Go.Proofs.YtpebkgbelifdgaaDoor
open Go.Sx
end Go.Proofs.YtpebkgbelifdgaaDoor
end

section
namespace Go.Proofs.YtpebkgbelifdgaaDoor
open Go.Sx
end Go.Proofs.YtpebkgbelifdgaaDoor
end

section
namespace Go.Proofs.YtpebkgbelifdgaaDoor
open Go.Sx
theorem wrap_id {n : Int} (h : 0 ≤ n ∧ n < 18446744073709551616) : IntKind.u64.wrap n = n := by
  unfold IntKind.wrap
  simp [IntKind.signed, IntKind.bits]
  omega
end Go.Proofs.YtpebkgbelifdgaaDoor
end

section
namespace Go.Proofs.YtpebkgbelifdgaaDoor
open Go.Sx
end Go.Proofs.YtpebkgbelifdgaaDoor
end

section
namespace Go.Proofs.YtpebkgbelifdgaaDoor
open Go.Sx
end Go.Proofs.YtpebkgbelifdgaaDoor
end

section
namespace Go.Proofs.YtpebkgbelifdgaaDoor
open Go.Sx
end Go.Proofs.YtpebkgbelifdgaaDoor
end

section
namespace Go.Proofs.YtpebkgbelifdgaaDoor
open Go.Sx
end Go.Proofs.YtpebkgbelifdgaaDoor
end

section
namespace Go.Sx
open Go.RowKit Go.ChangeShapes Go.WideShapes
inductive LK where
  | bool
  | int (k : IntKind)
  | text
def LK.fits : LK → Value → Prop
  | .bool, .bool _ => True
  | .int k, .int k' n => k' = k ∧ (Lit.int k n).wf = true
  | .text, .string s => s.size ≤ maxLen
  | _, _ => False
def fitsL : List LK → List Value → Prop
  | [], [] => True
  | l :: ls, v :: vs => l.fits v ∧ fitsL ls vs
  | _, _ => False
theorem fitsL_append : ∀ {a b : List LK} {u v : List Value}, fitsL a u → fitsL b v → fitsL (a ++ b) (u ++ v)
  | [], _, [], _, _, h => h
  | _ :: _, _, _ :: _, _, h, k => ⟨h.1, fitsL_append h.2 k⟩
  | [], _, _ :: _, _, h, _ => h.elim
  | _ :: _, _, [], _, h, _ => h.elim
def lksF (P : Program) (g : TypeId → Option (List LK)) : List Field → Nat → Option (List LK)
  | [], _ => some []
  | f :: fs, n =>
    match g f.type with
    | none => none
    | some a => if Nat.beq f.offset n && Nat.beq (P.cellsOf f.type) a.length then (lksF P g fs (n + a.length)).map (a ++ ·) else none
def lks (P : Program) : Nat → TypeId → Option (List LK)
  | 0, _ => none
  | d + 1, t =>
    match P.underlying t with
    | some .bool => some [.bool]
    | some (.int k) => some [.int k]
    | some .string => some [.text]
    | some (.struct fs) => match lksF P (lks P d) fs.toList 0 with
      | some a => if Nat.beq (P.cellsOf t) a.length then some a else none
      | none => none
    | some (.array n e) => match lks P d e with
      | some a => if Nat.beq (P.cellsOf e) a.length && Nat.beq (P.cellsOf t) (n * a.length) then some (List.replicate n a).flatten else none
      | none => none
    | _ => none
section
variable {H : Type} {enc : TypeId × Value → H} {P : Program} {w : World} {base : Nat} {sp : Nat → Bool} {held : Bool}
theorem fits_fields {fuel : Nat} {g : TypeId → Option (List LK)} {cs : List Value}
    (hg : ∀ {t a cs' x}, g t = some a → DataW.trod enc P w base sp held fuel t cs' = some x → fitsL a cs') :
    ∀ {fs : List Field} {n : Nat} {a : List LK}, lksF P g fs n = some a →
      (∀ f ∈ fs, ∃ x, DataW.trod enc P w base sp held fuel f.type ((cs.drop f.offset).take (P.cellsOf f.type)) = some x) → fitsL a ((cs.drop n).take a.length)
  | [], n, a, h, _ => by
    simp only [lksF, Option.some.injEq] at h
    subst h
    simp [fitsL]
  | f :: fs, n, a, h, hx => by
    simp only [lksF] at h
    split at h
    · cases h
    · rename_i a0 ha
      split at h
      · rename_i hc
        simp only [Bool.and_eq_true] at hc
        have h1 := Nat.eq_of_beq_eq_true hc.1
        have h2 := Nat.eq_of_beq_eq_true hc.2
        cases hr : lksF P g fs (n + a0.length) with
        | none => rw [hr] at h; simp at h
        | some a1 =>
          rw [hr] at h
          simp only [Option.map_some, Option.some.injEq] at h
          subst h
          obtain ⟨x, hx0⟩ := hx f (by simp)
          have f0 := hg ha hx0
          have f1 := fits_fields hg hr (fun f' hf' => hx f' (by simp [hf']))
          rw [h1, h2] at f0
          have := fitsL_append f0 f1
          rwa [List.length_append, List.take_add, List.drop_drop]
      · cases h
theorem fits_rows {a : List LK} : ∀ {n : Nat} {cs : List Value}, (∀ i, i < n → fitsL a ((cs.drop (i * a.length)).take a.length)) → cs.length = n * a.length → fitsL (List.replicate n a).flatten cs
  | 0, cs, _, hl => by
    have : cs = [] := List.eq_nil_of_length_eq_zero (by omega)
    subst this
    trivial
  | n + 1, cs, h, hl => by
    rw [List.replicate_succ, List.flatten_cons]
    have h0 := h 0 (by omega)
    rw [Nat.zero_mul, List.drop_zero] at h0
    have := fitsL_append h0 (fits_rows (n := n) (cs := cs.drop a.length) (fun i hi => by
      have := h (i + 1) (by omega)
      rw [List.drop_drop]
      rwa [Nat.add_mul, Nat.one_mul, Nat.add_comm] at this) (by rw [List.length_drop, hl, Nat.add_mul]; omega))
    rwa [List.take_append_drop] at this
theorem trod_fits : ∀ {d : Nat} {t : TypeId} {a : List LK} {fuel : Nat} {cs : List Value} {x : DataW H × List MemPlace}, lks P d t = some a → DataW.trod enc P w base sp held fuel t cs = some x → fitsL a cs
  | 0, _, _, _, _, _, h, _ => by cases h
  | d + 1, t, a, fuel, cs, x, h, hx => by
    unfold lks at h
    split at h
    · rename_i hu
      obtain ⟨b, rfl, _⟩ := DataW.trod_bool hu hx
      simp only [Option.some.injEq] at h; subst h
      exact ⟨trivial, trivial⟩
    · rename_i k hu
      obtain ⟨n, rfl, _, hw⟩ := DataW.trod_int hu hx
      simp only [Option.some.injEq] at h; subst h
      exact ⟨⟨rfl, hw⟩, trivial⟩
    · rename_i hu
      obtain ⟨s, rfl, _, hs⟩ := DataW.trod_string hu hx
      simp only [Option.some.injEq] at h; subst h
      exact ⟨hs, trivial⟩
    · rename_i fs hu
      split at h
      · rename_i a' ha
        split at h
        · rename_i hc
          simp only [Option.some.injEq] at h; subst h
          obtain ⟨xs, n, rfl, _, hl, hn, hf⟩ := DataW.trod_struct hu hx
          have := fits_fields (cs := cs) (fun h1 h2 => trod_fits (d := d) h1 h2) ha (fun f hm => by
            obtain ⟨i, hi, e⟩ := List.mem_iff_getElem.1 hm
            have e' : fs[i]? = some f := by rw [← e]; simp at hi ⊢
            have hlt : i < xs.length := by simp at hi; omega
            exact ⟨xs[i], by rw [hf i f e']; simp [hlt]⟩)
          rw [List.drop_zero, List.take_of_length_le (by rw [hl, Nat.eq_of_beq_eq_true hc]; exact Nat.le_refl _)] at this
          exact this
        · cases h
      · cases h
    · rename_i n e hu
      split at h
      · rename_i a' ha
        split at h
        · rename_i hc
          simp only [Bool.and_eq_true] at hc
          simp only [Option.some.injEq] at h; subst h
          obtain ⟨xs, m, rfl, _, hl, hn, hf⟩ := DataW.trod_array hu hx
          have h1 := Nat.eq_of_beq_eq_true hc.1
          have h2 := Nat.eq_of_beq_eq_true hc.2
          refine fits_rows (fun i hi => ?_) (by rw [hl, h2])
          have := hf i hi
          have hlt : i < xs.length := by omega
          rw [h1, List.getElem?_eq_getElem hlt] at this
          exact trod_fits ha this
        · cases h
      · cases h
    · cases h
theorem trodAll_carry (hl : laidOutB P = true) {W W' : World} (hb : Below W.heap.size W W') {sp' : Nat → Bool} :
    ∀ {ts : List TypeId} {vs : List Value} {ds : List (DataW H)} {ps : List MemPlace}, ts.all (fun t => P.readableRec t && Nat.blt t P.types.size) = true →
      DataW.TrodAll enc P W 0 (fun _ => true) true ts vs ds ps → (∀ x ∈ ps, x.block < W.heap.size) → (∀ x ∈ ps, sp' x.block = true) → DataW.TrodAll enc P W' 0 sp' true ts vs ds ps
  | [], _, _, _, _, h, _, _ => by
    obtain ⟨rfl, rfl, rfl⟩ := trodAll_nil h
    exact rfl
  | t :: ts, _, _, _, hr, h, hlt, hsp => by
    obtain ⟨v, vs, d, ds, p, q, rfl, rfl, rfl, h1, h2⟩ := trodAll_cons h
    simp only [List.all_cons, Bool.and_eq_true] at hr
    obtain ⟨⟨hr1, hr2⟩, hr3⟩ := hr
    refine trodAll_cons_mk (Go.WideElems.Trod_stays hl hr1 (by simpa [Nat.blt, Nat.succ_le_iff] using hr2) h1 (fun x hx => hb.same (hlt x (by simp [hx]))) (fun x hx => hsp x (by simp [hx])))
      (trodAll_carry hl hb hr3 h2 (fun x hx => hlt x (by simp [hx])) (fun x hx => hsp x (by simp [hx])))
theorem law_post {f : Func} {s : ChangeSpec} {fresh handsOn again : Bool} {W W' : World} {args : Array Value} {ds gs : List (DataW H)} {before : List MemPlace} {tb : TypeId}
    (hl : laidOutB P = true) (hp : f.params.toList.all (fun t => P.readableRec t && Nat.blt t P.types.size) = true) (hr : f.resultTypes = #[tb]) (hu : P.underlying tb = some .bool) (hv : s.vars = [])
    (hs : s.fn H (ds ++ gs) = { results := [.lit (.bool true)], args := ds, vars := [] })
    (hW : DataW.Whole enc P f.params.toList s.vars false W args.toList ds gs before) (hb : Below W.heap.size W W') :
    s.post enc P f false fresh handsOn again W args (.bool true) W' := by
  have hlt : ∀ p ∈ before, p.block < W.heap.size := fun p hp => hW.lt p hp
  have hW0 := hW
  obtain ⟨p, q, hA, hV, he, hz, hn⟩ := hW
  rw [hv] at hV
  obtain ⟨rfl, rfl⟩ := trodVars_none hV
  rw [List.append_nil] at he
  subst he
  have hres : ∀ (b : Nat) (sp : Nat → Bool) (hd : Bool), DataW.TrodAll enc P W' b sp hd f.resultTypes.toList (Value.resultList f.resultTypes.size (.bool true)) (s.fn H (ds ++ [])).results [] := by
    intro b sp hd
    rw [hs, hr]
    exact trodAll_mk1 (shut_bool hu true)
  have hargs : ∀ sp : Nat → Bool, (∀ x ∈ before, sp x.block = true) → DataW.TrodAll enc P W' 0 sp true f.params.toList args.toList (s.fn H (ds ++ [])).args before := by
    intro sp hsp
    rw [hs]
    exact trodAll_carry hl hb hp hA hlt hsp
  have hvars : ∀ sp : Nat → Bool, DataW.TrodVars enc P W' sp s.vars (s.fn H (ds ++ [])).vars [] := by
    intro sp
    rw [hv, hs]
    exact rfl
  refine ⟨ds, [], before, [], before, [], hW0, hres _ _ _, hargs _ (fun x hx => by simpa using hlt x hx), hvars _, World.keptBut_mono (fun x hx => ⟨hx, .inr (.inl hx)⟩) (hb.frame (· ∈ before)), fun _ => ⟨?_, _, [], before, ⟨before, [], trodAll_append (hargs _ (fun _ _ => rfl)) (hres _ _ _), ?_, (List.append_nil _).symm, ?_, ?_⟩, fun x hx _ => hx⟩⟩
  · refine ok_one hr rfl ?_
    unfold Value.okWide
    rw [hu]
    unfold Cell.okWide
    rw [hu]
    unfold Cell.ok
    rw [hu]
    trivial
  · have := hvars (fun _ => true)
    rw [hs] at this
    exact this
  · intro b off hm
    rw [hb.frozen (hlt _ hm)]
    exact hz b off hm
  · intro h; cases h
end
end Go.Sx
end

section
namespace Go.Proofs.YtpebkgbelifdgaaDoor
open Go.Sx
end Go.Proofs.YtpebkgbelifdgaaDoor
end

section
namespace Go.Proofs.YtpebkgbelifdgaaDoor
open Go.Sx
end Go.Proofs.YtpebkgbelifdgaaDoor
end

section
namespace Go.Proofs.YtpebkgbelifdgaaDoor
open Go.Sx
end Go.Proofs.YtpebkgbelifdgaaDoor
end

section
namespace Go.Sx
open Go.RowKit
def inlW (wl : List (Nat × WSpec)) (inner : Inl) : Inl := fun f args ob k =>
  match getW wl f with
  | none => inner f args ob k
  | some s => match wdo s args ob with
    | some (ps, sv, o, _, m) => ands ps (k sv (ob.set o (noteO s.e s.k m)))
    | none => StuckAt "cell"
theorem inlW_ok {P : Program} {gl : Globs} {wl : List (Nat × WSpec)} (hwl : ∀ p ∈ wl, FnOKw P gl p.1 p.2) {inner : Inl} (hin : InlOK P gl inner) : InlOK P gl (inlW wl inner) := by
  intro f args ob k h Z ρ tm a w hz H hargs
  unfold inlW at h
  split at h
  · exact hin f args ob k h hz H hargs
  rename_i s hs
  split at h
  case h_2 => exact h.no
  rename_i ps sv o n m hd
  obtain ⟨hp, h⟩ := ands_iff.1 h
  obtain ⟨r, hc⟩ := wdo_sound H (hz ▸ getW_ok hwl hs) hargs hd hp
  refine ⟨r, hc.mono ?_⟩
  rintro e w' ⟨v, rfl, hv, hb, H'⟩
  exact ⟨v, rfl, ρ, sv, _, h, hv, SV.bnd_mono none0_le hb, H'.scrubbed⟩
section
variable {P : Program}
def inlY (P : Program) (cx : Cx) (sl : List (Nat × SSpec)) (dr : Drawn) (iv : List (Nat × Hint)) (N : Nat) : Nat → Inl
  | 0 => inlW cx.wf (inlS sl noInl)
  | d + 1 => inlW cx.wf (inlS sl fun f args ob k =>
    match P.funcs[f]? with
    | some fn =>
      match fn.body, fn.name == "runtime.NumGoroutine" with
      | some c, false => sx P { cx with kn := ob.length } (inlY P cx sl dr iv N d) dr iv N ((f + 1) * 100000) ob.length c (slots0 args fn.ntmps) ob (ret P fn.results.toList k)
      | _, _ => StuckAt "no text"
    | none => StuckAt "no function")
def noteIs (ob : List SO) (e : TypeId) (k : IntKind) (m : Int) : Prop :=
  match ob with
  | .cells e' [.c x] 0 :: _ => match Nat.beq e' e with
    | true => isInt k m x
    | false => False
  | _ => False
def OwesW (P : Program) (cx : Cx) (sl : List (Nat × SSpec)) (iv : List (Nat × Hint)) (N : Nat) (fn : Func) (args : List SA) (e : TypeId) (k : IntKind) (n : Int) (out : SV) (m : Int) : Prop :=
  sx P { cx with kn := 1 } (inlY P cx sl drawOK iv N 8) drawOK iv N 0 1 (fn.body.getD .skip) (slots0 args fn.ntmps) [noteO e k n] (ret P fn.results.toList fun sv ob => same sv out ∧ noteIs ob e k m)
def OwesU (P : Program) (cx : Cx) (sl : List (Nat × SSpec)) (iv : List (Nat × Hint)) (N : Nat) (fn : Func) (args : List SA) (out : SV) : Prop :=
  sx P { cx with kn := 0 } (inlY P cx sl drawOK iv N 8) drawOK iv N 0 0 (fn.body.getD .skip) (slots0 args fn.ntmps) [] (ret P fn.results.toList fun sv _ => same sv out)
end
attribute [irreducible] OwesW OwesU
end Go.Sx
end

section
namespace Go.Sx
open Go.RowKit
structure TSpec where
  e : TypeId
  wd : Nat
  of : List SA → Nat → (Nat → Nat → SC) → Option (List Prop × Nat × (Nat → Nat → SC) × List SA)
structure capOK (wd n cap sp : Nat) : Prop where
  le : n ≤ cap
  most : cap ≤ maxLen
  room : cap * wd = n * wd + sp
inductive HeadT (s : TSpec) (g : Nat → Nat → SC) : Nat → SA → List SO → Prop
  | none : HeadT s g 0 (.sc (.val (.slice none 0 0))) []
  | own (n cap sp : Nat) (h : capOK s.wd n cap sp) : HeadT s g n (.sc (.slw 0 s.wd 0 n cap)) [.row s.e s.wd n g sp]
def FnOKt (P : Program) (gl : Globs) (f : Nat) (s : TSpec) : Prop :=
  ∀ args n g ps n' g' vs, s.of args n g = some (ps, n', g', vs) → Ok ps → (∀ v ∈ vs, v.bnd none0) ∧ closedG n' s.wd g' ∧ ∀ (Z : World) (ρ : Rho) (w : World) (h : SA) (ob : List SO), HeadT s g n h ob → Below Z.heap.size Z w → Mem Z.heap.size ρ ob w → GlobsOK gl ρ.fz →
    (∀ x ∈ args, x.bnd ⟨fun _ => False, ρ.fz⟩) → ∀ keep : Nat → Obj → Prop, Keeps keep ρ ob w →
    (callFunc f ((h :: args).map (SA.conc ρ)).toArray).run P w = .ok (.enter f ((h :: args).map (SA.conc ρ)).toArray) w ∧
      Calls P f ((h :: args).map (SA.conc ρ)).toArray w fun r w' => ∃ (ρ' : Rho) (cap' sp' : Nat), r = .returned (valL ((SC.slw 0 s.wd 0 n' cap').conc ρ' :: vs.map (SA.conc Rho.nil))) ∧ capOK s.wd n' cap' sp' ∧ Below Z.heap.size Z w' ∧
        Mem Z.heap.size ρ' [.row s.e s.wd n' g' sp'] w' ∧ (∀ b o u, ρ.fz b o u → ρ'.fz b o u) ∧ Keeps keep ρ' [.row s.e s.wd n' g' sp'] w'
def getT : List (Nat × TSpec) → Nat → Option TSpec
  | [], _ => none
  | (g, s) :: r, f => match Nat.beq g f with
    | true => some s
    | false => getT r f
theorem getT_ok {P : Program} {gl : Globs} : ∀ {l : List (Nat × TSpec)} {f : Nat} {s : TSpec}, (∀ p ∈ l, FnOKt P gl p.1 p.2) → getT l f = some s → FnOKt P gl f s
  | [], _, _, _, h => by simp [getT] at h
  | (g, s') :: r, f, s, hc, h => by
    simp only [getT] at h
    split at h
    · rename_i e
      have e := Nat.eq_of_beq_eq_true e
      simp only [Option.some.injEq] at h
      subst h
      subst e
      exact hc (g, s') (by simp)
    · exact getT_ok (fun p hp => hc p (by simp [hp])) h
def gT (old : Option Nat) (g : Nat → Nat → SC) : Nat → Nat → SC :=
  match old with
  | none => fun _ _ => .val (.int .u8 0)
  | some _ => g
def ofT (s : TSpec) (r : List SA) (n : Nat) (g : Nat → Nat → SC) (old : Option Nat) : Option (List Prop × Nat × (Nat → Nat → SC) × List SA) :=
  match old with
  | none => s.of r n (fun _ _ => .val (.int .u8 0))
  | some _ => s.of r n g
theorem ofT_eq (s : TSpec) (r : List SA) (n : Nat) (g : Nat → Nat → SC) (old : Option Nat) : ofT s r n g old = s.of r n (gT old g) := by cases old <;> rfl
def inlT (tl : List (Nat × TSpec)) (inner : Inl) : Inl := fun f args ob k =>
  match getT tl f with
  | none => inner f args ob k
  | some s => match args with
    | x :: r => match headG ob s.wd s.e x with
      | some (qs, n, g, ob0, old) => match ob0.all (obB (liveB ob0)) && r.all (SA.bndB fun _ => false) with
        | true => match ofT s r n g old with
          | some (ps, n', g', vs) => ands (qs ++ ps) (∀ c : Nat, n' + c ≤ maxLen → k (resV (.sc (.slw ob0.length s.wd 0 n' (n' + c)) :: vs)) (ob0 ++ [.row s.e s.wd n' g' (c * s.wd)]))
          | none => StuckAt "card"
        | false => StuckAt "taken"
      | none => StuckAt "head"
    | [] => StuckAt "taken"
theorem PV.bndB_none {x : PV} (h : x.bndB (fun _ => false) = true) {n : Env} : x.bnd n := by
  cases x with
  | v _ => trivial
  | p o _ => cases h
theorem SC.bndB_none {x : SC} (h : x.bndB (fun _ => false) = true) {n : Env} (hb : x.bnd n) : x.bnd ⟨fun _ => False, n.fz⟩ := by
  cases x with
  | fn g caps =>
    simp only [SC.bndB, List.all_eq_true] at h
    exact fun c hc => PV.bndB_none (h c hc)
  | num _ _ => trivial
  | bit _ => trivial
  | val _ => trivial
  | xs a m cap w g => exact hb
  | px a m g => exact hb
  | _ => cases h
theorem SA.bndB_none {x : SA} (h : x.bndB (fun _ => false) = true) {n : Env} (hb : x.bnd n) : x.bnd ⟨fun _ => False, n.fz⟩ := by
  cases x with
  | sc c => exact SC.bndB_none h hb
  | agg ks =>
    simp only [SA.bndB, List.all_eq_true] at h
    intro k hk
    cases k with
    | c s => exact SC.bndB_none (h _ hk) (hb _ hk)
    | u _ => trivial
    | f _ _ _ => trivial
theorem inlT_ok {P : Program} {gl : Globs} {tl : List (Nat × TSpec)} (htl : ∀ p ∈ tl, FnOKt P gl p.1 p.2) {inner : Inl} (hin : InlOK P gl inner) : InlOK P gl (inlT tl inner) := by
  intro f args ob k h Z ρ tm a w hz H hargs
  unfold inlT at h
  split at h
  · exact hin f args ob k h hz H hargs
  rename_i s hs
  have hfn := getT_ok htl hs
  split at h
  case h_2 => exact h.no
  rename_i x r
  split at h
  case h_2 => exact h.no
  rename_i qs n g ob0 old hh
  split at h
  case h_2 => exact h.no
  rename_i hall
  simp only [Bool.and_eq_true] at hall
  obtain ⟨hall0, hall1⟩ := hall
  split at h
  case h_2 => exact h.no
  rename_i ps n' g' vs hof
  rw [ofT_eq] at hof
  obtain ⟨hqp, h⟩ := ands_iff.1 h
  obtain ⟨hq, hp⟩ := Ok.append.1 hqp
  obtain ⟨hown, hkl, hrow, hold⟩ := headG_sound H hh hq
  obtain ⟨hvs, hcl, hfn⟩ := hfn _ _ _ _ _ _ _ hof hp
  have hr : ∀ y ∈ r, y.bnd ⟨fun _ => False, ρ.fz⟩ := fun y hy => SA.bndB_none (List.all_eq_true.1 hall1 y hy) (n := lv ρ ob) (hargs y (by simp [hy]))
  have hlen : ob0.length = ob.length := by
    rcases hkl with ⟨_, rfl⟩ | ⟨o, _, _, _, rfl, _⟩
    · rfl
    · simp
  have hsub : ∀ i, live ob0 i → live ob i ∧ (x.conc ρ).ownBlock ≠ some (ρ i) := by
    rcases hkl with ⟨e, rfl⟩ | ⟨o, y, ho, hy, rfl, e⟩
    · exact fun i hi => ⟨hi, by rw [e]; exact fun e => by cases e⟩
    · intro i hi
      obtain ⟨q1, q2⟩ := live_dead.1 hi
      refine ⟨q1, ?_⟩
      rw [e]
      simp only [ne_eq, Option.some.injEq]
      exact fun e => q2 (H.mem.injs _ _ q1 ⟨y, ho, hy⟩ e.symm)
  have main : ∀ (ρ1 : Rho) (h1 : SA) (obh : List SO), ρ1.fz = ρ.fz → HeadT s (gT old g) n h1 obh → h1.conc ρ1 = x.conc ρ → Mem Z.w.heap.size ρ1 obh w → (∀ b : Nat, (x.conc ρ).ownBlock ≠ some b → ∀ j, live obh j → ρ1 j ≠ b) →
      (∀ b y, Z.keep b y → ∀ j, live obh j → ρ1 j ≠ b) →
      (callFunc f ((x :: r).map (SA.conc ρ)).toArray).run P w = .ok (.enter f ((x :: r).map (SA.conc ρ)).toArray) w ∧
        Calls P f ((x :: r).map (SA.conc ρ)).toArray w fun e w' => ∃ v, e = .returned v ∧ ∃ ρ' sv ob', k sv ob' ∧ sv.rep ρ' v ∧ sv.bnd (lv ρ' ob') ∧ Holds Z ρ' (scrub ob' tm) ob' a w' := by
    intro ρ1 h1 obh hfz hhead hconc hm1 hap hkp
    have hkeep : Keeps (fun b y => Z.keep b y ∨ ∃ i, live ob0 i ∧ ρ i = b ∧ w.heap[b]? = some y) ρ1 obh w := fun b y hy => by
      rcases hy with hy | ⟨i, hi, rfl, hy⟩
      · exact ⟨(H.keeps b y hy).1, hkp b y hy⟩
      · exact ⟨hy, hap _ (hsub i hi).2⟩
    have hc1 : r.map (SA.conc ρ1) = r.map (SA.conc ρ) := List.map_congr_left fun y hy => by
      have e : ∀ y : SA, y.bnd ⟨fun _ => False, ρ.fz⟩ → y.conc ρ1 = y.conc ρ := fun y hb => Agree.sa (n := ⟨fun _ => False, ρ.fz⟩) (ρ := ρ) (ρ' := ρ1) (fun _ q => q.elim) hb
      exact e y (hr y hy)
    obtain ⟨q, hc⟩ := hfn Z.w ρ1 w h1 obh hhead H.below hm1 (by rw [hfz, ← hz]; exact H.gl) (by rw [hfz]; exact hr) _ hkeep
    have hcc : (h1 :: r).map (SA.conc ρ1) = (x :: r).map (SA.conc ρ) := by rw [List.map_cons, List.map_cons, hconc, hc1]
    rw [hcc] at q hc
    refine ⟨q, hc.mono ?_⟩
    rintro e w' ⟨ρ', cap', sp', rfl, hcap, hbl, hm', hf', hkk⟩
    rw [hfz] at hf'
    refine ⟨_, rfl, ?_⟩
    obtain ⟨cp, rfl⟩ : ∃ c, cap' = n' + c := ⟨cap' - n', by have := hcap.le; omega⟩
    have hsp : sp' = cp * s.wd := by
      have := hcap.room
      rw [Nat.add_mul] at this
      omega
    subst hsp
    have hk := h cp hcap.most
    have hlast : (ob0 ++ [SO.row s.e s.wd n' g' (cp * s.wd)])[ob0.length]? = some (.row s.e s.wd n' g' (cp * s.wd)) := by simp
    have hback : ∀ i, i ≠ ob0.length → (ob0 ++ [SO.row s.e s.wd n' g' (cp * s.wd)])[i]? = ob0[i]? := fun i hi => by
      rcases Nat.lt_or_ge i ob0.length with hl | hl
      · rw [List.getElem?_append_left hl]
      · rw [List.getElem?_eq_none (by simp; omega), List.getElem?_eq_none hl]
    let ρ2 : Rho := ⟨fun i => if i = ob0.length then ρ' 0 else ρ i, ρ.fz⟩
    have r0 : ρ2 ob0.length = ρ' 0 := if_pos rfl
    have r1 : ∀ i, i ≠ ob0.length → ρ2 i = ρ i := fun i hi => if_neg hi
    have alive : ∀ i, i ≠ ob0.length → live (ob0 ++ [SO.row s.e s.wd n' g' (cp * s.wd)]) i → live ob0 i := fun i hi hl => by
      obtain ⟨y, hy, hh⟩ := hl
      rw [hback i hi] at hy
      exact ⟨y, hy, hh⟩
    have hfar : ∀ i, live ob0 i → ρ' 0 ≠ ρ i := fun i hi => by
      obtain ⟨y, hy, hh⟩ := (hsub i hi).1
      obtain ⟨_, ⟨rs, _, a2⟩, _⟩ := H.mem.objs i y hy hh
      exact (hkk (ρ i) _ (.inr ⟨i, hi, rfl, a2⟩)).2 0 ⟨_, rfl, rfl⟩
    obtain ⟨b1, ⟨rest, b2, b3⟩, _⟩ := hm'.objs 0 _ rfl rfl
    have hrc : ∀ {E : Env}, rowOK E s.wd n' g' := fun i hi c hc => ⟨SC.bnd_mono none0_le (hcl i hi c hc).1, (hcl i hi c hc).2⟩
    have hm2 : Mem Z.w.heap.size ρ2 (ob0 ++ [SO.row s.e s.wd n' g' (cp * s.wd)]) w' := by
      refine ⟨fun i y hi hy => ?_, fun i j hi hj hij => ?_, fun b c u hu => ?_⟩
      · by_cases e : i = ob0.length
        · subst e
          rw [hlast] at hi
          simp only [Option.some.injEq] at hi
          subst hi
          rw [r0]
          exact ⟨b1, ⟨rest, b2, b3⟩, hrc⟩
        · rw [hback i e] at hi
          have hl0 : live ob0 i := ⟨y, hi, hy⟩
          have hi2 : ob[i]? = some y := by
            rcases hkl with ⟨_, rfl⟩ | ⟨o, _, _, _, rfl, _⟩
            · exact hi
            · have := (live_dead.1 hl0).2
              rwa [List.getElem?_set_ne (fun e => this e.symm)] at hi
          obtain ⟨a1, ⟨rs, hrs, a2⟩, a3⟩ := H.mem.objs i y hi2 hy
          rw [r1 i e]
          have hobB := List.all_eq_true.1 hall0 y (List.mem_of_getElem? hi)
          refine ⟨a1, ⟨rs, hrs, ?_⟩, ?_⟩
          · rw [(hkk (ρ i) _ (.inr ⟨i, hl0, rfl, a2⟩)).1]
            have : y.vals ρ2 = y.vals ρ := by
              cases y with
              | cells e ks sp =>
                refine Agree.sks (n := lv ρ ob0) (ρ := ρ) (ρ' := ρ2) (fun i hi => r1 i (by obtain ⟨z, hz, _⟩ := hi; have := ob_lt hz; omega)) (fun kk hkk => ?_)
                exact SK.bnd_re (E := lv ρ ob) (m := lv ρ ob0) (fun _ => liveB_iff) (fun _ _ _ h => h) (SK.bnd_mono (n := lv ρ ob) (m := (lv ρ ob).soft) (Env.le_soft _) (a3.1 kk hkk)) (by simp only [obB, List.all_eq_true] at hobB; exact hobB kk hkk)
              | row e w n g sp => rfl
              | gone => rfl
              | dead => rfl
            rw [this]
          · cases y with
            | cells e ks sp =>
              refine ⟨fun kk hkk => ?_, a3.2⟩
              have := SK.bnd_re (E := lv ρ ob) (m := lv ρ ob0) (fun _ => liveB_iff) (fun _ _ _ h => h) (SK.bnd_mono (n := lv ρ ob) (m := (lv ρ ob).soft) (Env.le_soft _) (a3.1 kk hkk)) (by simp only [obB, List.all_eq_true] at hobB; exact hobB kk hkk)
              exact SK.bnd_mono (n := lv ρ ob0) (m := lv ρ2 (ob0 ++ [SO.row s.e s.wd n' g' (cp * s.wd)])) ⟨fun i hi => by
                obtain ⟨z, hz, hh⟩ := hi
                exact ⟨z, by rw [hback i (by have := ob_lt hz; omega)]; exact hz, hh⟩, fun _ _ _ h => h⟩ this
            | row e w n g sp => exact a3
            | gone => cases hy
            | dead => cases hy
      · by_cases e1 : i = ob0.length
        · by_cases e2 : j = ob0.length
          · rw [e1, e2]
          · subst e1
            rw [r0, r1 j e2] at hij
            exact absurd hij (hfar j (alive j e2 hj))
        · by_cases e2 : j = ob0.length
          · subst e2
            rw [r0, r1 i e1] at hij
            exact absurd hij.symm (hfar i (alive i e1 hi))
          · rw [r1 i e1, r1 j e2] at hij
            exact H.mem.injs i j (hsub i (alive i e1 hi)).1 (hsub j (alive j e2 hj)).1 hij
      · obtain ⟨k1, k2⟩ := hm'.frz b c u (hf' b c u hu)
        refine ⟨k1, fun i hi => ?_⟩
        by_cases e : i = ob0.length
        · subst e; rw [r0]; exact k2 0 ⟨_, rfl, rfl⟩
        · rw [r1 i e]; exact (H.mem.frz b c u hu).2 i (hsub i (alive i e hi)).1
    have hkept : Kept Z ρ2 (ob0 ++ [SO.row s.e s.wd n' g' (cp * s.wd)]) := by
      have hlow : ∀ {i : Nat}, i < Z.ob.length → i < ob0.length := fun h => by have := H.kept.2.2; omega
      refine ⟨fun i hi => ?_, fun i hi => ?_, by have := H.kept.2.2; simp; omega⟩
      · have hil : i < ob0.length := hlow (by obtain ⟨z, hz, _⟩ := hi; exact ob_lt hz)
        rcases H.kept.1 i hi with ⟨k1, k2⟩ | k1
        · by_cases hl0 : live ob0 i
          · obtain ⟨z, hz, hh⟩ := hl0
            exact .inl ⟨⟨z, by rw [hback i (by omega)]; exact hz, hh⟩, by rw [r1 i (by omega)]; exact k2⟩
          · refine .inr ?_
            rw [hback i (by omega)]
            rcases hkl with ⟨_, rfl⟩ | ⟨o, y, ho, hy, rfl, _⟩
            · exact absurd k1 hl0
            · by_cases e : i = o
              · subst e; simp [ob_lt ho]
              · exact absurd (live_dead.2 ⟨k1, e⟩) hl0
        · refine .inr ?_
          rw [hback i (by omega)]
          rcases hkl with ⟨_, rfl⟩ | ⟨o, y, ho, hy, rfl, _⟩
          · exact k1
          · have e : i ≠ o := fun e => by subst e; rw [ho] at k1; simp only [Option.some.injEq] at k1; subst k1; cases hy
            rw [List.getElem?_set_ne (fun q => e q.symm)]; exact k1
      · have hil : i < ob0.length := hlow (ob_lt hi)
        have k1 := H.kept.2.1 i hi
        rw [hback i (by omega)]
        rcases hkl with ⟨_, rfl⟩ | ⟨o, y, ho, hy, rfl, _⟩
        · exact k1
        · have e : i ≠ o := fun e => by subst e; rw [ho] at k1; simp only [Option.some.injEq] at k1; subst k1; cases hy
          rw [List.getElem?_set_ne (fun q => e q.symm)]; exact k1
    have hkk2 : Keeps Z.keep ρ2 (ob0 ++ [SO.row s.e s.wd n' g' (cp * s.wd)]) w' := fun b y hy => by
      refine ⟨(hkk b y (.inl hy)).1, fun i hi => ?_⟩
      by_cases e : i = ob0.length
      · subst e; rw [r0]; exact (hkk b y (.inl hy)).2 0 ⟨_, rfl, rfl⟩
      · rw [r1 i e]; exact (H.keeps b y hy).2 i (hsub i (alive i e hi)).1
    have H2 : Holds Z ρ2 (scrub (ob0 ++ [SO.row s.e s.wd n' g' (cp * s.wd)]) tm) (ob0 ++ [SO.row s.e s.wd n' g' (cp * s.wd)]) a w' := by
      refine H.onto (fun i hi _ => r1 i ?_) (fun _ _ _ h => h) (fun b o v hv => .inl ⟨o, v, hv⟩) hbl hm2 hkept hkk2
      obtain ⟨z, hz, _⟩ := hi
      have := ob_lt hz
      omega
    refine ⟨ρ2, _, _, hk, ?_, ?_, H2⟩
    · have hv : (SA.sc (.slw ob0.length s.wd 0 n' (n' + cp)) :: vs).map (SA.conc ρ2) = (SC.slw 0 s.wd 0 n' (n' + cp)).conc ρ' :: vs.map (SA.conc Rho.nil) := by
        rw [List.map_cons]
        congr 1
        · simp only [SA.conc, SC.conc, r0]
        · exact List.map_congr_left fun y hy => Agree.sa (n := none0) (ρ := Rho.nil) (ρ' := ρ2) (fun _ q => q.elim) (hvs y hy)
      rw [← hv]
      exact valL_conc ρ2 _
    · refine resV_bnd fun y hy => ?_
      rcases List.mem_cons.1 hy with rfl | hy
      · exact ⟨_, hlast, rfl⟩
      · exact SA.bnd_mono none0_le (hvs y hy)
  rcases hown.2 with ⟨hv, hn⟩ | ⟨b, cap, cur, hv, hB, hcur, hnc, hcm, hsz, htk⟩
  · subst hn
    refine main ⟨ρ.pos, ρ.fz⟩ (.sc (.val (.slice none 0 0))) [] rfl .none (by rw [hv]; rfl) ⟨fun i y hi => by simp at hi, fun i j hi => by obtain ⟨z, hz, _⟩ := hi; simp at hz, fun b o v hv => ⟨(H.mem.frz b o v hv).1, fun i hi => by obtain ⟨z, hz, _⟩ := hi; simp at hz⟩⟩ (fun b _ j hj => by obtain ⟨z, hz, _⟩ := hj; simp at hz) (fun b y _ j hj => by obtain ⟨z, hz, _⟩ := hj; simp at hz)
  · have hgT : gT old g = g := by
      rcases hold with ⟨_, _, e, _⟩ | ⟨o, rfl, _⟩
      · rw [hv] at e; cases e
      · rfl
    rw [hgT] at main
    have hcurl : cur.toList = rowc s.wd n g ++ cur.toList.drop (n * s.wd) := by rw [← htk]; exact (List.take_append_drop _ _).symm
    have hapart : ∀ c o u, ρ.fz c o u → b ≠ c := fun c o u hu e => by
      rcases hkl with ⟨e2, _⟩ | ⟨o2, y, ho, hy, _, e2⟩
      · rw [hv] at e2; cases e2
      · rw [hv] at e2
        have : b = ρ o2 := by simpa [Value.ownBlock] using e2
        exact (H.mem.frz c o u hu).2 o2 ⟨y, ho, hy⟩ (by rw [← this, e])
    refine main ⟨fun _ => b, ρ.fz⟩ (.sc (.slw 0 s.wd 0 n cap)) [.row s.e s.wd n g (cap * s.wd - n * s.wd)] rfl (.own n cap _ ⟨hnc, hcm, ?_⟩) ?_ ⟨fun i y hi hy => ?_, fun i j hi hj _ => ?_, fun c o u hu => ⟨(H.mem.frz c o u hu).1, fun i _ => hapart c o u hu⟩⟩ (fun c hc j _ e => hc ?_) (fun c y hy j _ e => ?_)
    · have := Nat.mul_le_mul_right s.wd hnc; omega
    · rw [hv]; simp [SA.conc, SC.conc]
    · cases i with
      | succ i => simp at hi
      | zero =>
        simp only [List.getElem?_cons_zero, Option.some.injEq] at hi
        subst hi
        refine ⟨hB, ⟨cur.toList.drop (n * s.wd), ?_, ?_⟩, ?_⟩
        · rw [List.length_drop, Array.length_toList, hsz]; rfl
        · show w.heap[b]? = some (.cells (rowc s.wd n g ++ cur.toList.drop (n * s.wd)).toArray s.e (0, 0))
          rw [← hcurl, hcur]
        · exact fun i hi c hc => ⟨SC.bnd_mono (n := (lv ρ ob).bare) (m := (lv (⟨fun _ => b, ρ.fz⟩ : Rho) [.row s.e s.wd n g (cap * s.wd - n * s.wd)]).bare) ⟨fun _ q => q, fun _ _ _ q => q⟩ (hrow i hi c hc).1, (hrow i hi c hc).2⟩
    · obtain ⟨y, hy, _⟩ := hi
      obtain ⟨z, hz', _⟩ := hj
      cases i with
      | succ i => simp at hy
      | zero => cases j with
        | succ j => simp at hz'
        | zero => rfl
    · rw [hv]
      show some b = some c
      rw [show b = c from e]
    · rcases hkl with ⟨e2, _⟩ | ⟨o2, y2, ho, hy2, _, e2⟩
      · rw [hv] at e2; cases e2
      · rw [hv] at e2
        have : b = ρ o2 := by simpa [Value.ownBlock] using e2
        exact (H.keeps c y hy).2 o2 ⟨y2, ho, hy2⟩ (by rw [← this]; exact e)
section
variable {P : Program}
def inlZ (P : Program) (cx : Cx) (sl : List (Nat × SSpec)) (tl : List (Nat × TSpec)) (dr : Drawn) (iv : List (Nat × Hint)) (N : Nat) : Nat → Inl
  | 0 => inlT tl (inlW cx.wf (inlS sl noInl))
  | d + 1 => inlT tl (inlW cx.wf (inlS sl fun f args ob k =>
    match P.funcs[f]? with
    | some fn =>
      match fn.body, fn.name == "runtime.NumGoroutine" with
      | some c, false => sx P { cx with kn := ob.length } (inlZ P cx sl tl dr iv N d) dr iv N ((f + 1) * 100000) ob.length c (slots0 args fn.ntmps) ob (ret P fn.results.toList k)
      | _, _ => StuckAt "no text"
    | none => StuckAt "no function"))
theorem inlZ_ok {cx : Cx} (hcx : CxOK P cx) {sl : List (Nat × SSpec)} (hsl : ∀ p ∈ sl, FnOKs P cx.gl p.1 p.2) {tl : List (Nat × TSpec)} (htl : ∀ p ∈ tl, FnOKt P cx.gl p.1 p.2) {dr : Drawn} (hdr : DrawnOK P cx dr) (iv : List (Nat × Hint)) (N : Nat) : ∀ d, InlOK P cx.gl (inlZ P cx sl tl dr iv N d)
  | 0 => inlT_ok htl (inlW_ok hcx.2 (inlS_ok hsl (noInl_ok P cx.gl)))
  | d + 1 => by
    refine inlT_ok htl (inlW_ok hcx.2 (inlS_ok hsl ?_))
    intro f args ob k h Z ρ tm a w hz H hargs
    split at h
    case h_2 => exact h.no
    rename_i fn hf
    split at h
    case h_2 => exact h.no
    rename_i c hb hn
    refine ⟨run_callFunc_enter hf (by rw [hb]; rfl) hn _ w, ?_⟩
    refine calls_of_sx (cx := { cx with kn := ob.length }) hcx (inlZ_ok hcx hsl htl hdr iv N d) hdr iv N _ hf hb args ρ hargs w H.below H.mem (by rw [← hz]; exact H.gl) (Nat.le_refl _) H.keeps k (fun sv ob' ρ' v w' hk hr hbd hB hm hkp hfz hkk => ?_) h
    refine ⟨v, rfl, ρ', sv, ob', hk, hr, hbd, H.onto (fun i hi hi' => ?_) hfz.le hfz.own hB hm ⟨fun i hi => ?_, fun i hi => hkp.2.1 i (H.kept.2.1 i hi), Nat.le_trans H.kept.2.2 hkp.2.2⟩ hkk⟩
    · rcases hkp.1 i hi with ⟨_, e⟩ | e
      · exact e
      · obtain ⟨_, h', hh⟩ := hi'; rw [e] at h'; cases h'; cases hh
    · rcases H.kept.1 i hi with ⟨k1, k2⟩ | k1
      · rcases hkp.1 i k1 with ⟨q1, q2⟩ | q
        · exact .inl ⟨q1, Eq.trans q2 k2⟩
        · exact .inr q
      · exact .inr (hkp.2.1 i k1)
def okV : List SA → List SA → Prop
  | [], [] => True
  | x :: r, y :: r' => sameA x y ∧ okV r r'
  | _, _ => StuckAt "values"
def okTs (s : TSpec) (n : Nat) (g : Nat → Nat → SC) (vs : List SA) (ob : List SO) : List SA → Prop
  | .sc (.slw o w off len cap) :: r => match ob[o]? with
    | some (.row e w' m h sp) => match Nat.beq w s.wd && Nat.beq w' s.wd && Nat.beq e s.e with
      | true => ands [off = 0, len = n, m = n, capOK s.wd m cap sp] (ands [∀ i, i < n → allC s.wd fun c => simC (h i c) (g i c)] (okV r vs))
      | false => StuckAt "row"
    | _ => StuckAt "row"
  | _ => StuckAt "result"
def okT (s : TSpec) (n : Nat) (g : Nat → Nat → SC) (vs : List SA) (sv : SV) (ob : List SO) : Prop :=
  match sv with
  | .one x => okTs s n g vs ob [x]
  | .tup [_] => False
  | .tup xs => okTs s n g vs ob xs
  | _ => False
def OwesZ (P : Program) (cx : Cx) (sl : List (Nat × SSpec)) (tl : List (Nat × TSpec)) (iv : List (Nat × Hint)) (N : Nat) (fn : Func) (args : List SA) (ob : List SO) (post : SV → List SO → Prop) : Prop :=
  sx P { cx with kn := ob.length } (inlZ P cx sl tl drawOK iv N 8) drawOK iv N 0 ob.length (fn.body.getD .skip) (slots0 args fn.ntmps) ob (ret P fn.results.toList post)
def OwesT (P : Program) (cx : Cx) (sl : List (Nat × SSpec)) (tl : List (Nat × TSpec)) (iv : List (Nat × Hint)) (N : Nat) (fn : Func) (args : List SA) (s : TSpec) (n cap sp : Nat) (g : Nat → Nat → SC) (n' : Nat) (g' : Nat → Nat → SC) (vs : List SA) : Prop :=
  OwesZ P cx sl tl iv N fn (.sc (.slw 0 s.wd 0 n cap) :: args) [.row s.e s.wd n g sp] (okT s n' g' vs)
def OwesT0 (P : Program) (cx : Cx) (sl : List (Nat × SSpec)) (tl : List (Nat × TSpec)) (iv : List (Nat × Hint)) (N : Nat) (fn : Func) (args : List SA) (s : TSpec) (n' : Nat) (g' : Nat → Nat → SC) (vs : List SA) : Prop :=
  OwesZ P cx sl tl iv N fn (.sc (.val (.slice none 0 0)) :: args) [] (okT s n' g' vs)
def OwesQ (P : Program) (cx : Cx) (sl : List (Nat × SSpec)) (tl : List (Nat × TSpec)) (iv : List (Nat × Hint)) (N : Nat) (fn : Func) (args : List SA) (sh : Bool) (rs : List RS) : Prop :=
  OwesZ P cx sl tl iv N fn args [] (okRS sh rs)
theorem okV_sound {ρ : Rho} : ∀ {xs vs : List SA}, okV xs vs → xs.map (SA.conc ρ) = vs.map (SA.conc ρ)
  | [], [], _ => rfl
  | x :: r, y :: r', h => by
    simp only [List.map_cons, okV_sound h.2, sameA_sound ρ h.1]
  | [], _ :: _, h => h.no
  | _ :: _, [], h => h.no
theorem FnOKt_owes {cx : Cx} (hcx : CxOK P cx) {sl : List (Nat × SSpec)} (hsl : ∀ p ∈ sl, FnOKs P cx.gl p.1 p.2) {tl : List (Nat × TSpec)} (htl : ∀ p ∈ tl, FnOKt P cx.gl p.1 p.2) {f : Nat} {fn : Func} (hf : P.funcs[f]? = some fn) (hb : fn.body.isSome = true) (hn : (fn.name == "runtime.NumGoroutine") = false) {s : TSpec}
    (h : ∀ args n g ps n' g' vs, s.of args n g = some (ps, n', g', vs) → Ok ps → ∃ args', (∀ ρ, args.map (SA.conc ρ) = args'.map (SA.conc ρ)) ∧ (∀ E : Env, (∀ x ∈ args, x.bnd E) → ∀ x ∈ args', x.bnd E) ∧ (∀ v ∈ vs, v.bnd none0) ∧ closedG n' s.wd g' ∧
      (n = 0 → ∃ iv N, OwesT0 P cx sl tl iv N fn args' s n' g' vs) ∧ ∀ cap sp, capOK s.wd n cap sp → ∃ iv N, OwesT P cx sl tl iv N fn args' s n cap sp g n' g' vs) : FnOKt P cx.gl f s := by
  intro args n g ps n' g' vs hs hp
  obtain ⟨args', h1, h2, hvs, hcl, h0, h3⟩ := h args n g ps n' g' vs hs hp
  refine ⟨hvs, hcl, fun Z ρ w hd ob hhead hB hm hg ha keep hkeep => ⟨run_callFunc_enter hf hb hn _ w, ?_⟩⟩
  obtain ⟨c, hc⟩ := Option.isSome_iff_exists.1 hb
  have goal : ∀ iv N, OwesZ P cx sl tl iv N fn (hd :: args') ob (okT s n' g' vs) → hd.bnd (lv ρ ob) → Calls P f ((hd :: args).map (SA.conc ρ)).toArray w fun r w' => ∃ (ρ' : Rho) (cap' sp' : Nat), r = .returned (valL ((SC.slw 0 s.wd 0 n' cap').conc ρ' :: vs.map (SA.conc Rho.nil))) ∧ capOK s.wd n' cap' sp' ∧ Below Z.heap.size Z w' ∧
        Mem Z.heap.size ρ' [.row s.e s.wd n' g' sp'] w' ∧ (∀ b o u, ρ.fz b o u → ρ'.fz b o u) ∧ Keeps keep ρ' [.row s.e s.wd n' g' sp'] w' := by
    intro iv N h4 hhd
    rw [List.map_cons, h1, ← List.map_cons]
    unfold OwesZ at h4
    rw [hc] at h4
    refine calls_of_sx (cx := { cx with kn := ob.length }) hcx (inlZ_ok hcx hsl htl (drawOK_ok hcx) iv N 8) (drawOK_ok hcx) iv N 0 hf hc (Z := Z) (ob := ob) (hd :: args') ρ ?_ w hB hm hg (Nat.le_refl _) hkeep _ (fun sv ob' ρ' v w' hq hr hbd hB' hm' hkp hfz hkk => ?_) h4
    · intro x hx
      rcases List.mem_cons.1 hx with rfl | hx
      · exact hhd
      · exact SA.bnd_mono (n := ⟨fun _ => False, ρ.fz⟩) (m := lv ρ ob) ⟨fun _ k => k.elim, fun _ _ _ k => k⟩ (h2 _ ha x hx)
    have key : ∀ xs : List SA, okTs s n' g' vs ob' xs → v = valL (xs.map (SA.conc ρ')) → ∃ (ρ' : Rho) (cap' sp' : Nat), Ending.returned v = .returned (valL ((SC.slw 0 s.wd 0 n' cap').conc ρ' :: vs.map (SA.conc Rho.nil))) ∧ capOK s.wd n' cap' sp' ∧ Below Z.heap.size Z w' ∧
        Mem Z.heap.size ρ' [.row s.e s.wd n' g' sp'] w' ∧ (∀ b o u, ρ.fz b o u → ρ'.fz b o u) ∧ Keeps keep ρ' [.row s.e s.wd n' g' sp'] w' := by
      intro xs hxs hv
      unfold okTs at hxs
      split at hxs
      case h_2 => exact hxs.no
      rename_i o w1 off len cap r
      split at hxs
      case h_2 => exact hxs.no
      rename_i e w2 m h' sp hob
      split at hxs
      case h_2 => exact hxs.no
      rename_i hw
      simp only [Bool.and_eq_true] at hw
      have hw1 := Nat.eq_of_beq_eq_true hw.1.1
      have hw2 := Nat.eq_of_beq_eq_true hw.1.2
      have hw3 := Nat.eq_of_beq_eq_true hw.2
      subst hw1 hw2 hw3
      obtain ⟨⟨hoff, hlen, hmm, hcap, _⟩, hxs2⟩ := ands_iff.1 hxs
      obtain ⟨⟨hrows, _⟩, hxs3⟩ := ands_iff.1 hxs2
      subst hoff hlen hmm
      obtain ⟨hB0, ⟨rest, hrest, hrow⟩, hok⟩ := hm'.rows hob
      have hlive : live ob' o := ⟨_, hob, rfl⟩
      refine ⟨⟨fun _ => ρ' o, ρ'.fz⟩, cap, sp, ?_, hcap, hB', ⟨fun i y hi hy => ?_, fun i j hi hj _ => ?_, fun b c u hu => ⟨(hm'.frz b c u hu).1, fun i _ => (hm'.frz b c u hu).2 o hlive⟩⟩, hfz.le, fun b y hy => ⟨(hkk b y hy).1, fun i _ => (hkk b y hy).2 o hlive⟩⟩
      · rw [hv, List.map_cons, okV_sound (ρ := ρ') hxs3]
        congr 3
        exact List.map_congr_left fun y hy => Agree.sa (n := none0) (ρ := Rho.nil) (ρ' := ρ') (fun _ q => q.elim) (hvs y hy)
      · cases i with
        | succ i => simp at hi
        | zero =>
          simp only [List.getElem?_cons_zero, Option.some.injEq] at hi
          subst hi
          refine ⟨hB0, ⟨rest, hrest, ?_⟩, fun i hi c hc => ⟨SC.bnd_mono none0_le (hcl i hi c hc).1, (hcl i hi c hc).2⟩⟩
          show w'.heap[ρ' o]? = some (.cells (rowc s.wd m g' ++ rest).toArray s.e (0, 0))
          rw [← rowc_congr hrows]; exact hrow
      · obtain ⟨y, hy, _⟩ := hi
        obtain ⟨z, hz', _⟩ := hj
        cases i with
        | succ i => simp at hy
        | zero => cases j with
          | succ j => simp at hz'
          | zero => rfl
    unfold okT at hq
    split at hq
    · exact key _ hq (by rw [hr]; rfl)
    · exact hq.elim
    · rename_i xs hne
      refine key _ hq ?_
      rw [hr]
      match xs, hne with
      | [], _ => rfl
      | [x], hne => exact absurd rfl (hne x)
      | x :: y :: r, _ => rfl
    · exact hq.elim
  cases hhead with
  | none =>
    obtain ⟨iv, N, h4⟩ := h0 rfl
    exact goal iv N h4 trivial
  | own n cap sp hcap =>
    obtain ⟨iv, N, h4⟩ := h3 cap sp hcap
    exact goal iv N h4 ⟨_, rfl, rfl⟩
theorem FnOKs_owesQ {cx : Cx} (hcx : CxOK P cx) {sl : List (Nat × SSpec)} (hsl : ∀ p ∈ sl, FnOKs P cx.gl p.1 p.2) {tl : List (Nat × TSpec)} (htl : ∀ p ∈ tl, FnOKt P cx.gl p.1 p.2) {f : Nat} {fn : Func} (hf : P.funcs[f]? = some fn) (hb : fn.body.isSome = true) (hn : (fn.name == "runtime.NumGoroutine") = false) {s : SSpec}
    (h : ∀ args ps rs, s.of args = some (ps, rs) → Ok ps → ∃ iv N args', (∀ ρ, args.map (SA.conc ρ) = args'.map (SA.conc ρ)) ∧ (∀ fz, (∀ x ∈ args, x.bnd ⟨fun _ => True, fz⟩) → ∀ x ∈ args', x.bnd ⟨fun _ => False, fz⟩) ∧ (∀ r ∈ rs, r.closed) ∧ OwesQ P cx sl tl iv N fn args' s.share rs) : FnOKs P cx.gl f s := by
  intro args ps rs hs hp ρ w hz hg ha
  refine ⟨run_callFunc_enter hf hb hn _ w, ?_⟩
  obtain ⟨iv, N, args', h1, h2, h3, h4⟩ := h args ps rs hs hp
  rw [h1]
  obtain ⟨c, hc⟩ := Option.isSome_iff_exists.1 hb
  unfold OwesQ OwesZ at h4
  rw [hc] at h4
  refine calls_of_sx (cx := { cx with kn := 0 }) hcx (inlZ_ok hcx hsl htl (drawOK_ok hcx) iv N 8) (drawOK_ok hcx) iv N 0 hf hc (Z := w) (ob := []) args' ρ (fun x hx => SA.bnd_mono (n := ⟨fun _ => False, ρ.fz⟩) (m := lv ρ []) ⟨fun _ k => k.elim, fun _ _ _ k => k⟩ (h2 _ ha x hx)) w (Below.refl _ _) (Mem.start hz) hg (Nat.zero_le _) (Keeps.none _ _ _) _ (fun sv ob' ρ' v w' hp' hr hbd hbl hm _ hfz _ => ?_) h4
  have key : ∀ xs : List SA, (∀ x ∈ xs, x.bnd (lv ρ' ob')) → okRL s.share ob' rs xs → RS.isL w' (fun b => w.heap.size ≤ b ∨ (s.share = true ∧ ∃ o u, ρ.fz b o u)) rs (xs.map (SA.conc ρ')) := fun xs hx hk => okRL_sound (F := ρ.fz) hm hfz.own h3 hx hk
  unfold okRS at hp'
  split at hp'
  · rename_i x
    exact ⟨_, by rw [hr]; rfl, key [x] (fun y hy => by simp only [List.mem_singleton] at hy; subst hy; exact hbd) hp', hbl⟩
  · exact hp'.elim
  · rename_i xs hne
    refine ⟨xs.map (SA.conc ρ'), ?_, key xs hbd hp', hbl⟩
    rw [hr]
    match xs, hne with
    | [], _ => rfl
    | [x], hne => exact absurd rfl (hne x)
    | x :: y :: r, _ => rfl
  · exact hp'.elim
end
attribute [irreducible] OwesT OwesT0 OwesQ
end Go.Sx
end

section
namespace Go.Sx
def specT (e : TypeId) (wd : Nat) (aq : List AQ) (nf : List (List FD) → List (List FD)) (c : List (List FD) → Nat → (Nat → Nat → SC) → List Prop) (m : List (List FD) → Nat → Nat) (g : List (List FD) → Nat → (Nat → Nat → SC) → Nat → Nat → SC) (vs : List (List FD) → List SA) : TSpec :=
  ⟨e, wd, fun args n h => match asQs aq args with
    | some (ps, ls) => some (ps ++ (simQs aq ls (nf ls) ++ c (nf ls) n h), m (nf ls) n, g (nf ls) n h, vs (nf ls))
    | none => none⟩
theorem FnOKt_Q {P : Program} {cx : Cx} (hcx : CxOK P cx) {sl : List (Nat × SSpec)} (hsl : ∀ p ∈ sl, FnOKs P cx.gl p.1 p.2) {tl : List (Nat × TSpec)} (htl : ∀ p ∈ tl, FnOKt P cx.gl p.1 p.2) {f : Nat} {fn : Func} (hf : P.funcs[f]? = some fn) (hb : fn.body.isSome = true) (hn : (fn.name == "runtime.NumGoroutine") = false)
    {e : TypeId} {wd : Nat} {aq : List AQ} {nf : List (List FD) → List (List FD)} {c : List (List FD) → Nat → (Nat → Nat → SC) → List Prop} {m : List (List FD) → Nat → Nat} {g : List (List FD) → Nat → (Nat → Nat → SC) → Nat → Nat → SC} {vs : List (List FD) → List SA}
    (h : ∀ ls n h, Ok (c ls n h) → (∀ v ∈ vs ls, v.bnd none0) ∧ closedG (m ls n) wd (g ls n h) ∧ (n = 0 → ∃ iv N, OwesT0 P cx sl tl iv N fn (mkQs aq ls) (specT e wd aq nf c m g vs) (m ls 0) (g ls 0 h) (vs ls)) ∧
      ∀ cap sp, capOK wd n cap sp → ∃ iv N, OwesT P cx sl tl iv N fn (mkQs aq ls) (specT e wd aq nf c m g vs) n cap sp h (m ls n) (g ls n h) (vs ls)) : FnOKt P cx.gl f (specT e wd aq nf c m g vs) := by
  refine FnOKt_owes hcx hsl htl hf hb hn fun args n h0 ps n' g' vs' hs hp => ?_
  simp only [specT] at hs
  split at hs
  case h_2 => cases hs
  rename_i q ls ha
  simp only [Option.some.injEq, Prod.mk.injEq] at hs
  obtain ⟨rfl, rfl, rfl, rfl⟩ := hs
  obtain ⟨o1, o23⟩ := Ok.append.1 hp
  obtain ⟨o2, o3⟩ := Ok.append.1 o23
  obtain ⟨a1, a2⟩ := asQs_sound ha
  obtain ⟨b1, b2⟩ := simQs_sound o2
  obtain ⟨k1, k2, k3, k4⟩ := h (nf ls) n h0 o3
  refine ⟨mkQs aq (nf ls), fun ρ => by rw [a1 o1 ρ, b1 ρ], fun E hx x hxm => ?_, k1, k2, fun hz => ?_, k4⟩
  · exact SA.bnd_mono (n := E.bare) (m := E) ⟨fun _ q => q.elim, fun _ _ _ q => q⟩ (b2 E.bare (fun y hy => a2 E hx y hy) x hxm)
  · subst hz; exact k3 rfl
theorem FnOKs_QQ {P : Program} {cx : Cx} (hcx : CxOK P cx) {sl : List (Nat × SSpec)} (hsl : ∀ p ∈ sl, FnOKs P cx.gl p.1 p.2) {tl : List (Nat × TSpec)} (htl : ∀ p ∈ tl, FnOKt P cx.gl p.1 p.2) {f : Nat} {fn : Func} (hf : P.funcs[f]? = some fn) (hb : fn.body.isSome = true) (hn : (fn.name == "runtime.NumGoroutine") = false)
    {share : Bool} {aq : List AQ} {nf : List (List FD) → List (List FD)} {c : List (List FD) → List Prop} {g : List (List FD) → List RS}
    (h : ∀ ls, Ok (c ls) → ∃ iv N, (∀ r ∈ g ls, r.closed) ∧ OwesQ P cx sl tl iv N fn (mkQs aq ls) share (g ls)) : FnOKs P cx.gl f (specQ share aq nf c g) := by
  refine FnOKs_owesQ hcx hsl htl hf hb hn fun args ps rs hs hp => ?_
  simp only [specQ] at hs
  split at hs
  case h_2 => cases hs
  rename_i q ls ha
  simp only [Option.some.injEq, Prod.mk.injEq] at hs
  obtain ⟨rfl, rfl⟩ := hs
  obtain ⟨o1, o23⟩ := Ok.append.1 hp
  obtain ⟨o2, o3⟩ := Ok.append.1 o23
  obtain ⟨a1, a2⟩ := asQs_sound ha
  obtain ⟨b1, b2⟩ := simQs_sound o2
  obtain ⟨iv, N, hc, hw⟩ := h (nf ls) o3
  refine ⟨iv, N, mkQs aq (nf ls), fun ρ => by rw [a1 o1 ρ, b1 ρ], fun fz hx x hxm => ?_, hc, hw⟩
  exact b2 ⟨fun _ => False, fz⟩ (fun y hy => a2 ⟨fun _ => True, fz⟩ hx y hy) x hxm
theorem FnOKt.up0 {P : Program} {f : Nat} {s : TSpec} (h : FnOKt P [] f s) (gl : Globs) : FnOKt P gl f s := fun args n g ps n' g' vs hs hp =>
  ⟨(h args n g ps n' g' vs hs hp).1, (h args n g ps n' g' vs hs hp).2.1, fun Z ρ w hd ob hh hB hm _ ha keep hk => (h args n g ps n' g' vs hs hp).2.2 Z ρ w hd ob hh hB hm (fun p hp => by cases hp) ha keep hk⟩
def u8R (h : Nat → Int) : Nat → Nat → SC := fun i _ => .val (.int .u8 (h i))
def hOf (g : Nat → Nat → SC) (i : Nat) : Int := intOf (g i 0)
def catB (n : Nat) (h k : Nat → Int) (i : Nat) : Int := if i < n then h i else k (i - n)
theorem closed_u8R (n : Nat) (h : Nat → Int) : closedG n 1 (u8R h) := fun _ _ _ _ => ⟨trivial, rfl⟩
end Go.Sx
end

section
namespace Go.Proofs.YtpebkgbelifdgaaDoor
open Go.Sx
set_option maxRecDepth 100000
def bigAt (size : Nat) (v : Int) (q : Nat) : Int := v / 256 ^ (size - 1 - q) % 256
def bodyF (t n c : Int) (em : Nat → Int) (u l : Int) (k : Nat → Nat → Int) (j : Nat) : Int :=
  if j < 8 then bigAt 8 t j else if j < 12 then bigAt 4 n (j - 8) else if j < 14 then bigAt 2 c (j - 12) else if j < 46 then em (j - 14) else
    if j < 54 then bigAt 8 u (j - 46) else if j < 55 then bigAt 1 l (j - 54) else k (j - 55) 0
structure rowP (g : Nat → Nat → SC) (n m : Nat) : Prop where
  u8 : g = u8R (hOf g)
  le : n + m ≤ 140737488355328
def putC : List (List FD) → Nat → (Nat → Nat → SC) → List Prop
  | [[.i _], [.i z]], n, g => [rowP g n 8, 1 ≤ z ∧ z ≤ 8]
  | _, _, _ => [False]
def putM : List (List FD) → Nat → Nat
  | [[.i _], [.i z]], n => n + z.toNat
  | _, n => n
def putG : List (List FD) → Nat → (Nat → Nat → SC) → Nat → Nat → SC
  | [[.i v], [.i z]], n, g => u8R (catB n (hOf g) (bigAt z.toNat v))
  | _, _, g => g
def shPut : List AQ := [.one (.i .i64), .one (.i .i64)]
def tPut : TSpec := specT 5 1 shPut id putC putM putG fun _ => []
def cxAp : Cx := ⟨[(1000000007, fun _ => none)], [], 0, []⟩
def invPut (v : Int) (n z : Nat) (h : Nat → Int) : Inv where
  X := Nat × Nat
  tm x := slotsAt 23 [(0, .one (.sc (.slw 2 1 0 (n + x.1) (n + x.1 + x.2)))), (1, .one (sI .i64 v)), (7, .one (sI .i64 ((z : Int) - 1 - (x.1 : Int))))]
  ob x := [.dead, .dead, .row 5 1 (n + x.1) (u8R (catB n h (bigAt z v))) (x.2 * 1)]
  holds x := (1 ≤ x.1 ∧ x.1 ≤ z) ∧ n + x.1 + x.2 ≤ maxLen
  less x := z - x.1
def invPut0 (v : Int) (z : Nat) : Inv where
  X := Nat × Nat
  tm x := slotsAt 23 [(0, .one (.sc (.slw 1 1 0 x.1 (x.1 + x.2)))), (1, .one (sI .i64 v)), (7, .one (sI .i64 ((z : Int) - 1 - (x.1 : Int))))]
  ob x := [.dead, .row 5 1 x.1 (u8R (bigAt z v)) (x.2 * 1)]
  holds x := (1 ≤ x.1 ∧ x.1 ≤ z) ∧ x.1 + x.2 ≤ maxLen
  less x := z - x.1
theorem vc_put (v : Int) (z n cap sp m : Nat) (h k : Nat → Int) :
    OwesT Tryd.prog cxAp [] [] [(2, .inv1 (invPut v n z h))] 20 Tryd.f16 [sI .i64 v, sI .i64 (z : Int)] tPut n cap sp (u8R h) m (u8R k) [] =
    (let x1 : Int := (↑z : Int) - (1 : Int); let x2 : Int := Go.IntKind.i64.wrap x1; let x3 : Int := Go.IntKind.i64.wrap ((8 : Int) * x2); let x4 : Nat := n + 1; let x5 : Int := v.fdiv ((2 : Int) ^ Min.min x3.toNat 64); let x6 : Int := Go.IntKind.u8.wrap x5; (∀ (y : Nat × Nat), closedB (slotsAt 23 [(0, SV.one (SA.sc (SC.slw 2 1 0 (n + y.fst) (n + y.fst + y.snd)))), (1, SV.one (sI Go.IntKind.i64 v)), (7, SV.one (sI Go.IntKind.i64 (x1 - (↑y.fst : Int))))]) [SO.dead, SO.dead, SO.row (5 : Go.TypeId) 1 (n + y.fst) (u8R (catB n h (bigAt z v))) (y.snd * 1)] = Bool.true) ∧ (∀ (y : Nat × Nat), (1 ≤ y.fst ∧ y.fst ≤ z) ∧ n + y.fst + y.snd ≤ Go.maxLen → (Decidable.decide (x1 - (↑y.fst : Int) ≥ (0 : Int)) = Bool.true → (0 : Int) ≤ Go.IntKind.i64.wrap ((8 : Int) * (x1 - (↑y.fst : Int))) ∧ 0 = 0 ∧ n + y.fst = n + y.fst ∧ (n + y.fst ≤ n + y.fst + y.snd ∧ n + y.fst + y.snd ≤ Go.maxLen ∧ (n + y.fst + y.snd) * 1 = (n + y.fst) * 1 + y.snd * 1) ∧ (n + y.fst + 1 ≤ Go.maxLen ∧ (n + y.fst + 1) * 1 ≤ 140737488355328) ∧ ∀ (c : Nat), n + y.fst + 1 + c ≤ Go.maxLen → ∃ (y' : Nat × Nat), ((1 ≤ y'.fst ∧ y'.fst ≤ z) ∧ n + y'.fst + y'.snd ≤ Go.maxLen) ∧ (2 = 2 ∧ 1 = 1 ∧ 0 = 0 ∧ n + y.fst + 1 = n + y'.fst ∧ n + y.fst + 1 + c = n + y'.fst + y'.snd) ∧ v = v ∧ Go.IntKind.i64.wrap (x1 - (↑y.fst : Int) - (1 : Int)) = x1 - (↑y'.fst : Int) ∧ n + y.fst + 1 = n + y'.fst ∧ c * 1 = y'.snd * 1 ∧ (∀ (i : Nat), i < n + y.fst + 1 → (bif Decidable.decide (i < n + y.fst) then catB n h (bigAt z v) i else Go.IntKind.u8.wrap (v.fdiv ((2 : Int) ^ Min.min (Go.IntKind.i64.wrap ((8 : Int) * (x1 - (↑y.fst : Int)))).toNat 64))) = catB n h (bigAt z v) i) ∧ ((invPut v n z h).less y').succ.le ((invPut v n z h).less y)) ∧ (Decidable.decide (x1 - (↑y.fst : Int) ≥ (0 : Int)) = Bool.false → 0 = 0 ∧ n + y.fst = m ∧ n + y.fst = m ∧ capOK 1 (n + y.fst) (n + y.fst + y.snd) (y.snd * 1) ∧ (∀ (i : Nat), i < m → catB n h (bigAt z v) i = k i) ∧ True)) ∧ (Decidable.decide (x2 ≥ (0 : Int)) = Bool.true → (0 : Int) ≤ x3 ∧ 0 = 0 ∧ n = n ∧ (n ≤ cap ∧ cap ≤ Go.maxLen ∧ cap * 1 = n * 1 + sp) ∧ (x4 ≤ Go.maxLen ∧ x4 * 1 ≤ 140737488355328) ∧ ∀ (c : Nat), x4 + c ≤ Go.maxLen → ∃ (y' : Nat × Nat), ((1 ≤ y'.fst ∧ y'.fst ≤ z) ∧ n + y'.fst + y'.snd ≤ Go.maxLen) ∧ (2 = 2 ∧ 1 = 1 ∧ 0 = 0 ∧ x4 = n + y'.fst ∧ x4 + c = n + y'.fst + y'.snd) ∧ v = v ∧ Go.IntKind.i64.wrap (x2 - (1 : Int)) = x1 - (↑y'.fst : Int) ∧ x4 = n + y'.fst ∧ c * 1 = y'.snd * 1 ∧ (∀ (i : Nat), i < x4 → (bif Decidable.decide (i < n) then h i else x6) = catB n h (bigAt z v) i) ∧ True) ∧ (Decidable.decide (x2 ≥ (0 : Int)) = Bool.false → 0 = 0 ∧ n = m ∧ n = m ∧ capOK 1 n cap sp ∧ (∀ (i : Nat), i < m → h i = k i) ∧ True)) := by kernel_rfl
theorem vc_put0 (v : Int) (z m : Nat) (k : Nat → Int) :
    OwesT0 Tryd.prog cxAp [] [] [(2, .inv1 (invPut0 v z))] 20 Tryd.f16 [sI .i64 v, sI .i64 (z : Int)] tPut m (u8R k) [] =
    (let x1 : Int := (↑z : Int) - (1 : Int); let x2 : Int := Go.IntKind.i64.wrap x1; let x3 : Int := Go.IntKind.i64.wrap ((8 : Int) * x2); let x4 : Int := v.fdiv ((2 : Int) ^ Min.min x3.toNat 64); let x5 : Int := Go.IntKind.u8.wrap x4; (∀ (y : Nat × Nat), closedB (slotsAt 23 [(0, SV.one (SA.sc (SC.slw 1 1 0 y.fst (y.fst + y.snd)))), (1, SV.one (sI Go.IntKind.i64 v)), (7, SV.one (sI Go.IntKind.i64 (x1 - (↑y.fst : Int))))]) [SO.dead, SO.row (5 : Go.TypeId) 1 y.fst (u8R (bigAt z v)) (y.snd * 1)] = Bool.true) ∧ (∀ (y : Nat × Nat), (1 ≤ y.fst ∧ y.fst ≤ z) ∧ y.fst + y.snd ≤ Go.maxLen → (Decidable.decide (x1 - (↑y.fst : Int) ≥ (0 : Int)) = Bool.true → (0 : Int) ≤ Go.IntKind.i64.wrap ((8 : Int) * (x1 - (↑y.fst : Int))) ∧ 0 = 0 ∧ y.fst = y.fst ∧ (y.fst ≤ y.fst + y.snd ∧ y.fst + y.snd ≤ Go.maxLen ∧ (y.fst + y.snd) * 1 = y.fst * 1 + y.snd * 1) ∧ (y.fst + 1 ≤ Go.maxLen ∧ (y.fst + 1) * 1 ≤ 140737488355328) ∧ ∀ (c : Nat), y.fst + 1 + c ≤ Go.maxLen → ∃ (y' : Nat × Nat), ((1 ≤ y'.fst ∧ y'.fst ≤ z) ∧ y'.fst + y'.snd ≤ Go.maxLen) ∧ (1 = 1 ∧ 1 = 1 ∧ 0 = 0 ∧ y.fst + 1 = y'.fst ∧ y.fst + 1 + c = y'.fst + y'.snd) ∧ v = v ∧ Go.IntKind.i64.wrap (x1 - (↑y.fst : Int) - (1 : Int)) = x1 - (↑y'.fst : Int) ∧ y.fst + 1 = y'.fst ∧ c * 1 = y'.snd * 1 ∧ (∀ (i : Nat), i < y.fst + 1 → (bif Decidable.decide (i < y.fst) then bigAt z v i else Go.IntKind.u8.wrap (v.fdiv ((2 : Int) ^ Min.min (Go.IntKind.i64.wrap ((8 : Int) * (x1 - (↑y.fst : Int)))).toNat 64))) = bigAt z v i) ∧ ((invPut0 v z).less y').succ.le ((invPut0 v z).less y)) ∧ (Decidable.decide (x1 - (↑y.fst : Int) ≥ (0 : Int)) = Bool.false → 0 = 0 ∧ y.fst = m ∧ y.fst = m ∧ capOK 1 y.fst (y.fst + y.snd) (y.snd * 1) ∧ (∀ (i : Nat), i < m → bigAt z v i = k i) ∧ True)) ∧ (Decidable.decide (x2 ≥ (0 : Int)) = Bool.true → (0 : Int) ≤ x3 ∧ (1 ≤ Go.maxLen ∧ 1 ≤ 140737488355328) ∧ ∀ (c : Nat), 1 + c ≤ Go.maxLen → ∃ (y' : Nat × Nat), ((1 ≤ y'.fst ∧ y'.fst ≤ z) ∧ y'.fst + y'.snd ≤ Go.maxLen) ∧ (1 = 1 ∧ 1 = 1 ∧ 0 = 0 ∧ 1 = y'.fst ∧ 1 + c = y'.fst + y'.snd) ∧ v = v ∧ Go.IntKind.i64.wrap (x2 - (1 : Int)) = x1 - (↑y'.fst : Int) ∧ 1 = y'.fst ∧ c * 1 = y'.snd * 1 ∧ (∀ (i : Nat), i < 1 → x5 = bigAt z v i) ∧ True) ∧ (Decidable.decide (x2 ≥ (0 : Int)) = Bool.false → StuckAt "result")) := by kernel_rfl
end Go.Proofs.YtpebkgbelifdgaaDoor
end

section
namespace Go.Proofs.YtpebkgbelifdgaaDoor
open Go.Sx
theorem byte_at {v : Int} {z j : Nat} {s : Int} (hj : j < z) (hz : z ≤ 8) (hs : s = (z : Int) - 1 - (j : Int)) : IntKind.u8.wrap (v.fdiv ((2 : Int) ^ min (IntKind.i64.wrap (8 * s)).toNat 64)) = bigAt z v j := by
  have e1 : IntKind.i64.wrap (8 * s) = ((8 * (z - 1 - j) : Nat) : Int) := by rw [IntKind.wrap_i64]; omega
  have e2 : min (8 * (z - 1 - j)) 64 = 8 * (z - 1 - j) := by omega
  have e3 : (2 : Int) ^ (8 * (z - 1 - j)) = 256 ^ (z - 1 - j) := by rw [Int.pow_mul]; rfl
  rw [e1, Int.toNat_natCast, e2, e3, Int.fdiv_eq_ediv_of_nonneg _ (Int.pow_nonneg (by decide)), IntKind.wrap_u8]
  rfl
theorem max_len : maxLen = 9223372036854775807 := by decide
theorem ok_put {v : Int} {z n cap sp : Nat} {h : Nat → Int} (hz : 1 ≤ z ∧ z ≤ 8) (hn : n + 8 ≤ 140737488355328) (hc : capOK 1 n cap sp) :
    OwesT Tryd.prog cxAp [] [] [(2, .inv1 (invPut v n z h))] 20 Tryd.f16 [sI .i64 v, sI .i64 (z : Int)] tPut n cap sp (u8R h) (n + z) (u8R (catB n h (bigAt z v))) [] := by
  rw [vc_put]
  simp only [eq_self, implies_true, and_self, true_and, and_true, Nat.mul_one]
  obtain ⟨c1, c2, c3⟩ := hc
  have hm := max_len
  have w1 : IntKind.i64.wrap ((z : Int) - 1) = (z : Int) - 1 := by rw [IntKind.wrap_i64]; omega
  have hy2 : ∀ {y : Nat × Nat}, decide ((z : Int) - 1 - (y.1 : Int) ≥ 0) = true → y.1 < z := fun h => by have := of_decide_eq_true h; omega
  refine ⟨fun _ => rfl, fun y hy => ⟨fun h1 => ?_, fun h1 => ?_⟩, fun _ => ?_, fun h1 => ?_⟩
  · have hlt := hy2 h1
    refine ⟨by rw [IntKind.wrap_i64]; omega, by omega, by omega, fun c hcl => ⟨(y.1 + 1, c), by dsimp only; omega, by dsimp only; omega, by dsimp only; rw [IntKind.wrap_i64]; omega, by dsimp only; omega, rfl, fun i hi => ?_, ?_⟩⟩
    · rw [byte_at hlt hz.2 rfl]
      unfold catB
      by_cases e : i < n + y.1
      · simp [e]
      · have : i - n = y.1 := by omega
        simp [e, show ¬ i < n by omega, this]
    · show z - (y.1 + 1) < z - y.1
      omega
  · have h1 := of_decide_eq_false h1
    have e : y.1 = z := by omega
    rw [e]
    exact ⟨rfl, rfl, by omega, by omega, by omega⟩
  · refine ⟨by rw [w1, IntKind.wrap_i64]; omega, ⟨c1, c2, by omega⟩, by omega, fun c hcl => ⟨(1, c), by dsimp only; omega, by dsimp only; omega, by dsimp only; rw [w1, IntKind.wrap_i64]; omega, rfl, rfl, fun i hi => ?_⟩⟩
    rw [byte_at (j := 0) hz.1 hz.2 (by rw [w1]; omega)]
    unfold catB
    by_cases e : i < n
    · simp [e]
    · have : i - n = 0 := by omega
      simp [e, this]
  · rw [w1] at h1
    have h1 := of_decide_eq_false h1
    omega
theorem ok_put0 {v : Int} {z : Nat} (hz : 1 ≤ z ∧ z ≤ 8) :
    OwesT0 Tryd.prog cxAp [] [] [(2, .inv1 (invPut0 v z))] 20 Tryd.f16 [sI .i64 v, sI .i64 (z : Int)] tPut z (u8R (bigAt z v)) [] := by
  rw [vc_put0]
  simp only [eq_self, implies_true, and_self, true_and, and_true, Nat.mul_one]
  have hm := max_len
  have w1 : IntKind.i64.wrap ((z : Int) - 1) = (z : Int) - 1 := by rw [IntKind.wrap_i64]; omega
  have hy2 : ∀ {y : Nat × Nat}, decide ((z : Int) - 1 - (y.1 : Int) ≥ 0) = true → y.1 < z := fun h => by have := of_decide_eq_true h; omega
  refine ⟨fun _ => rfl, fun y hy => ⟨fun h1 => ?_, fun h1 => ?_⟩, fun _ => ?_, fun h1 => ?_⟩
  · have hlt := hy2 h1
    refine ⟨by rw [IntKind.wrap_i64]; omega, by omega, by omega, fun c hcl => ⟨(y.1 + 1, c), by dsimp only; omega, by dsimp only; omega, by dsimp only; rw [IntKind.wrap_i64]; omega, rfl, rfl, fun i hi => ?_, ?_⟩⟩
    · rw [byte_at hlt hz.2 rfl]
      by_cases e : i < y.1
      · simp [e]
      · have : i = y.1 := by omega
        simp [this]
    · show z - (y.1 + 1) < z - y.1
      omega
  · have h1 := of_decide_eq_false h1
    have e : y.1 = z := by omega
    rw [e]
    exact ⟨rfl, rfl, by omega, by omega, by omega⟩
  · refine ⟨by rw [w1, IntKind.wrap_i64]; omega, by omega, fun c hcl => ⟨(1, c), by dsimp only; omega, by dsimp only; omega, by dsimp only; rw [w1, IntKind.wrap_i64]; omega, rfl, rfl, fun i hi => ?_⟩⟩
    have : i = 0 := by omega
    rw [byte_at (j := 0) hz.1 hz.2 (by rw [w1]; omega), this]
  · rw [w1] at h1
    have h1 := of_decide_eq_false h1
    omega
theorem catB_zero (h k : Nat → Int) : catB 0 h k = k := by
  funext i; unfold catB; simp
theorem tl_nil {gl : Globs} : ∀ p ∈ ([] : List (Nat × TSpec)), FnOKt Tryd.prog gl p.1 p.2 := fun _ h => (by cases h)
theorem sl_nil {gl : Globs} : ∀ p ∈ ([] : List (Nat × SSpec)), FnOKs Tryd.prog gl p.1 p.2 := fun _ h => (by cases h)
theorem cxok_Ap : CxOK Tryd.prog cxAp := ⟨fun p hp => by rw [List.mem_singleton.1 hp]; exact fun _ _ _ h => (by cases h), fun _ h => (by cases h)⟩
theorem card_put {gl : Globs} : FnOKt Tryd.prog gl 16 tPut := by
  refine FnOKt.up0 (FnOKt_Q (cx := cxAp) cxok_Ap (sl := []) sl_nil (tl := []) tl_nil Tryd.func16 (by kernel_rfl) (by kernel_rfl) fun ls n g hc => ?_) gl
  unfold putC at hc
  split at hc
  · rename_i _ v z
    obtain ⟨hr, hz, _⟩ := hc
    obtain ⟨m, rfl⟩ : ∃ m : Nat, z = m := ⟨z.toNat, by omega⟩
    have hz : 1 ≤ m ∧ m ≤ 8 := by omega
    refine ⟨fun _ h => (by cases h), closed_u8R _ _, fun h0 => ?_, fun cap sp hcap => ?_⟩
    · have := ok_put0 (v := v) hz
      refine ⟨[(2, .inv1 (invPut0 v m))], 20, ?_⟩
      show OwesT0 _ _ _ _ _ _ _ _ _ (0 + ((m : Nat) : Int).toNat) (u8R (catB 0 _ _)) _
      rw [catB_zero, Int.toNat_natCast, Nat.zero_add]
      exact this
    · have := ok_put (v := v) hz hr.le hcap (h := hOf g)
      rw [← hr.u8] at this
      exact ⟨_, _, this⟩
  · exact hc.1.elim
end Go.Proofs.YtpebkgbelifdgaaDoor
end

section
namespace Go.Proofs.YtpebkgbelifdgaaDoor
open Go.Sx
set_option maxRecDepth 100000
structure rowQ (g : Nat → Nat → SC) (n m : Nat) (f : Nat → Nat → SC) : Prop where
  u8 : g = u8R (hOf g)
  le : n + m ≤ 140737488355328
  nf : f = u8F (kOf f)
def pbC : List (List FD) → Nat → (Nat → Nat → SC) → List Prop
  | [[.i _, .i _, .i _, .y _, .i _, .i _, .x _ m _ f]], n, g => [rowQ g n (100 + m) f]
  | _, _, _ => [False]
def pbM : List (List FD) → Nat → Nat
  | [[.i _, .i _, .i _, .y _, .i _, .i _, .x _ m _ _]], n => n + (55 + m)
  | _, n => n
def pbG : List (List FD) → Nat → (Nat → Nat → SC) → Nat → Nat → SC
  | [[.i t, .i b, .i c, .y em, .i u, .i l, .x _ _ _ f]], n, g => u8R (catB n (hOf g) (bodyF t b c em u l (kOf f)))
  | _, _, g => g
def tPb : TSpec := specT 5 1 shBd nfBd pbC pbM pbG fun _ => []
def tlPut : List (Nat × TSpec) := [(16, tPut)]
theorem vc_pb (t b c u l : Int) (em : Nat → Int) (a : Option Addr) (m ca : Nat) (f : Nat → Nat → Int) (n cap sp r : Nat) (h k : Nat → Int) :
    OwesT Tryd.prog cxAp [] tlPut [] 20 Tryd.f10 [sBody t b c em u l a m ca f] tPb n cap sp (u8R h) r (u8R k) [] =
    (let x1 : Nat := putM [[FD.i t], [FD.i (8 : Int)]] n; let x2 : Nat := putM (id [[FD.i t], [FD.i (8 : Int)]]) n; let x3 : Nat := putM [[FD.i b], [FD.i (4 : Int)]] x1; let x4 : Nat := putM (id [[FD.i b], [FD.i (4 : Int)]]) x2; let x5 : Nat := putM [[FD.i c], [FD.i (2 : Int)]] x3; let x6 : Nat := x5 + 32; let x7 : Nat := x6 * 1; let x8 : Nat := putM (id [[FD.i c], [FD.i (2 : Int)]]) x4; let x9 : Nat := x8 + 32; let x10 : Nat := putM [[FD.i u], [FD.i (8 : Int)]] x6; let x11 : Nat := putM (id [[FD.i u], [FD.i (8 : Int)]]) x9; let x12 : Nat := putM [[FD.i l], [FD.i (1 : Int)]] x10; let x13 : Nat := x12 + m; let x14 : Nat := putM (id [[FD.i l], [FD.i (1 : Int)]]) x11 + m; 0 = 0 ∧ n = n ∧ (n ≤ cap ∧ cap ≤ Go.maxLen ∧ cap * 1 = n * 1 + sp) ∧ t = t ∧ (8 : Int) = (8 : Int) ∧ rowP (u8R h) n 8 ∧ ((1 : Int) ≤ (8 : Int) ∧ (8 : Int) ≤ (8 : Int)) ∧ ∀ (c_1 : Nat), x1 + c_1 ≤ Go.maxLen → 0 = 0 ∧ x1 = x1 ∧ (x1 ≤ x1 + c_1 ∧ x1 + c_1 ≤ Go.maxLen ∧ (x1 + c_1) * 1 = x1 * 1 + c_1 * 1) ∧ b = b ∧ (4 : Int) = (4 : Int) ∧ rowP (putG (id [[FD.i t], [FD.i (8 : Int)]]) n (u8R h)) x2 8 ∧ ((1 : Int) ≤ (4 : Int) ∧ (4 : Int) ≤ (8 : Int)) ∧ ∀ (c_2 : Nat), x3 + c_2 ≤ Go.maxLen → 0 = 0 ∧ x3 = x3 ∧ (x3 ≤ x3 + c_2 ∧ x3 + c_2 ≤ Go.maxLen ∧ (x3 + c_2) * 1 = x3 * 1 + c_2 * 1) ∧ c = c ∧ (2 : Int) = (2 : Int) ∧ rowP (putG (id [[FD.i b], [FD.i (4 : Int)]]) x2 (putG (id [[FD.i t], [FD.i (8 : Int)]]) n (u8R h))) x4 8 ∧ ((1 : Int) ≤ (2 : Int) ∧ (2 : Int) ≤ (8 : Int)) ∧ ∀ (c_3 : Nat), x5 + c_3 ≤ Go.maxLen → 0 = 0 ∧ x5 = x5 ∧ (x5 ≤ x5 + c_3 ∧ x5 + c_3 ≤ Go.maxLen ∧ (x5 + c_3) * 1 = x5 * 1 + c_3 * 1) ∧ (x6 ≤ Go.maxLen ∧ x7 ≤ 140737488355328) ∧ ∀ (c_4 : Nat), x6 + c_4 ≤ Go.maxLen → 0 = 0 ∧ x6 = x6 ∧ (x6 ≤ x6 + c_4 ∧ x6 + c_4 ≤ Go.maxLen ∧ (x6 + c_4) * 1 = x7 + c_4 * 1) ∧ u = u ∧ (8 : Int) = (8 : Int) ∧ rowP (fun (i c_5 : Nat) => selC (Decidable.decide (i < x8)) (putG (id [[FD.i c], [FD.i (2 : Int)]]) x4 (putG (id [[FD.i b], [FD.i (4 : Int)]]) x2 (putG (id [[FD.i t], [FD.i (8 : Int)]]) n (u8R h))) i c_5) (SC.val (Go.Value.int Go.IntKind.u8 (selG [SK.f Go.IntKind.u8 32 em] (i - x8))))) x9 8 ∧ ((1 : Int) ≤ (8 : Int) ∧ (8 : Int) ≤ (8 : Int)) ∧ ∀ (c_5 : Nat), x10 + c_5 ≤ Go.maxLen → 0 = 0 ∧ x10 = x10 ∧ (x10 ≤ x10 + c_5 ∧ x10 + c_5 ≤ Go.maxLen ∧ (x10 + c_5) * 1 = x10 * 1 + c_5 * 1) ∧ l = l ∧ (1 : Int) = (1 : Int) ∧ rowP (putG (id [[FD.i u], [FD.i (8 : Int)]]) x9 fun (i c_6 : Nat) => selC (Decidable.decide (i < x8)) (putG (id [[FD.i c], [FD.i (2 : Int)]]) x4 (putG (id [[FD.i b], [FD.i (4 : Int)]]) x2 (putG (id [[FD.i t], [FD.i (8 : Int)]]) n (u8R h))) i c_6) (SC.val (Go.Value.int Go.IntKind.u8 (selG [SK.f Go.IntKind.u8 32 em] (i - x8))))) x11 8 ∧ ((1 : Int) ≤ (1 : Int) ∧ (1 : Int) ≤ (8 : Int)) ∧ ∀ (c_6 : Nat), x12 + c_6 ≤ Go.maxLen → 0 = 0 ∧ x12 = x12 ∧ (x12 ≤ x12 + c_6 ∧ x12 + c_6 ≤ Go.maxLen ∧ (x12 + c_6) * 1 = x12 * 1 + c_6 * 1) ∧ (x13 ≤ Go.maxLen ∧ x13 * 1 ≤ 140737488355328) ∧ ∀ (c_7 : Nat), x13 + c_7 ≤ Go.maxLen → 0 = 0 ∧ x13 = r ∧ x13 = r ∧ capOK 1 x14 (x14 + c_7) (c_7 * 1) ∧ (∀ (i : Nat), i < r → (bif Decidable.decide (i < x12) then catB x10 (hOf (putG [[FD.i u], [FD.i (8 : Int)]] x6 fun (i c_8 : Nat) => selC (Decidable.decide (i < x5)) (putG [[FD.i c], [FD.i (2 : Int)]] x3 (putG [[FD.i b], [FD.i (4 : Int)]] x1 (putG [[FD.i t], [FD.i (8 : Int)]] n (u8R h))) i c_8) (SC.val (Go.Value.int Go.IntKind.u8 (em (i - x5)))))) (bigAt 1 l) i else f (i - x12) 0) = k i) ∧ True) := by kernel_rfl
theorem vc_pb0 (t b c u l : Int) (em : Nat → Int) (a : Option Addr) (m ca : Nat) (f : Nat → Nat → Int) (r : Nat) (k : Nat → Int) :
    OwesT0 Tryd.prog cxAp [] tlPut [] 20 Tryd.f10 [sBody t b c em u l a m ca f] tPb r (u8R k) [] =
    (let x1 : Nat := putM [[FD.i t], [FD.i (8 : Int)]] 0; let x2 : Nat := putM (id [[FD.i t], [FD.i (8 : Int)]]) 0; let x3 : Nat := putM [[FD.i b], [FD.i (4 : Int)]] x1; let x4 : Nat := putM (id [[FD.i b], [FD.i (4 : Int)]]) x2; let x5 : Nat := putM [[FD.i c], [FD.i (2 : Int)]] x3; let x6 : Nat := x5 + 32; let x7 : Nat := x6 * 1; let x8 : Nat := putM (id [[FD.i c], [FD.i (2 : Int)]]) x4; let x9 : Nat := x8 + 32; let x10 : Nat := putM [[FD.i u], [FD.i (8 : Int)]] x6; let x11 : Nat := putM (id [[FD.i u], [FD.i (8 : Int)]]) x9; let x12 : Nat := putM [[FD.i l], [FD.i (1 : Int)]] x10; let x13 : Nat := x12 + m; let x14 : Nat := putM (id [[FD.i l], [FD.i (1 : Int)]]) x11 + m; t = t ∧ (8 : Int) = (8 : Int) ∧ rowP (fun (x x_1 : Nat) => SC.val (Go.Value.int Go.IntKind.u8 (0 : Int))) 0 8 ∧ ((1 : Int) ≤ (8 : Int) ∧ (8 : Int) ≤ (8 : Int)) ∧ ∀ (c_1 : Nat), x1 + c_1 ≤ Go.maxLen → 0 = 0 ∧ x1 = x1 ∧ (x1 ≤ x1 + c_1 ∧ x1 + c_1 ≤ Go.maxLen ∧ (x1 + c_1) * 1 = x1 * 1 + c_1 * 1) ∧ b = b ∧ (4 : Int) = (4 : Int) ∧ rowP (putG (id [[FD.i t], [FD.i (8 : Int)]]) 0 fun (x x_1 : Nat) => SC.val (Go.Value.int Go.IntKind.u8 (0 : Int))) x2 8 ∧ ((1 : Int) ≤ (4 : Int) ∧ (4 : Int) ≤ (8 : Int)) ∧ ∀ (c_2 : Nat), x3 + c_2 ≤ Go.maxLen → 0 = 0 ∧ x3 = x3 ∧ (x3 ≤ x3 + c_2 ∧ x3 + c_2 ≤ Go.maxLen ∧ (x3 + c_2) * 1 = x3 * 1 + c_2 * 1) ∧ c = c ∧ (2 : Int) = (2 : Int) ∧ rowP (putG (id [[FD.i b], [FD.i (4 : Int)]]) x2 (putG (id [[FD.i t], [FD.i (8 : Int)]]) 0 fun (x x_1 : Nat) => SC.val (Go.Value.int Go.IntKind.u8 (0 : Int)))) x4 8 ∧ ((1 : Int) ≤ (2 : Int) ∧ (2 : Int) ≤ (8 : Int)) ∧ ∀ (c_3 : Nat), x5 + c_3 ≤ Go.maxLen → 0 = 0 ∧ x5 = x5 ∧ (x5 ≤ x5 + c_3 ∧ x5 + c_3 ≤ Go.maxLen ∧ (x5 + c_3) * 1 = x5 * 1 + c_3 * 1) ∧ (x6 ≤ Go.maxLen ∧ x7 ≤ 140737488355328) ∧ ∀ (c_4 : Nat), x6 + c_4 ≤ Go.maxLen → 0 = 0 ∧ x6 = x6 ∧ (x6 ≤ x6 + c_4 ∧ x6 + c_4 ≤ Go.maxLen ∧ (x6 + c_4) * 1 = x7 + c_4 * 1) ∧ u = u ∧ (8 : Int) = (8 : Int) ∧ rowP (fun (i c_5 : Nat) => selC (Decidable.decide (i < x8)) (putG (id [[FD.i c], [FD.i (2 : Int)]]) x4 (putG (id [[FD.i b], [FD.i (4 : Int)]]) x2 (putG (id [[FD.i t], [FD.i (8 : Int)]]) 0 fun (x x_1 : Nat) => SC.val (Go.Value.int Go.IntKind.u8 (0 : Int)))) i c_5) (SC.val (Go.Value.int Go.IntKind.u8 (selG [SK.f Go.IntKind.u8 32 em] (i - x8))))) x9 8 ∧ ((1 : Int) ≤ (8 : Int) ∧ (8 : Int) ≤ (8 : Int)) ∧ ∀ (c_5 : Nat), x10 + c_5 ≤ Go.maxLen → 0 = 0 ∧ x10 = x10 ∧ (x10 ≤ x10 + c_5 ∧ x10 + c_5 ≤ Go.maxLen ∧ (x10 + c_5) * 1 = x10 * 1 + c_5 * 1) ∧ l = l ∧ (1 : Int) = (1 : Int) ∧ rowP (putG (id [[FD.i u], [FD.i (8 : Int)]]) x9 fun (i c_6 : Nat) => selC (Decidable.decide (i < x8)) (putG (id [[FD.i c], [FD.i (2 : Int)]]) x4 (putG (id [[FD.i b], [FD.i (4 : Int)]]) x2 (putG (id [[FD.i t], [FD.i (8 : Int)]]) 0 fun (x x_1 : Nat) => SC.val (Go.Value.int Go.IntKind.u8 (0 : Int)))) i c_6) (SC.val (Go.Value.int Go.IntKind.u8 (selG [SK.f Go.IntKind.u8 32 em] (i - x8))))) x11 8 ∧ ((1 : Int) ≤ (1 : Int) ∧ (1 : Int) ≤ (8 : Int)) ∧ ∀ (c_6 : Nat), x12 + c_6 ≤ Go.maxLen → 0 = 0 ∧ x12 = x12 ∧ (x12 ≤ x12 + c_6 ∧ x12 + c_6 ≤ Go.maxLen ∧ (x12 + c_6) * 1 = x12 * 1 + c_6 * 1) ∧ (x13 ≤ Go.maxLen ∧ x13 * 1 ≤ 140737488355328) ∧ ∀ (c_7 : Nat), x13 + c_7 ≤ Go.maxLen → 0 = 0 ∧ x13 = r ∧ x13 = r ∧ capOK 1 x14 (x14 + c_7) (c_7 * 1) ∧ (∀ (i : Nat), i < r → (bif Decidable.decide (i < x12) then catB x10 (hOf (putG [[FD.i u], [FD.i (8 : Int)]] x6 fun (i c_8 : Nat) => selC (Decidable.decide (i < x5)) (putG [[FD.i c], [FD.i (2 : Int)]] x3 (putG [[FD.i b], [FD.i (4 : Int)]] x1 (putG [[FD.i t], [FD.i (8 : Int)]] 0 fun (x x_1 : Nat) => SC.val (Go.Value.int Go.IntKind.u8 (0 : Int)))) i c_8) (SC.val (Go.Value.int Go.IntKind.u8 (em (i - x5)))))) (bigAt 1 l) i else f (i - x12) 0) = k i) ∧ True) := by kernel_rfl
end Go.Proofs.YtpebkgbelifdgaaDoor
end
