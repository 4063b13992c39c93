/-
  Texts: Wsp7, Wsp8, Wsp9, Tex, TexQ, Sx17, TexN, Okx, V270, P380, V271, P381, V272, P382, V273, P383, V274, P384, V276, V275, P385, P386, V278.
-/
import Derived.Test.YtanlbhkppagfdaaM1
import Derived.Test.YtanlbhkppagfdaaM2
import Derived.Test.YtanlbhkppagfdaaM3
import Derived.Test.YtanlbhkppagfdaaM4
import Derived.Test.YtanlbhkppagfdaaM5
import Derived.Test.YtanlbhkppagfdaaM6
import Derived.Test.YtanlbhkppagfdaaM7
import Derived.Test.YtanlbhkppagfdaaM8
import Derived.Test.YtanlbhkppagfdaaM9
import Derived.Test.YtanlbhkppagfdaaChecked
section
namespace Go.Sx
open Go.RowKit
inductive PQ where
  | u | b | t
  | i (k : IntKind)
  | y (n : Nat)
  | r (k : IntKind) (n : Nat)
  | x (w : Nat)
inductive FD where
  | u (n : Nat)
  | b (v : Bool)
  | i (n : Int)
  | y (g : Nat → Int)
  | x (a : Option Addr) (n cap : Nat) (f : Nat → Nat → SC)
  | t (s : ByteArray)
inductive AQ where
  | st (ps : List PQ)
  | one (p : PQ)
def fdK : PQ → FD → SK
  | .u, .u n => .u n
  | .b, .b v => .c (.val (.bool v))
  | .i k, .i n => .c (.val (.int k n))
  | .y n, .y g => .f .u8 n g
  | .r k n, .y g => .f k n g
  | .x w, .x a n cap f => .c (.xs a n cap w f)
  | .t, .t s => .c (.val (.string s))
  | _, _ => .c (.bit false)
def fdKs : List PQ → List FD → List SK
  | p :: ps, d :: ds => fdK p d :: fdKs ps ds
  | _, _ => []
def takeF : PQ → List SK → Option (List Prop × FD × List SK)
  | .u, ks => match takeU ks with
    | some (p, n, r) => some (p, .u n, r)
    | none => none
  | .b, .c s :: r => match asBit s with
    | some v => some ([], .b v, r)
    | none => none
  | .i k, .c s :: r => match asI (.sc s) with
    | some (k', n) => if k' = k then some ([], .i n, r) else none
    | none => none
  | .y n, .f k m g :: r => if k = .u8 ∧ m = n then some ([], .y g, r) else none
  | .y n, ks => match grab ks n, seek ks n with
    | some cs, some r => match kindAll .u8 cs && Nat.ble 2 n with
      | true => some ([], .y (selG cs), r)
      | false => none
    | _, _ => none
  | .r kd n, .f k m g :: r => if k = kd ∧ m = n then some ([], .y g, r) else none
  | .r kd n, ks => match grab ks n, seek ks n with
    | some cs, some r => match kindAll kd cs && Nat.ble 2 n with
      | true => some ([], .y (selG cs), r)
      | false => none
    | _, _ => none
  | .x w, .c (.xs a n cap w' f) :: r => if w' = w then some ([], .x a n cap f, r) else none
  | .x _, .c (.val (.slice none 0 0)) :: r => some ([], .x none 0 0 (fun _ _ => .bit false), r)
  | .t, .c (.val (.string s)) :: r => some ([], .t s, r)
  | _, _ => none
theorem cut_concs {kd : IntKind} {ks cs r : List SK} {n : Nat} (h1 : grab ks n = some cs) (h2 : seek ks n = some r) (hk : kindAll kd cs = true) (ρ : Rho) : concs ρ ks = concs ρ (.f kd n (selG cs) :: r) := by
  obtain ⟨l1, e1⟩ := grab_flat ks n h1
  obtain ⟨_, e2⟩ := seek_flat ks n h2
  have hl : (flat cs).length = n := by rw [e1, List.length_take]; omega
  have hi : (intsL cs).length = n := by rw [intsL_length cs ρ kd hk, hl]
  have e3 : concs ρ cs = (List.range n).map fun j => .int kd (selG cs j) := by
    rw [ints_conc ρ kd hk]
    apply List.ext_getElem
    · simp [hi]
    · intro j h1 h2
      have hj : j < (intsL cs).length := by simpa using h1
      simp only [List.getElem_map, List.getElem_range]
      rw [selG_eq hj, List.getD_eq_getElem?_getD, List.getElem?_eq_getElem hj, Option.getD_some]
  rw [concs_cons, concs_f, ← e3]
  unfold concs
  rw [e1, e2, ← List.map_append, List.take_append_drop]
theorem takeF_sound {p : PQ} {ks r : List SK} {q : List Prop} {d : FD} (h : takeF p ks = some (q, d, r)) (hq : Ok q) (ρ : Rho) : concs ρ ks = concs ρ (fdK p d :: r) := by
  unfold takeF at h
  split at h
  · split at h
    · rename_i hu
      simp only [Option.some.injEq, Prod.mk.injEq] at h
      obtain ⟨rfl, rfl, rfl⟩ := h
      exact takeU_sound hu hq ρ
    · cases h
  · split at h
    · rename_i s r' v hv
      simp only [Option.some.injEq, Prod.mk.injEq] at h
      obtain ⟨rfl, rfl, rfl⟩ := h
      rw [concs_cons, concs_cons ρ (fdK .b (.b v))]
      congr 1
      simp [concs, flat, SK.cells, fdK, asBit_sound hv ρ, show ∀ v, (SC.val v).conc ρ = v from fun _ => rfl]
    · cases h
  · rename_i k s r'
    split at h
    · rename_i k' n hi
      split at h
      · rename_i e
        subst e
        simp only [Option.some.injEq, Prod.mk.injEq] at h
        obtain ⟨rfl, rfl, rfl⟩ := h
        rw [concs_cons, concs_cons ρ (fdK (.i k') (.i n))]
        congr 1
        have e : s.conc ρ = .int k' n := asI_sound hi ρ
        simp [concs, flat, SK.cells, fdK, e, show ∀ v, (SC.val v).conc ρ = v from fun _ => rfl]
      · cases h
    · cases h
  · split at h
    · rename_i e
      obtain ⟨rfl, rfl⟩ := e
      simp only [Option.some.injEq, Prod.mk.injEq] at h
      obtain ⟨rfl, rfl, rfl⟩ := h
      rfl
    · cases h
  · split at h
    · rename_i h1 h2
      split at h
      · rename_i hk
        simp only [Option.some.injEq, Prod.mk.injEq] at h
        obtain ⟨rfl, rfl, rfl⟩ := h
        exact cut_concs h1 h2 (Bool.and_eq_true_iff.1 hk).1 ρ
      · cases h
    · cases h
  · split at h
    · rename_i e
      obtain ⟨rfl, rfl⟩ := e
      simp only [Option.some.injEq, Prod.mk.injEq] at h
      obtain ⟨rfl, rfl, rfl⟩ := h
      rfl
    · cases h
  · split at h
    · rename_i h1 h2
      split at h
      · rename_i hk
        simp only [Option.some.injEq, Prod.mk.injEq] at h
        obtain ⟨rfl, rfl, rfl⟩ := h
        exact cut_concs h1 h2 (Bool.and_eq_true_iff.1 hk).1 ρ
      · cases h
    · cases h
  · split at h
    · rename_i e
      subst e
      simp only [Option.some.injEq, Prod.mk.injEq] at h
      obtain ⟨rfl, rfl, rfl⟩ := h
      rfl
    · cases h
  · simp only [Option.some.injEq, Prod.mk.injEq] at h
    obtain ⟨rfl, rfl, rfl⟩ := h
    rfl
  · simp only [Option.some.injEq, Prod.mk.injEq] at h
    obtain ⟨rfl, rfl, rfl⟩ := h
    rfl
  · cases h
theorem takeF_bnd {p : PQ} {ks r : List SK} {q : List Prop} {d : FD} (h : takeF p ks = some (q, d, r)) {E : Env} (hb : ∀ k ∈ ks, k.bnd E) : (fdK p d).bnd E.bare ∧ ∀ k ∈ r, k.bnd E := by
  unfold takeF at h
  split at h
  · split at h
    · rename_i p' n r' hu
      simp only [Option.some.injEq, Prod.mk.injEq] at h
      obtain ⟨rfl, rfl, rfl⟩ := h
      refine ⟨trivial, ?_⟩
      unfold takeU at hu
      split at hu
      · cases hu; exact fun k hk => hb k (by simp [hk])
      · split at hu
        · simp only [Option.some.injEq, Prod.mk.injEq] at hu
          obtain ⟨_, _, rfl⟩ := hu
          exact fun k hk => hb k (by simp [hk])
        · cases hu
      · cases hu
    · cases h
  · split at h
    · simp only [Option.some.injEq, Prod.mk.injEq] at h
      obtain ⟨rfl, rfl, rfl⟩ := h
      exact ⟨trivial, fun k hk => hb k (by simp [hk])⟩
    · cases h
  · split at h
    · split at h
      · simp only [Option.some.injEq, Prod.mk.injEq] at h
        obtain ⟨rfl, rfl, rfl⟩ := h
        exact ⟨trivial, fun k hk => hb k (by simp [hk])⟩
      · cases h
    · cases h
  · split at h
    · simp only [Option.some.injEq, Prod.mk.injEq] at h
      obtain ⟨rfl, rfl, rfl⟩ := h
      exact ⟨trivial, fun k hk => hb k (by simp [hk])⟩
    · cases h
  · split at h
    · rename_i h1 h2
      split at h
      · simp only [Option.some.injEq, Prod.mk.injEq] at h
        obtain ⟨rfl, rfl, rfl⟩ := h
        exact ⟨trivial, bnd_flat.2 (mem_seek h2 (bnd_flat.1 hb))⟩
      · cases h
    · cases h
  · split at h
    · simp only [Option.some.injEq, Prod.mk.injEq] at h
      obtain ⟨rfl, rfl, rfl⟩ := h
      exact ⟨trivial, fun k hk => hb k (by simp [hk])⟩
    · cases h
  · split at h
    · rename_i h1 h2
      split at h
      · simp only [Option.some.injEq, Prod.mk.injEq] at h
        obtain ⟨rfl, rfl, rfl⟩ := h
        exact ⟨trivial, bnd_flat.2 (mem_seek h2 (bnd_flat.1 hb))⟩
      · cases h
    · cases h
  · rename_i w a n cap w' f r'
    split at h
    · rename_i e
      subst e
      simp only [Option.some.injEq, Prod.mk.injEq] at h
      obtain ⟨rfl, rfl, rfl⟩ := h
      exact ⟨hb (.c (.xs a n cap w' f)) (by simp), fun k hk => hb k (by simp [hk])⟩
    · cases h
  · simp only [Option.some.injEq, Prod.mk.injEq] at h
    obtain ⟨rfl, rfl, rfl⟩ := h
    exact ⟨⟨fun _ => ⟨rfl, rfl⟩, Nat.le_refl _, fun b hb => by cases hb⟩, fun k hk => hb k (by simp [hk])⟩
  · simp only [Option.some.injEq, Prod.mk.injEq] at h
    obtain ⟨rfl, rfl, rfl⟩ := h
    exact ⟨trivial, fun k hk => hb k (by simp [hk])⟩
  · cases h
def asFs : List PQ → List SK → Option (List Prop × List FD)
  | [], [] => some ([], [])
  | p :: ps, ks => match takeF p ks with
    | some (q, d, r) => match asFs ps r with
      | some (q', ds) => some (q ++ q', d :: ds)
      | none => none
    | none => none
  | _, _ => none
theorem asFs_one {p : PQ} {k : SK} {q : List Prop} {l : List FD} (h : asFs [p] [k] = some (q, l)) : ∃ q1 d, takeF p [k] = some (q1, d, []) ∧ l = [d] := by
  have e : asFs [p] [k] = match takeF p [k] with
    | some (q, d, r) => match asFs [] r with
      | some (q', ds) => some (q ++ q', d :: ds)
      | none => none
    | none => none := by rw [asFs]
  rw [e] at h
  split at h
  · rename_i q1 d r ht
    cases r with
    | nil =>
      simp only [asFs, Option.some.injEq, Prod.mk.injEq] at h
      exact ⟨q1, d, ht, h.2.symm⟩
    | cons _ _ => simp [asFs] at h
  · cases h
theorem asFs_sound : ∀ {ps : List PQ} {ks : List SK} {q : List Prop} {l : List FD}, asFs ps ks = some (q, l) → (Ok q → ∀ ρ, concs ρ ks = concs ρ (fdKs ps l)) ∧ ∀ E : Env, (∀ k ∈ ks, k.bnd E) → ∀ k ∈ fdKs ps l, k.bnd E.bare
  | [], [], q, l, h => by
    simp only [asFs, Option.some.injEq, Prod.mk.injEq] at h
    obtain ⟨_, rfl⟩ := h
    exact ⟨fun _ _ => rfl, fun E _ k hk => by cases hk⟩
  | [], _ :: _, q, l, h => by simp [asFs] at h
  | p :: ps, ks, q, l, h => by
    simp only [asFs] at h
    split at h
    · rename_i q1 d r ht
      split at h
      · rename_i q2 ds hr
        simp only [Option.some.injEq, Prod.mk.injEq] at h
        obtain ⟨rfl, rfl⟩ := h
        obtain ⟨i1, i2⟩ := asFs_sound hr
        refine ⟨fun hq ρ => ?_, fun E hb k hk => ?_⟩
        · obtain ⟨h1, h2⟩ := Ok.append.1 hq
          rw [takeF_sound ht h1 ρ]
          exact concs_app ρ _ (i1 h2 ρ)
        · obtain ⟨b1, b2⟩ := takeF_bnd ht hb
          rcases List.mem_cons.1 hk with rfl | hk
          · exact b1
          · exact i2 E b2 k hk
      · cases h
    · cases h
def asQ : AQ → SA → Option (List Prop × List FD)
  | .st ps, .agg ks => asFs ps ks
  | .one p, .sc s => asFs [p] [.c s]
  | _, _ => none
def mkQ : AQ → List FD → SA
  | .st ps, l => .agg (fdKs ps l)
  | .one p, [d] => match fdK p d with
    | .c s => .sc s
    | _ => .agg []
  | _, _ => .agg []
theorem asQ_sound {aq : AQ} {x : SA} {q : List Prop} {l : List FD} (h : asQ aq x = some (q, l)) : (Ok q → ∀ ρ, x.conc ρ = (mkQ aq l).conc ρ) ∧ ∀ E : Env, x.bnd E → (mkQ aq l).bnd E.bare := by
  unfold asQ at h
  split at h
  · rename_i ps ks
    obtain ⟨h1, h2⟩ := asFs_sound h
    exact ⟨fun hq ρ => by simp only [SA.conc, mkQ, h1 hq ρ], fun E hb => h2 E hb⟩
  · rename_i p s
    obtain ⟨h1, h2⟩ := asFs_sound h
    obtain ⟨q1, d, ht, rfl⟩ := asFs_one h
    have e : ∀ (s : SC) ρ, concs ρ [SK.c s] = [s.conc ρ] := fun _ _ => rfl
    have h2' : ∀ E : Env, s.bnd E → (fdK p d).bnd E.bare := fun E hb => h2 E (fun k hk => by rw [List.mem_singleton.1 hk]; exact hb) _ (by simp [fdKs])
    have h1' : Ok q → ∀ ρ, [s.conc ρ] = concs ρ [fdK p d] := fun hq ρ => by rw [← e]; exact h1 hq ρ
    unfold mkQ
    simp only
    split
    · rename_i s' hs
      rw [hs] at h1' h2'
      refine ⟨fun hq ρ => ?_, fun E hb => h2' E hb⟩
      have := h1' hq ρ
      rw [e] at this
      exact (List.cons.inj this).1
    · rename_i hne
      exfalso
      unfold takeF at ht
      split at ht
      · split at ht
        · rename_i hu
          unfold takeU at hu
          simp at hu
        · cases ht
      · split at ht
        · simp only [Option.some.injEq, Prod.mk.injEq] at ht; obtain ⟨_, rfl, _⟩ := ht; exact hne _ rfl
        · cases ht
      · split at ht
        · split at ht
          · simp only [Option.some.injEq, Prod.mk.injEq] at ht; obtain ⟨_, rfl, _⟩ := ht; exact hne _ rfl
          · cases ht
        · cases ht
      · rename_i heq; cases heq
      · split at ht
        · rename_i hg _
          split at ht
          · rename_i hk
            have h2 := Nat.le_of_ble_eq_true (Bool.and_eq_true_iff.1 hk).2
            have h3 := (grab_flat _ _ hg).1
            simp [flat, SK.cells] at h3
            omega
          · cases ht
        · cases ht
      · rename_i heq; cases heq
      · split at ht
        · rename_i hg _
          split at ht
          · rename_i hk
            have h2 := Nat.le_of_ble_eq_true (Bool.and_eq_true_iff.1 hk).2
            have h3 := (grab_flat _ _ hg).1
            simp [flat, SK.cells] at h3
            omega
          · cases ht
        · cases ht
      · split at ht
        · simp only [Option.some.injEq, Prod.mk.injEq] at ht; obtain ⟨_, rfl, _⟩ := ht; exact hne _ rfl
        · cases ht
      · simp only [Option.some.injEq, Prod.mk.injEq] at ht; obtain ⟨_, rfl, _⟩ := ht; exact hne _ rfl
      · simp only [Option.some.injEq, Prod.mk.injEq] at ht; obtain ⟨_, rfl, _⟩ := ht; exact hne _ rfl
      · cases ht
  · cases h
def asQs : List AQ → List SA → Option (List Prop × List (List FD))
  | [], [] => some ([], [])
  | a :: aqs, x :: xs => match asQ a x, asQs aqs xs with
    | some (q, l), some (q', ls) => some (q ++ q', l :: ls)
    | _, _ => none
  | _, _ => none
def mkQs : List AQ → List (List FD) → List SA
  | a :: aqs, l :: ls => mkQ a l :: mkQs aqs ls
  | _, _ => []
theorem asQs_sound : ∀ {aqs : List AQ} {xs : List SA} {q : List Prop} {ls : List (List FD)}, asQs aqs xs = some (q, ls) → (Ok q → ∀ ρ, xs.map (SA.conc ρ) = (mkQs aqs ls).map (SA.conc ρ)) ∧ ∀ E : Env, (∀ x ∈ xs, x.bnd E) → ∀ x ∈ mkQs aqs ls, x.bnd E.bare
  | [], [], q, ls, h => by
    simp only [asQs, Option.some.injEq, Prod.mk.injEq] at h
    obtain ⟨_, rfl⟩ := h
    exact ⟨fun _ _ => rfl, fun E _ k hk => by cases hk⟩
  | [], _ :: _, _, _, h => by simp [asQs] at h
  | _ :: _, [], _, _, h => by simp [asQs] at h
  | a :: aqs, x :: xs, q, ls, h => by
    simp only [asQs] at h
    split at h
    · rename_i q1 l q2 ls' h1 h2
      simp only [Option.some.injEq, Prod.mk.injEq] at h
      obtain ⟨rfl, rfl⟩ := h
      obtain ⟨a1, a2⟩ := asQ_sound h1
      obtain ⟨b1, b2⟩ := asQs_sound h2
      refine ⟨fun hq ρ => ?_, fun E hb y hy => ?_⟩
      · obtain ⟨o1, o2⟩ := Ok.append.1 hq
        simp only [List.map_cons, mkQs, a1 o1 ρ, b1 o2 ρ]
      · rcases List.mem_cons.1 hy with rfl | hy
        · exact a2 E (hb x (by simp))
        · exact b2 E (fun z hz => hb z (by simp [hz])) y hy
    · cases h
end Go.Sx
end

section
namespace Go.Sx
theorem FnOKs.up0 {P : Program} {f : Nat} {s : SSpec} (h : FnOKs P [] f s) (gl : Globs) : FnOKs P gl f s := fun args ps rs hs hp ρ w hz _ hb =>
  h args ps rs hs hp ρ w hz (fun p hp => by cases hp) hb
end Go.Sx
end

section
namespace Go.Sx
end Go.Sx
end

section
namespace Go.Sx
end Go.Sx
end

section
namespace Go.Sx
def specQ0 (share : Bool) (aq : List AQ) (c : List (List FD) → List Prop) (g : List (List FD) → List RS) : SSpec :=
  ⟨share, fun args => match asQs aq args with
    | some (ps, ls) => some (ps ++ c ls, g ls)
    | none => none⟩
theorem FnOKs_R0 {P : Program} {cx : Cx} (hcx : CxOK P cx) {sl : List (Nat × SSpec)} (hsl : ∀ p ∈ sl, FnOKs P cx.gl p.1 p.2) {f : Nat} {fn : Func} (hf : P.funcs[f]? = some fn) (hb : fn.body.isSome = true) (hn : (fn.name == "runtime.NumGoroutine") = false)
    {share : Bool} {aq : List AQ} {c : List (List FD) → List Prop} {g : List (List FD) → List RS}
    (h : ∀ ls, Ok (c ls) → ∃ iv N args', (∀ ρ, (mkQs aq ls).map (SA.conc ρ) = args'.map (SA.conc ρ)) ∧ (∀ E, (∀ x ∈ mkQs aq ls, x.bnd E) → ∀ x ∈ args', x.bnd E) ∧ (∀ r ∈ g ls, r.closed) ∧ OwesR P cx sl iv N fn args' share (g ls)) : FnOKs P cx.gl f (specQ0 share aq c g) := by
  refine FnOKs_owes hcx hsl hf hb hn fun args ps rs hs hp => ?_
  simp only [specQ0] at hs
  split at hs
  case h_2 => cases hs
  rename_i q ls ha
  simp only [Option.some.injEq, Prod.mk.injEq] at hs
  obtain ⟨rfl, rfl⟩ := hs
  obtain ⟨o1, o3⟩ := Ok.append.1 hp
  obtain ⟨a1, a2⟩ := asQs_sound ha
  obtain ⟨iv, N, args', h1, h2, hc, hw⟩ := h ls o3
  refine ⟨iv, N, args', fun ρ => by rw [a1 o1 ρ, h1], fun fz hx x hxm => ?_, hc, hw⟩
  exact h2 ⟨fun _ => False, fz⟩ (fun y hy => a2 ⟨fun _ => True, fz⟩ hx y hy) x hxm
end Go.Sx
end

section
namespace Go.Sx
open Go.RowKit
structure NSpec where
  e : TypeId
  wd : Nat
  of : List SA → Option (List Prop × Nat × (Nat → Nat → SC) × List SA)
inductive NewN (e : TypeId) (wd n : Nat) (g : Nat → Nat → SC) : SC → List SO → Prop
  | none (h : n = 0) : NewN e wd n g (.val (.slice none 0 0)) []
  | own (cap sp : Nat) (h : 0 < n) (hc : capOK wd n cap sp) : NewN e wd n g (.slw 0 wd 0 n cap) [.row e wd n g sp]
def FnOKn (P : Program) (gl : Globs) (f : Nat) (s : NSpec) : Prop :=
  ∀ args ps n' g' vs, s.of args = some (ps, n', g', vs) → Ok ps → (∀ v ∈ vs, v.bnd none0) ∧ closedG n' s.wd g' ∧ ∀ (Z : World) (ρ : Rho) (w : World), Below Z.heap.size Z w → Mem Z.heap.size ρ [] w → GlobsOK gl ρ.fz →
    (∀ x ∈ args, x.bnd ⟨fun _ => False, ρ.fz⟩) → ∀ keep : Nat → Obj → Prop, Keeps keep ρ [] w →
    (callFunc f (args.map (SA.conc ρ)).toArray).run P w = .ok (.enter f (args.map (SA.conc ρ)).toArray) w ∧
      Calls P f (args.map (SA.conc ρ)).toArray w fun r w' => ∃ (ρ' : Rho) (x : SC) (obn : List SO), NewN s.e s.wd n' g' x obn ∧ r = .returned (valL (x.conc ρ' :: vs.map (SA.conc Rho.nil))) ∧ Below Z.heap.size Z w' ∧
        Mem Z.heap.size ρ' obn w' ∧ (∀ b o u, ρ.fz b o u → ρ'.fz b o u) ∧ Keeps keep ρ' obn w'
def getN : List (Nat × NSpec) → Nat → Option NSpec
  | [], _ => none
  | (g, s) :: r, f => match Nat.beq g f with
    | true => some s
    | false => getN r f
theorem getN_ok {P : Program} {gl : Globs} : ∀ {l : List (Nat × NSpec)} {f : Nat} {s : NSpec}, (∀ p ∈ l, FnOKn P gl p.1 p.2) → getN l f = some s → FnOKn P gl f s
  | [], _, _, _, h => by simp [getN] at h
  | (g, s') :: r, f, s, hc, h => by
    simp only [getN] at h
    split at h
    · rename_i e
      have e := Nat.eq_of_beq_eq_true e
      simp only [Option.some.injEq] at h
      subst h
      subst e
      exact hc (g, s') (by simp)
    · exact getN_ok (fun p hp => hc p (by simp [hp])) h
def inlN (nl : List (Nat × NSpec)) (inner : Inl) : Inl := fun f args ob k =>
  match getN nl f with
  | none => inner f args ob k
  | some s => match args.all (SA.bndB fun _ => false) with
    | true => match s.of args with
      | some (ps, n, g, vs) => ands ps ((n = 0 → k (resV (.sc (.val (.slice none 0 0)) :: vs)) ob) ∧ (0 < n → ∀ c : Nat, n + c ≤ maxLen → k (resV (.sc (.slw ob.length s.wd 0 n (n + c)) :: vs)) (ob ++ [.row s.e s.wd n g (c * s.wd)])))
      | none => StuckAt "card"
    | false => StuckAt "taken"
theorem inlN_ok {P : Program} {gl : Globs} {nl : List (Nat × NSpec)} (hnl : ∀ p ∈ nl, FnOKn P gl p.1 p.2) {inner : Inl} (hin : InlOK P gl inner) : InlOK P gl (inlN nl inner) := by
  intro f args ob k h Z ρ tm a w hz H hargs
  unfold inlN at h
  split at h
  · exact hin f args ob k h hz H hargs
  rename_i s hs
  have hfn := getN_ok hnl hs
  split at h
  case h_2 => exact h.no
  rename_i hall1
  split at h
  case h_2 => exact h.no
  rename_i ps n' g' vs hof
  obtain ⟨hp, h⟩ := ands_iff.1 h
  obtain ⟨hvs, hcl, hfn⟩ := hfn _ _ _ _ _ hof hp
  have hr : ∀ y ∈ args, y.bnd ⟨fun _ => False, ρ.fz⟩ := fun y hy => SA.bndB_none (List.all_eq_true.1 hall1 y hy) (n := lv ρ ob) (hargs y hy)
  have hm1 : Mem Z.w.heap.size ⟨ρ.pos, ρ.fz⟩ [] w := ⟨fun i y hi => by simp at hi, fun i j hi => by obtain ⟨z, hz, _⟩ := hi; simp at hz, fun b o v hv => ⟨(H.mem.frz b o v hv).1, fun i hi => by obtain ⟨z, hz, _⟩ := hi; simp at hz⟩⟩
  have hkeep : Keeps (fun b y => Z.keep b y ∨ ∃ i, live ob i ∧ ρ i = b ∧ w.heap[b]? = some y) ⟨ρ.pos, ρ.fz⟩ [] w := fun b y hy => by
    have hno : ∀ j, live [] j → (⟨ρ.pos, ρ.fz⟩ : Rho) j ≠ b := fun j hj => by obtain ⟨z, hz, _⟩ := hj; simp at hz
    rcases hy with hy | ⟨i, hi, rfl, hy⟩
    · exact ⟨(H.keeps b y hy).1, hno⟩
    · exact ⟨hy, hno⟩
  obtain ⟨q, hc⟩ := hfn Z.w ⟨ρ.pos, ρ.fz⟩ w H.below hm1 (by rw [← hz]; exact H.gl) hr _ hkeep
  refine ⟨q, hc.mono ?_⟩
  rintro e w' ⟨ρ', x, obn, hnew, rfl, hbl, hm', hf', hkk⟩
  refine ⟨_, rfl, ?_⟩
  cases hnew with
  | none hn =>
    have hk := h.1 hn
    have hm2 : Mem Z.w.heap.size ρ ob w' := by
      refine ⟨fun i y hi hy => ?_, H.mem.injs, fun b c u hu => ⟨(hm'.frz b c u (hf' b c u hu)).1, (H.mem.frz b c u hu).2⟩⟩
      obtain ⟨a1, ⟨rs, hrs, a2⟩, a3⟩ := H.mem.objs i y hi hy
      exact ⟨a1, ⟨rs, hrs, (hkk (ρ i) _ (.inr ⟨i, ⟨y, hi, hy⟩, rfl, a2⟩)).1⟩, a3⟩
    have H2 : Holds Z ρ (scrub ob tm) ob a w' := H.onto (fun _ _ _ => rfl) (fun _ _ _ h => h) (fun b o v hv => .inl ⟨o, v, hv⟩) hbl hm2 H.kept fun b y hy => ⟨(hkk b y (.inl hy)).1, (H.keeps b y hy).2⟩
    refine ⟨ρ, _, _, hk, ?_, ?_, H2⟩
    · have hv : (SA.sc (.val (.slice none 0 0)) :: vs).map (SA.conc ρ) = (SC.val (.slice none 0 0)).conc ρ' :: vs.map (SA.conc Rho.nil) := by
        rw [List.map_cons]
        congr 1
        exact List.map_congr_left fun y hy => Agree.sa (n := none0) (ρ := Rho.nil) (ρ' := ρ) (fun _ q => q.elim) (hvs y hy)
      rw [← hv]
      exact valL_conc ρ _
    · refine resV_bnd fun y hy => ?_
      rcases List.mem_cons.1 hy with rfl | hy
      · trivial
      · exact SA.bnd_mono none0_le (hvs y hy)
  | own cap' sp' hn hcap =>
    obtain ⟨cp, rfl⟩ : ∃ c, cap' = n' + c := ⟨cap' - n', by have := hcap.le; omega⟩
    have hsp : sp' = cp * s.wd := by
      have := hcap.room
      rw [Nat.add_mul] at this
      omega
    subst hsp
    have hk := h.2 hn cp hcap.most
    have hlast : (ob ++ [SO.row s.e s.wd n' g' (cp * s.wd)])[ob.length]? = some (.row s.e s.wd n' g' (cp * s.wd)) := by simp
    have hback : ∀ i, i ≠ ob.length → (ob ++ [SO.row s.e s.wd n' g' (cp * s.wd)])[i]? = ob[i]? := fun i hi => by
      rcases Nat.lt_or_ge i ob.length with hl | hl
      · rw [List.getElem?_append_left hl]
      · rw [List.getElem?_eq_none (by simp; omega), List.getElem?_eq_none hl]
    let ρ2 : Rho := ⟨fun i => if i = ob.length then ρ' 0 else ρ i, ρ.fz⟩
    have r0 : ρ2 ob.length = ρ' 0 := if_pos rfl
    have r1 : ∀ i, i ≠ ob.length → ρ2 i = ρ i := fun i hi => if_neg hi
    have alive : ∀ i, i ≠ ob.length → live (ob ++ [SO.row s.e s.wd n' g' (cp * s.wd)]) i → live ob i := fun i hi hl => by
      obtain ⟨y, hy, hh⟩ := hl
      rw [hback i hi] at hy
      exact ⟨y, hy, hh⟩
    have hfar : ∀ i, live ob i → ρ' 0 ≠ ρ i := fun i hi => by
      obtain ⟨y, hy, hh⟩ := id hi
      obtain ⟨_, ⟨rs, _, a2⟩, _⟩ := H.mem.objs i y hy hh
      exact (hkk (ρ i) _ (.inr ⟨i, hi, rfl, a2⟩)).2 0 ⟨_, rfl, rfl⟩
    obtain ⟨b1, ⟨rest, b2, b3⟩, _⟩ := hm'.objs 0 _ rfl rfl
    have hrc : ∀ {E : Env}, rowOK E s.wd n' g' := fun i hi c hc => ⟨SC.bnd_mono none0_le (hcl i hi c hc).1, (hcl i hi c hc).2⟩
    have hm2 : Mem Z.w.heap.size ρ2 (ob ++ [SO.row s.e s.wd n' g' (cp * s.wd)]) w' := by
      refine ⟨fun i y hi hy => ?_, fun i j hi hj hij => ?_, fun b c u hu => ?_⟩
      · by_cases e : i = ob.length
        · subst e
          rw [hlast] at hi
          simp only [Option.some.injEq] at hi
          subst hi
          rw [r0]
          exact ⟨b1, ⟨rest, b2, b3⟩, hrc⟩
        · rw [hback i e] at hi
          have hl0 : live ob i := ⟨y, hi, hy⟩
          have hi2 : ob[i]? = some y := hi
          obtain ⟨a1, ⟨rs, hrs, a2⟩, a3⟩ := H.mem.objs i y hi2 hy
          rw [r1 i e]
          refine ⟨a1, ⟨rs, hrs, ?_⟩, ?_⟩
          · rw [(hkk (ρ i) _ (.inr ⟨i, hl0, rfl, a2⟩)).1]
            have : y.lies ρ2 rs = y.lies ρ rs := by
              cases y with
              | cells e ks sp =>
                exact congrArg (fun l => Obj.cells (l ++ rs).toArray e (0, 0)) (Agree.sks (n := lv ρ ob) (ρ := ρ) (ρ' := ρ2) (fun i hi => r1 i (by obtain ⟨z, hz, _⟩ := hi; have := ob_lt hz; omega)) (fun kk hkk => a3.1 kk hkk))
              | row e w n g sp => rfl
              | mp => rfl
              | rown e w n g sp p => exact lies_agree (E := lv ρ ob) (fun i hi => r1 i (by obtain ⟨z, hz, _⟩ := hi; have := ob_lt hz; omega)) a3 rs
              | gone => rfl
              | dead => rfl
            rw [this]
          · cases y with
            | cells e ks sp =>
              refine ⟨fun kk hkk => ?_, a3.2⟩
              exact SK.bnd_mono (n := lv ρ ob) (m := lv ρ2 (ob ++ [SO.row s.e s.wd n' g' (cp * s.wd)])) ⟨fun i hi => by
                obtain ⟨z, hz, hh⟩ := hi
                exact ⟨z, by rw [hback i (by have := ob_lt hz; omega)]; exact hz, hh⟩, fun _ _ _ h => h⟩ (a3.1 kk hkk)
            | row e w n g sp => exact a3
            | mp => exact a3
            | rown e w n g sp p =>
              exact SO.ok_mono (n := lv ρ ob) (m := lv ρ2 (ob ++ [SO.row s.e s.wd n' g' (cp * s.wd)])) ⟨fun i hi => by
                obtain ⟨z, hz, hh⟩ := hi
                exact ⟨z, by rw [hback i (by have := ob_lt hz; omega)]; exact hz, hh⟩, fun _ _ _ h => h⟩ a3
            | gone => cases hy
            | dead => cases hy
      · by_cases e1 : i = ob.length
        · by_cases e2 : j = ob.length
          · rw [e1, e2]
          · subst e1
            rw [r0, r1 j e2] at hij
            exact absurd hij (hfar j (alive j e2 hj))
        · by_cases e2 : j = ob.length
          · subst e2
            rw [r0, r1 i e1] at hij
            exact absurd hij.symm (hfar i (alive i e1 hi))
          · rw [r1 i e1, r1 j e2] at hij
            exact H.mem.injs i j (alive i e1 hi) (alive j e2 hj) hij
      · obtain ⟨k1, k2⟩ := hm'.frz b c u (hf' b c u hu)
        refine ⟨k1, fun i hi => ?_⟩
        by_cases e : i = ob.length
        · subst e; rw [r0]; exact k2 0 ⟨_, rfl, rfl⟩
        · rw [r1 i e]; exact (H.mem.frz b c u hu).2 i (alive i e hi)
    have hkept : Kept Z ρ2 (ob ++ [SO.row s.e s.wd n' g' (cp * s.wd)]) := by
      have hlow : ∀ {i : Nat}, i < Z.ob.length → i < ob.length := fun h => by have := H.kept.2.2; omega
      refine ⟨fun i hi => ?_, fun i hi => ?_, by have := H.kept.2.2; simp; omega⟩
      · have hil : i < ob.length := hlow (by obtain ⟨z, hz, _⟩ := hi; exact ob_lt hz)
        rcases H.kept.1 i hi with ⟨⟨z, hz, hh⟩, k2⟩ | k1
        · exact .inl ⟨⟨z, by rw [hback i (by omega)]; exact hz, hh⟩, by rw [r1 i (by omega)]; exact k2⟩
        · exact .inr (by rw [hback i (by omega)]; exact k1)
      · have hil : i < ob.length := hlow (ob_lt hi)
        rw [hback i (by omega)]
        exact H.kept.2.1 i hi
    have hkk2 : Keeps Z.keep ρ2 (ob ++ [SO.row s.e s.wd n' g' (cp * s.wd)]) w' := fun b y hy => by
      refine ⟨(hkk b y (.inl hy)).1, fun i hi => ?_⟩
      by_cases e : i = ob.length
      · subst e; rw [r0]; exact (hkk b y (.inl hy)).2 0 ⟨_, rfl, rfl⟩
      · rw [r1 i e]; exact (H.keeps b y hy).2 i (alive i e hi)
    have H2 : Holds Z ρ2 (scrub (ob ++ [SO.row s.e s.wd n' g' (cp * s.wd)]) tm) (ob ++ [SO.row s.e s.wd n' g' (cp * s.wd)]) a w' := by
      refine H.onto (fun i hi _ => r1 i ?_) (fun _ _ _ h => h) (fun b o v hv => .inl ⟨o, v, hv⟩) hbl hm2 hkept hkk2
      obtain ⟨z, hz, _⟩ := hi
      have := ob_lt hz
      omega
    refine ⟨ρ2, _, _, hk, ?_, ?_, H2⟩
    · have hv : (SA.sc (.slw ob.length s.wd 0 n' (n' + cp)) :: vs).map (SA.conc ρ2) = (SC.slw 0 s.wd 0 n' (n' + cp)).conc ρ' :: vs.map (SA.conc Rho.nil) := by
        rw [List.map_cons]
        congr 1
        · simp only [SA.conc, SC.conc, r0]
        · exact List.map_congr_left fun y hy => Agree.sa (n := none0) (ρ := Rho.nil) (ρ' := ρ2) (fun _ q => q.elim) (hvs y hy)
      rw [← hv]
      exact valL_conc ρ2 _
    · refine resV_bnd fun y hy => ?_
      rcases List.mem_cons.1 hy with rfl | hy
      · exact ⟨_, hlast, rfl⟩
      · exact SA.bnd_mono none0_le (hvs y hy)
section
variable {P : Program}
def inlNw (P : Program) (cx : Cx) (sl : List (Nat × SSpec)) (tl : List (Nat × TSpec)) (nl : List (Nat × NSpec)) (dr : Drawn) (iv : List (Nat × Hint)) (N : Nat) : Nat → Inl
  | 0 => inlN nl (inlT tl (inlW cx.wf (inlS sl noInl)))
  | d + 1 => inlN nl (inlT tl (inlW cx.wf (inlS sl fun f args ob k =>
    match P.funcs[f]? with
    | some fn =>
      match fn.body, fn.name == "runtime.NumGoroutine" with
      | some c, false => sx P { cx with kn := ob.length } (inlNw P cx sl tl nl dr iv N d) dr iv N ((f + 1) * 100000) ob.length c (slots0 args fn.ntmps) ob (ret P fn.results.toList k)
      | _, _ => StuckAt "no text"
    | none => StuckAt "no function")))
theorem inlNw_ok {cx : Cx} (hcx : CxOK P cx) {sl : List (Nat × SSpec)} (hsl : ∀ p ∈ sl, FnOKs P cx.gl p.1 p.2) {tl : List (Nat × TSpec)} (htl : ∀ p ∈ tl, FnOKt P cx.gl p.1 p.2) {nl : List (Nat × NSpec)} (hnl : ∀ p ∈ nl, FnOKn P cx.gl p.1 p.2) {dr : Drawn} (hdr : DrawnOK P cx dr) (iv : List (Nat × Hint)) (N : Nat) : ∀ d, InlOK P cx.gl (inlNw P cx sl tl nl dr iv N d)
  | 0 => inlN_ok hnl (inlT_ok htl (inlW_ok hcx.2 (inlS_ok hsl (noInl_ok P cx.gl))))
  | d + 1 => by
    refine inlN_ok hnl (inlT_ok htl (inlW_ok hcx.2 (inlS_ok hsl ?_)))
    intro f args ob k h Z ρ tm a w hz H hargs
    split at h
    case h_2 => exact h.no
    rename_i fn hf
    split at h
    case h_2 => exact h.no
    rename_i c hb hn
    refine ⟨run_callFunc_enter hf (by rw [hb]; rfl) hn _ w, ?_⟩
    refine calls_of_sx (cx := { cx with kn := ob.length }) hcx (inlNw_ok hcx hsl htl hnl hdr iv N d) hdr iv N _ hf hb args ρ hargs w H.below H.mem (by rw [← hz]; exact H.gl) (Nat.le_refl _) H.keeps k (fun sv ob' ρ' v w' hk hr hbd hB hm hkp hfz hkk => ?_) h
    refine ⟨v, rfl, ρ', sv, ob', hk, hr, hbd, H.onto (fun i hi hi' => ?_) hfz.le hfz.own hB hm ⟨fun i hi => ?_, fun i hi => hkp.2.1 i (H.kept.2.1 i hi), Nat.le_trans H.kept.2.2 hkp.2.2⟩ hkk⟩
    · rcases hkp.1 i hi with ⟨_, e⟩ | e
      · exact e
      · obtain ⟨_, h', hh⟩ := hi'; rw [e] at h'; cases h'; cases hh
    · rcases H.kept.1 i hi with ⟨k1, k2⟩ | k1
      · rcases hkp.1 i k1 with ⟨q1, q2⟩ | q
        · exact .inl ⟨q1, Eq.trans q2 k2⟩
        · exact .inr q
      · exact .inr (hkp.2.1 i k1)
def isOwn : Option Nat → Nat → Prop
  | none, _ => True
  | some _, n => 0 < n
def okNs (s : NSpec) (n : Nat) (g : Nat → Nat → SC) (vs : List SA) (ob : List SO) : List SA → Prop
  | x :: r => match headT ob s.wd s.e x with
    | some (qs, m, h, _, old) => ands qs (ands [m = n, isOwn old n] (ands [∀ i, i < n → allC s.wd fun c => simC (h i c) (g i c)] (okV r vs)))
    | none => StuckAt "head"
  | _ => StuckAt "result"
def okN (s : NSpec) (n : Nat) (g : Nat → Nat → SC) (vs : List SA) (sv : SV) (ob : List SO) : Prop :=
  match sv with
  | .one x => okNs s n g vs ob [x]
  | .tup [_] => False
  | .tup xs => okNs s n g vs ob xs
  | _ => False
def OwesNP (P : Program) (cx : Cx) (sl : List (Nat × SSpec)) (tl : List (Nat × TSpec)) (nl : List (Nat × NSpec)) (iv : List (Nat × Hint)) (N : Nat) (fn : Func) (args : List SA) (post : SV → List SO → Prop) : Prop :=
  sx P { cx with kn := 0 } (inlNw P cx sl tl nl drawOK iv N 8) drawOK iv N 0 0 (fn.body.getD .skip) (slots0 args fn.ntmps) [] (ret P fn.results.toList post)
def OwesNw (P : Program) (cx : Cx) (sl : List (Nat × SSpec)) (tl : List (Nat × TSpec)) (nl : List (Nat × NSpec)) (iv : List (Nat × Hint)) (N : Nat) (fn : Func) (args : List SA) (s : NSpec) (n : Nat) (g : Nat → Nat → SC) (vs : List SA) : Prop :=
  OwesNP P cx sl tl nl iv N fn args (okN s n g vs)
def OwesNr (P : Program) (cx : Cx) (sl : List (Nat × SSpec)) (tl : List (Nat × TSpec)) (nl : List (Nat × NSpec)) (iv : List (Nat × Hint)) (N : Nat) (fn : Func) (args : List SA) (sh : Bool) (rs : List RS) : Prop :=
  OwesNP P cx sl tl nl iv N fn args (okRS sh rs)
theorem FnOKn_owes {cx : Cx} (hcx : CxOK P cx) {sl : List (Nat × SSpec)} (hsl : ∀ p ∈ sl, FnOKs P cx.gl p.1 p.2) {tl : List (Nat × TSpec)} (htl : ∀ p ∈ tl, FnOKt P cx.gl p.1 p.2) {nl : List (Nat × NSpec)} (hnl : ∀ p ∈ nl, FnOKn P cx.gl p.1 p.2) {f : Nat} {fn : Func} (hf : P.funcs[f]? = some fn) (hb : fn.body.isSome = true) (hn : (fn.name == "runtime.NumGoroutine") = false) {s : NSpec}
    (h : ∀ args ps n g vs, s.of args = some (ps, n, g, vs) → Ok ps → ∃ args', (∀ ρ, args.map (SA.conc ρ) = args'.map (SA.conc ρ)) ∧ (∀ E : Env, (∀ x ∈ args, x.bnd E) → ∀ x ∈ args', x.bnd E) ∧ (∀ v ∈ vs, v.bnd none0) ∧ closedG n s.wd g ∧
      ∃ iv N, OwesNw P cx sl tl nl iv N fn args' s n g vs) : FnOKn P cx.gl f s := by
  intro args ps n g vs hs hp
  obtain ⟨args', h1, h2, hvs, hcl, iv, N, h4⟩ := h args ps n g vs hs hp
  refine ⟨hvs, hcl, fun Z ρ w hB hm hg ha keep hkeep => ⟨run_callFunc_enter hf hb hn _ w, ?_⟩⟩
  obtain ⟨c, hc⟩ := Option.isSome_iff_exists.1 hb
  rw [h1]
  unfold OwesNw OwesNP at h4
  rw [hc] at h4
  refine calls_of_sx (cx := { cx with kn := 0 }) hcx (inlNw_ok hcx hsl htl hnl (drawOK_ok hcx) iv N 8) (drawOK_ok hcx) iv N 0 hf hc (Z := Z) (ob := []) args' ρ (fun x hx => SA.bnd_mono (n := ⟨fun _ => False, ρ.fz⟩) (m := lv ρ []) ⟨fun _ k => k.elim, fun _ _ _ k => k⟩ (h2 _ ha x hx)) w hB hm hg (Nat.le_refl _) hkeep _ (fun sv ob' ρ' v w' hq hr hbd hB' hm' hkp hfz hkk => ?_) h4
  have H : Holds ⟨Z, [], ρ, cx.gl, keep⟩ ρ' [] ob' { tmps := #[], defers := [] } w' := by
    refine ⟨rfl, fun t => ?_, fun t => ?_, rfl, hB', hm', hkp, fun p hp => ?_, hfz, hkk⟩
    · rw [show ([] : List SV).getD t .any = .any by simp]; trivial
    · rw [show ([] : List SV).getD t .any = .any by simp]; trivial
    · obtain ⟨g1, g2⟩ := hg p hp
      exact ⟨fun k hk => SK.bnd_mono (n := ⟨fun _ => False, ρ.fz⟩) (m := ⟨fun _ => False, ρ'.fz⟩) ⟨fun _ x => x, fun b o v h => hfz.le b o v h⟩ (g1 k hk), fun o v h => hfz.le _ _ _ (g2 o v h)⟩
  have key : ∀ xs : List SA, okNs s n g vs ob' xs → v = valL (xs.map (SA.conc ρ')) → ∃ (ρ' : Rho) (x : SC) (obn : List SO), NewN s.e s.wd n g x obn ∧ Ending.returned v = .returned (valL (x.conc ρ' :: vs.map (SA.conc Rho.nil))) ∧ Below Z.heap.size Z w' ∧
        Mem Z.heap.size ρ' obn w' ∧ (∀ b o u, ρ.fz b o u → ρ'.fz b o u) ∧ Keeps keep ρ' obn w' := by
    intro xs hxs hv
    unfold okNs at hxs
    split at hxs
    case h_2 => exact hxs.no
    rename_i x r
    split at hxs
    case h_2 => exact hxs.no
    rename_i qs m h' ob0 old hh
    obtain ⟨hqs, hxs⟩ := ands_iff.1 hxs
    obtain ⟨⟨hmn, hio, _⟩, hxs2⟩ := ands_iff.1 hxs
    obtain ⟨⟨hrows, _⟩, hxs3⟩ := ands_iff.1 hxs2
    subst hmn
    obtain ⟨hown, hkl, hrow, hold⟩ := headT_sound H hh hqs
    have hval : ∀ y : Value, x.conc ρ' = y → v = valL (y :: vs.map (SA.conc Rho.nil)) := fun y hy => by
      rw [hv, List.map_cons, okV_sound (ρ := ρ') hxs3, hy]
      congr 2
      exact List.map_congr_left fun y hy => Agree.sa (n := none0) (ρ := Rho.nil) (ρ' := ρ') (fun _ q => q.elim) (hvs y hy)
    rcases hown.2 with ⟨hx, hn0⟩ | ⟨b, cap, cur, hx, hB0, hcur, hnc, hcm, hsz, htk⟩
    · refine ⟨⟨ρ'.pos, ρ'.fz⟩, _, [], .none hn0, by rw [hval _ hx]; rfl, hB', ⟨fun i y hi => by simp at hi, fun i j hi => by obtain ⟨z, hz, _⟩ := hi; simp at hz, fun b o v hv => ⟨(hm'.frz b o v hv).1, fun i hi => by obtain ⟨z, hz, _⟩ := hi; simp at hz⟩⟩, hfz.le, fun b y hy => ⟨(hkk b y hy).1, fun i hi => by obtain ⟨z, hz, _⟩ := hi; simp at hz⟩⟩
    · have hlive : ∃ o, live ob' o ∧ b = ρ' o := by
        rcases hkl with ⟨e2, _⟩ | ⟨o2, y, ho, hy, _, e2⟩
        · rw [hx] at e2; cases e2
        · rw [hx] at e2
          exact ⟨o2, ⟨y, ho, hy⟩, by simpa [Value.ownBlock] using e2⟩
      have hpos : 0 < m := by
        rcases hold with ⟨_, _, e, _⟩ | ⟨o, rfl, _⟩
        · rw [hx] at e; cases e
        · exact hio
      obtain ⟨o2, hl2, rfl⟩ := hlive
      have hcurl : cur.toList = rowc s.wd m h' ++ cur.toList.drop (m * s.wd) := by rw [← htk]; exact (List.take_append_drop _ _).symm
      refine ⟨⟨fun _ => ρ' o2, ρ'.fz⟩, _, _, .own cap (cap * s.wd - m * s.wd) hpos ⟨hnc, hcm, ?_⟩, by rw [hval _ hx]; simp [SC.conc], hB', ⟨fun i y hi hy => ?_, fun i j hi hj _ => ?_, fun b c u hu => ⟨(hm'.frz b c u hu).1, fun i _ => (hm'.frz b c u hu).2 o2 hl2⟩⟩, hfz.le, fun b y hy => ⟨(hkk b y hy).1, fun i _ => (hkk b y hy).2 o2 hl2⟩⟩
      · have := Nat.mul_le_mul_right s.wd hnc; omega
      · cases i with
        | succ i => simp at hi
        | zero =>
          simp only [List.getElem?_cons_zero, Option.some.injEq] at hi
          subst hi
          refine ⟨hB0, ⟨cur.toList.drop (m * s.wd), ?_, ?_⟩, fun i hi c hc => ⟨SC.bnd_mono none0_le (hcl i hi c hc).1, (hcl i hi c hc).2⟩⟩
          · rw [List.length_drop, Array.length_toList, hsz]; rfl
          · show w'.heap[ρ' o2]? = some (.cells (rowc s.wd m g ++ cur.toList.drop (m * s.wd)).toArray s.e (0, 0))
            rw [← rowc_congr hrows, ← hcurl, hcur]
      · obtain ⟨y, hy, _⟩ := hi
        obtain ⟨z, hz', _⟩ := hj
        cases i with
        | succ i => simp at hy
        | zero => cases j with
          | succ j => simp at hz'
          | zero => rfl
  unfold okN at hq
  split at hq
  · exact key _ hq (by rw [hr]; rfl)
  · exact hq.elim
  · rename_i xs hne
    refine key _ hq ?_
    rw [hr]
    match xs, hne with
    | [], _ => rfl
    | [x], hne => exact absurd rfl (hne x)
    | x :: y :: r, _ => rfl
  · exact hq.elim
end
attribute [irreducible] OwesNw OwesNr
end Go.Sx
end

section
namespace Go.Sx
theorem FnOKs.plain {P : Program} {gl : Globs} {f : Nat} {fn : Func} (hf : P.funcs[f]? = some fn) (hb : fn.body.isSome = true) (hn : (fn.name == "runtime.NumGoroutine") = false) {s : SSpec} {t : FSpec} (h : FnOKs P gl f s)
    (ht : ∀ args ps sv, t args = some (ps, sv) → ∃ x : SA, sv = .one x ∧ x.bnd none0 ∧ s.of args = some (ps, [.v x])) : FnOKg P gl f t :=
  FnOK_of hf hb hn fun args ps sv hs hp => by
    obtain ⟨x, rfl, hb0, e⟩ := ht args ps sv hs
    refine ⟨hb0, fun ρ w hz hg ha => ((h args ps _ e hp ρ w hz hg ha).2).mono ?_⟩
    rintro e' w' ⟨vs, rfl, hvs, hbl⟩
    match vs, hvs with
    | [v], hvs =>
      obtain ⟨⟨ev, _⟩, _⟩ := hvs
      refine ⟨v, rfl, ?_, hbl⟩
      show v = x.conc ρ
      rw [ev]
      exact Agree.sa (n := none0) (ρ := ρ) (ρ' := Rho.nil) (fun _ q => q.elim) hb0
    | [], hvs => exact hvs.elim
    | _ :: _ :: _, hvs => exact hvs.2.elim
end Go.Sx
end

section
namespace Go.Sx
open Go.RowKit
theorem okx_none {P : Program} : CxOK P Cx.none := ⟨fun _ h => (by cases h), fun _ h => (by cases h)⟩
theorem okx_nil {P : Program} {gl : Globs} : CxOK P ⟨[], gl, 0, []⟩ := ⟨fun _ h => (by cases h), fun _ h => (by cases h)⟩
theorem okx_cons {P : Program} {gl : Globs} {f : Nat} {s : FSpec} {l : List (Nat × FSpec)} {wf : List (Nat × WSpec)} (h : FnOKg P gl f s) (hs : CxOK P ⟨l, gl, 0, wf⟩) : CxOK P ⟨(f, s) :: l, gl, 0, wf⟩ :=
  ⟨fun p hp => by
    rcases List.mem_cons.1 hp with rfl | hp
    · exact h
    · exact hs.1 p hp, hs.2⟩
theorem okx_mark {P : Program} {gl : Globs} {f : Nat} {l : List (Nat × FSpec)} {wf : List (Nat × WSpec)} (hs : CxOK P ⟨l, gl, 0, wf⟩) : CxOK P ⟨(f, fun _ => none) :: l, gl, 0, wf⟩ :=
  okx_cons (fun _ _ _ h => (by cases h)) hs
theorem oks_nil {P : Program} {gl : Globs} : ∀ p ∈ ([] : List (Nat × SSpec)), FnOKs P gl p.1 p.2 := fun _ h => (by cases h)
theorem oks_cons {P : Program} {gl : Globs} {f : Nat} {s : SSpec} {l : List (Nat × SSpec)} (h : FnOKs P gl f s) (hl : ∀ p ∈ l, FnOKs P gl p.1 p.2) : ∀ p ∈ (f, s) :: l, FnOKs P gl p.1 p.2 := fun p hp => by
  rcases List.mem_cons.1 hp with rfl | hp
  · exact h
  · exact hl p hp
end Go.Sx
end

section
namespace Go.Proofs.Ytanlbhkppagfdaa
open Go.Sx
set_option maxRecDepth 100000
abbrev qW (W : Nat → Nat → Int) : Nat → Nat → SC := fun i c => .val (.int .i64 (W i c))
def jAt (f : Nat → Nat → SC) (i c : Nat) : Int := match f i c with
  | .val (.int _ n) => n
  | _ => 0
abbrev xQ (a : Option Addr) (n cap : Nat) (f : Nat → Nat → SC) : SA := .sc (.xs a n cap 4 f)
abbrev ksG (L B : Nat → Int) (now : Int) (a : Option Addr) (n cap : Nat) (f : Nat → Nat → SC) (a' : Option Addr) (n' cap' : Nat) (f' : Nat → Nat → SC) : List SK := [.f .i64 3 L, .f .i64 3 B, .c (.val (.int .i64 now)), .c (.xs a n cap 4 f), .c (.xs a' n' cap' 4 f')]
abbrev ksQ (x : Nat → Int) : List SK := [.c (.val (.int .i64 (x 0))), .c (.val (.int .i64 (x 1))), .c (.val (.int .i64 (x 2))), .c (.val (.int .i64 (x 3)))]
def pqG : AQ := .st [.r .i64 3, .r .i64 3, .i .i64, .x 4, .x 4]
def pqQ : AQ := .st [.i .i64, .i .i64, .i .i64, .i .i64]
def kQ (a b c d : Int) (j : Nat) : Int := match j with
  | 0 => a
  | 1 => b
  | 2 => c
  | _ => d
def woB (n : Int) : Bool := decide (0 ≤ n) && decide (n ≤ 1073741824)
def chB (n : Int) : Bool := decide (0 ≤ n) && decide (n < 3)
def upB (n m : Int) : Bool := decide (0 ≤ n) && decide (n ≤ m)
def liB (L : Nat → Int) : Bool := woB (L 0) && woB (L 1) && woB (L 2)
def haB (n : Nat) (W : Nat → Nat → Int) (x : Int) : Bool := (List.range n).any fun j => W j 0 == x
def wiB (now t : Int) : Bool := decide (now - t < 24)
def paS (W : Nat → Nat → Int) (now c : Int) : Nat → Int
  | 0 => 0
  | d + 1 => paS W now c d + if wiB now (W d 3) = true ∧ W d 2 = c then W d 1 else 0
def paB (L B : Nat → Int) (now : Int) (n : Nat) (W : Nat → Nat → Int) (v c : Int) : Bool := decide (v < B c.toNat) && decide (v + paS W now c n ≤ L c.toNat) && decide (n < 40)
theorem vc_gwo (n : Int) (b : Bool) :
    Owes Try.prog Cx.none [] 10 Try.f14 [sI .i64 n] (.one (sB b)) =
    (let x1 : Bool := Decidable.decide (n ≥ (0 : Int)); let x2 : Prop := x1 = Bool.true; (x2 → x2) ∧ (x2 → x2) ∧ (x1 && Decidable.decide (n ≤ (1073741824 : Int))) = b) := by kernel_rfl
theorem vc_gch (n : Int) (b : Bool) :
    Owes Try.prog Cx.none [] 10 Try.f15 [sI .i64 n] (.one (sB b)) =
    (let x1 : Bool := Decidable.decide (n ≥ (0 : Int)); let x2 : Prop := x1 = Bool.true; (x2 → x2) ∧ (x2 → x2) ∧ (x1 && Decidable.decide (n < (3 : Int))) = b) := by kernel_rfl
end Go.Proofs.Ytanlbhkppagfdaa
end

section
namespace Go.Proofs.Ytanlbhkppagfdaa
open Go.Sx
set_option maxRecDepth 100000
theorem ok_gwo (n : Int) : Owes Try.prog Cx.none [] 10 Try.f14 [sI .i64 n] (.one (sB (woB n))) := by
  rw [vc_gwo]
  exact ⟨id, id, rfl⟩
theorem ok_gch (n : Int) : Owes Try.prog Cx.none [] 10 Try.f15 [sI .i64 n] (.one (sB (chB n))) := by
  rw [vc_gch]
  exact ⟨id, id, rfl⟩
def cWo : FSpec := specI (fun _ => []) fun n => .one (sB (woB n))
def cCh : FSpec := specI (fun _ => []) fun n => .one (sB (chB n))
theorem card_gwo : FnOK Try.prog 14 cWo := FnOK_I (cx := Cx.none) (iv := fun _ => []) (N := 10) okx_none Try.func14 (by kernel_rfl) (by kernel_rfl) (fun _ => trivial) fun n _ => ok_gwo n
theorem card_gch : FnOK Try.prog 15 cCh := FnOK_I (cx := Cx.none) (iv := fun _ => []) (N := 10) okx_none Try.func15 (by kernel_rfl) (by kernel_rfl) (fun _ => trivial) fun n _ => ok_gch n
end Go.Proofs.Ytanlbhkppagfdaa
end

section
namespace Go.Proofs.Ytanlbhkppagfdaa
open Go.Sx
set_option maxRecDepth 100000
def cxG : Cx := ⟨[(14, cWo), (15, cCh), (1000000010, fun _ => none), (1000000012, fun _ => none), (1000000013, fun _ => none), (1000000014, fun _ => none)], [], 0, []⟩
def invHa (a : Option Addr) (n cap : Nat) (W : Nat → Nat → Int) (x : Int) : Inv where
  X := Nat
  tm d := slotsAt 18 [(1, .one (sI .i64 x)), (7, .one (xQ a n cap (qW W))), (8, .one (sI .i64 (n : Int))), (9, .one (sI .i64 (d : Int)))]
  ob _ := []
  holds d := d ≤ n ∧ haB d W x = false
  less d := n - d
theorem vc_lim (L : Nat → Int) (b : Bool) :
    OwesR Try.prog cxG [] [] 10 Try.f19 [.agg [.f .i64 3 L]] false [.v (sB b)] =
    (((!woB (L 0)) = Bool.true → Bool.false = b) ∧ ((!woB (L 0)) = Bool.false → ((!woB (L 1)) = Bool.true → Bool.false = b) ∧ ((!woB (L 1)) = Bool.false → ((!woB (L 2)) = Bool.true → Bool.false = b) ∧ ((!woB (L 2)) = Bool.false → Bool.true = b)))) := by kernel_rfl
theorem vc_has (a : Option Addr) (n cap : Nat) (W : Nat → Nat → Int) (x : Int) (b : Bool) :
    OwesR Try.prog cxG [] [(2, .inv (invHa a n cap W x))] 10 Try.f16 [xQ a n cap (qW W), sI .i64 x] false [.v (sB b)] =
    ((∀ (y : Nat), closedB (slotsAt 18 [(1, SV.one (sI Go.IntKind.i64 x)), (7, SV.one (xQ a n cap (qW W))), (8, SV.one (sI Go.IntKind.i64 (↑n : Int))), (9, SV.one (sI Go.IntKind.i64 (↑y : Int)))]) [] = Bool.true) ∧ ∃ (y : Nat), (y ≤ n ∧ haB y W x = Bool.false) ∧ x = x ∧ simC (SC.xs a n cap 4 (qW W)) (SC.xs a n cap 4 (qW W)) ∧ (↑n : Int) = (↑n : Int) ∧ (0 : Int) = (↑y : Int) ∧ ∀ (y : Nat), y ≤ n ∧ haB y W x = Bool.false → (Decidable.decide ((↑y : Int) < (↑n : Int)) = Bool.true → ((0 : Int) ≤ (↑y : Int) ∧ (↑y : Int) < (↑n : Int)) ∧ ((W (↑y : Int).toNat 0 == x) = Bool.true → Bool.true = b) ∧ ((W (↑y : Int).toNat 0 == x) = Bool.false → ∃ (y' : Nat), (y' ≤ n ∧ haB y' W x = Bool.false) ∧ x = x ∧ simC (SC.xs a n cap 4 (qW W)) (SC.xs a n cap 4 (qW W)) ∧ (↑n : Int) = (↑n : Int) ∧ Go.IntKind.i64.wrap ((↑y : Int) + (1 : Int)) = (↑y' : Int) ∧ (n - y').succ.le (n - y))) ∧ (Decidable.decide ((↑y : Int) < (↑n : Int)) = Bool.false → Bool.false = b)) := by kernel_rfl
end Go.Proofs.Ytanlbhkppagfdaa
end

section
namespace Go.Proofs.Ytanlbhkppagfdaa
open Go.Sx
set_option maxRecDepth 100000
theorem okx_G : CxOK Try.prog cxG := okx_cons card_gwo (okx_cons card_gch (okx_mark (okx_mark (okx_mark (okx_mark okx_nil)))))
theorem ok_lim (L : Nat → Int) : OwesR Try.prog cxG [] [] 10 Try.f19 [.agg [.f .i64 3 L]] false [.v (sB (liB L))] := by
  rw [vc_lim]
  unfold liB
  cases woB (L 0) <;> cases woB (L 1) <;> cases woB (L 2) <;> simp
theorem q_sim {a : Option Addr} {n cap : Nat} {W : Nat → Nat → Int} : simC (SC.xs a n cap 4 (qW W)) (SC.xs a n cap 4 (qW W)) := ⟨rfl, rfl, rfl, fun _ _ => ⟨rfl, rfl, rfl, rfl⟩⟩
theorem ha_succ (d : Nat) (W : Nat → Nat → Int) (x : Int) : haB (d + 1) W x = (haB d W x || W d 0 == x) := by
  unfold haB
  rw [List.range_succ, List.any_append]
  simp
theorem ha_true {d n : Nat} {W : Nat → Nat → Int} {x : Int} (h : d < n) (e : (W d 0 == x) = true) : haB n W x = true := List.any_eq_true.2 ⟨d, List.mem_range.2 h, e⟩
theorem ok_has (a : Option Addr) (n cap : Nat) (W : Nat → Nat → Int) (x : Int) (hn : n ≤ maxLen) :
    OwesR Try.prog cxG [] [(2, .inv (invHa a n cap W x))] 10 Try.f16 [xQ a n cap (qW W), sI .i64 x] false [.v (sB (haB n W x))] := by
  rw [vc_has]
  have hML : maxLen = 9223372036854775807 := rfl
  refine ⟨fun _ => rfl, 0, ⟨Nat.zero_le _, rfl⟩, rfl, q_sim, rfl, rfl, fun y hy => ⟨fun h => ?_, fun h => ?_⟩⟩
  · have h : y < n := by have := of_decide_eq_true h; omega
    refine ⟨⟨by omega, by omega⟩, fun e => (ha_true h e).symm, fun e => ⟨y + 1, ⟨h, ?_⟩, rfl, q_sim, rfl, ?_, ?_⟩⟩
    · rw [ha_succ, hy.2]; exact e
    · rw [IntKind.wrap_i64]; omega
    · show n - (y + 1) + 1 ≤ n - y
      omega
  · have h := of_decide_eq_false h
    have : y = n := by omega
    subst this
    exact hy.2.symm
structure qP (n : Nat) (f : Nat → Nat → SC) : Prop where
  tn : n ≤ maxLen
  tf : ∀ i, i < n → ∀ c, c < 4 → f i c = qW (jAt f) i c
theorem xq_told {a : Option Addr} {n cap w : Nat} {f g : Nat → Nat → SC} (h : ∀ i, i < n → ∀ c, c < w → f i c = g i c) {E : Env} (hb : (SC.xs a n cap w f).bnd E) : (SC.xs a n cap w g).bnd E := by
  obtain ⟨b1, b2, b3⟩ := hb
  exact ⟨b1, b2, fun b hb => ⟨(b3 b hb).1, fun i hi c hc => by rw [← h i hi c hc]; exact (b3 b hb).2 i hi c hc⟩⟩
theorem q_told {a : Option Addr} {n cap : Nat} {f : Nat → Nat → SC} (h : qP n f) {E : Env} (hb : (xQ a n cap f).bnd E) : (xQ a n cap (qW (jAt f))).bnd E := xq_told h.tf hb
def liC : List (List FD) → List Prop
  | [[.y _]] => []
  | _ => [False]
def liG : List (List FD) → List RS
  | [[.y L]] => [.v (sB (liB L))]
  | _ => []
def cLi : SSpec := specQ0 false [.st [.r .i64 3]] liC liG
def haC : List (List FD) → List Prop
  | [[.x _ n _ f], [.i _]] => [qP n f]
  | _ => [False]
def haG : List (List FD) → List RS
  | [[.x _ n _ f], [.i x]] => [.v (sB (haB n (jAt f) x))]
  | _ => []
def cHa : SSpec := specQ0 false [.one (.x 4), .one (.i .i64)] haC haG
theorem card_lim {gl : Globs} : FnOKs Try.prog gl 19 cLi := by
  refine FnOKs.up0 (FnOKs_R0 (cx := cxG) okx_G (sl := []) oks_nil Try.func19 (by kernel_rfl) (by kernel_rfl) fun ls hc => ?_) gl
  unfold liC at hc
  split at hc
  · rename_i L
    exact ⟨_, _, _, fun ρ => rfl, fun E hE => hE, fun r hr => by rw [List.mem_singleton.1 hr]; exact trivial, ok_lim L⟩
  · exact hc.1.elim
theorem card_has {gl : Globs} : FnOKs Try.prog gl 16 cHa := by
  refine FnOKs.up0 (FnOKs_R0 (cx := cxG) okx_G (sl := []) oks_nil Try.func16 (by kernel_rfl) (by kernel_rfl) fun ls hc => ?_) gl
  unfold haC at hc
  split at hc
  · rename_i a n cap f x
    obtain ⟨p, _⟩ := hc
    refine ⟨_, _, [xQ a n cap (qW (jAt f)), sI .i64 x], fun ρ => rfl, fun E hE y hy => ?_, fun r hr => by rw [List.mem_singleton.1 hr]; exact trivial, ok_has a n cap (jAt f) x p.tn⟩
    rcases List.mem_cons.1 hy with rfl | hy
    · exact q_told p (hE (xQ a n cap f) (List.mem_cons_self ..))
    · exact hE y (List.mem_cons_of_mem _ hy)
  · exact hc.1.elim
def cLiF : FSpec := fun args => match (cLi.of args) with
  | some (ps, [.v x]) => some (ps, .one x)
  | _ => none
def cHaF : FSpec := fun args => match (cHa.of args) with
  | some (ps, [.v x]) => some (ps, .one x)
  | _ => none
theorem card_liF : FnOK Try.prog 19 cLiF :=
  FnOKs.plain Try.func19 (by kernel_rfl) (by kernel_rfl) (card_lim (gl := [])) fun args ps sv h => by
    unfold cLiF at h
    split at h
    · rename_i ps' x e
      simp only [Option.some.injEq, Prod.mk.injEq] at h
      obtain ⟨rfl, rfl⟩ := h
      refine ⟨x, rfl, ?_, e⟩
      simp only [cLi, specQ0] at e
      split at e
      case h_2 => cases e
      simp only [Option.some.injEq, Prod.mk.injEq] at e
      obtain ⟨_, e⟩ := e
      unfold liG at e
      split at e
      · simp only [List.cons.injEq, RS.v.injEq] at e
        obtain ⟨rfl, _⟩ := e
        exact trivial
      · cases e
    · cases h
theorem card_haF : FnOK Try.prog 16 cHaF :=
  FnOKs.plain Try.func16 (by kernel_rfl) (by kernel_rfl) (card_has (gl := [])) fun args ps sv h => by
    unfold cHaF at h
    split at h
    · rename_i ps' x e
      simp only [Option.some.injEq, Prod.mk.injEq] at h
      obtain ⟨rfl, rfl⟩ := h
      refine ⟨x, rfl, ?_, e⟩
      simp only [cHa, specQ0] at e
      split at e
      case h_2 => cases e
      simp only [Option.some.injEq, Prod.mk.injEq] at e
      obtain ⟨_, e⟩ := e
      unfold haG at e
      split at e
      · simp only [List.cons.injEq, RS.v.injEq] at e
        obtain ⟨rfl, _⟩ := e
        exact trivial
      · cases e
    · cases h
end Go.Proofs.Ytanlbhkppagfdaa
end

section
namespace Go.Proofs.Ytanlbhkppagfdaa
open Go.Sx
set_option maxRecDepth 100000
abbrev obG (L B : Nat → Int) (now : Int) (a : Option Addr) (n cap : Nat) (W : Nat → Nat → Int) (a' : Option Addr) (n' cap' : Nat) (W' : Nat → Nat → Int) : SO := .cells 28 (ksG L B now a n cap (qW W) a' n' cap' (qW W')) 0
abbrev sG (L B : Nat → Int) (now : Int) (a : Option Addr) (n cap : Nat) (W : Nat → Nat → Int) (a' : Option Addr) (n' cap' : Nat) (W' : Nat → Nat → Int) : SA := .agg (ksG L B now a n cap (qW W) a' n' cap' (qW W'))
def invLe (L B : Nat → Int) (now : Int) (a : Option Addr) (n cap : Nat) (W : Nat → Nat → Int) (a' : Option Addr) (n' cap' : Nat) (W' : Nat → Nat → Int) : Inv where
  X := Nat
  tm d := slotsAt 28 [(1, .one (.sc (.ptr 0 0))), (2, .one (.sc (.ptr 1 0))), (3, .one (.sc (.ptr 2 0))), (9, .one (xQ a n cap (qW W))), (10, .one (sI .i64 (n : Int))), (11, .one (sI .i64 (d : Int)))]
  ob d := [obG L B now a n cap W a' n' cap' W', .cells 25 [.f .i64 3 fun _ => 0] 0, .cells 25 [.f .i64 3 fun c => L c - paS W now (c : Int) d] 0]
  holds d := d ≤ n
  less d := n - d
theorem vc_le (L B : Nat → Int) (now : Int) (a : Option Addr) (n cap : Nat) (W : Nat → Nat → Int) (a' : Option Addr) (n' cap' : Nat) (W' : Nat → Nat → Int) :
    OwesR Try.prog cxG [] [(3, .inv (invLe L B now a n cap W a' n' cap' W'))] 10 Try.f23 [sG L B now a n cap W a' n' cap' W'] false [.v (.agg [.f .i64 3 fun c => L c - paS W now (c : Int) n])] =
    (let x1 : Prop := (0 : Int) = (0 : Int); (∀ (y : Nat), closedB (slotsAt 28 [(1, SV.one (SA.sc (SC.ptr 0 0))), (2, SV.one (SA.sc (SC.ptr 1 0))), (3, SV.one (SA.sc (SC.ptr 2 0))), (9, SV.one (xQ a n cap (qW W))), (10, SV.one (sI Go.IntKind.i64 (↑n : Int))), (11, SV.one (sI Go.IntKind.i64 (↑y : Int)))]) [obG L B now a n cap W a' n' cap' W', SO.cells (25 : Go.TypeId) [SK.f Go.IntKind.i64 3 fun (x : Nat) => (0 : Int)] 0, SO.cells (25 : Go.TypeId) [SK.f Go.IntKind.i64 3 fun (c : Nat) => L c - paS W now (↑c : Int) y] 0] = Bool.true) ∧ ∃ (y : Nat), y ≤ n ∧ simC (SC.xs a n cap 4 (qW W)) (SC.xs a n cap 4 (qW W)) ∧ (↑n : Int) = (↑n : Int) ∧ (0 : Int) = (↑y : Int) ∧ (∀ (j : Nat), j < 3 → L j = L j) ∧ (∀ (j : Nat), j < 3 → B j = B j) ∧ now = now ∧ simC (SC.xs a n cap 4 (qW W)) (SC.xs a n cap 4 (qW W)) ∧ simC (SC.xs a' n' cap' 4 (qW W')) (SC.xs a' n' cap' 4 (qW W')) ∧ 0 = 0 ∧ (x1 ∧ x1 ∧ x1 ∧ True) ∧ 0 = 0 ∧ ((∀ (j : Nat), j < 3 → L j = L j - paS W now (↑j : Int) y) ∧ True) ∧ 0 = 0 ∧ ∀ (y : Nat), y ≤ n → (Decidable.decide ((↑y : Int) < (↑n : Int)) = Bool.true → ((0 : Int) ≤ (↑y : Int) ∧ (↑y : Int) < (↑n : Int)) ∧ (Decidable.decide (Go.IntKind.i64.wrap (now - W (↑y : Int).toNat 3) < (24 : Int)) = Bool.true → ((0 : Int) ≤ W (↑y : Int).toNat 2 ∧ W (↑y : Int).toNat 2 < (3 : Int)) ∧ ((0 : Int) ≤ W (↑y : Int).toNat 2 ∧ W (↑y : Int).toNat 2 < (3 : Int)) ∧ ((0 : Int) ≤ W (↑y : Int).toNat 2 ∧ W (↑y : Int).toNat 2 < (3 : Int)) ∧ ((0 : Int) ≤ W (↑y : Int).toNat 2 ∧ W (↑y : Int).toNat 2 < (3 : Int)) ∧ ∃ (y' : Nat), y' ≤ n ∧ simC (SC.xs a n cap 4 (qW W)) (SC.xs a n cap 4 (qW W)) ∧ (↑n : Int) = (↑n : Int) ∧ Go.IntKind.i64.wrap ((↑y : Int) + (1 : Int)) = (↑y' : Int) ∧ (∀ (j : Nat), j < 3 → L j = L j) ∧ (∀ (j : Nat), j < 3 → B j = B j) ∧ now = now ∧ simC (SC.xs a n cap 4 (qW W)) (SC.xs a n cap 4 (qW W)) ∧ simC (SC.xs a' n' cap' 4 (qW W')) (SC.xs a' n' cap' 4 (qW W')) ∧ 0 = 0 ∧ ((∀ (j : Nat), j < 3 → x1) ∧ True) ∧ 0 = 0 ∧ ((∀ (j : Nat), j < 3 → (if j = (W (↑y : Int).toNat 2).toNat then Go.IntKind.i64.wrap (L (W (↑y : Int).toNat 2).toNat - paS W now (↑(W (↑y : Int).toNat 2).toNat : Int) y - W (↑y : Int).toNat 1) else L j - paS W now (↑j : Int) y) = L j - paS W now (↑j : Int) y') ∧ True) ∧ 0 = 0 ∧ (n - y').succ.le (n - y)) ∧ (Decidable.decide (Go.IntKind.i64.wrap (now - W (↑y : Int).toNat 3) < (24 : Int)) = Bool.false → ∃ (y' : Nat), y' ≤ n ∧ simC (SC.xs a n cap 4 (qW W)) (SC.xs a n cap 4 (qW W)) ∧ (↑n : Int) = (↑n : Int) ∧ Go.IntKind.i64.wrap ((↑y : Int) + (1 : Int)) = (↑y' : Int) ∧ (∀ (j : Nat), j < 3 → L j = L j) ∧ (∀ (j : Nat), j < 3 → B j = B j) ∧ now = now ∧ simC (SC.xs a n cap 4 (qW W)) (SC.xs a n cap 4 (qW W)) ∧ simC (SC.xs a' n' cap' 4 (qW W')) (SC.xs a' n' cap' 4 (qW W')) ∧ 0 = 0 ∧ ((∀ (j : Nat), j < 3 → x1) ∧ True) ∧ 0 = 0 ∧ ((∀ (j : Nat), j < 3 → L j - paS W now (↑j : Int) y = L j - paS W now (↑j : Int) y') ∧ True) ∧ 0 = 0 ∧ (n - y').succ.le (n - y))) ∧ (Decidable.decide ((↑y : Int) < (↑n : Int)) = Bool.false → (∀ (j : Nat), j < 3 → L j - paS W now (↑j : Int) y = L j - paS W now (↑j : Int) n) ∧ True)) := by kernel_rfl
end Go.Proofs.Ytanlbhkppagfdaa
end

section
namespace Go.Proofs.Ytanlbhkppagfdaa
open Go.Sx
set_option maxRecDepth 100000
theorem q_simT {a : Option Addr} {n cap : Nat} {W : Nat → Nat → Int} : simC (SC.xs a n cap 4 (qW W)) (SC.xs a n cap 4 (qW W)) = True := eq_true q_sim
structure rP (now : Int) (n : Nat) (W : Nat → Nat → Int) : Prop where
  rn : n ≤ 40
  r0 : 0 ≤ now
  r1 : now ≤ 1099511627776
  rv : ∀ j, j < n → 0 ≤ W j 1 ∧ W j 1 ≤ 1073741824
  rc : ∀ j, j < n → 0 ≤ W j 2 ∧ W j 2 < 3
  rt : ∀ j, j < n → 0 ≤ W j 3 ∧ W j 3 ≤ now
theorem pa_bnd {now : Int} {n : Nat} {W : Nat → Nat → Int} (h : rP now n W) (c : Int) : ∀ d, d ≤ n → 0 ≤ paS W now c d ∧ paS W now c d ≤ 1073741824 * (d : Int)
  | 0, _ => by simp [paS]
  | d + 1, hd => by
    have ih := pa_bnd h c d (by omega)
    have hv := h.rv d (by omega)
    unfold paS
    split <;> omega
theorem ok_le (L B : Nat → Int) (now : Int) (a : Option Addr) (n cap : Nat) (W : Nat → Nat → Int) (a' : Option Addr) (n' cap' : Nat) (W' : Nat → Nat → Int) (h : rP now n W) (hL : ∀ c, c < 3 → 0 ≤ L c ∧ L c ≤ 1073741824) :
    OwesR Try.prog cxG [] [(3, .inv (invLe L B now a n cap W a' n' cap' W'))] 10 Try.f23 [sG L B now a n cap W a' n' cap' W'] false [.v (.agg [.f .i64 3 fun c => L c - paS W now (c : Int) n])] := by
  rw [vc_le]
  simp only [q_simT, eq_self, implies_true, imp_self, and_true, true_and, Int.toNat_natCast]
  have h0 := h.r0
  have h1 := h.r1
  have hn := h.rn
  refine ⟨fun _ => rfl, 0, Nat.zero_le _, rfl, fun j hj => by simp [paS], fun y hy => ⟨fun hl => ?_, fun hl => ?_⟩⟩
  · have hl : y < n := by have := of_decide_eq_true hl; omega
    have ht := h.rt y hl
    have hv := h.rv y hl
    have hc := h.rc y hl
    have ew : IntKind.i64.wrap (now - W y 3) = now - W y 3 := by rw [IntKind.wrap_i64]; omega
    simp only [ew]
    have em : n - (y + 1) + 1 ≤ n - y := by omega
    have es : IntKind.i64.wrap ((y : Int) + 1) = ((y + 1 : Nat) : Int) := by rw [IntKind.wrap_i64]; omega
    refine ⟨⟨by omega, by omega⟩, fun hw => ⟨hc, hc, hc, hc, y + 1, hl, es, fun j hj => ?_, em⟩, fun hw => ⟨y + 1, hl, es, fun j hj => ?_, em⟩⟩
    · have e1 : (((W y 2).toNat : Nat) : Int) = W y 2 := by omega
      have hb := pa_bnd h (W y 2) y (by omega)
      have hLc := hL (W y 2).toNat (by omega)
      have ewv : IntKind.i64.wrap (L (W y 2).toNat - paS W now (W y 2) y - W y 1) = L (W y 2).toNat - paS W now (W y 2) y - W y 1 := by rw [IntKind.wrap_i64]; omega
      rw [e1, ewv]
      show _ = L j - (paS W now (j : Int) y + if wiB now (W y 3) = true ∧ W y 2 = (j : Int) then W y 1 else 0)
      by_cases e : j = (W y 2).toNat
      · have e2 : W y 2 = (j : Int) := by omega
        rw [if_pos e, if_pos ⟨hw, e2⟩, ← e, e2]; omega
      · rw [if_neg e, if_neg (fun q => e (by omega))]; omega
    · show _ = L j - (paS W now (j : Int) y + if wiB now (W y 3) = true ∧ W y 2 = (j : Int) then W y 1 else 0)
      rw [if_neg (fun q => by have := q.1; unfold wiB at this; rw [hw] at this; cases this)]; omega
  · have hl := of_decide_eq_false hl
    have : y = n := by omega
    subst this
    exact fun _ _ => rfl
structure lP (L : Nat → Int) : Prop where
  lb : ∀ c, c < 3 → 0 ≤ L c ∧ L c ≤ 1073741824
theorem g_told {L B : Nat → Int} {now : Int} {a : Option Addr} {n cap : Nat} {f : Nat → Nat → SC} {a' : Option Addr} {n' cap' : Nat} {f' : Nat → Nat → SC} (p : qP n f) (p' : qP n' f') {E : Env} (hb : (SA.agg (ksG L B now a n cap f a' n' cap' f')).bnd E) : (sG L B now a n cap (jAt f) a' n' cap' (jAt f')).bnd E := by
  intro k hk
  have hb : ∀ k ∈ ksG L B now a n cap f a' n' cap' f', k.bnd E := hb
  simp only [List.mem_cons, List.not_mem_nil, or_false] at hk
  rcases hk with rfl | rfl | rfl | rfl | rfl
  · exact trivial
  · exact trivial
  · exact trivial
  · exact q_told p (hb (.c (.xs a n cap 4 f)) (by simp))
  · exact q_told p' (hb (.c (.xs a' n' cap' 4 f')) (by simp))
def leC : List (List FD) → List Prop
  | [[.y L, .y _, .i now, .x _ n _ f, .x _ n' _ f']] => [qP n f, qP n' f', rP now n (jAt f), lP L]
  | _ => [False]
def leG : List (List FD) → List RS
  | [[.y L, .y _, .i now, .x _ n _ f, .x _ _ _ _]] => [.v (.agg [.f .i64 3 fun c => L c - paS (jAt f) now (c : Int) n])]
  | _ => []
def cLe : SSpec := specQ0 false [pqG] leC leG
theorem card_left {gl : Globs} : FnOKs Try.prog gl 23 cLe := by
  refine FnOKs.up0 (FnOKs_R0 (cx := cxG) okx_G (sl := []) oks_nil Try.func23 (by kernel_rfl) (by kernel_rfl) fun ls hc => ?_) gl
  unfold leC at hc
  split at hc
  · rename_i L B now a n cap f a' n' cap' f'
    obtain ⟨p, p', hr, hl, _⟩ := hc
    refine ⟨_, _, [sG L B now a n cap (jAt f) a' n' cap' (jAt f')], fun ρ => rfl, fun E hE y hy => ?_, fun r hr => ?_, ok_le L B now a n cap (jAt f) a' n' cap' (jAt f') hr hl.lb⟩
    · rw [List.mem_singleton.1 hy]
      exact g_told p p' (hE _ (List.mem_cons_self ..))
    · rw [List.mem_singleton.1 hr]
      intro k hk
      rw [List.mem_singleton.1 hk]
      exact trivial
  · exact hc.1.elim
def paC : List (List FD) → List Prop
  | [[.y L, .y _, .i now, .x _ n _ f, .x _ n' _ f'], [.i _, .i v, .i c, .i _]] => [qP n f, qP n' f', rP now n (jAt f), lP L, 0 ≤ v ∧ v ≤ 1073741824, 0 ≤ c ∧ c < 3]
  | _ => [False]
def paG : List (List FD) → List RS
  | [[.y L, .y B, .i now, .x _ n _ f, .x _ _ _ _], [.i _, .i v, .i c, .i _]] => [.v (sB (paB L B now n (jAt f) v c))]
  | _ => []
def cPa : SSpec := specQ0 false [pqG, pqQ] paC paG
end Go.Proofs.Ytanlbhkppagfdaa
end

section
namespace Go.Proofs.Ytanlbhkppagfdaa
open Go.Sx
set_option maxRecDepth 100000
def slPa : List (Nat × SSpec) := [(23, cLe)]
def caW (n : Nat) (W W' : Nat → Nat → Int) (j c : Nat) : Int := if j < n then W j c else W' (j - n) c
def itB (now : Int) (W : Nat → Nat → Int) (j : Nat) : Bool := woB (W j 1) && chB (W j 2) && upB (W j 3) now
def alB (now : Int) (W : Nat → Nat → Int) : Nat → Bool
  | 0 => true
  | d + 1 => alB now W d && (itB now W d && !haB d W (W d 0))
def gtE (L B : Nat → Int) (now : Int) (n : Nat) (W : Nat → Nat → Int) (n' : Nat) (W' : Nat → Nat → Int) : Int :=
  if 40 < n ∨ 40 < n' then 1 else if (upB now 1099511627776 && liB L && liB B && alB now (caW n W W') (n + n')) = true then 0 else 12
theorem vc_pa (L B : Nat → Int) (now : Int) (a : Option Addr) (n cap : Nat) (W : Nat → Nat → Int) (a' : Option Addr) (n' cap' : Nat) (W' : Nat → Nat → Int) (x : Nat → Int) (b : Bool) :
    OwesR Try.prog cxG slPa [] 10 Try.f17 [sG L B now a n cap W a' n' cap' W', .agg (ksQ x)] false [.v (sB b)] =
    (let x1 : Prop := (0 : Int) ≤ x 2 ∧ x 2 < (3 : Int); let x2 : Bool := Decidable.decide (x 1 < B (x 2).toNat); let x3 : Prop := x2 = Bool.true; let x4 : Int := L (x 2).toNat - paS (jAt (qW W)) now (↑(x 2).toNat : Int) n; let x5 : Bool := x2 && Decidable.decide (x 1 ≤ x4); let x6 : Prop := x5 = Bool.true; qP n (qW W) ∧ qP n' (qW W') ∧ rP now n (jAt (qW W)) ∧ lP L ∧ x1 ∧ x1 ∧ (x3 → x3) ∧ (x3 → x3) ∧ (x3 → x3) ∧ (x3 → x1) ∧ (x3 → x3) ∧ (x3 → x1) ∧ (x3 → x3) ∧ (x3 → x3) ∧ (x3 → x3) ∧ (x6 → x6) ∧ (x6 → x6) ∧ (x6 → x6) ∧ (x6 → x6) ∧ (x5 && Decidable.decide ((↑n : Int) < (40 : Int))) = b) := by kernel_rfl
end Go.Proofs.Ytanlbhkppagfdaa
end

section
namespace Go.Proofs.Ytanlbhkppagfdaa
open Go.Sx
set_option maxRecDepth 100000
theorem ok_pa (L B : Nat → Int) (now : Int) (a : Option Addr) (n cap : Nat) (W : Nat → Nat → Int) (a' : Option Addr) (n' cap' : Nat) (W' : Nat → Nat → Int) (x : Nat → Int) (p : qP n (qW W)) (p' : qP n' (qW W')) (h : rP now n W) (hl : lP L) (hv : 0 ≤ x 1 ∧ x 1 ≤ 1073741824) (hc : 0 ≤ x 2 ∧ x 2 < 3) :
    OwesR Try.prog cxG slPa [] 10 Try.f17 [sG L B now a n cap W a' n' cap' W', .agg (ksQ x)] false [.v (sB (paB L B now n W (x 1) (x 2)))] := by
  rw [vc_pa]
  have e2 : (((x 2).toNat : Nat) : Int) = x 2 := by omega
  refine ⟨p, p', h, hl, hc, hc, id, id, id, fun _ => hc, id, fun _ => hc, id, id, id, id, id, id, id, ?_⟩
  show (decide (x 1 < B (x 2).toNat) && decide (x 1 ≤ L (x 2).toNat - paS W now (((x 2).toNat : Nat) : Int) n) && decide ((n : Int) < 40)) = paB L B now n W (x 1) (x 2)
  unfold paB
  rw [e2, show decide ((n : Int) < 40) = decide (n < 40) from decide_eq_decide.2 (by omega), show decide (x 1 ≤ L (x 2).toNat - paS W now (x 2) n) = decide (x 1 + paS W now (x 2) n ≤ L (x 2).toNat) from decide_eq_decide.2 (by omega)]
theorem card_pa {gl : Globs} : FnOKs Try.prog gl 17 cPa := by
  refine FnOKs.up0 (FnOKs_R0 (cx := cxG) okx_G (sl := slPa) (oks_cons card_left oks_nil) Try.func17 (by kernel_rfl) (by kernel_rfl) fun ls hc => ?_) gl
  unfold paC at hc
  split at hc
  · rename_i L B now a n cap f a' n' cap' f' i v c t
    obtain ⟨p, p', hr, hl, hv, hcc, _⟩ := hc
    refine ⟨_, _, [sG L B now a n cap (jAt f) a' n' cap' (jAt f'), .agg (ksQ (kQ i v c t))], fun ρ => rfl, fun E hE y hy => ?_, fun r hr => ?_, ok_pa L B now a n cap (jAt f) a' n' cap' (jAt f') (kQ i v c t) ⟨p.tn, fun _ _ _ _ => rfl⟩ ⟨p'.tn, fun _ _ _ _ => rfl⟩ hr hl hv hcc⟩
    · rcases List.mem_cons.1 hy with rfl | hy
      · exact g_told p p' (hE _ (List.mem_cons_self ..))
      · exact hE y (List.mem_cons_of_mem _ hy)
    · rw [List.mem_singleton.1 hr]; exact trivial
  · exact hc.1.elim
end Go.Proofs.Ytanlbhkppagfdaa
end

section
namespace Go.Proofs.Ytanlbhkppagfdaa
open Go.Sx
set_option maxRecDepth 100000
def cxCc : Cx := ⟨[(1300000000 + 63, fun _ => none), (1000000010, fun _ => none), (1000000012, fun _ => none), (1000000013, fun _ => none), (1000000014, fun _ => none), (1000000016, fun _ => none)], [], 0, []⟩
abbrev twF (a : Option Addr) (n cap : Nat) (f : Nat → Nat → SC) (a' : Option Addr) (n' cap' : Nat) (f' : Nat → Nat → SC) (i _ : Nat) : SC := match i with
  | 0 => .xs a n cap 4 f
  | _ => .xs a' n' cap' 4 f'
theorem vc_cc (b a a' : Option Addr) (m n cap n' cap' : Nat) (W W' : Nat → Nat → Int) :
    OwesR Try.prog cxCc [] [] 10 Try.f20 [.sc (.xs b 2 m 1 (twF a n cap (qW W) a' n' cap' (qW W')))] true [.rows (n + n') 4 (qW (caW n W W'))] =
    (let x1 : Int := Go.IntKind.i64.wrap ((0 : Int) + (↑n : Int)); let x2 : Prop := Stuck { dst := Option.none, op := Go.Op.panic (Go.Operand.tmp 21), type := 0, pos := "slices.go:496", after := #[{ on := 0, ground := Go.Ground.data }], guard := Option.none }; let x3 : Int := Go.IntKind.i64.wrap (x1 + (↑n' : Int)); let x4 : Prop := Decidable.decide (x3 < (0 : Int)) = Bool.true; let x5 : Prop := Decidable.decide (x3 < (0 : Int)) = Bool.false; let x6 : Int := Go.IntKind.i64.wrap (x3 - (0 : Int)); let x7 : Nat := 0 + n; let x8 : Nat := x7 + n'; let x9 : Nat := n + n'; ((0 : Int) ≤ (0 : Int) ∧ (0 : Int) < (2 : Int)) ∧ (Decidable.decide (x1 < (0 : Int)) = Bool.true → x2) ∧ (Decidable.decide (x1 < (0 : Int)) = Bool.false → ((0 : Int) ≤ (1 : Int) ∧ (1 : Int) < (2 : Int)) ∧ (x4 → x2) ∧ (x5 → (x4 → Stuck { dst := Option.none, op := Go.Op.panic (Go.Operand.tmp 7), type := 0, pos := "slices.go:424", after := #[{ on := 0, ground := Go.Ground.data }], guard := Option.none }) ∧ (x5 → (Decidable.decide (x6 > (0 : Int)) = Bool.true → ((0 : Int) < x6 ∧ x6 ≤ (9223372036854775807 : Int) ∧ x6 * (32 : Int) ≤ (140737488355328 : Int)) ∧ ∀ (c : Nat), x6.toNat + c ≤ Go.maxLen → ((0 : Int) ≤ (0 : Int) ∧ (0 : Int) ≤ (↑(x6.toNat + c) : Int)) ∧ ((0 : Int) ≤ (0 : Int) ∧ (0 : Int) < (2 : Int)) ∧ 0 = 0 ∧ 0 = 0 ∧ (0 ≤ x6.toNat + c ∧ x6.toNat + c ≤ Go.maxLen ∧ (x6.toNat + c) * 4 = 0 + (x6.toNat + c) * 4) ∧ (x7 ≤ Go.maxLen ∧ x7 * 32 ≤ 140737488355328) ∧ ∀ (c_1 : Nat), x7 + c_1 ≤ Go.maxLen → ((0 : Int) ≤ (1 : Int) ∧ (1 : Int) < (2 : Int)) ∧ 0 = 0 ∧ x7 = x7 ∧ (x7 ≤ x7 + c_1 ∧ x7 + c_1 ≤ Go.maxLen ∧ (x7 + c_1) * 4 = x7 * 4 + c_1 * 4) ∧ (x8 ≤ Go.maxLen ∧ x8 * 32 ≤ 140737488355328) ∧ ∀ (c_2 : Nat), x8 + c_2 ≤ Go.maxLen → 0 + x8 ≤ x8 ∧ x8 = x9 ∧ x8 ≤ x8 + c_2 ∧ ∀ (i : Nat), i < x9 → allC 4 fun (c_3 : Nat) => simC (newH (SA.sc (SC.slw 0 4 0 x7 (x7 + c_1))) (SA.sc (twF a n cap (qW W) a' n' cap' (qW W') 1 0)) x7 (newH (SA.sc (SC.slw 0 4 0 0 (x6.toNat + c))) (SA.sc (twF a n cap (qW W) a' n' cap' (qW W') 0 0)) 0 (fun (x x_1 : Nat) => SC.bit Bool.false) (qW W)) (qW W') (0 + i) c_3) (qW (caW n W W') i c_3)) ∧ (Decidable.decide (x6 > (0 : Int)) = Bool.false → ((0 : Int) ≤ (0 : Int) ∧ (0 : Int) < (2 : Int)) ∧ (n ≤ Go.maxLen ∧ n * 32 ≤ 140737488355328) ∧ (n = 0 → ((0 : Int) ≤ (1 : Int) ∧ (1 : Int) < (2 : Int)) ∧ (n' ≤ Go.maxLen ∧ n' * 32 ≤ 140737488355328) ∧ (n' = 0 → x9 = 0) ∧ (n' ≠ 0 → ∀ (c : Nat), n' + c ≤ Go.maxLen → 0 + n' ≤ n' ∧ n' = x9 ∧ n' ≤ n' + c ∧ ∀ (i : Nat), i < x9 → allC 4 fun (c : Nat) => simC (qW W' (0 + i) c) (qW (caW n W W') i c))) ∧ (n ≠ 0 → ∀ (c : Nat), n + c ≤ Go.maxLen → ((0 : Int) ≤ (1 : Int) ∧ (1 : Int) < (2 : Int)) ∧ 0 = 0 ∧ n = n ∧ (n ≤ n + c ∧ n + c ≤ Go.maxLen ∧ (n + c) * 4 = n * 4 + c * 4) ∧ (x9 ≤ Go.maxLen ∧ x9 * 32 ≤ 140737488355328) ∧ ∀ (c_1 : Nat), x9 + c_1 ≤ Go.maxLen → 0 + x9 ≤ x9 ∧ x9 = x9 ∧ x9 ≤ x9 + c_1 ∧ ∀ (i : Nat), i < x9 → allC 4 fun (c_2 : Nat) => simC (newH (SA.sc (SC.slw 0 4 0 n (n + c))) (SA.sc (twF a n cap (qW W) a' n' cap' (qW W') 1 0)) n (qW W) (qW W') (0 + i) c_2) (qW (caW n W W') i c_2))))))) := by kernel_rfl
end Go.Proofs.Ytanlbhkppagfdaa
end

section
namespace Go.Proofs.Ytanlbhkppagfdaa
open Go.Sx
set_option maxRecDepth 100000
theorem allq {F : Nat → SC} {V : Nat → Nat → Int} {i : Nat} (h : ∀ c, F c = .val (.int .i64 (V i c))) : allC 4 fun c => simC (F c) (qW V i c) := by
  obtain rfl : F = fun c => qW V i c := funext h
  exact ⟨rfl, rfl, rfl, rfl⟩
theorem sel_int (b : Bool) (x y : Int) : selC b (.val (.int .i64 x)) (.val (.int .i64 y)) = .val (.int .i64 (cond b x y)) := rfl
theorem sel_bit (y : Int) : selC false (.bit false) (.val (.int .i64 y)) = .val (.int .i64 y) := rfl
theorem ca_at {n : Nat} {W W' : Nat → Nat → Int} (i c : Nat) : cond (decide (i < n)) (W i c) (W' (i - n) c) = caW n W W' i c := by
  unfold caW
  by_cases h : i < n <;> simp [h]
theorem ok_cc (b a a' : Option Addr) (m n cap n' cap' : Nat) (W W' : Nat → Nat → Int) (hn : n ≤ 40) (hn' : n' ≤ 40) :
    OwesR Try.prog cxCc [] [] 10 Try.f20 [.sc (.xs b 2 m 1 (twF a n cap (qW W) a' n' cap' (qW W')))] true [.rows (n + n') 4 (qW (caW n W W'))] := by
  rw [vc_cc]
  have hML : maxLen = 9223372036854775807 := rfl
  intro x1 x2 x3 x4 x5 x6 x7 x8 x9
  have e1 : x1 = (n : Int) := by show IntKind.i64.wrap (0 + (n : Int)) = _; rw [IntKind.wrap_i64]; omega
  have e3 : x3 = ((n + n' : Nat) : Int) := by show IntKind.i64.wrap (x1 + (n' : Int)) = _; rw [e1, IntKind.wrap_i64]; omega
  have e6 : x6 = ((n + n' : Nat) : Int) := by show IntKind.i64.wrap (x3 - 0) = _; rw [e3, IntKind.wrap_i64]; omega
  have e6' : x6.toNat = n + n' := by rw [e6]; exact Int.toNat_natCast _
  have e7 : x7 = n := Nat.zero_add n
  have e8 : x8 = n + n' := by show x7 + n' = _; rw [e7]
  have e9 : x9 = n + n' := rfl
  have h5 : x4 → False := fun h => by
    have h : decide (x3 < 0) = true := h
    rw [e3, decide_eq_true_eq] at h; omega
  clear_value x1 x3 x6 x7 x8 x9
  have second : ∀ i c : Nat, selC (decide (i < n)) (qW W i c) (qW W' (i - n) c) = .val (.int .i64 (caW n W W' i c)) := fun i c => by
    rw [sel_int, ca_at]
  refine ⟨by omega, fun h => ?_, fun _ => ⟨by omega, fun h => (h5 h).elim, fun _ => ⟨fun h => (h5 h).elim, fun _ => ⟨fun h => ?_, fun h => ?_⟩⟩⟩⟩
  · rw [e1, decide_eq_true_eq] at h; omega
  · rw [decide_eq_true_eq] at h
    refine ⟨by omega, fun c hc => ⟨by omega, by omega, rfl, rfl, by omega, by omega, fun c1 hc1 => ⟨by omega, rfl, rfl, by omega, by omega, fun c2 hc2 => ⟨by omega, by omega, by omega, fun i hi => ?_⟩⟩⟩⟩
    subst e7
    refine allq fun c => ?_
    show selC (decide (0 + i < x7)) (selC (decide (0 + i < 0)) (.bit false) (qW W (0 + i - 0) c)) (qW W' (0 + i - x7) c) = _
    rw [show decide (0 + i < 0) = false from decide_eq_false (Nat.not_lt_zero _), sel_bit, Nat.zero_add, Nat.sub_zero]
    exact second i c
  · rw [decide_eq_false_iff_not] at h
    have hz : n = 0 := by omega
    have hz' : n' = 0 := by omega
    exact ⟨by omega, by omega, fun _ => ⟨by omega, by omega, fun _ => by omega, fun h => absurd hz' h⟩, fun h => absurd hz h⟩
structure twP (f : Nat → Nat → SC) : Prop where
  t0 : ∃ a n cap g, f 0 0 = .xs a n cap 4 g ∧ n ≤ 40 ∧ qP n g
  t1 : ∃ a n cap g, f 1 0 = .xs a n cap 4 g ∧ n ≤ 40 ∧ qP n g
def xN : SC → Nat
  | .xs _ n _ _ _ => n
  | _ => 0
def xG : SC → Nat → Nat → SC
  | .xs _ _ _ _ g => g
  | _ => fun _ _ => .bit false
def ccC : List (List FD) → List Prop
  | [[.x _ n _ f]] => [n = 2, twP f]
  | _ => [False]
def ccG : List (List FD) → List RS
  | [[.x _ _ _ f]] => [.rows (xN (f 0 0) + xN (f 1 0)) 4 (qW (caW (xN (f 0 0)) (jAt (xG (f 0 0))) (jAt (xG (f 1 0)))))]
  | _ => []
def cCc : SSpec := specQ0 true [.one (.x 1)] ccC ccG
theorem okx_Cc : CxOK Try.prog cxCc := okx_mark (okx_mark (okx_mark (okx_mark (okx_mark (okx_mark okx_nil)))))
theorem card_cc {gl : Globs} : FnOKs Try.prog gl 20 cCc := by
  refine FnOKs.up0 (FnOKs_R0 (cx := cxCc) okx_Cc (sl := []) oks_nil Try.func20 (by kernel_rfl) (by kernel_rfl) fun ls hc => ?_) gl
  unfold ccC at hc
  split at hc
  · rename_i b n m f
    obtain ⟨hn, ⟨⟨a0, n0, cap0, g0, t0, l0, q0⟩, ⟨a1, n1, cap1, g1, t1, l1, q1⟩⟩, _⟩ := hc
    subst hn
    refine ⟨[], 10, [.sc (.xs b 2 m 1 (twF a0 n0 cap0 (qW (jAt g0)) a1 n1 cap1 (qW (jAt g1))))], fun ρ => rfl, fun E hE y hy => ?_, fun r hr => ?_, ?_⟩
    · rw [List.mem_singleton.1 hy]
      have hb : (SC.xs b 2 m 1 f).bnd E := hE _ (List.mem_cons_self ..)
      obtain ⟨b1, b2, b3⟩ := hb
      refine ⟨b1, b2, fun bb hbb => ⟨(b3 bb hbb).1, fun i hi c hc => ?_⟩⟩
      have hq := (b3 bb hbb).2 i hi c hc
      have hc0 : c = 0 := by omega
      subst hc0
      rcases (by omega : i = 0 ∨ i = 1) with rfl | rfl
      · rw [t0] at hq
        exact ⟨q_told q0 (n := n0) (a := a0) (cap := cap0) hq.1, rfl, hq.2.2⟩
      · rw [t1] at hq
        exact ⟨q_told q1 (n := n1) (a := a1) (cap := cap1) hq.1, rfl, hq.2.2⟩
    · rw [List.mem_singleton.1 hr]
      exact fun i hi c hc => ⟨trivial, rfl⟩
    · have := ok_cc b a0 a1 m n0 cap0 n1 cap1 (jAt g0) (jAt g1) l0 l1
      have e : ccG [[.x b 2 m f]] = [.rows (n0 + n1) 4 (qW (caW n0 (jAt g0) (jAt g1)))] := by
        unfold ccG
        simp only [t0, t1, xN, xG]
      rw [e]
      exact this
  · exact hc.1.elim
end Go.Proofs.Ytanlbhkppagfdaa
end

section
namespace Go.Proofs.Ytanlbhkppagfdaa
open Go.Sx
set_option maxRecDepth 100000
end Go.Proofs.Ytanlbhkppagfdaa
end

section
namespace Go.Proofs.Ytanlbhkppagfdaa
open Go.Sx
set_option maxRecDepth 100000
def cxCh : Cx := ⟨[(14, cWo), (15, cCh), (19, cLiF), (16, cHaF), (1000000010, fun _ => none), (1000000012, fun _ => none), (1000000013, fun _ => none), (1000000014, fun _ => none)], [], 0, []⟩
def slCh : List (Nat × SSpec) := [(20, cCc)]
def invCh (L B : Nat → Int) (now : Int) (a : Option Addr) (n cap : Nat) (W : Nat → Nat → Int) (a' : Option Addr) (n' cap' : Nat) (W' : Nat → Nat → Int) : Inv where
  X := Nat × Option Addr × Nat
  tm d := slotsAt 80 [(1, .one (.sc (.ptr 0 0))), (3, .one (xQ d.2.1 (n + n') d.2.2 (qW (caW n W W')))), (42, .one (xQ d.2.1 (n + n') d.2.2 (qW (caW n W W')))), (43, .one (sI .i64 ((n + n' : Nat) : Int))), (44, .one (sI .i64 (d.1 : Int)))]
  ob _ := [obG L B now a n cap W a' n' cap' W']
  holds d := d.1 ≤ n + n' ∧ alB now (caW n W W') d.1 = true
  less d := n + n' - d.1
theorem vc_gck (L B : Nat → Int) (now : Int) (a : Option Addr) (n cap : Nat) (W : Nat → Nat → Int) (a' : Option Addr) (n' cap' : Nat) (W' : Nat → Nat → Int) (r : Int) :
    OwesR Try.prog cxCh slCh [(7, .inv (invCh L B now a n cap W a' n' cap' W'))] 10 Try.f11 [sG L B now a n cap W a' n' cap' W'] false [.v (sI .i64 r)] =
    (let x1 : Bool := Decidable.decide ((↑n : Int) > (40 : Int)); let x2 : Prop := (!x1) = Bool.true; let x3 : Bool := Decidable.decide (now < (0 : Int)); let x4 : Prop := (!x3) = Bool.true; let x5 : Bool := x3 || Decidable.decide (now > (1099511627776 : Int)); let x6 : Prop := (!x5) = Bool.true; let x7 : Bool := x5 || !liB L; let x8 : Prop := (!x7) = Bool.true; let x9 : Nat := xN ((flat ([SK.c (SC.xs a n cap 4 (qW W))] ++ toKs (SA.sc (SC.xs a' n' cap' 4 (qW W'))) ++ [])).getD 0 (SC.bit Bool.false)); let x10 : Nat := x9 + xN ((flat ([SK.c (SC.xs a n cap 4 (qW W))] ++ toKs (SA.sc (SC.xs a' n' cap' 4 (qW W'))) ++ [])).getD 1 (SC.bit Bool.false)); let x11 : Nat := n + n'; let x12 : Int := (↑x11 : Int); (x2 → x2) ∧ (x2 → x2) ∧ (x2 → x2) ∧ (x1 = Bool.false → x2) ∧ ((x1 || Decidable.decide ((↑n' : Int) > (40 : Int))) = Bool.true → (1 : Int) = r) ∧ ((x1 || Decidable.decide ((↑n' : Int) > (40 : Int))) = Bool.false → (x4 → x4) ∧ (x4 → x4) ∧ (x3 = Bool.false → x4) ∧ (x6 → x6) ∧ (x6 → x6) ∧ (x6 → x6) ∧ (x5 = Bool.false → x6) ∧ (x8 → x8) ∧ (x8 → x8) ∧ (x8 → x8) ∧ (x7 = Bool.false → x8) ∧ ((x7 || !liB B) = Bool.true → (12 : Int) = r) ∧ ((x7 || !liB B) = Bool.false → 2 ≤ 2 ∧ ∀ (_ : Go.Addr), 2 = 2 ∧ (twP fun (i c : Nat) => (flat ([SK.c (SC.xs a n cap 4 (qW W))] ++ toKs (SA.sc (SC.xs a' n' cap' 4 (qW W'))) ++ [])).getD (i * 1 + c) (SC.bit Bool.false)) ∧ ∀ (a_4 : Option Go.Addr) (cap_1 : Nat), (a_4 = Option.none → x10 = 0 ∧ cap_1 = 0) → x10 ≤ cap_1 → (∀ (y : Nat × Option Go.Addr × Nat), closedB (slotsAt 80 [(1, SV.one (SA.sc (SC.ptr 0 0))), (3, SV.one (xQ y.snd.fst x11 y.snd.snd (qW (caW n W W')))), (42, SV.one (xQ y.snd.fst x11 y.snd.snd (qW (caW n W W')))), (43, SV.one (sI Go.IntKind.i64 x12)), (44, SV.one (sI Go.IntKind.i64 (↑y.fst : Int)))]) [obG L B now a n cap W a' n' cap' W'] = Bool.true) ∧ ∃ (y : Nat × Option Go.Addr × Nat), (y.fst ≤ x11 ∧ alB now (caW n W W') y.fst = Bool.true) ∧ (a_4 = y.snd.fst ∧ x10 = x11 ∧ cap_1 = y.snd.snd ∧ ∀ (i : Nat), i < x10 → allC 4 fun (c : Nat) => simC (qW (caW x9 (jAt (xG ((flat ([SK.c (SC.xs a n cap 4 (qW W))] ++ toKs (SA.sc (SC.xs a' n' cap' 4 (qW W'))) ++ [])).getD 0 (SC.bit Bool.false)))) (jAt (xG ((flat ([SK.c (SC.xs a n cap 4 (qW W))] ++ toKs (SA.sc (SC.xs a' n' cap' 4 (qW W'))) ++ [])).getD 1 (SC.bit Bool.false))))) i c) (qW (caW n W W') i c)) ∧ (a_4 = y.snd.fst ∧ x10 = x11 ∧ cap_1 = y.snd.snd ∧ ∀ (i : Nat), i < x10 → allC 4 fun (c : Nat) => simC (qW (caW x9 (jAt (xG ((flat ([SK.c (SC.xs a n cap 4 (qW W))] ++ toKs (SA.sc (SC.xs a' n' cap' 4 (qW W'))) ++ [])).getD 0 (SC.bit Bool.false)))) (jAt (xG ((flat ([SK.c (SC.xs a n cap 4 (qW W))] ++ toKs (SA.sc (SC.xs a' n' cap' 4 (qW W'))) ++ [])).getD 1 (SC.bit Bool.false))))) i c) (qW (caW n W W') i c)) ∧ (↑x10 : Int) = x12 ∧ (0 : Int) = (↑y.fst : Int) ∧ (∀ (j : Nat), j < 3 → L j = L j) ∧ (∀ (j : Nat), j < 3 → B j = B j) ∧ now = now ∧ simC (SC.xs a n cap 4 (qW W)) (SC.xs a n cap 4 (qW W)) ∧ simC (SC.xs a' n' cap' 4 (qW W')) (SC.xs a' n' cap' 4 (qW W')) ∧ 0 = 0 ∧ ∀ (y : Nat × Option Go.Addr × Nat), let x101 : Prop := (!(!woB (caW n W W' (↑y.fst : Int).toNat 1) || !chB (caW n W W' (↑y.fst : Int).toNat 2))) = Bool.true; let x102 : Prop := (!(!woB (caW n W W' (↑y.fst : Int).toNat 1) || !chB (caW n W W' (↑y.fst : Int).toNat 2) || Decidable.decide (caW n W W' (↑y.fst : Int).toNat 3 < (0 : Int)))) = Bool.true; let x103 : Prop := (!(!woB (caW n W W' (↑y.fst : Int).toNat 1) || !chB (caW n W W' (↑y.fst : Int).toNat 2) || Decidable.decide (caW n W W' (↑y.fst : Int).toNat 3 < (0 : Int)) || Decidable.decide (caW n W W' (↑y.fst : Int).toNat 3 > now))) = Bool.true; y.fst ≤ x11 ∧ alB now (caW n W W') y.fst = Bool.true → (Decidable.decide ((↑y.fst : Int) < x12) = Bool.true → ((0 : Int) ≤ (↑y.fst : Int) ∧ (↑y.fst : Int) < x12) ∧ ((!!woB (caW n W W' (↑y.fst : Int).toNat 1)) = Bool.true → (!!woB (caW n W W' (↑y.fst : Int).toNat 1)) = Bool.true) ∧ ((!!woB (caW n W W' (↑y.fst : Int).toNat 1)) = Bool.true → (!!woB (caW n W W' (↑y.fst : Int).toNat 1)) = Bool.true) ∧ ((!!woB (caW n W W' (↑y.fst : Int).toNat 1)) = Bool.true → (!!woB (caW n W W' (↑y.fst : Int).toNat 1)) = Bool.true) ∧ ((!woB (caW n W W' (↑y.fst : Int).toNat 1)) = Bool.false → (!!woB (caW n W W' (↑y.fst : Int).toNat 1)) = Bool.true) ∧ (x101 → x101) ∧ (x101 → x101) ∧ ((!woB (caW n W W' (↑y.fst : Int).toNat 1) || !chB (caW n W W' (↑y.fst : Int).toNat 2)) = Bool.false → x101) ∧ (x102 → x102) ∧ (x102 → x102) ∧ (x102 → x102) ∧ (x102 → x102) ∧ ((!woB (caW n W W' (↑y.fst : Int).toNat 1) || !chB (caW n W W' (↑y.fst : Int).toNat 2) || Decidable.decide (caW n W W' (↑y.fst : Int).toNat 3 < (0 : Int))) = Bool.false → x102) ∧ (x103 → x103) ∧ (x103 → x103) ∧ (x103 → (0 : Int) ≤ (↑y.fst : Int) ∧ (↑y.fst : Int) ≤ x12) ∧ (x103 → x103) ∧ (x103 → x103) ∧ (x103 → x103) ∧ (x103 → qP (↑y.fst : Int).toNat (qW (caW n W W'))) ∧ ((!woB (caW n W W' (↑y.fst : Int).toNat 1) || !chB (caW n W W' (↑y.fst : Int).toNat 2) || Decidable.decide (caW n W W' (↑y.fst : Int).toNat 3 < (0 : Int)) || Decidable.decide (caW n W W' (↑y.fst : Int).toNat 3 > now)) = Bool.false → x103) ∧ ((!woB (caW n W W' (↑y.fst : Int).toNat 1) || !chB (caW n W W' (↑y.fst : Int).toNat 2) || Decidable.decide (caW n W W' (↑y.fst : Int).toNat 3 < (0 : Int)) || Decidable.decide (caW n W W' (↑y.fst : Int).toNat 3 > now) || haB (↑y.fst : Int).toNat (jAt (qW (caW n W W'))) (caW n W W' (↑y.fst : Int).toNat 0)) = Bool.true → (12 : Int) = r) ∧ ((!woB (caW n W W' (↑y.fst : Int).toNat 1) || !chB (caW n W W' (↑y.fst : Int).toNat 2) || Decidable.decide (caW n W W' (↑y.fst : Int).toNat 3 < (0 : Int)) || Decidable.decide (caW n W W' (↑y.fst : Int).toNat 3 > now) || haB (↑y.fst : Int).toNat (jAt (qW (caW n W W'))) (caW n W W' (↑y.fst : Int).toNat 0)) = Bool.false → ∃ (y' : Nat × Option Go.Addr × Nat), (y'.fst ≤ x11 ∧ alB now (caW n W W') y'.fst = Bool.true) ∧ (y.snd.fst = y'.snd.fst ∧ x11 = x11 ∧ y.snd.snd = y'.snd.snd ∧ ∀ (i : Nat), i < x11 → allC 4 fun (c : Nat) => simC (qW (caW n W W') i c) (qW (caW n W W') i c)) ∧ (y.snd.fst = y'.snd.fst ∧ x11 = x11 ∧ y.snd.snd = y'.snd.snd ∧ ∀ (i : Nat), i < x11 → allC 4 fun (c : Nat) => simC (qW (caW n W W') i c) (qW (caW n W W') i c)) ∧ x12 = x12 ∧ Go.IntKind.i64.wrap ((↑y.fst : Int) + (1 : Int)) = (↑y'.fst : Int) ∧ (∀ (j : Nat), j < 3 → L j = L j) ∧ (∀ (j : Nat), j < 3 → B j = B j) ∧ now = now ∧ simC (SC.xs a n cap 4 (qW W)) (SC.xs a n cap 4 (qW W)) ∧ simC (SC.xs a' n' cap' 4 (qW W')) (SC.xs a' n' cap' 4 (qW W')) ∧ 0 = 0 ∧ (x11 - y'.fst).succ.le (x11 - y.fst))) ∧ (Decidable.decide ((↑y.fst : Int) < x12) = Bool.false → (0 : Int) = r)))) := by kernel_rfl
end Go.Proofs.Ytanlbhkppagfdaa
end

section
namespace Go.Proofs.Ytanlbhkppagfdaa
open Go.Sx
set_option maxRecDepth 100000
theorem q_simL {a b : Option Addr} {n m cap dap : Nat} {W V : Nat → Nat → Int} (h1 : a = b) (h2 : n = m) (h3 : cap = dap) (h4 : W = V) : a = b ∧ n = m ∧ cap = dap ∧ ∀ i, i < n → allC 4 fun c => simC (qW W i c) (qW V i c) := by
  subst h4
  exact ⟨h1, h2, h3, fun _ _ => ⟨rfl, rfl, rfl, rfl⟩⟩
theorem qP_W {n : Nat} {W : Nat → Nat → Int} (h : n ≤ maxLen) : qP n (qW W) := ⟨h, fun _ _ _ _ => rfl⟩
theorem al_not {now : Int} {W : Nat → Nat → Int} {d n : Nat} (h : alB now W (d + 1) = false) (hd : d < n) : alB now W n = false := by
  induction n with
  | zero => omega
  | succ n ih =>
    by_cases e : d = n
    · subst e; exact h
    · show (alB now W n && _) = false
      rw [ih (by omega)]; rfl
theorem it_or {now v c t : Int} {hb : Bool} : (!woB v || !chB c || decide (t < 0) || decide (t > now) || hb) = !((woB v && chB c && upB t now) && !hb) := by
  unfold upB
  rw [show decide (t < 0) = !decide (0 ≤ t) by rw [← decide_not]; exact decide_eq_decide.2 (by omega), show decide (t > now) = !decide (t ≤ now) by rw [← decide_not]; exact decide_eq_decide.2 (by omega)]
  cases woB v <;> cases chB c <;> cases decide (0 ≤ t) <;> cases decide (t ≤ now) <;> cases hb <;> rfl
theorem ok_gck (L B : Nat → Int) (now : Int) (a : Option Addr) (n cap : Nat) (W : Nat → Nat → Int) (a' : Option Addr) (n' cap' : Nat) (W' : Nat → Nat → Int) :
    OwesR Try.prog cxCh slCh [(7, .inv (invCh L B now a n cap W a' n' cap' W'))] 10 Try.f11 [sG L B now a n cap W a' n' cap' W'] false [.v (sI .i64 (gtE L B now n W n' W'))] := by
  rw [vc_gck]
  have hML : maxLen = 9223372036854775807 := rfl
  simp only [q_simT, eq_self, implies_true, imp_self, and_true, true_and, Int.toNat_natCast]
  have hbig : (decide ((n : Int) > 40) || decide ((n' : Int) > 40)) = decide (40 < n ∨ 40 < n') := by
    rw [Bool.eq_iff_iff, Bool.or_eq_true, decide_eq_true_eq, decide_eq_true_eq, decide_eq_true_eq]; omega
  rw [hbig]
  refine ⟨fun h => (by simpa using h), fun h => ?_, fun h => ?_⟩
  · unfold gtE
    rw [if_pos (of_decide_eq_true h)]
  have hno := of_decide_eq_false h
  have hn : n ≤ 40 := by omega
  have hn' : n' ≤ 40 := by omega
  have hE : gtE L B now n W n' W' = if (upB now 1099511627776 && liB L && liB B && alB now (caW n W W') (n + n')) = true then 0 else 12 := by unfold gtE; rw [if_neg hno]
  have hhead : (decide (now < 0) || decide (now > 1099511627776) || !liB L || !liB B) = !(upB now 1099511627776 && liB L && liB B) := by
    unfold upB
    rw [show decide (now < 0) = !decide (0 ≤ now) by rw [← decide_not]; exact decide_eq_decide.2 (by omega), show decide (now > 1099511627776) = !decide (now ≤ 1099511627776) by rw [← decide_not]; exact decide_eq_decide.2 (by omega)]
    cases decide (0 ≤ now) <;> cases decide (now ≤ 1099511627776) <;> cases liB L <;> cases liB B <;> rfl
  rw [hhead]
  refine ⟨?_, ?_, ?_, fun h => ?_, fun h => ?_⟩
  · intro h; simpa using h
  · intro h; simpa using h
  · intro h; simpa using h
  · have h : (upB now 1099511627776 && liB L && liB B) = false := by rw [Bool.not_eq_true'] at h; exact h
    rw [hE, h]; rfl
  have hok : (upB now 1099511627776 && liB L && liB B) = true := by rw [Bool.not_eq_false'] at h; exact h
  rw [hok, Bool.true_and] at hE
  refine ⟨Nat.le_refl _, fun _ => ⟨⟨⟨a, n, cap, qW W, rfl, hn, qP_W (by omega)⟩, ⟨a', n', cap', qW W', rfl, hn', qP_W (by omega)⟩⟩, fun a4 c1 _ _ => ⟨fun _ => rfl, (0, a4, c1), ⟨Nat.zero_le _, rfl⟩, q_simL rfl rfl rfl rfl, q_simL rfl rfl rfl rfl, rfl, rfl, fun y hy => ?_⟩⟩⟩
  simp only [Bool.not_eq_true', Bool.not_eq_false', Bool.not_not, imp_self, true_and]
  obtain ⟨d, al, cl⟩ := y
  obtain ⟨hd, ha⟩ := hy
  have hd : d ≤ n + n' := hd
  have ha : alB now (caW n W W') d = true := ha
  refine ⟨fun hl => ?_, fun hl => ?_⟩
  · have hl : d < n + n' := by have := of_decide_eq_true hl; have : (d : Int) < ((n + n' : Nat) : Int) := this; omega
    refine ⟨⟨Int.natCast_nonneg _, Int.ofNat_lt.2 hl⟩, fun _ => ⟨Int.natCast_nonneg _, Int.ofNat_le.2 hd⟩, fun _ => qP_W (by show d ≤ _; omega), fun h => ?_, fun h => ⟨(d + 1, al, cl), ⟨hl, ?_⟩, ⟨rfl, rfl, fun _ _ => ⟨rfl, rfl, rfl, rfl⟩⟩, ⟨rfl, rfl, fun _ _ => ⟨rfl, rfl, rfl, rfl⟩⟩, ?_, ?_⟩⟩
    · have hf : alB now (caW n W W') (d + 1) = false := by
        show (alB now (caW n W W') d && (itB now (caW n W W') d && !haB d (caW n W W') (caW n W W' d 0))) = false
        rw [it_or, Bool.not_eq_true'] at h
        rw [ha, Bool.true_and]
        exact h
      rw [hE, al_not hf hl]; rfl
    · show (alB now (caW n W W') d && (itB now (caW n W W') d && !haB d (caW n W W') (caW n W W' d 0))) = true
      rw [it_or, Bool.not_eq_false'] at h
      rw [ha, Bool.true_and]
      exact h
    · show IntKind.i64.wrap ((d : Int) + 1) = ((d + 1 : Nat) : Int)
      rw [IntKind.wrap_i64]; omega
    · show n + n' - (d + 1) + 1 ≤ n + n' - d
      omega
  · have hl : ¬ (d : Int) < ((n + n' : Nat) : Int) := of_decide_eq_false hl
    have : d = n + n' := by omega
    rw [hE, ← this, ha]; rfl
def gcC : List (List FD) → List Prop
  | [[.y _, .y _, .i _, .x _ n _ f, .x _ n' _ f']] => [qP n f, qP n' f']
  | _ => [False]
def gcG : List (List FD) → List RS
  | [[.y L, .y B, .i now, .x _ n _ f, .x _ n' _ f']] => [.v (sI .i64 (gtE L B now n (jAt f) n' (jAt f')))]
  | _ => []
def cGc : SSpec := specQ0 false [pqG] gcC gcG
theorem okx_Ch : CxOK Try.prog cxCh := okx_cons card_gwo (okx_cons card_gch (okx_cons card_liF (okx_cons card_haF (okx_mark (okx_mark (okx_mark (okx_mark okx_nil)))))))
theorem card_gck {gl : Globs} : FnOKs Try.prog gl 11 cGc := by
  refine FnOKs.up0 (FnOKs_R0 (cx := cxCh) okx_Ch (sl := slCh) (oks_cons card_cc oks_nil) Try.func11 (by kernel_rfl) (by kernel_rfl) fun ls hc => ?_) gl
  unfold gcC at hc
  split at hc
  · rename_i L B now a n cap f a' n' cap' f'
    obtain ⟨p, p', _⟩ := hc
    refine ⟨_, _, [sG L B now a n cap (jAt f) a' n' cap' (jAt f')], fun ρ => rfl, fun E hE y hy => ?_, fun r hr => ?_, ok_gck L B now a n cap (jAt f) a' n' cap' (jAt f')⟩
    · rw [List.mem_singleton.1 hy]
      exact g_told p p' (hE _ (List.mem_cons_self ..))
    · rw [List.mem_singleton.1 hr]; exact trivial
  · exact hc.1.elim
end Go.Proofs.Ytanlbhkppagfdaa
end

section
namespace Go.Proofs.Ytanlbhkppagfdaa
open Go.Sx
set_option maxRecDepth 100000
section
variable {n n' : Nat} {W W' : Nat → Nat → Int}
end
end Go.Proofs.Ytanlbhkppagfdaa
end

section
namespace Go.Proofs.Ytanlbhkppagfdaa
open Go.Sx
set_option maxRecDepth 100000
def ofB (L B : Nat → Int) (now : Int) (n : Nat) (W : Nat → Nat → Int) (v c : Int) : Bool := paB L B now n W v c
def ofE (L B : Nat → Int) (now : Int) (n : Nat) (W : Nat → Nat → Int) (n' : Nat) (W' : Nat → Nat → Int) (id v c : Int) : Int :=
  if gtE L B now n W n' W' ≠ 0 then gtE L B now n W n' W' else if (woB v && chB c) = false then 6 else if (haB n W id || haB n' W' id) = true then 8 else if ofB L B now n W v c = false ∧ n' = 40 then 9 else 0
def apW (n : Nat) (W : Nat → Nat → Int) (x : Nat → Int) (i c : Nat) : Int := if i < n then W i c else x c
def zer (e x : Int) : Int := if e = 0 then x else 0
def ofR (L B : Nat → Int) (now : Int) (n : Nat) (W : Nat → Nat → Int) (n' : Nat) (W' : Nat → Nat → Int) (id v c e : Int) (f : Bool) : List RS :=
  [.st [.k (.f .i64 3 fun j => zer e (L j)), .k (.f .i64 3 fun j => zer e (B j)), .k (.c (.val (.int .i64 (zer e now)))), .s (if e = 0 then (if f = true then n + 1 else n) else 0) 4 (qW (apW n W (kQ id v c now))), .s (if e = 0 then (if f = true then n' else n' + 1) else 0) 4 (qW (apW n' W' (kQ id v c now)))], .v (sB (decide (e = 0) && f)), .v (sI .i64 e)]
def cxOf : Cx := ⟨[(14, cWo), (15, cCh), (16, cHaF), (1000000007, fun _ => none), (1000000010, fun _ => none), (1000000012, fun _ => none), (1000000013, fun _ => none), (1000000014, fun _ => none)], [], 0, []⟩
def slOf : List (Nat × SSpec) := [(11, cGc), (17, cPa)]
theorem vc_gof (L B : Nat → Int) (now : Int) (a : Option Addr) (n cap : Nat) (W : Nat → Nat → Int) (a' : Option Addr) (n' cap' : Nat) (W' : Nat → Nat → Int) (id v c e : Int) (f : Bool) :
    OwesR Try.prog cxOf slOf [] 10 Try.f10 [sG L B now a n cap W a' n' cap' W', sI .i64 id, sI .i64 v, sI .i64 c] false (ofR L B now n W n' W' id v c e f) =
    (let x1 : Int := gtE L B now n (jAt (qW W)) n' (jAt (qW W')); let x2 : Nat := if e = (0 : Int) then if f = Bool.true then n + 1 else n else 0; let x3 : Nat := if e = (0 : Int) then if f = Bool.true then n' else n' + 1 else 0; let x4 : Prop := x3 = 0 ∧ True; let x5 : Bool := Decidable.decide (e = (0 : Int)) && f; let x6 : Prop := (!haB n (jAt (qW W)) id) = Bool.true; let x7 : Bool := paB L B now n (jAt (qW W)) v c; let x8 : Bool := !x7; let x9 : Prop := x8 = Bool.true; let x10 : Prop := x7 = Bool.true; let x11 : Prop := x7 = x5 ∧ (0 : Int) = e; let x12 : Prop := x7 = Bool.false; let x13 : Prop := 0 = 0; let x14 : Nat := 0 + n'; let x15 : Nat := x14 + 1; let x16 : Nat := 0 + n; let x17 : Nat := x16 + 1; let x18 : Prop := ∀ (i : Nat), i < x2 → allC 4 fun (c_1 : Nat) => simC (newH (SA.sc (SC.sl 3 0 0 0)) (SA.sc (SC.xs a n cap 4 (qW W))) 0 (fixAt (flat []) 4 0 0) (qW W) (0 + i) c_1) (qW (apW n W (kQ id v c now)) i c_1); let x19 : Prop := (a.isNone = Bool.true → (a'.isNone = Bool.true → (x10 → (1 ≤ Go.maxLen ∧ 32 ≤ 140737488355328) ∧ ∀ (c_1 : Nat), 1 + c_1 ≤ Go.maxLen → (((∀ (j : Nat), j < 3 → L j = zer e (L j)) ∧ True) ∧ ((∀ (j : Nat), j < 3 → B j = zer e (B j)) ∧ True) ∧ (now = zer e now ∧ True) ∧ (1 ≤ 1 ∧ 1 = x2 ∧ 1 ≤ 1 + c_1 ∧ ∀ (i : Nat), i < x2 → allC 4 fun (c_2 : Nat) => simC (fixAt (flat [SK.c (SC.val (Go.Value.int Go.IntKind.i64 id)), SK.c (SC.val (Go.Value.int Go.IntKind.i64 v)), SK.c (SC.val (Go.Value.int Go.IntKind.i64 c)), SK.c (SC.val (Go.Value.int Go.IntKind.i64 now))]) 4 1 0 (0 + i) c_2) (qW (apW n W (kQ id v c now)) i c_2)) ∧ x4) ∧ x11) ∧ (x12 → (1 ≤ Go.maxLen ∧ 32 ≤ 140737488355328) ∧ ∀ (c_1 : Nat), 1 + c_1 ≤ Go.maxLen → (((∀ (j : Nat), j < 3 → L j = zer e (L j)) ∧ True) ∧ ((∀ (j : Nat), j < 3 → B j = zer e (B j)) ∧ True) ∧ (now = zer e now ∧ True) ∧ x2 = 0 ∧ (1 ≤ 1 ∧ 1 = x3 ∧ 1 ≤ 1 + c_1 ∧ ∀ (i : Nat), i < x3 → allC 4 fun (c_2 : Nat) => simC (fixAt (flat [SK.c (SC.val (Go.Value.int Go.IntKind.i64 id)), SK.c (SC.val (Go.Value.int Go.IntKind.i64 v)), SK.c (SC.val (Go.Value.int Go.IntKind.i64 c)), SK.c (SC.val (Go.Value.int Go.IntKind.i64 now))]) 4 1 0 (0 + i) c_2) (qW (apW n' W' (kQ id v c now)) i c_2)) ∧ True) ∧ x11)) ∧ (a'.isNone = Bool.false → (0 ≤ 0 ∧ 0 ≤ Go.maxLen ∧ x13) ∧ (x14 ≤ Go.maxLen ∧ x14 * 32 ≤ 140737488355328) ∧ ∀ (c_1 : Nat), x14 + c_1 ≤ Go.maxLen → (x10 → (1 ≤ Go.maxLen ∧ 32 ≤ 140737488355328) ∧ ∀ (c_2 : Nat), 1 + c_2 ≤ Go.maxLen → (((∀ (j : Nat), j < 3 → L j = zer e (L j)) ∧ True) ∧ ((∀ (j : Nat), j < 3 → B j = zer e (B j)) ∧ True) ∧ (now = zer e now ∧ True) ∧ (1 ≤ 1 ∧ 1 = x2 ∧ 1 ≤ 1 + c_2 ∧ ∀ (i : Nat), i < x2 → allC 4 fun (c_3 : Nat) => simC (fixAt (flat [SK.c (SC.val (Go.Value.int Go.IntKind.i64 id)), SK.c (SC.val (Go.Value.int Go.IntKind.i64 v)), SK.c (SC.val (Go.Value.int Go.IntKind.i64 c)), SK.c (SC.val (Go.Value.int Go.IntKind.i64 now))]) 4 1 0 (0 + i) c_3) (qW (apW n W (kQ id v c now)) i c_3)) ∧ (0 + x14 ≤ x14 ∧ x14 = x3 ∧ x14 ≤ x14 + c_1 ∧ ∀ (i : Nat), i < x3 → allC 4 fun (c_3 : Nat) => simC (newH (SA.sc (SC.sl 3 0 0 0)) (SA.sc (SC.xs a' n' cap' 4 (qW W'))) 0 (fixAt (flat []) 4 0 0) (qW W') (0 + i) c_3) (qW (apW n' W' (kQ id v c now)) i c_3)) ∧ True) ∧ x11) ∧ (x12 → ∀ (ad : Nat → Go.Addr), x13 ∧ x14 = x14 ∧ (x14 ≤ x14 + c_1 ∧ x14 + c_1 ≤ Go.maxLen ∧ (x14 + c_1) * 4 = x14 * 4 + c_1 * 4) ∧ (x15 ≤ Go.maxLen ∧ x15 * 32 ≤ 140737488355328) ∧ ∀ (c_2 : Nat), x15 + c_2 ≤ Go.maxLen → (((∀ (j : Nat), j < 3 → L j = zer e (L j)) ∧ True) ∧ ((∀ (j : Nat), j < 3 → B j = zer e (B j)) ∧ True) ∧ (now = zer e now ∧ True) ∧ x2 = 0 ∧ (0 + x15 ≤ x15 ∧ x15 = x3 ∧ x15 ≤ x15 + c_2 ∧ ∀ (i : Nat), i < x3 → allC 4 fun (c_3 : Nat) => simC (newH (SA.sc (SC.slw 3 4 0 x14 (x14 + c_1))) (SA.sc (SC.sl 4 0 1 1)) x14 (newH (SA.sc (SC.sl 3 0 0 0)) (SA.sc (SC.xs a' n' cap' 4 (qW W'))) 0 (fixAt (flat []) 4 0 0) (qW W')) (fixAt (flat [SK.c (SC.val (Go.Value.int Go.IntKind.i64 id)), SK.c (SC.val (Go.Value.int Go.IntKind.i64 v)), SK.c (SC.val (Go.Value.int Go.IntKind.i64 c)), SK.c (SC.val (Go.Value.int Go.IntKind.i64 now))]) 4 1 0) (0 + i) c_3) (qW (apW n' W' (kQ id v c now)) i c_3)) ∧ True) ∧ x11))) ∧ (a.isNone = Bool.false → (0 ≤ 0 ∧ 0 ≤ Go.maxLen ∧ x13) ∧ (x16 ≤ Go.maxLen ∧ x16 * 32 ≤ 140737488355328) ∧ ∀ (c_1 : Nat), x16 + c_1 ≤ Go.maxLen → (a'.isNone = Bool.true → (x10 → ∀ (ad : Nat → Go.Addr), x13 ∧ x16 = x16 ∧ (x16 ≤ x16 + c_1 ∧ x16 + c_1 ≤ Go.maxLen ∧ (x16 + c_1) * 4 = x16 * 4 + c_1 * 4) ∧ (x17 ≤ Go.maxLen ∧ x17 * 32 ≤ 140737488355328) ∧ ∀ (c_2 : Nat), x17 + c_2 ≤ Go.maxLen → (((∀ (j : Nat), j < 3 → L j = zer e (L j)) ∧ True) ∧ ((∀ (j : Nat), j < 3 → B j = zer e (B j)) ∧ True) ∧ (now = zer e now ∧ True) ∧ (0 + x17 ≤ x17 ∧ x17 = x2 ∧ x17 ≤ x17 + c_2 ∧ ∀ (i : Nat), i < x2 → allC 4 fun (c_3 : Nat) => simC (newH (SA.sc (SC.slw 3 4 0 x16 (x16 + c_1))) (SA.sc (SC.sl 4 0 1 1)) x16 (newH (SA.sc (SC.sl 3 0 0 0)) (SA.sc (SC.xs a n cap 4 (qW W))) 0 (fixAt (flat []) 4 0 0) (qW W)) (fixAt (flat [SK.c (SC.val (Go.Value.int Go.IntKind.i64 id)), SK.c (SC.val (Go.Value.int Go.IntKind.i64 v)), SK.c (SC.val (Go.Value.int Go.IntKind.i64 c)), SK.c (SC.val (Go.Value.int Go.IntKind.i64 now))]) 4 1 0) (0 + i) c_3) (qW (apW n W (kQ id v c now)) i c_3)) ∧ x4) ∧ x11) ∧ (x12 → (1 ≤ Go.maxLen ∧ 32 ≤ 140737488355328) ∧ ∀ (c_2 : Nat), 1 + c_2 ≤ Go.maxLen → (((∀ (j : Nat), j < 3 → L j = zer e (L j)) ∧ True) ∧ ((∀ (j : Nat), j < 3 → B j = zer e (B j)) ∧ True) ∧ (now = zer e now ∧ True) ∧ (0 + x16 ≤ x16 ∧ x16 = x2 ∧ x16 ≤ x16 + c_1 ∧ x18) ∧ (1 ≤ 1 ∧ 1 = x3 ∧ 1 ≤ 1 + c_2 ∧ ∀ (i : Nat), i < x3 → allC 4 fun (c_3 : Nat) => simC (fixAt (flat [SK.c (SC.val (Go.Value.int Go.IntKind.i64 id)), SK.c (SC.val (Go.Value.int Go.IntKind.i64 v)), SK.c (SC.val (Go.Value.int Go.IntKind.i64 c)), SK.c (SC.val (Go.Value.int Go.IntKind.i64 now))]) 4 1 0 (0 + i) c_3) (qW (apW n' W' (kQ id v c now)) i c_3)) ∧ True) ∧ x11)) ∧ (a'.isNone = Bool.false → (0 ≤ 0 ∧ 0 ≤ Go.maxLen ∧ x13) ∧ (x14 ≤ Go.maxLen ∧ x14 * 32 ≤ 140737488355328) ∧ ∀ (c_2 : Nat), x14 + c_2 ≤ Go.maxLen → (x10 → ∀ (ad : Nat → Go.Addr), x13 ∧ x16 = x16 ∧ (x16 ≤ x16 + c_1 ∧ x16 + c_1 ≤ Go.maxLen ∧ (x16 + c_1) * 4 = x16 * 4 + c_1 * 4) ∧ (x17 ≤ Go.maxLen ∧ x17 * 32 ≤ 140737488355328) ∧ ∀ (c_3 : Nat), x17 + c_3 ≤ Go.maxLen → (((∀ (j : Nat), j < 3 → L j = zer e (L j)) ∧ True) ∧ ((∀ (j : Nat), j < 3 → B j = zer e (B j)) ∧ True) ∧ (now = zer e now ∧ True) ∧ (0 + x17 ≤ x17 ∧ x17 = x2 ∧ x17 ≤ x17 + c_3 ∧ ∀ (i : Nat), i < x2 → allC 4 fun (c_4 : Nat) => simC (newH (SA.sc (SC.slw 3 4 0 x16 (x16 + c_1))) (SA.sc (SC.sl 5 0 1 1)) x16 (newH (SA.sc (SC.sl 3 0 0 0)) (SA.sc (SC.xs a n cap 4 (qW W))) 0 (fixAt (flat []) 4 0 0) (qW W)) (fixAt (flat [SK.c (SC.val (Go.Value.int Go.IntKind.i64 id)), SK.c (SC.val (Go.Value.int Go.IntKind.i64 v)), SK.c (SC.val (Go.Value.int Go.IntKind.i64 c)), SK.c (SC.val (Go.Value.int Go.IntKind.i64 now))]) 4 1 0) (0 + i) c_4) (qW (apW n W (kQ id v c now)) i c_4)) ∧ (0 + x14 ≤ x14 ∧ x14 = x3 ∧ x14 ≤ x14 + c_2 ∧ ∀ (i : Nat), i < x3 → allC 4 fun (c_4 : Nat) => simC (newH (SA.sc (SC.sl 4 0 0 0)) (SA.sc (SC.xs a' n' cap' 4 (qW W'))) 0 (fixAt (flat []) 4 0 0) (qW W') (0 + i) c_4) (qW (apW n' W' (kQ id v c now)) i c_4)) ∧ True) ∧ x11) ∧ (x12 → ∀ (ad : Nat → Go.Addr), x13 ∧ x14 = x14 ∧ (x14 ≤ x14 + c_2 ∧ x14 + c_2 ≤ Go.maxLen ∧ (x14 + c_2) * 4 = x14 * 4 + c_2 * 4) ∧ (x15 ≤ Go.maxLen ∧ x15 * 32 ≤ 140737488355328) ∧ ∀ (c_3 : Nat), x15 + c_3 ≤ Go.maxLen → (((∀ (j : Nat), j < 3 → L j = zer e (L j)) ∧ True) ∧ ((∀ (j : Nat), j < 3 → B j = zer e (B j)) ∧ True) ∧ (now = zer e now ∧ True) ∧ (0 + x16 ≤ x16 ∧ x16 = x2 ∧ x16 ≤ x16 + c_1 ∧ x18) ∧ (0 + x15 ≤ x15 ∧ x15 = x3 ∧ x15 ≤ x15 + c_3 ∧ ∀ (i : Nat), i < x3 → allC 4 fun (c_4 : Nat) => simC (newH (SA.sc (SC.slw 4 4 0 x14 (x14 + c_2))) (SA.sc (SC.sl 5 0 1 1)) x14 (newH (SA.sc (SC.sl 4 0 0 0)) (SA.sc (SC.xs a' n' cap' 4 (qW W'))) 0 (fixAt (flat []) 4 0 0) (qW W')) (fixAt (flat [SK.c (SC.val (Go.Value.int Go.IntKind.i64 id)), SK.c (SC.val (Go.Value.int Go.IntKind.i64 v)), SK.c (SC.val (Go.Value.int Go.IntKind.i64 c)), SK.c (SC.val (Go.Value.int Go.IntKind.i64 now))]) 4 1 0) (0 + i) c_4) (qW (apW n' W' (kQ id v c now)) i c_4)) ∧ True) ∧ x11))); qP n (qW W) ∧ qP n' (qW W') ∧ ((x1 != (0 : Int)) = Bool.true → (((0 : Int) = zer e (L 0) ∧ (0 : Int) = zer e (L 1) ∧ (0 : Int) = zer e (L 2) ∧ True) ∧ ((0 : Int) = zer e (B 0) ∧ (0 : Int) = zer e (B 1) ∧ (0 : Int) = zer e (B 2) ∧ True) ∧ ((0 : Int) = zer e now ∧ True) ∧ x2 = 0 ∧ x4) ∧ Bool.false = x5 ∧ x1 = e) ∧ ((x1 != (0 : Int)) = Bool.false → ((!!woB v) = Bool.true → (!!woB v) = Bool.true) ∧ ((!!woB v) = Bool.true → (!!woB v) = Bool.true) ∧ ((!woB v) = Bool.false → (!!woB v) = Bool.true) ∧ ((!woB v || !chB c) = Bool.true → (((0 : Int) = zer e (L 0) ∧ (0 : Int) = zer e (L 1) ∧ (0 : Int) = zer e (L 2) ∧ True) ∧ ((0 : Int) = zer e (B 0) ∧ (0 : Int) = zer e (B 1) ∧ (0 : Int) = zer e (B 2) ∧ True) ∧ ((0 : Int) = zer e now ∧ True) ∧ x2 = 0 ∧ x4) ∧ Bool.false = x5 ∧ (6 : Int) = e) ∧ ((!woB v || !chB c) = Bool.false → qP n (qW W) ∧ (x6 → x6) ∧ (x6 → x6) ∧ (x6 → x6) ∧ (x6 → qP n' (qW W')) ∧ (haB n (jAt (qW W)) id = Bool.false → x6) ∧ ((haB n (jAt (qW W)) id || haB n' (jAt (qW W')) id) = Bool.true → (((0 : Int) = zer e (L 0) ∧ (0 : Int) = zer e (L 1) ∧ (0 : Int) = zer e (L 2) ∧ True) ∧ ((0 : Int) = zer e (B 0) ∧ (0 : Int) = zer e (B 1) ∧ (0 : Int) = zer e (B 2) ∧ True) ∧ ((0 : Int) = zer e now ∧ True) ∧ x2 = 0 ∧ x4) ∧ Bool.false = x5 ∧ (8 : Int) = e) ∧ ((haB n (jAt (qW W)) id || haB n' (jAt (qW W')) id) = Bool.false → qP n (qW W) ∧ qP n' (qW W') ∧ rP now n (jAt (qW W)) ∧ lP L ∧ ((0 : Int) ≤ v ∧ v ≤ (1073741824 : Int)) ∧ ((0 : Int) ≤ c ∧ c < (3 : Int)) ∧ (x9 → x9) ∧ (x9 → x9) ∧ (x9 → x9) ∧ (x9 → x9) ∧ ((x8 && (↑n' : Int) == (40 : Int)) = Bool.true → (((0 : Int) = zer e (L 0) ∧ (0 : Int) = zer e (L 1) ∧ (0 : Int) = zer e (L 2) ∧ True) ∧ ((0 : Int) = zer e (B 0) ∧ (0 : Int) = zer e (B 1) ∧ (0 : Int) = zer e (B 2) ∧ True) ∧ ((0 : Int) = zer e now ∧ True) ∧ x2 = 0 ∧ x4) ∧ Bool.false = x5 ∧ (9 : Int) = e) ∧ ((x8 && (↑n' : Int) == (40 : Int)) = Bool.false → (x19 ∧ x19) ∧ x19))))) := by kernel_rfl
end Go.Proofs.Ytanlbhkppagfdaa
end
