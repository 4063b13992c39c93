/-
  Texts: Wsp7, Wsp8, Sx15, Sx16, Wsp9, Byt, Okx, V143, V144, P221, P222, P223, P224, P225, P226.
-/
import Derived.Test.YtjpddnjgbgpegaaM1
import Derived.Test.YtjpddnjgbgpegaaM2
import Derived.Test.YtjpddnjgbgpegaaM3
import Derived.Test.YtjpddnjgbgpegaaM4
import Derived.Test.YtjpddnjgbgpegaaM5
import Derived.Test.YtjpddnjgbgpegaaM6
import Derived.Test.YtjpddnjgbgpegaaM7
import Derived.Test.YtjpddnjgbgpegaaM8
import Derived.Test.YtjpddnjgbgpegaaChecked
import Derived.WideKeyEntry
import Derived.Maps.Own
import Derived.Maps.Range
import Derived.DeepKeys4
section
namespace Go.Sx
open Go.RowKit
inductive PQ where
  | u | b | t
  | i (k : IntKind)
  | y (n : Nat)
  | x (w : Nat)
inductive FD where
  | u (n : Nat)
  | b (v : Bool)
  | i (n : Int)
  | y (g : Nat → Int)
  | x (a : Option Addr) (n cap : Nat) (f : Nat → Nat → SC)
  | t (s : ByteArray)
inductive AQ where
  | st (ps : List PQ)
  | one (p : PQ)
def fdK : PQ → FD → SK
  | .u, .u n => .u n
  | .b, .b v => .c (.val (.bool v))
  | .i k, .i n => .c (.val (.int k n))
  | .y n, .y g => .f .u8 n g
  | .x w, .x a n cap f => .c (.xs a n cap w f)
  | .t, .t s => .c (.val (.string s))
  | _, _ => .c (.bit false)
def fdKs : List PQ → List FD → List SK
  | p :: ps, d :: ds => fdK p d :: fdKs ps ds
  | _, _ => []
def takeF : PQ → List SK → Option (List Prop × FD × List SK)
  | .u, ks => match takeU ks with
    | some (p, n, r) => some (p, .u n, r)
    | none => none
  | .b, .c s :: r => match asBit s with
    | some v => some ([], .b v, r)
    | none => none
  | .i k, .c s :: r => match asI (.sc s) with
    | some (k', n) => if k' = k then some ([], .i n, r) else none
    | none => none
  | .y n, .f k m g :: r => if k = .u8 ∧ m = n then some ([], .y g, r) else none
  | .y n, ks => match grab ks n, seek ks n with
    | some cs, some r => match kindAll .u8 cs && Nat.ble 2 n with
      | true => some ([], .y (selG cs), r)
      | false => none
    | _, _ => none
  | .x w, .c (.xs a n cap w' f) :: r => if w' = w then some ([], .x a n cap f, r) else none
  | .x _, .c (.val (.slice none 0 0)) :: r => some ([], .x none 0 0 (fun _ _ => .bit false), r)
  | .t, .c (.val (.string s)) :: r => some ([], .t s, r)
  | _, _ => none
theorem cut_concs {ks cs r : List SK} {n : Nat} (h1 : grab ks n = some cs) (h2 : seek ks n = some r) (hk : kindAll .u8 cs = true) (ρ : Rho) : concs ρ ks = concs ρ (.f .u8 n (selG cs) :: r) := by
  obtain ⟨l1, e1⟩ := grab_flat ks n h1
  obtain ⟨_, e2⟩ := seek_flat ks n h2
  have hl : (flat cs).length = n := by rw [e1, List.length_take]; omega
  have hi : (intsL cs).length = n := by rw [intsL_length cs ρ .u8 hk, hl]
  have e3 : concs ρ cs = (List.range n).map fun j => .int .u8 (selG cs j) := by
    rw [ints_conc ρ .u8 hk]
    apply List.ext_getElem
    · simp [hi]
    · intro j h1 h2
      have hj : j < (intsL cs).length := by simpa using h1
      simp only [List.getElem_map, List.getElem_range]
      rw [selG_eq hj, List.getD_eq_getElem?_getD, List.getElem?_eq_getElem hj, Option.getD_some]
  rw [concs_cons, concs_f, ← e3]
  unfold concs
  rw [e1, e2, ← List.map_append, List.take_append_drop]
theorem takeF_sound {p : PQ} {ks r : List SK} {q : List Prop} {d : FD} (h : takeF p ks = some (q, d, r)) (hq : Ok q) (ρ : Rho) : concs ρ ks = concs ρ (fdK p d :: r) := by
  unfold takeF at h
  split at h
  · split at h
    · rename_i hu
      simp only [Option.some.injEq, Prod.mk.injEq] at h
      obtain ⟨rfl, rfl, rfl⟩ := h
      exact takeU_sound hu hq ρ
    · cases h
  · split at h
    · rename_i s r' v hv
      simp only [Option.some.injEq, Prod.mk.injEq] at h
      obtain ⟨rfl, rfl, rfl⟩ := h
      rw [concs_cons, concs_cons ρ (fdK .b (.b v))]
      congr 1
      simp [concs, flat, SK.cells, fdK, asBit_sound hv ρ, show ∀ v, (SC.val v).conc ρ = v from fun _ => rfl]
    · cases h
  · rename_i k s r'
    split at h
    · rename_i k' n hi
      split at h
      · rename_i e
        subst e
        simp only [Option.some.injEq, Prod.mk.injEq] at h
        obtain ⟨rfl, rfl, rfl⟩ := h
        rw [concs_cons, concs_cons ρ (fdK (.i k') (.i n))]
        congr 1
        have e : s.conc ρ = .int k' n := asI_sound hi ρ
        simp [concs, flat, SK.cells, fdK, e, show ∀ v, (SC.val v).conc ρ = v from fun _ => rfl]
      · cases h
    · cases h
  · split at h
    · rename_i e
      obtain ⟨rfl, rfl⟩ := e
      simp only [Option.some.injEq, Prod.mk.injEq] at h
      obtain ⟨rfl, rfl, rfl⟩ := h
      rfl
    · cases h
  · split at h
    · rename_i h1 h2
      split at h
      · rename_i hk
        simp only [Option.some.injEq, Prod.mk.injEq] at h
        obtain ⟨rfl, rfl, rfl⟩ := h
        exact cut_concs h1 h2 (Bool.and_eq_true_iff.1 hk).1 ρ
      · cases h
    · cases h
  · split at h
    · rename_i e
      subst e
      simp only [Option.some.injEq, Prod.mk.injEq] at h
      obtain ⟨rfl, rfl, rfl⟩ := h
      rfl
    · cases h
  · simp only [Option.some.injEq, Prod.mk.injEq] at h
    obtain ⟨rfl, rfl, rfl⟩ := h
    rfl
  · simp only [Option.some.injEq, Prod.mk.injEq] at h
    obtain ⟨rfl, rfl, rfl⟩ := h
    rfl
  · cases h
theorem takeF_bnd {p : PQ} {ks r : List SK} {q : List Prop} {d : FD} (h : takeF p ks = some (q, d, r)) {E : Env} (hb : ∀ k ∈ ks, k.bnd E) : (fdK p d).bnd E.bare ∧ ∀ k ∈ r, k.bnd E := by
  unfold takeF at h
  split at h
  · split at h
    · rename_i p' n r' hu
      simp only [Option.some.injEq, Prod.mk.injEq] at h
      obtain ⟨rfl, rfl, rfl⟩ := h
      refine ⟨trivial, ?_⟩
      unfold takeU at hu
      split at hu
      · cases hu; exact fun k hk => hb k (by simp [hk])
      · split at hu
        · simp only [Option.some.injEq, Prod.mk.injEq] at hu
          obtain ⟨_, _, rfl⟩ := hu
          exact fun k hk => hb k (by simp [hk])
        · cases hu
      · cases hu
    · cases h
  · split at h
    · simp only [Option.some.injEq, Prod.mk.injEq] at h
      obtain ⟨rfl, rfl, rfl⟩ := h
      exact ⟨trivial, fun k hk => hb k (by simp [hk])⟩
    · cases h
  · split at h
    · split at h
      · simp only [Option.some.injEq, Prod.mk.injEq] at h
        obtain ⟨rfl, rfl, rfl⟩ := h
        exact ⟨trivial, fun k hk => hb k (by simp [hk])⟩
      · cases h
    · cases h
  · split at h
    · simp only [Option.some.injEq, Prod.mk.injEq] at h
      obtain ⟨rfl, rfl, rfl⟩ := h
      exact ⟨trivial, fun k hk => hb k (by simp [hk])⟩
    · cases h
  · split at h
    · rename_i h1 h2
      split at h
      · simp only [Option.some.injEq, Prod.mk.injEq] at h
        obtain ⟨rfl, rfl, rfl⟩ := h
        exact ⟨trivial, bnd_flat.2 (mem_seek h2 (bnd_flat.1 hb))⟩
      · cases h
    · cases h
  · rename_i w a n cap w' f r'
    split at h
    · rename_i e
      subst e
      simp only [Option.some.injEq, Prod.mk.injEq] at h
      obtain ⟨rfl, rfl, rfl⟩ := h
      exact ⟨hb (.c (.xs a n cap w' f)) (by simp), fun k hk => hb k (by simp [hk])⟩
    · cases h
  · simp only [Option.some.injEq, Prod.mk.injEq] at h
    obtain ⟨rfl, rfl, rfl⟩ := h
    exact ⟨⟨fun _ => ⟨rfl, rfl⟩, Nat.le_refl _, fun b hb => by cases hb⟩, fun k hk => hb k (by simp [hk])⟩
  · simp only [Option.some.injEq, Prod.mk.injEq] at h
    obtain ⟨rfl, rfl, rfl⟩ := h
    exact ⟨trivial, fun k hk => hb k (by simp [hk])⟩
  · cases h
def asFs : List PQ → List SK → Option (List Prop × List FD)
  | [], [] => some ([], [])
  | p :: ps, ks => match takeF p ks with
    | some (q, d, r) => match asFs ps r with
      | some (q', ds) => some (q ++ q', d :: ds)
      | none => none
    | none => none
  | _, _ => none
theorem asFs_one {p : PQ} {k : SK} {q : List Prop} {l : List FD} (h : asFs [p] [k] = some (q, l)) : ∃ q1 d, takeF p [k] = some (q1, d, []) ∧ l = [d] := by
  have e : asFs [p] [k] = match takeF p [k] with
    | some (q, d, r) => match asFs [] r with
      | some (q', ds) => some (q ++ q', d :: ds)
      | none => none
    | none => none := by rw [asFs]
  rw [e] at h
  split at h
  · rename_i q1 d r ht
    cases r with
    | nil =>
      simp only [asFs, Option.some.injEq, Prod.mk.injEq] at h
      exact ⟨q1, d, ht, h.2.symm⟩
    | cons _ _ => simp [asFs] at h
  · cases h
theorem asFs_sound : ∀ {ps : List PQ} {ks : List SK} {q : List Prop} {l : List FD}, asFs ps ks = some (q, l) → (Ok q → ∀ ρ, concs ρ ks = concs ρ (fdKs ps l)) ∧ ∀ E : Env, (∀ k ∈ ks, k.bnd E) → ∀ k ∈ fdKs ps l, k.bnd E.bare
  | [], [], q, l, h => by
    simp only [asFs, Option.some.injEq, Prod.mk.injEq] at h
    obtain ⟨_, rfl⟩ := h
    exact ⟨fun _ _ => rfl, fun E _ k hk => by cases hk⟩
  | [], _ :: _, q, l, h => by simp [asFs] at h
  | p :: ps, ks, q, l, h => by
    simp only [asFs] at h
    split at h
    · rename_i q1 d r ht
      split at h
      · rename_i q2 ds hr
        simp only [Option.some.injEq, Prod.mk.injEq] at h
        obtain ⟨rfl, rfl⟩ := h
        obtain ⟨i1, i2⟩ := asFs_sound hr
        refine ⟨fun hq ρ => ?_, fun E hb k hk => ?_⟩
        · obtain ⟨h1, h2⟩ := Ok.append.1 hq
          rw [takeF_sound ht h1 ρ]
          exact concs_app ρ _ (i1 h2 ρ)
        · obtain ⟨b1, b2⟩ := takeF_bnd ht hb
          rcases List.mem_cons.1 hk with rfl | hk
          · exact b1
          · exact i2 E b2 k hk
      · cases h
    · cases h
def asQ : AQ → SA → Option (List Prop × List FD)
  | .st ps, .agg ks => asFs ps ks
  | .one p, .sc s => asFs [p] [.c s]
  | _, _ => none
def mkQ : AQ → List FD → SA
  | .st ps, l => .agg (fdKs ps l)
  | .one p, [d] => match fdK p d with
    | .c s => .sc s
    | _ => .agg []
  | _, _ => .agg []
theorem asQ_sound {aq : AQ} {x : SA} {q : List Prop} {l : List FD} (h : asQ aq x = some (q, l)) : (Ok q → ∀ ρ, x.conc ρ = (mkQ aq l).conc ρ) ∧ ∀ E : Env, x.bnd E → (mkQ aq l).bnd E.bare := by
  unfold asQ at h
  split at h
  · rename_i ps ks
    obtain ⟨h1, h2⟩ := asFs_sound h
    exact ⟨fun hq ρ => by simp only [SA.conc, mkQ, h1 hq ρ], fun E hb => h2 E hb⟩
  · rename_i p s
    obtain ⟨h1, h2⟩ := asFs_sound h
    obtain ⟨q1, d, ht, rfl⟩ := asFs_one h
    have e : ∀ (s : SC) ρ, concs ρ [SK.c s] = [s.conc ρ] := fun _ _ => rfl
    have h2' : ∀ E : Env, s.bnd E → (fdK p d).bnd E.bare := fun E hb => h2 E (fun k hk => by rw [List.mem_singleton.1 hk]; exact hb) _ (by simp [fdKs])
    have h1' : Ok q → ∀ ρ, [s.conc ρ] = concs ρ [fdK p d] := fun hq ρ => by rw [← e]; exact h1 hq ρ
    unfold mkQ
    simp only
    split
    · rename_i s' hs
      rw [hs] at h1' h2'
      refine ⟨fun hq ρ => ?_, fun E hb => h2' E hb⟩
      have := h1' hq ρ
      rw [e] at this
      exact (List.cons.inj this).1
    · rename_i hne
      exfalso
      unfold takeF at ht
      split at ht
      · split at ht
        · rename_i hu
          unfold takeU at hu
          simp at hu
        · cases ht
      · split at ht
        · simp only [Option.some.injEq, Prod.mk.injEq] at ht; obtain ⟨_, rfl, _⟩ := ht; exact hne _ rfl
        · cases ht
      · split at ht
        · split at ht
          · simp only [Option.some.injEq, Prod.mk.injEq] at ht; obtain ⟨_, rfl, _⟩ := ht; exact hne _ rfl
          · cases ht
        · cases ht
      · rename_i heq; cases heq
      · split at ht
        · rename_i hg _
          split at ht
          · rename_i hk
            have h2 := Nat.le_of_ble_eq_true (Bool.and_eq_true_iff.1 hk).2
            have h3 := (grab_flat _ _ hg).1
            simp [flat, SK.cells] at h3
            omega
          · cases ht
        · cases ht
      · split at ht
        · simp only [Option.some.injEq, Prod.mk.injEq] at ht; obtain ⟨_, rfl, _⟩ := ht; exact hne _ rfl
        · cases ht
      · simp only [Option.some.injEq, Prod.mk.injEq] at ht; obtain ⟨_, rfl, _⟩ := ht; exact hne _ rfl
      · simp only [Option.some.injEq, Prod.mk.injEq] at ht; obtain ⟨_, rfl, _⟩ := ht; exact hne _ rfl
      · cases ht
  · cases h
def asQs : List AQ → List SA → Option (List Prop × List (List FD))
  | [], [] => some ([], [])
  | a :: aqs, x :: xs => match asQ a x, asQs aqs xs with
    | some (q, l), some (q', ls) => some (q ++ q', l :: ls)
    | _, _ => none
  | _, _ => none
def mkQs : List AQ → List (List FD) → List SA
  | a :: aqs, l :: ls => mkQ a l :: mkQs aqs ls
  | _, _ => []
theorem asQs_sound : ∀ {aqs : List AQ} {xs : List SA} {q : List Prop} {ls : List (List FD)}, asQs aqs xs = some (q, ls) → (Ok q → ∀ ρ, xs.map (SA.conc ρ) = (mkQs aqs ls).map (SA.conc ρ)) ∧ ∀ E : Env, (∀ x ∈ xs, x.bnd E) → ∀ x ∈ mkQs aqs ls, x.bnd E.bare
  | [], [], q, ls, h => by
    simp only [asQs, Option.some.injEq, Prod.mk.injEq] at h
    obtain ⟨_, rfl⟩ := h
    exact ⟨fun _ _ => rfl, fun E _ k hk => by cases hk⟩
  | [], _ :: _, _, _, h => by simp [asQs] at h
  | _ :: _, [], _, _, h => by simp [asQs] at h
  | a :: aqs, x :: xs, q, ls, h => by
    simp only [asQs] at h
    split at h
    · rename_i q1 l q2 ls' h1 h2
      simp only [Option.some.injEq, Prod.mk.injEq] at h
      obtain ⟨rfl, rfl⟩ := h
      obtain ⟨a1, a2⟩ := asQ_sound h1
      obtain ⟨b1, b2⟩ := asQs_sound h2
      refine ⟨fun hq ρ => ?_, fun E hb y hy => ?_⟩
      · obtain ⟨o1, o2⟩ := Ok.append.1 hq
        simp only [List.map_cons, mkQs, a1 o1 ρ, b1 o2 ρ]
      · rcases List.mem_cons.1 hy with rfl | hy
        · exact a2 E (hb x (by simp))
        · exact b2 E (fun z hz => hb z (by simp [hz])) y hy
    · cases h
def simD : PQ → FD → FD → List Prop
  | .x w, .x a n c f, .x a' n' c' f' => [a = a', n = n', c = c', ∀ i, i < n → allC w fun k => simC (f i k) (f' i k)]
  | _, .u n, .u m => [n = m]
  | _, .b x, .b y => [x = y]
  | _, .i n, .i m => [n = m]
  | _, .t x, .t y => [x = y]
  | .y n, .y f, .y g => [∀ j, j < n → f j = g j]
  | _, _, _ => [False]
def simDs : List PQ → List FD → List FD → List Prop
  | p :: ps, d :: ds, e :: es => simD p d e ++ simDs ps ds es
  | [], [], [] => []
  | _, _, _ => [False]
def simQ : AQ → List FD → List FD → List Prop
  | .st ps, l, m => simDs ps l m
  | .one p, l, m => simDs [p] l m
def simQs : List AQ → List (List FD) → List (List FD) → List Prop
  | a :: aqs, l :: ls, m :: ms => simQ a l m ++ simQs aqs ls ms
  | [], [], [] => []
  | _, _, _ => [False]
theorem simD_sound {p : PQ} {d e : FD} (h : Ok (simD p d e)) : (∀ ρ, concs ρ [fdK p d] = concs ρ [fdK p e]) ∧ ∀ E : Env, (fdK p d).bnd E → (fdK p e).bnd E := by
  unfold simD at h
  split at h
  · rename_i w a n c f a' n' c' f'
    obtain ⟨rfl, rfl, rfl, h, _⟩ := h
    refine ⟨fun _ => rfl, fun E hb => simC_bnd (SC.xs a n c w f) (y := .xs a n c w f') ?_ hb⟩
    unfold simC
    simp only [Nat.beq_refl, true_and]
    exact h
  · obtain ⟨rfl, _⟩ := h; exact ⟨fun _ => rfl, fun _ k => k⟩
  · obtain ⟨rfl, _⟩ := h; exact ⟨fun _ => rfl, fun _ k => k⟩
  · obtain ⟨rfl, _⟩ := h; exact ⟨fun _ => rfl, fun _ k => k⟩
  · obtain ⟨rfl, _⟩ := h; exact ⟨fun _ => rfl, fun _ k => k⟩
  · rename_i n f g
    obtain ⟨h, _⟩ := h
    refine ⟨fun ρ => ?_, fun _ _ => trivial⟩
    rw [fdK, fdK, concs_f, concs_f]
    exact List.map_congr_left fun j hj => by rw [h j (List.mem_range.1 hj)]
  · exact h.1.elim
theorem simDs_sound : ∀ {ps : List PQ} {l m : List FD}, Ok (simDs ps l m) → (∀ ρ, concs ρ (fdKs ps l) = concs ρ (fdKs ps m)) ∧ ∀ E : Env, (∀ k ∈ fdKs ps l, k.bnd E) → ∀ k ∈ fdKs ps m, k.bnd E
  | [], [], [], _ => ⟨fun _ => rfl, fun _ h => h⟩
  | p :: ps, d :: ds, e :: es, h => by
    obtain ⟨o1, o2⟩ := Ok.append.1 h
    obtain ⟨a1, a2⟩ := simD_sound o1
    obtain ⟨b1, b2⟩ := simDs_sound o2
    refine ⟨fun ρ => ?_, fun E hb k hk => ?_⟩
    · simp only [fdKs]
      rw [concs_cons, concs_cons ρ (fdK p e), a1 ρ, b1 ρ]
    · rcases List.mem_cons.1 hk with rfl | hk
      · exact a2 E (hb _ (by simp [fdKs]))
      · exact b2 E (fun k hk => hb k (by simp [fdKs, hk])) k hk
  | [], [], _ :: _, h | [], _ :: _, [], h | [], _ :: _, _ :: _, h | _ :: _, [], [], h | _ :: _, [], _ :: _, h | _ :: _, _ :: _, [], h => by exact h.1.elim
theorem simQ_sound {a : AQ} {l m : List FD} (h : Ok (simQ a l m)) : (∀ ρ, (mkQ a l).conc ρ = (mkQ a m).conc ρ) ∧ ∀ E : Env, (mkQ a l).bnd E → (mkQ a m).bnd E := by
  cases a with
  | st ps =>
    obtain ⟨h1, h2⟩ := simDs_sound (show Ok (simDs ps l m) from h)
    exact ⟨fun ρ => by simp only [mkQ, SA.conc, h1 ρ], fun E hb => h2 E hb⟩
  | one p =>
    have h : Ok (simDs [p] l m) := h
    match l, m, h with
    | [], [], h => exact h.1.elim
    | [], _ :: _, h => exact h.1.elim
    | _ :: _, [], h => exact h.1.elim
    | d :: d2 :: ds, e :: es, h =>
      exfalso
      obtain ⟨_, o2⟩ := Ok.append.1 h
      cases es <;> exact o2.1.elim
    | [d], e :: e2 :: es, h =>
      exfalso
      obtain ⟨_, o2⟩ := Ok.append.1 h
      exact o2.1.elim
    | [d], [e], h =>
      obtain ⟨o1, _⟩ := Ok.append.1 h
      obtain ⟨h1, h2⟩ := simD_sound o1
      unfold mkQ
      simp only
      cases p <;> cases d <;> cases e <;> first
        | exact ⟨fun _ => rfl, fun _ k => k⟩
        | (exfalso; exact o1.1.elim)
        | (refine ⟨fun ρ => ?_, fun E hb => h2 E hb⟩
           have := h1 ρ
           exact (List.cons.inj this).1)
theorem simQs_sound : ∀ {aqs : List AQ} {l m : List (List FD)}, Ok (simQs aqs l m) → (∀ ρ, (mkQs aqs l).map (SA.conc ρ) = (mkQs aqs m).map (SA.conc ρ)) ∧ ∀ E : Env, (∀ x ∈ mkQs aqs l, x.bnd E) → ∀ x ∈ mkQs aqs m, x.bnd E
  | [], [], [], _ => ⟨fun _ => rfl, fun _ h => h⟩
  | a :: aqs, d :: ds, e :: es, h => by
    obtain ⟨o1, o2⟩ := Ok.append.1 h
    obtain ⟨a1, a2⟩ := simQ_sound o1
    obtain ⟨b1, b2⟩ := simQs_sound o2
    refine ⟨fun ρ => by simp only [mkQs, List.map_cons, a1 ρ, b1 ρ], fun E hb k hk => ?_⟩
    rcases List.mem_cons.1 hk with rfl | hk
    · exact a2 E (hb _ (by simp [mkQs]))
    · exact b2 E (fun k hk => hb k (by simp [mkQs, hk])) k hk
  | [], [], _ :: _, h | [], _ :: _, [], h | [], _ :: _, _ :: _, h | _ :: _, [], [], h | _ :: _, [], _ :: _, h | _ :: _, _ :: _, [], h => by exact h.1.elim
def specQ (share : Bool) (aq : List AQ) (nf : List (List FD) → List (List FD)) (c : List (List FD) → List Prop) (g : List (List FD) → List RS) : SSpec :=
  ⟨share, fun args => match asQs aq args with
    | some (ps, ls) => some (ps ++ (simQs aq ls (nf ls) ++ c (nf ls)), g (nf ls))
    | none => none⟩
theorem FnOKs_Q {P : Program} {cx : Cx} (hcx : CxOK P cx) {sl : List (Nat × SSpec)} (hsl : ∀ p ∈ sl, FnOKs P cx.gl p.1 p.2) {f : Nat} {fn : Func} (hf : P.funcs[f]? = some fn) (hb : fn.body.isSome = true) (hn : (fn.name == "runtime.NumGoroutine") = false)
    {share : Bool} {aq : List AQ} {nf : List (List FD) → List (List FD)} {c : List (List FD) → List Prop} {g : List (List FD) → List RS}
    (h : ∀ ls, Ok (c ls) → ∃ iv N, (∀ r ∈ g ls, r.closed) ∧ OwesR P cx sl iv N fn (mkQs aq ls) share (g ls)) : FnOKs P cx.gl f (specQ share aq nf c g) := by
  refine FnOKs_owes hcx hsl hf hb hn fun args ps rs hs hp => ?_
  simp only [specQ] at hs
  split at hs
  case h_2 => cases hs
  rename_i q ls ha
  simp only [Option.some.injEq, Prod.mk.injEq] at hs
  obtain ⟨rfl, rfl⟩ := hs
  obtain ⟨o1, o23⟩ := Ok.append.1 hp
  obtain ⟨o2, o3⟩ := Ok.append.1 o23
  obtain ⟨a1, a2⟩ := asQs_sound ha
  obtain ⟨b1, b2⟩ := simQs_sound o2
  obtain ⟨iv, N, hc, hw⟩ := h (nf ls) o3
  refine ⟨iv, N, mkQs aq (nf ls), fun ρ => by rw [a1 o1 ρ, b1 ρ], fun fz hx x hxm => ?_, hc, hw⟩
  exact b2 ⟨fun _ => False, fz⟩ (fun y hy => a2 ⟨fun _ => True, fz⟩ hx y hy) x hxm
end Go.Sx
end

section
namespace Go.Sx
def intOf : SC → Int
  | .val (.int _ x) => x
  | .num _ x => x
  | _ => 0
def u8F (k : Nat → Nat → Int) (i c : Nat) : SC := .val (.int .u8 (k i c))
def kOf (f : Nat → Nat → SC) (i c : Nat) : Int := intOf (f i c)
theorem FnOKs.up0 {P : Program} {f : Nat} {s : SSpec} (h : FnOKs P [] f s) (gl : Globs) : FnOKs P gl f s := fun args ps rs hs hp ρ w hz _ hb =>
  h args ps rs hs hp ρ w hz (fun p hp => by cases hp) hb
end Go.Sx
end

section
namespace Go.Sx
open Go.RowKit
def inlW (wl : List (Nat × WSpec)) (inner : Inl) : Inl := fun f args ob k =>
  match getW wl f with
  | none => inner f args ob k
  | some s => match wdo s args ob with
    | some (ps, sv, o, _, m) => ands ps (k sv (ob.set o (noteO s.e s.k m)))
    | none => StuckAt "cell"
section
variable {P : Program}
def inlY (P : Program) (cx : Cx) (sl : List (Nat × SSpec)) (dr : Drawn) (iv : List (Nat × Hint)) (N : Nat) : Nat → Inl
  | 0 => inlW cx.wf (inlS sl noInl)
  | d + 1 => inlW cx.wf (inlS sl fun f args ob k =>
    match P.funcs[f]? with
    | some fn =>
      match fn.body, fn.name == "runtime.NumGoroutine" with
      | some c, false => sx P { cx with kn := ob.length } (inlY P cx sl dr iv N d) dr iv N ((f + 1) * 100000) ob.length c (slots0 args fn.ntmps) ob (ret P fn.results.toList k)
      | _, _ => StuckAt "no text"
    | none => StuckAt "no function")
def noteIs (ob : List SO) (e : TypeId) (k : IntKind) (m : Int) : Prop :=
  match ob with
  | .cells e' [.c x] 0 :: _ => match Nat.beq e' e with
    | true => isInt k m x
    | false => False
  | _ => False
def OwesW (P : Program) (cx : Cx) (sl : List (Nat × SSpec)) (iv : List (Nat × Hint)) (N : Nat) (fn : Func) (args : List SA) (e : TypeId) (k : IntKind) (n : Int) (out : SV) (m : Int) : Prop :=
  sx P { cx with kn := 1 } (inlY P cx sl drawOK iv N 8) drawOK iv N 0 1 (fn.body.getD .skip) (slots0 args fn.ntmps) [noteO e k n] (ret P fn.results.toList fun sv ob => same sv out ∧ noteIs ob e k m)
def OwesU (P : Program) (cx : Cx) (sl : List (Nat × SSpec)) (iv : List (Nat × Hint)) (N : Nat) (fn : Func) (args : List SA) (out : SV) : Prop :=
  sx P { cx with kn := 0 } (inlY P cx sl drawOK iv N 8) drawOK iv N 0 0 (fn.body.getD .skip) (slots0 args fn.ntmps) [] (ret P fn.results.toList fun sv _ => same sv out)
end
attribute [irreducible] OwesW OwesU
end Go.Sx
end

section
namespace Go.Sx
open Go.RowKit
structure TSpec where
  e : TypeId
  wd : Nat
  of : List SA → Nat → (Nat → Nat → SC) → Option (List Prop × Nat × (Nat → Nat → SC) × List SA)
structure capOK (wd n cap sp : Nat) : Prop where
  le : n ≤ cap
  most : cap ≤ maxLen
  room : cap * wd = n * wd + sp
def getT : List (Nat × TSpec) → Nat → Option TSpec
  | [], _ => none
  | (g, s) :: r, f => match Nat.beq g f with
    | true => some s
    | false => getT r f
def ofT (s : TSpec) (r : List SA) (n : Nat) (g : Nat → Nat → SC) (old : Option Nat) : Option (List Prop × Nat × (Nat → Nat → SC) × List SA) :=
  match old with
  | none => s.of r n (fun _ _ => .val (.int .u8 0))
  | some _ => s.of r n g
def headT (ob : List SO) (size : Nat) (e : TypeId) (x : SA) : Option (List Prop × Nat × (Nat → Nat → SC) × List SO × Option Nat) :=
  match x with
  | .sc (.sl o 0 n cap) =>
    match ob[o]? with
    | some (.cells e' ks sp) => match Nat.beq e' e && Nat.beq (flat ks).length n && kindAll .u8 ks && Nat.beq size 1 && !ks.isEmpty with
      | true => some ([n ≤ cap ∧ cap ≤ maxLen ∧ cap * size = n * size + sp], n, fun i _ => .val (.int .u8 (selG ks i)), ob.set o .dead, some o)
      | false => headG ob size e (.sc (.sl o 0 n cap))
    | _ => headG ob size e (.sc (.sl o 0 n cap))
  | x => headG ob size e x
section
variable {W0 : Base} {ρ : Rho} {tm : List SV} {ob : List SO} {a : Act} {w : World}
end
def inlT (tl : List (Nat × TSpec)) (inner : Inl) : Inl := fun f args ob k =>
  match getT tl f with
  | none => inner f args ob k
  | some s => match args with
    | x :: r => match headT ob s.wd s.e x with
      | some (qs, n, g, ob0, old) => match ob0.all (obB (liveB ob0)) && r.all (SA.bndB fun _ => false) with
        | true => match ofT s r n g old with
          | some (ps, n', g', vs) => ands (qs ++ ps) (∀ c : Nat, n' + c ≤ maxLen → k (resV (.sc (.slw ob0.length s.wd 0 n' (n' + c)) :: vs)) (ob0 ++ [.row s.e s.wd n' g' (c * s.wd)]))
          | none => StuckAt "card"
        | false => StuckAt "taken"
      | none => StuckAt "head"
    | [] => StuckAt "taken"
section
variable {P : Program}
def inlZ (P : Program) (cx : Cx) (sl : List (Nat × SSpec)) (tl : List (Nat × TSpec)) (dr : Drawn) (iv : List (Nat × Hint)) (N : Nat) : Nat → Inl
  | 0 => inlT tl (inlW cx.wf (inlS sl noInl))
  | d + 1 => inlT tl (inlW cx.wf (inlS sl fun f args ob k =>
    match P.funcs[f]? with
    | some fn =>
      match fn.body, fn.name == "runtime.NumGoroutine" with
      | some c, false => sx P { cx with kn := ob.length } (inlZ P cx sl tl dr iv N d) dr iv N ((f + 1) * 100000) ob.length c (slots0 args fn.ntmps) ob (ret P fn.results.toList k)
      | _, _ => StuckAt "no text"
    | none => StuckAt "no function"))
def okV : List SA → List SA → Prop
  | [], [] => True
  | x :: r, y :: r' => sameA x y ∧ okV r r'
  | _, _ => StuckAt "values"
def okTs (s : TSpec) (n : Nat) (g : Nat → Nat → SC) (vs : List SA) (ob : List SO) : List SA → Prop
  | .sc (.slw o w off len cap) :: r => match ob[o]? with
    | some (.row e w' m h sp) => match Nat.beq w s.wd && Nat.beq w' s.wd && Nat.beq e s.e with
      | true => ands [off = 0, len = n, m = n, capOK s.wd m cap sp] (ands [∀ i, i < n → allC s.wd fun c => simC (h i c) (g i c)] (okV r vs))
      | false => StuckAt "row"
    | _ => StuckAt "row"
  | _ => StuckAt "result"
def okT (s : TSpec) (n : Nat) (g : Nat → Nat → SC) (vs : List SA) (sv : SV) (ob : List SO) : Prop :=
  match sv with
  | .one x => okTs s n g vs ob [x]
  | .tup [_] => False
  | .tup xs => okTs s n g vs ob xs
  | _ => False
def OwesZ (P : Program) (cx : Cx) (sl : List (Nat × SSpec)) (tl : List (Nat × TSpec)) (iv : List (Nat × Hint)) (N : Nat) (fn : Func) (args : List SA) (ob : List SO) (post : SV → List SO → Prop) : Prop :=
  sx P { cx with kn := ob.length } (inlZ P cx sl tl drawOK iv N 8) drawOK iv N 0 ob.length (fn.body.getD .skip) (slots0 args fn.ntmps) ob (ret P fn.results.toList post)
def OwesT (P : Program) (cx : Cx) (sl : List (Nat × SSpec)) (tl : List (Nat × TSpec)) (iv : List (Nat × Hint)) (N : Nat) (fn : Func) (args : List SA) (s : TSpec) (n cap sp : Nat) (g : Nat → Nat → SC) (n' : Nat) (g' : Nat → Nat → SC) (vs : List SA) : Prop :=
  OwesZ P cx sl tl iv N fn (.sc (.slw 0 s.wd 0 n cap) :: args) [.row s.e s.wd n g sp] (okT s n' g' vs)
def OwesT0 (P : Program) (cx : Cx) (sl : List (Nat × SSpec)) (tl : List (Nat × TSpec)) (iv : List (Nat × Hint)) (N : Nat) (fn : Func) (args : List SA) (s : TSpec) (n' : Nat) (g' : Nat → Nat → SC) (vs : List SA) : Prop :=
  OwesZ P cx sl tl iv N fn (.sc (.val (.slice none 0 0)) :: args) [] (okT s n' g' vs)
def OwesQ (P : Program) (cx : Cx) (sl : List (Nat × SSpec)) (tl : List (Nat × TSpec)) (iv : List (Nat × Hint)) (N : Nat) (fn : Func) (args : List SA) (sh : Bool) (rs : List RS) : Prop :=
  OwesZ P cx sl tl iv N fn args [] (okRS sh rs)
end
attribute [irreducible] OwesT OwesT0 OwesQ
end Go.Sx
end

section
namespace Go.Sx
end Go.Sx
end

section
namespace Go.Sx
end Go.Sx
end

section
namespace Go.Sx
open Go.RowKit
theorem okx_nil {P : Program} {gl : Globs} : CxOK P ⟨[], gl, 0, []⟩ := ⟨fun _ h => (by cases h), fun _ h => (by cases h)⟩
theorem okx_cons {P : Program} {gl : Globs} {f : Nat} {s : FSpec} {l : List (Nat × FSpec)} {wf : List (Nat × WSpec)} (h : FnOKg P gl f s) (hs : CxOK P ⟨l, gl, 0, wf⟩) : CxOK P ⟨(f, s) :: l, gl, 0, wf⟩ :=
  ⟨fun p hp => by
    rcases List.mem_cons.1 hp with rfl | hp
    · exact h
    · exact hs.1 p hp, hs.2⟩
theorem okx_mark {P : Program} {gl : Globs} {f : Nat} {l : List (Nat × FSpec)} {wf : List (Nat × WSpec)} (hs : CxOK P ⟨l, gl, 0, wf⟩) : CxOK P ⟨(f, fun _ => none) :: l, gl, 0, wf⟩ :=
  okx_cons (fun _ _ _ h => (by cases h)) hs
theorem oks_nil {P : Program} {gl : Globs} : ∀ p ∈ ([] : List (Nat × SSpec)), FnOKs P gl p.1 p.2 := fun _ h => (by cases h)
theorem oks_cons {P : Program} {gl : Globs} {f : Nat} {s : SSpec} {l : List (Nat × SSpec)} (h : FnOKs P gl f s) (hl : ∀ p ∈ l, FnOKs P gl p.1 p.2) : ∀ p ∈ (f, s) :: l, FnOKs P gl p.1 p.2 := fun p hp => by
  rcases List.mem_cons.1 hp with rfl | hp
  · exact h
  · exact hl p hp
end Go.Sx
end

section
namespace Go.Proofs.Ytjpddnjgbgpegaa
open Go.Sx
set_option maxRecDepth 100000
def kIn (n : Nat) (k : Nat → Nat → Int) (e : Nat → Int) : Bool := (List.range n).any fun j => (List.range 20).all fun c => e c == k j c
def kDis (n : Nat) (k : Nat → Nat → Int) : Bool := (List.range n).all fun j => !kIn j k (k j)
def sXk (a : Option Addr) (n cap : Nat) (k : Nat → Nat → Int) : SA := .sc (.xs a n cap 20 (u8F k))
def sKy (e : Nat → Int) : SA := .agg [.f .u8 20 e]
def setF (I U : Nat → Int) (A : Nat → Option Addr) (N C : Nat → Nat) (K : Nat → Nat → Nat → Int) (i c : Nat) : SC :=
  match c with
  | 0 => .val (.int .i64 (I i))
  | 1 => .xs (A i) (N i) (C i) 20 (u8F (K i))
  | _ => .val (.int .i64 (U i))
def invIx (a : Option Addr) (n cap : Nat) (k : Nat → Nat → Int) (e : Nat → Int) : Inv where
  X := Nat
  tm i := slotsAt 19 [(0, .one (sXk a n cap k)), (3, .one (.sc (.ptr 1 0))), (7, .one (sI .i64 (n : Int))), (8, .one (sI .i64 (i : Int)))]
  ob _ := [.dead, .cells 71 [.f .u8 20 e] 0]
  holds i := i ≤ n ∧ kIn i k e = false
  less i := n - i
def invLk (a : Option Addr) (n cap : Nat) (k : Nat → Nat → Int) : Inv where
  X := Nat
  tm i := slotsAt 26 [(0, .one (sXk a n cap k)), (13, .one (sXk a n cap k)), (14, .one (sI .i64 (n : Int))), (15, .one (sI .i64 (i : Int)))]
  ob _ := []
  holds i := i ≤ n ∧ kDis i k = true
  less i := n - i
def pqKy : List AQ := [.one (.x 20), .st [.y 20]]
structure kyP (a : Option Addr) (n : Nat) (f : Nat → Nat → SC) : Prop where
  kf : f = u8F (kOf f)
  kn : n ≤ maxLen
  ka : a = none → n = 0
  kr : ∀ i, i < n → ∀ c, c < 20 → 0 ≤ kOf f i c ∧ kOf f i c < 256
def ctC : List (List FD) → List Prop
  | [[.x a n _ f], [.y _]] => [kyP a n f]
  | _ => [False]
def ctG : List (List FD) → List RS
  | [[.x _ n _ f], [.y e]] => [.v (sB (kIn n (kOf f) e))]
  | _ => []
def cCt : SSpec := specQ false pqKy id ctC ctG
def slCt : List (Nat × SSpec) := [(44, cCt)]
theorem vc_lk (a : Option Addr) (n cap : Nat) (k : Nat → Nat → Int) (r : Int) :
    OwesR Try.prog .none slCt [(4, .inv (invLk a n cap k))] 12 Try.f31 [sXk a n cap k] false [.v (sI .i64 r)] =
    (let x1 : Bool := Decidable.decide ((↑n : Int) < (1 : Int)); ((!x1) = Bool.true → (!x1) = Bool.true) ∧ ((!x1) = Bool.true → (!x1) = Bool.true) ∧ (x1 = Bool.false → (!x1) = Bool.true) ∧ ((x1 || Decidable.decide ((↑n : Int) > (19 : Int))) = Bool.true → (1 : Int) = r) ∧ ((x1 || Decidable.decide ((↑n : Int) > (19 : Int))) = Bool.false → (∀ (y : Nat), closedB (slotsAt 26 [(0, SV.one (sXk a n cap k)), (13, SV.one (sXk a n cap k)), (14, SV.one (sI Go.IntKind.i64 (↑n : Int))), (15, SV.one (sI Go.IntKind.i64 (↑y : Int)))]) [] = Bool.true) ∧ ∃ (y : Nat), (y ≤ n ∧ kDis y k = Bool.true) ∧ (a = a ∧ n = n ∧ cap = cap ∧ ∀ (i : Nat), i < n → simC (u8F k i 0) (u8F k i 0) ∧ simC (u8F k i 1) (u8F k i 1) ∧ simC (u8F k i 2) (u8F k i 2) ∧ simC (u8F k i 3) (u8F k i 3) ∧ simC (u8F k i 4) (u8F k i 4) ∧ simC (u8F k i 5) (u8F k i 5) ∧ simC (u8F k i 6) (u8F k i 6) ∧ simC (u8F k i 7) (u8F k i 7) ∧ simC (u8F k i 8) (u8F k i 8) ∧ simC (u8F k i 9) (u8F k i 9) ∧ simC (u8F k i 10) (u8F k i 10) ∧ simC (u8F k i 11) (u8F k i 11) ∧ simC (u8F k i 12) (u8F k i 12) ∧ simC (u8F k i 13) (u8F k i 13) ∧ simC (u8F k i 14) (u8F k i 14) ∧ simC (u8F k i 15) (u8F k i 15) ∧ simC (u8F k i 16) (u8F k i 16) ∧ simC (u8F k i 17) (u8F k i 17) ∧ simC (u8F k i 18) (u8F k i 18) ∧ k i 19 = k i 19) ∧ (a = a ∧ n = n ∧ cap = cap ∧ ∀ (i : Nat), i < n → simC (u8F k i 0) (u8F k i 0) ∧ simC (u8F k i 1) (u8F k i 1) ∧ simC (u8F k i 2) (u8F k i 2) ∧ simC (u8F k i 3) (u8F k i 3) ∧ simC (u8F k i 4) (u8F k i 4) ∧ simC (u8F k i 5) (u8F k i 5) ∧ simC (u8F k i 6) (u8F k i 6) ∧ simC (u8F k i 7) (u8F k i 7) ∧ simC (u8F k i 8) (u8F k i 8) ∧ simC (u8F k i 9) (u8F k i 9) ∧ simC (u8F k i 10) (u8F k i 10) ∧ simC (u8F k i 11) (u8F k i 11) ∧ simC (u8F k i 12) (u8F k i 12) ∧ simC (u8F k i 13) (u8F k i 13) ∧ simC (u8F k i 14) (u8F k i 14) ∧ simC (u8F k i 15) (u8F k i 15) ∧ simC (u8F k i 16) (u8F k i 16) ∧ simC (u8F k i 17) (u8F k i 17) ∧ simC (u8F k i 18) (u8F k i 18) ∧ k i 19 = k i 19) ∧ (↑n : Int) = (↑n : Int) ∧ (0 : Int) = (↑y : Int) ∧ ∀ (y : Nat), y ≤ n ∧ kDis y k = Bool.true → (Decidable.decide ((↑y : Int) < (↑n : Int)) = Bool.true → ((0 : Int) ≤ (↑y : Int) ∧ (↑y : Int) < (↑n : Int)) ∧ ((0 : Int) ≤ (↑y : Int) ∧ (↑y : Int) ≤ (↑n : Int)) ∧ a = a ∧ (↑y : Int).toNat = (↑y : Int).toNat ∧ cap = cap ∧ (∀ (i : Nat), i < (↑y : Int).toNat → k i 0 = k i 0 ∧ k i 1 = k i 1 ∧ k i 2 = k i 2 ∧ k i 3 = k i 3 ∧ k i 4 = k i 4 ∧ k i 5 = k i 5 ∧ k i 6 = k i 6 ∧ k i 7 = k i 7 ∧ k i 8 = k i 8 ∧ k i 9 = k i 9 ∧ k i 10 = k i 10 ∧ k i 11 = k i 11 ∧ k i 12 = k i 12 ∧ k i 13 = k i 13 ∧ k i 14 = k i 14 ∧ k i 15 = k i 15 ∧ k i 16 = k i 16 ∧ k i 17 = k i 17 ∧ k i 18 = k i 18 ∧ k i 19 = k i 19) ∧ (∀ (j : Nat), j < 20 → k (↑y : Int).toNat (0 + j) = k (↑y : Int).toNat (0 + j)) ∧ kyP a (↑y : Int).toNat (u8F k) ∧ ((kIn (↑y : Int).toNat (kOf (u8F k)) fun (j : Nat) => k (↑y : Int).toNat (0 + j)) = Bool.true → (8 : Int) = r) ∧ ((kIn (↑y : Int).toNat (kOf (u8F k)) fun (j : Nat) => k (↑y : Int).toNat (0 + j)) = Bool.false → ∃ (y' : Nat), (y' ≤ n ∧ kDis y' k = Bool.true) ∧ (a = a ∧ n = n ∧ cap = cap ∧ ∀ (i : Nat), i < n → simC (u8F k i 0) (u8F k i 0) ∧ simC (u8F k i 1) (u8F k i 1) ∧ simC (u8F k i 2) (u8F k i 2) ∧ simC (u8F k i 3) (u8F k i 3) ∧ simC (u8F k i 4) (u8F k i 4) ∧ simC (u8F k i 5) (u8F k i 5) ∧ simC (u8F k i 6) (u8F k i 6) ∧ simC (u8F k i 7) (u8F k i 7) ∧ simC (u8F k i 8) (u8F k i 8) ∧ simC (u8F k i 9) (u8F k i 9) ∧ simC (u8F k i 10) (u8F k i 10) ∧ simC (u8F k i 11) (u8F k i 11) ∧ simC (u8F k i 12) (u8F k i 12) ∧ simC (u8F k i 13) (u8F k i 13) ∧ simC (u8F k i 14) (u8F k i 14) ∧ simC (u8F k i 15) (u8F k i 15) ∧ simC (u8F k i 16) (u8F k i 16) ∧ simC (u8F k i 17) (u8F k i 17) ∧ simC (u8F k i 18) (u8F k i 18) ∧ k i 19 = k i 19) ∧ (a = a ∧ n = n ∧ cap = cap ∧ ∀ (i : Nat), i < n → simC (u8F k i 0) (u8F k i 0) ∧ simC (u8F k i 1) (u8F k i 1) ∧ simC (u8F k i 2) (u8F k i 2) ∧ simC (u8F k i 3) (u8F k i 3) ∧ simC (u8F k i 4) (u8F k i 4) ∧ simC (u8F k i 5) (u8F k i 5) ∧ simC (u8F k i 6) (u8F k i 6) ∧ simC (u8F k i 7) (u8F k i 7) ∧ simC (u8F k i 8) (u8F k i 8) ∧ simC (u8F k i 9) (u8F k i 9) ∧ simC (u8F k i 10) (u8F k i 10) ∧ simC (u8F k i 11) (u8F k i 11) ∧ simC (u8F k i 12) (u8F k i 12) ∧ simC (u8F k i 13) (u8F k i 13) ∧ simC (u8F k i 14) (u8F k i 14) ∧ simC (u8F k i 15) (u8F k i 15) ∧ simC (u8F k i 16) (u8F k i 16) ∧ simC (u8F k i 17) (u8F k i 17) ∧ simC (u8F k i 18) (u8F k i 18) ∧ k i 19 = k i 19) ∧ (↑n : Int) = (↑n : Int) ∧ Go.IntKind.i64.wrap ((↑y : Int) + (1 : Int)) = (↑y' : Int) ∧ (n - y').succ.le (n - y))) ∧ (Decidable.decide ((↑y : Int) < (↑n : Int)) = Bool.false → (0 : Int) = r))) := by kernel_rfl
theorem vc_ix (a : Option Addr) (n cap : Nat) (k : Nat → Nat → Int) (e : Nat → Int) (b : Bool) :
    OwesR Try.prog .none [] [((55 + 1) * 100000 + 2, .inv (invIx a n cap k e))] 12 Try.f44 [sXk a n cap k, sKy e] false [.v (sB b)] =
    ((∀ (y : Nat), closedB (slotsAt 19 [(0, SV.one (sXk a n cap k)), (3, SV.one (SA.sc (SC.ptr 1 0))), (7, SV.one (sI Go.IntKind.i64 (↑n : Int))), (8, SV.one (sI Go.IntKind.i64 (↑y : Int)))]) [SO.dead, SO.cells (71 : Go.TypeId) [SK.f Go.IntKind.u8 20 e] 0] = Bool.true) ∧ ∃ (y : Nat), (y ≤ n ∧ kIn y k e = Bool.false) ∧ (a = a ∧ n = n ∧ cap = cap ∧ ∀ (i : Nat), i < n → simC (u8F k i 0) (u8F k i 0) ∧ simC (u8F k i 1) (u8F k i 1) ∧ simC (u8F k i 2) (u8F k i 2) ∧ simC (u8F k i 3) (u8F k i 3) ∧ simC (u8F k i 4) (u8F k i 4) ∧ simC (u8F k i 5) (u8F k i 5) ∧ simC (u8F k i 6) (u8F k i 6) ∧ simC (u8F k i 7) (u8F k i 7) ∧ simC (u8F k i 8) (u8F k i 8) ∧ simC (u8F k i 9) (u8F k i 9) ∧ simC (u8F k i 10) (u8F k i 10) ∧ simC (u8F k i 11) (u8F k i 11) ∧ simC (u8F k i 12) (u8F k i 12) ∧ simC (u8F k i 13) (u8F k i 13) ∧ simC (u8F k i 14) (u8F k i 14) ∧ simC (u8F k i 15) (u8F k i 15) ∧ simC (u8F k i 16) (u8F k i 16) ∧ simC (u8F k i 17) (u8F k i 17) ∧ simC (u8F k i 18) (u8F k i 18) ∧ k i 19 = k i 19) ∧ (↑n : Int) = (↑n : Int) ∧ (0 : Int) = (↑y : Int) ∧ ((∀ (j : Nat), j < 20 → e j = e j) ∧ True) ∧ 0 = 0 ∧ ∀ (y : Nat), y ≤ n ∧ kIn y k e = Bool.false → (Decidable.decide ((↑y : Int) < (↑n : Int)) = Bool.true → ((0 : Int) ≤ (↑y : Int) ∧ (↑y : Int) < (↑n : Int)) ∧ (conj [(List.range 20).all fun (j : Nat) => e j == k (↑y : Int).toNat (0 + j)] = Bool.true → Decidable.decide ((↑y : Int) ≥ (0 : Int)) = b) ∧ (conj [(List.range 20).all fun (j : Nat) => e j == k (↑y : Int).toNat (0 + j)] = Bool.false → ∃ (y' : Nat), (y' ≤ n ∧ kIn y' k e = Bool.false) ∧ (a = a ∧ n = n ∧ cap = cap ∧ ∀ (i : Nat), i < n → simC (u8F k i 0) (u8F k i 0) ∧ simC (u8F k i 1) (u8F k i 1) ∧ simC (u8F k i 2) (u8F k i 2) ∧ simC (u8F k i 3) (u8F k i 3) ∧ simC (u8F k i 4) (u8F k i 4) ∧ simC (u8F k i 5) (u8F k i 5) ∧ simC (u8F k i 6) (u8F k i 6) ∧ simC (u8F k i 7) (u8F k i 7) ∧ simC (u8F k i 8) (u8F k i 8) ∧ simC (u8F k i 9) (u8F k i 9) ∧ simC (u8F k i 10) (u8F k i 10) ∧ simC (u8F k i 11) (u8F k i 11) ∧ simC (u8F k i 12) (u8F k i 12) ∧ simC (u8F k i 13) (u8F k i 13) ∧ simC (u8F k i 14) (u8F k i 14) ∧ simC (u8F k i 15) (u8F k i 15) ∧ simC (u8F k i 16) (u8F k i 16) ∧ simC (u8F k i 17) (u8F k i 17) ∧ simC (u8F k i 18) (u8F k i 18) ∧ k i 19 = k i 19) ∧ (↑n : Int) = (↑n : Int) ∧ Go.IntKind.i64.wrap ((↑y : Int) + (1 : Int)) = (↑y' : Int) ∧ ((∀ (j : Nat), j < 20 → e j = e j) ∧ True) ∧ 0 = 0 ∧ (n - y').succ.le (n - y))) ∧ (Decidable.decide ((↑y : Int) < (↑n : Int)) = Bool.false → Decidable.decide ((-1 : Int) ≥ (0 : Int)) = b)) := by kernel_rfl
end Go.Proofs.Ytjpddnjgbgpegaa
end

section
namespace Go.Proofs.Ytjpddnjgbgpegaa
open Go.Sx
set_option maxRecDepth 100000
def kyE (n : Nat) (k : Nat → Nat → Int) : Int := if n < 1 ∨ 19 < n then 1 else if kDis n k then 0 else 8
def lkC : List (List FD) → List Prop
  | [[.x a n _ f]] => [kyP a n f]
  | _ => [False]
def lkG : List (List FD) → List RS
  | [[.x _ n _ f]] => [.v (sI .i64 (kyE n (kOf f)))]
  | _ => []
def cLk : SSpec := specQ false [.one (.x 20)] id lkC lkG
def sXs (a : Option Addr) (n cap : Nat) (I U : Nat → Int) (A : Nat → Option Addr) (N C : Nat → Nat) (K : Nat → Nat → Nat → Int) : SA := .sc (.xs a n cap 3 (setF I U A N C K))
def slSc : List (Nat × SSpec) := [(31, cLk)]
def invSc (a : Option Addr) (n cap : Nat) (I U : Nat → Int) (A : Nat → Option Addr) (N C : Nat → Nat) (K : Nat → Nat → Nat → Int) (P : Nat → Prop) : Inv where
  X := Nat
  tm i := slotsAt 38 [(0, .one (sXs a n cap I U A N C K)), (14, .one (sXs a n cap I U A N C K)), (15, .one (sI .i64 (n : Int))), (16, .one (sI .i64 (i : Int)))]
  ob _ := []
  holds i := i ≤ n ∧ P i
  less i := n - i
def cxSc : Cx := ⟨[(1000000014, fun _ => none)], [], 0, []⟩
def slSf : List (Nat × SSpec) := [(33, cLk)]
def invSf (a : Option Addr) (n cap : Nat) (I U : Nat → Int) (A : Nat → Option Addr) (N C : Nat → Nat) (K : Nat → Nat → Nat → Int) (P : Nat → Prop) : Inv where
  X := Nat
  tm i := slotsAt 69 [(0, .one (sXs a n cap I U A N C K)), (3, .one (sI .i64 (if i = 0 then 0 else U (i - 1)))), (16, .one (sXs a n cap I U A N C K)), (17, .one (sI .i64 (n : Int))), (18, .one (sI .i64 (i : Int)))]
  ob _ := []
  holds i := i ≤ n ∧ P i
  less i := n - i
theorem vc_sck (a : Option Addr) (n cap : Nat) (I U : Nat → Int) (A : Nat → Option Addr) (N C : Nat → Nat) (K : Nat → Nat → Nat → Int) (P : Nat → Prop) (r : Int) :
    OwesR Try.prog cxSc slSc [(4, .inv (invSc a n cap I U A N C K P))] 20 Try.f13 [sXs a n cap I U A N C K] false [.v (sI .i64 r)] =
    (let x1 : Bool := Decidable.decide ((↑n : Int) < (1 : Int)); ((!x1) = Bool.true → (!x1) = Bool.true) ∧ ((!x1) = Bool.true → (!x1) = Bool.true) ∧ (x1 = Bool.false → (!x1) = Bool.true) ∧ ((x1 || Decidable.decide ((↑n : Int) > (8 : Int))) = Bool.true → (1 : Int) = r) ∧ ((x1 || Decidable.decide ((↑n : Int) > (8 : Int))) = Bool.false → (∀ (y : Nat), closedB (slotsAt 38 [(0, SV.one (sXs a n cap I U A N C K)), (14, SV.one (sXs a n cap I U A N C K)), (15, SV.one (sI Go.IntKind.i64 (↑n : Int))), (16, SV.one (sI Go.IntKind.i64 (↑y : Int)))]) [] = Bool.true) ∧ ∃ (y : Nat), (y ≤ n ∧ P y) ∧ (a = a ∧ n = n ∧ cap = cap ∧ ∀ (i : Nat), i < n → simC (setF I U A N C K i 0) (setF I U A N C K i 0) ∧ simC (setF I U A N C K i 1) (setF I U A N C K i 1) ∧ U i = U i) ∧ (a = a ∧ n = n ∧ cap = cap ∧ ∀ (i : Nat), i < n → simC (setF I U A N C K i 0) (setF I U A N C K i 0) ∧ simC (setF I U A N C K i 1) (setF I U A N C K i 1) ∧ U i = U i) ∧ (↑n : Int) = (↑n : Int) ∧ (0 : Int) = (↑y : Int) ∧ ∀ (y : Nat), y ≤ n ∧ P y → (Decidable.decide ((↑y : Int) < (↑n : Int)) = Bool.true → ((0 : Int) ≤ (↑y : Int) ∧ (↑y : Int) < (↑n : Int)) ∧ A (↑y : Int).toNat = A (↑y : Int).toNat ∧ N (↑y : Int).toNat = N (↑y : Int).toNat ∧ C (↑y : Int).toNat = C (↑y : Int).toNat ∧ (∀ (i : Nat), i < N (↑y : Int).toNat → K (↑y : Int).toNat i 0 = K (↑y : Int).toNat i 0 ∧ K (↑y : Int).toNat i 1 = K (↑y : Int).toNat i 1 ∧ K (↑y : Int).toNat i 2 = K (↑y : Int).toNat i 2 ∧ K (↑y : Int).toNat i 3 = K (↑y : Int).toNat i 3 ∧ K (↑y : Int).toNat i 4 = K (↑y : Int).toNat i 4 ∧ K (↑y : Int).toNat i 5 = K (↑y : Int).toNat i 5 ∧ K (↑y : Int).toNat i 6 = K (↑y : Int).toNat i 6 ∧ K (↑y : Int).toNat i 7 = K (↑y : Int).toNat i 7 ∧ K (↑y : Int).toNat i 8 = K (↑y : Int).toNat i 8 ∧ K (↑y : Int).toNat i 9 = K (↑y : Int).toNat i 9 ∧ K (↑y : Int).toNat i 10 = K (↑y : Int).toNat i 10 ∧ K (↑y : Int).toNat i 11 = K (↑y : Int).toNat i 11 ∧ K (↑y : Int).toNat i 12 = K (↑y : Int).toNat i 12 ∧ K (↑y : Int).toNat i 13 = K (↑y : Int).toNat i 13 ∧ K (↑y : Int).toNat i 14 = K (↑y : Int).toNat i 14 ∧ K (↑y : Int).toNat i 15 = K (↑y : Int).toNat i 15 ∧ K (↑y : Int).toNat i 16 = K (↑y : Int).toNat i 16 ∧ K (↑y : Int).toNat i 17 = K (↑y : Int).toNat i 17 ∧ K (↑y : Int).toNat i 18 = K (↑y : Int).toNat i 18 ∧ K (↑y : Int).toNat i 19 = K (↑y : Int).toNat i 19) ∧ kyP (A (↑y : Int).toNat) (N (↑y : Int).toNat) (u8F (K (↑y : Int).toNat)) ∧ ((kyE (N (↑y : Int).toNat) (kOf (u8F (K (↑y : Int).toNat))) != (0 : Int)) = Bool.true → kyE (N (↑y : Int).toNat) (kOf (u8F (K (↑y : Int).toNat))) = r) ∧ ((kyE (N (↑y : Int).toNat) (kOf (u8F (K (↑y : Int).toNat))) != (0 : Int)) = Bool.false → ((!I (↑y : Int).toNat != (↑y : Int)) = Bool.true → (!I (↑y : Int).toNat != (↑y : Int)) = Bool.true ∧ (!I (↑y : Int).toNat != (↑y : Int)) = Bool.true ∧ ((0 : Int) ≤ (↑y : Int) ∧ (↑y : Int) < (↑n : Int)) ∧ (((↑y : Int) == Go.IntKind.i64.wrap ((↑n : Int) - (1 : Int))) = Bool.true → ((!U (↑y : Int).toNat == (0 : Int)) = Bool.true → (12 : Int) = r) ∧ ((!U (↑y : Int).toNat == (0 : Int)) = Bool.false → ∃ (y' : Nat), (y' ≤ n ∧ P y') ∧ (a = a ∧ n = n ∧ cap = cap ∧ ∀ (i : Nat), i < n → simC (setF I U A N C K i 0) (setF I U A N C K i 0) ∧ simC (setF I U A N C K i 1) (setF I U A N C K i 1) ∧ U i = U i) ∧ (a = a ∧ n = n ∧ cap = cap ∧ ∀ (i : Nat), i < n → simC (setF I U A N C K i 0) (setF I U A N C K i 0) ∧ simC (setF I U A N C K i 1) (setF I U A N C K i 1) ∧ U i = U i) ∧ (↑n : Int) = (↑n : Int) ∧ Go.IntKind.i64.wrap ((↑y : Int) + (1 : Int)) = (↑y' : Int) ∧ (n - y').succ.le (n - y))) ∧ (((↑y : Int) == Go.IntKind.i64.wrap ((↑n : Int) - (1 : Int))) = Bool.false → (((↑y : Int) == (0 : Int)) = Bool.true → (Decidable.decide (U (↑y : Int).toNat ≥ (1 : Int)) = Bool.true → Decidable.decide (U (↑y : Int).toNat ≥ (1 : Int)) = Bool.true) ∧ (Decidable.decide (U (↑y : Int).toNat ≥ (1 : Int)) = Bool.true → Decidable.decide (U (↑y : Int).toNat ≥ (1 : Int)) = Bool.true) ∧ ((!(Decidable.decide (U (↑y : Int).toNat ≥ (1 : Int)) && Decidable.decide (U (↑y : Int).toNat ≤ (1099511627800 : Int)))) = Bool.true → (12 : Int) = r) ∧ ((!(Decidable.decide (U (↑y : Int).toNat ≥ (1 : Int)) && Decidable.decide (U (↑y : Int).toNat ≤ (1099511627800 : Int)))) = Bool.false → ∃ (y' : Nat), (y' ≤ n ∧ P y') ∧ (a = a ∧ n = n ∧ cap = cap ∧ ∀ (i : Nat), i < n → simC (setF I U A N C K i 0) (setF I U A N C K i 0) ∧ simC (setF I U A N C K i 1) (setF I U A N C K i 1) ∧ U i = U i) ∧ (a = a ∧ n = n ∧ cap = cap ∧ ∀ (i : Nat), i < n → simC (setF I U A N C K i 0) (setF I U A N C K i 0) ∧ simC (setF I U A N C K i 1) (setF I U A N C K i 1) ∧ U i = U i) ∧ (↑n : Int) = (↑n : Int) ∧ Go.IntKind.i64.wrap ((↑y : Int) + (1 : Int)) = (↑y' : Int) ∧ (n - y').succ.le (n - y))) ∧ (((↑y : Int) == (0 : Int)) = Bool.false → ((0 : Int) ≤ Go.IntKind.i64.wrap ((↑y : Int) - (1 : Int)) ∧ Go.IntKind.i64.wrap ((↑y : Int) - (1 : Int)) < (↑n : Int)) ∧ (Decidable.decide (U (↑y : Int).toNat ≥ U (Go.IntKind.i64.wrap ((↑y : Int) - (1 : Int))).toNat) = Bool.true → Decidable.decide (U (↑y : Int).toNat ≥ U (Go.IntKind.i64.wrap ((↑y : Int) - (1 : Int))).toNat) = Bool.true) ∧ (Decidable.decide (U (↑y : Int).toNat ≥ U (Go.IntKind.i64.wrap ((↑y : Int) - (1 : Int))).toNat) = Bool.true → Decidable.decide (U (↑y : Int).toNat ≥ U (Go.IntKind.i64.wrap ((↑y : Int) - (1 : Int))).toNat) = Bool.true) ∧ ((!(Decidable.decide (U (↑y : Int).toNat ≥ U (Go.IntKind.i64.wrap ((↑y : Int) - (1 : Int))).toNat) && Decidable.decide (U (↑y : Int).toNat ≤ (1099511627800 : Int)))) = Bool.true → (12 : Int) = r) ∧ ((!(Decidable.decide (U (↑y : Int).toNat ≥ U (Go.IntKind.i64.wrap ((↑y : Int) - (1 : Int))).toNat) && Decidable.decide (U (↑y : Int).toNat ≤ (1099511627800 : Int)))) = Bool.false → ∃ (y' : Nat), (y' ≤ n ∧ P y') ∧ (a = a ∧ n = n ∧ cap = cap ∧ ∀ (i : Nat), i < n → simC (setF I U A N C K i 0) (setF I U A N C K i 0) ∧ simC (setF I U A N C K i 1) (setF I U A N C K i 1) ∧ U i = U i) ∧ (a = a ∧ n = n ∧ cap = cap ∧ ∀ (i : Nat), i < n → simC (setF I U A N C K i 0) (setF I U A N C K i 0) ∧ simC (setF I U A N C K i 1) (setF I U A N C K i 1) ∧ U i = U i) ∧ (↑n : Int) = (↑n : Int) ∧ Go.IntKind.i64.wrap ((↑y : Int) + (1 : Int)) = (↑y' : Int) ∧ (n - y').succ.le (n - y))))) ∧ ((!I (↑y : Int).toNat != (↑y : Int)) = Bool.false → (12 : Int) = r))) ∧ (Decidable.decide ((↑y : Int) < (↑n : Int)) = Bool.false → (0 : Int) = r))) := by kernel_rfl
theorem vc_rsf (a : Option Addr) (n cap : Nat) (I U : Nat → Int) (A : Nat → Option Addr) (N C : Nat → Nat) (K : Nat → Nat → Nat → Int) (P : Nat → Prop) (r : Int) :
    OwesR Try.prog cxSc slSf [(5, .inv (invSf a n cap I U A N C K P))] 20 Try.f14 [sXs a n cap I U A N C K] false [.v (sI .i64 r)] =
    (let x1 : Bool := (↑n : Int) == (0 : Int); ((!x1) = Bool.true → (!x1) = Bool.true) ∧ ((!x1) = Bool.true → (!x1) = Bool.true) ∧ (x1 = Bool.false → (!x1) = Bool.true) ∧ ((x1 || Decidable.decide ((↑n : Int) > (8 : Int))) = Bool.true → (1 : Int) = r) ∧ ((x1 || Decidable.decide ((↑n : Int) > (8 : Int))) = Bool.false → (∀ (y : Nat), closedB (slotsAt 69 [(0, SV.one (sXs a n cap I U A N C K)), (3, SV.one (sI Go.IntKind.i64 (if y = 0 then (0 : Int) else U (y - 1)))), (16, SV.one (sXs a n cap I U A N C K)), (17, SV.one (sI Go.IntKind.i64 (↑n : Int))), (18, SV.one (sI Go.IntKind.i64 (↑y : Int)))]) [] = Bool.true) ∧ ∃ (y : Nat), (y ≤ n ∧ P y) ∧ (a = a ∧ n = n ∧ cap = cap ∧ ∀ (i : Nat), i < n → simC (setF I U A N C K i 0) (setF I U A N C K i 0) ∧ simC (setF I U A N C K i 1) (setF I U A N C K i 1) ∧ U i = U i) ∧ ((0 : Int) = if y = 0 then (0 : Int) else U (y - 1)) ∧ (a = a ∧ n = n ∧ cap = cap ∧ ∀ (i : Nat), i < n → simC (setF I U A N C K i 0) (setF I U A N C K i 0) ∧ simC (setF I U A N C K i 1) (setF I U A N C K i 1) ∧ U i = U i) ∧ (↑n : Int) = (↑n : Int) ∧ (0 : Int) = (↑y : Int) ∧ ∀ (y : Nat), y ≤ n ∧ P y → (Decidable.decide ((↑y : Int) < (↑n : Int)) = Bool.true → ((0 : Int) ≤ (↑y : Int) ∧ (↑y : Int) < (↑n : Int)) ∧ A (↑y : Int).toNat = A (↑y : Int).toNat ∧ N (↑y : Int).toNat = N (↑y : Int).toNat ∧ C (↑y : Int).toNat = C (↑y : Int).toNat ∧ (∀ (i : Nat), i < N (↑y : Int).toNat → K (↑y : Int).toNat i 0 = K (↑y : Int).toNat i 0 ∧ K (↑y : Int).toNat i 1 = K (↑y : Int).toNat i 1 ∧ K (↑y : Int).toNat i 2 = K (↑y : Int).toNat i 2 ∧ K (↑y : Int).toNat i 3 = K (↑y : Int).toNat i 3 ∧ K (↑y : Int).toNat i 4 = K (↑y : Int).toNat i 4 ∧ K (↑y : Int).toNat i 5 = K (↑y : Int).toNat i 5 ∧ K (↑y : Int).toNat i 6 = K (↑y : Int).toNat i 6 ∧ K (↑y : Int).toNat i 7 = K (↑y : Int).toNat i 7 ∧ K (↑y : Int).toNat i 8 = K (↑y : Int).toNat i 8 ∧ K (↑y : Int).toNat i 9 = K (↑y : Int).toNat i 9 ∧ K (↑y : Int).toNat i 10 = K (↑y : Int).toNat i 10 ∧ K (↑y : Int).toNat i 11 = K (↑y : Int).toNat i 11 ∧ K (↑y : Int).toNat i 12 = K (↑y : Int).toNat i 12 ∧ K (↑y : Int).toNat i 13 = K (↑y : Int).toNat i 13 ∧ K (↑y : Int).toNat i 14 = K (↑y : Int).toNat i 14 ∧ K (↑y : Int).toNat i 15 = K (↑y : Int).toNat i 15 ∧ K (↑y : Int).toNat i 16 = K (↑y : Int).toNat i 16 ∧ K (↑y : Int).toNat i 17 = K (↑y : Int).toNat i 17 ∧ K (↑y : Int).toNat i 18 = K (↑y : Int).toNat i 18 ∧ K (↑y : Int).toNat i 19 = K (↑y : Int).toNat i 19) ∧ kyP (A (↑y : Int).toNat) (N (↑y : Int).toNat) (u8F (K (↑y : Int).toNat)) ∧ ((kyE (N (↑y : Int).toNat) (kOf (u8F (K (↑y : Int).toNat))) != (0 : Int)) = Bool.true → kyE (N (↑y : Int).toNat) (kOf (u8F (K (↑y : Int).toNat))) = r) ∧ ((kyE (N (↑y : Int).toNat) (kOf (u8F (K (↑y : Int).toNat))) != (0 : Int)) = Bool.false → ((!I (↑y : Int).toNat != (↑y : Int)) = Bool.true → (!I (↑y : Int).toNat != (↑y : Int)) = Bool.true) ∧ ((!I (↑y : Int).toNat != (↑y : Int) && Go.IntKind.i64.wrap ((↑y : Int) + (1 : Int)) == (↑n : Int)) = Bool.true → (!I (↑y : Int).toNat != (↑y : Int) && Go.IntKind.i64.wrap ((↑y : Int) + (1 : Int)) == (↑n : Int)) = Bool.true) ∧ ((!I (↑y : Int).toNat != (↑y : Int) && Go.IntKind.i64.wrap ((↑y : Int) + (1 : Int)) == (↑n : Int)) = Bool.true → (!I (↑y : Int).toNat != (↑y : Int) && Go.IntKind.i64.wrap ((↑y : Int) + (1 : Int)) == (↑n : Int)) = Bool.true) ∧ ((!I (↑y : Int).toNat != (↑y : Int)) = Bool.true → (!I (↑y : Int).toNat != (↑y : Int)) = Bool.true) ∧ ((!I (↑y : Int).toNat != (↑y : Int)) = Bool.true → (Go.IntKind.i64.wrap ((↑y : Int) + (1 : Int)) == (↑n : Int)) = Bool.true → (!I (↑y : Int).toNat != (↑y : Int) && Go.IntKind.i64.wrap ((↑y : Int) + (1 : Int)) == (↑n : Int)) = Bool.true) ∧ ((I (↑y : Int).toNat != (↑y : Int)) = Bool.false → (!I (↑y : Int).toNat != (↑y : Int)) = Bool.true) ∧ ((!(I (↑y : Int).toNat != (↑y : Int) || Go.IntKind.i64.wrap ((↑y : Int) + (1 : Int)) == (↑n : Int) && U (↑y : Int).toNat != (0 : Int))) = Bool.true → (!(I (↑y : Int).toNat != (↑y : Int) || Go.IntKind.i64.wrap ((↑y : Int) + (1 : Int)) == (↑n : Int) && U (↑y : Int).toNat != (0 : Int))) = Bool.true) ∧ ((!(I (↑y : Int).toNat != (↑y : Int) || Go.IntKind.i64.wrap ((↑y : Int) + (1 : Int)) == (↑n : Int) && U (↑y : Int).toNat != (0 : Int))) = Bool.true → (!(I (↑y : Int).toNat != (↑y : Int) || Go.IntKind.i64.wrap ((↑y : Int) + (1 : Int)) == (↑n : Int) && U (↑y : Int).toNat != (0 : Int))) = Bool.true) ∧ ((!(I (↑y : Int).toNat != (↑y : Int) || Go.IntKind.i64.wrap ((↑y : Int) + (1 : Int)) == (↑n : Int) && U (↑y : Int).toNat != (0 : Int)) && !Go.IntKind.i64.wrap ((↑y : Int) + (1 : Int)) == (↑n : Int)) = Bool.true → (!(I (↑y : Int).toNat != (↑y : Int) || Go.IntKind.i64.wrap ((↑y : Int) + (1 : Int)) == (↑n : Int) && U (↑y : Int).toNat != (0 : Int)) && !Go.IntKind.i64.wrap ((↑y : Int) + (1 : Int)) == (↑n : Int)) = Bool.true) ∧ ((!(I (↑y : Int).toNat != (↑y : Int) || Go.IntKind.i64.wrap ((↑y : Int) + (1 : Int)) == (↑n : Int) && U (↑y : Int).toNat != (0 : Int)) && !Go.IntKind.i64.wrap ((↑y : Int) + (1 : Int)) == (↑n : Int)) = Bool.true → (!(I (↑y : Int).toNat != (↑y : Int) || Go.IntKind.i64.wrap ((↑y : Int) + (1 : Int)) == (↑n : Int) && U (↑y : Int).toNat != (0 : Int)) && !Go.IntKind.i64.wrap ((↑y : Int) + (1 : Int)) == (↑n : Int)) = Bool.true) ∧ ((!(I (↑y : Int).toNat != (↑y : Int) || Go.IntKind.i64.wrap ((↑y : Int) + (1 : Int)) == (↑n : Int) && U (↑y : Int).toNat != (0 : Int)) && !Go.IntKind.i64.wrap ((↑y : Int) + (1 : Int)) == (↑n : Int)) = Bool.true → (!(I (↑y : Int).toNat != (↑y : Int) || Go.IntKind.i64.wrap ((↑y : Int) + (1 : Int)) == (↑n : Int) && U (↑y : Int).toNat != (0 : Int)) && !Go.IntKind.i64.wrap ((↑y : Int) + (1 : Int)) == (↑n : Int)) = Bool.true) ∧ ((!(I (↑y : Int).toNat != (↑y : Int) || Go.IntKind.i64.wrap ((↑y : Int) + (1 : Int)) == (↑n : Int) && U (↑y : Int).toNat != (0 : Int)) && !Go.IntKind.i64.wrap ((↑y : Int) + (1 : Int)) == (↑n : Int) && !Decidable.decide (U (↑y : Int).toNat < (1 : Int))) = Bool.true → (!(I (↑y : Int).toNat != (↑y : Int) || Go.IntKind.i64.wrap ((↑y : Int) + (1 : Int)) == (↑n : Int) && U (↑y : Int).toNat != (0 : Int)) && !Go.IntKind.i64.wrap ((↑y : Int) + (1 : Int)) == (↑n : Int) && !Decidable.decide (U (↑y : Int).toNat < (1 : Int))) = Bool.true) ∧ ((!(I (↑y : Int).toNat != (↑y : Int) || Go.IntKind.i64.wrap ((↑y : Int) + (1 : Int)) == (↑n : Int) && U (↑y : Int).toNat != (0 : Int)) && !Go.IntKind.i64.wrap ((↑y : Int) + (1 : Int)) == (↑n : Int) && !Decidable.decide (U (↑y : Int).toNat < (1 : Int))) = Bool.true → (!(I (↑y : Int).toNat != (↑y : Int) || Go.IntKind.i64.wrap ((↑y : Int) + (1 : Int)) == (↑n : Int) && U (↑y : Int).toNat != (0 : Int)) && !Go.IntKind.i64.wrap ((↑y : Int) + (1 : Int)) == (↑n : Int) && !Decidable.decide (U (↑y : Int).toNat < (1 : Int))) = Bool.true) ∧ ((!(I (↑y : Int).toNat != (↑y : Int) || Go.IntKind.i64.wrap ((↑y : Int) + (1 : Int)) == (↑n : Int) && U (↑y : Int).toNat != (0 : Int)) && !Go.IntKind.i64.wrap ((↑y : Int) + (1 : Int)) == (↑n : Int) && !Decidable.decide (U (↑y : Int).toNat < (1 : Int))) = Bool.true → (!(I (↑y : Int).toNat != (↑y : Int) || Go.IntKind.i64.wrap ((↑y : Int) + (1 : Int)) == (↑n : Int) && U (↑y : Int).toNat != (0 : Int)) && !Go.IntKind.i64.wrap ((↑y : Int) + (1 : Int)) == (↑n : Int) && !Decidable.decide (U (↑y : Int).toNat < (1 : Int))) = Bool.true) ∧ ((!(I (↑y : Int).toNat != (↑y : Int) || Go.IntKind.i64.wrap ((↑y : Int) + (1 : Int)) == (↑n : Int) && U (↑y : Int).toNat != (0 : Int)) && !Go.IntKind.i64.wrap ((↑y : Int) + (1 : Int)) == (↑n : Int)) = Bool.true → (!(I (↑y : Int).toNat != (↑y : Int) || Go.IntKind.i64.wrap ((↑y : Int) + (1 : Int)) == (↑n : Int) && U (↑y : Int).toNat != (0 : Int)) && !Go.IntKind.i64.wrap ((↑y : Int) + (1 : Int)) == (↑n : Int)) = Bool.true) ∧ ((!(I (↑y : Int).toNat != (↑y : Int) || Go.IntKind.i64.wrap ((↑y : Int) + (1 : Int)) == (↑n : Int) && U (↑y : Int).toNat != (0 : Int)) && !Go.IntKind.i64.wrap ((↑y : Int) + (1 : Int)) == (↑n : Int)) = Bool.true → Decidable.decide (U (↑y : Int).toNat < (1 : Int)) = Bool.false → (!(I (↑y : Int).toNat != (↑y : Int) || Go.IntKind.i64.wrap ((↑y : Int) + (1 : Int)) == (↑n : Int) && U (↑y : Int).toNat != (0 : Int)) && !Go.IntKind.i64.wrap ((↑y : Int) + (1 : Int)) == (↑n : Int) && !Decidable.decide (U (↑y : Int).toNat < (1 : Int))) = Bool.true) ∧ ((!(I (↑y : Int).toNat != (↑y : Int) || Go.IntKind.i64.wrap ((↑y : Int) + (1 : Int)) == (↑n : Int) && U (↑y : Int).toNat != (0 : Int)) && !Go.IntKind.i64.wrap ((↑y : Int) + (1 : Int)) == (↑n : Int)) = Bool.true → (!(I (↑y : Int).toNat != (↑y : Int) || Go.IntKind.i64.wrap ((↑y : Int) + (1 : Int)) == (↑n : Int) && U (↑y : Int).toNat != (0 : Int)) && !Go.IntKind.i64.wrap ((↑y : Int) + (1 : Int)) == (↑n : Int)) = Bool.true) ∧ ((!(I (↑y : Int).toNat != (↑y : Int) || Go.IntKind.i64.wrap ((↑y : Int) + (1 : Int)) == (↑n : Int) && U (↑y : Int).toNat != (0 : Int)) && !Go.IntKind.i64.wrap ((↑y : Int) + (1 : Int)) == (↑n : Int) && !(Decidable.decide (U (↑y : Int).toNat < (1 : Int)) || Decidable.decide (U (↑y : Int).toNat < if y = 0 then (0 : Int) else U (y - 1)))) = Bool.true → (!(I (↑y : Int).toNat != (↑y : Int) || Go.IntKind.i64.wrap ((↑y : Int) + (1 : Int)) == (↑n : Int) && U (↑y : Int).toNat != (0 : Int)) && !Go.IntKind.i64.wrap ((↑y : Int) + (1 : Int)) == (↑n : Int) && !(Decidable.decide (U (↑y : Int).toNat < (1 : Int)) || Decidable.decide (U (↑y : Int).toNat < if y = 0 then (0 : Int) else U (y - 1)))) = Bool.true) ∧ ((!(I (↑y : Int).toNat != (↑y : Int) || Go.IntKind.i64.wrap ((↑y : Int) + (1 : Int)) == (↑n : Int) && U (↑y : Int).toNat != (0 : Int)) && !Go.IntKind.i64.wrap ((↑y : Int) + (1 : Int)) == (↑n : Int) && !(Decidable.decide (U (↑y : Int).toNat < (1 : Int)) || Decidable.decide (U (↑y : Int).toNat < if y = 0 then (0 : Int) else U (y - 1)))) = Bool.true → (!(I (↑y : Int).toNat != (↑y : Int) || Go.IntKind.i64.wrap ((↑y : Int) + (1 : Int)) == (↑n : Int) && U (↑y : Int).toNat != (0 : Int)) && !Go.IntKind.i64.wrap ((↑y : Int) + (1 : Int)) == (↑n : Int) && !(Decidable.decide (U (↑y : Int).toNat < (1 : Int)) || Decidable.decide (U (↑y : Int).toNat < if y = 0 then (0 : Int) else U (y - 1)))) = Bool.true) ∧ ((!(I (↑y : Int).toNat != (↑y : Int) || Go.IntKind.i64.wrap ((↑y : Int) + (1 : Int)) == (↑n : Int) && U (↑y : Int).toNat != (0 : Int)) && !Go.IntKind.i64.wrap ((↑y : Int) + (1 : Int)) == (↑n : Int)) = Bool.true → (!(I (↑y : Int).toNat != (↑y : Int) || Go.IntKind.i64.wrap ((↑y : Int) + (1 : Int)) == (↑n : Int) && U (↑y : Int).toNat != (0 : Int)) && !Go.IntKind.i64.wrap ((↑y : Int) + (1 : Int)) == (↑n : Int)) = Bool.true) ∧ ((!(I (↑y : Int).toNat != (↑y : Int) || Go.IntKind.i64.wrap ((↑y : Int) + (1 : Int)) == (↑n : Int) && U (↑y : Int).toNat != (0 : Int)) && !Go.IntKind.i64.wrap ((↑y : Int) + (1 : Int)) == (↑n : Int)) = Bool.true → (Decidable.decide (U (↑y : Int).toNat < (1 : Int)) || Decidable.decide (U (↑y : Int).toNat < if y = 0 then (0 : Int) else U (y - 1))) = Bool.false → (!(I (↑y : Int).toNat != (↑y : Int) || Go.IntKind.i64.wrap ((↑y : Int) + (1 : Int)) == (↑n : Int) && U (↑y : Int).toNat != (0 : Int)) && !Go.IntKind.i64.wrap ((↑y : Int) + (1 : Int)) == (↑n : Int) && !(Decidable.decide (U (↑y : Int).toNat < (1 : Int)) || Decidable.decide (U (↑y : Int).toNat < if y = 0 then (0 : Int) else U (y - 1)))) = Bool.true) ∧ ((!(I (↑y : Int).toNat != (↑y : Int) || Go.IntKind.i64.wrap ((↑y : Int) + (1 : Int)) == (↑n : Int) && U (↑y : Int).toNat != (0 : Int))) = Bool.true → (!(I (↑y : Int).toNat != (↑y : Int) || Go.IntKind.i64.wrap ((↑y : Int) + (1 : Int)) == (↑n : Int) && U (↑y : Int).toNat != (0 : Int))) = Bool.true) ∧ ((!(I (↑y : Int).toNat != (↑y : Int) || Go.IntKind.i64.wrap ((↑y : Int) + (1 : Int)) == (↑n : Int) && U (↑y : Int).toNat != (0 : Int))) = Bool.true → (!Go.IntKind.i64.wrap ((↑y : Int) + (1 : Int)) == (↑n : Int)) = Bool.true → (!(I (↑y : Int).toNat != (↑y : Int) || Go.IntKind.i64.wrap ((↑y : Int) + (1 : Int)) == (↑n : Int) && U (↑y : Int).toNat != (0 : Int)) && !Go.IntKind.i64.wrap ((↑y : Int) + (1 : Int)) == (↑n : Int)) = Bool.true) ∧ ((I (↑y : Int).toNat != (↑y : Int) || Go.IntKind.i64.wrap ((↑y : Int) + (1 : Int)) == (↑n : Int) && U (↑y : Int).toNat != (0 : Int)) = Bool.false → (!(I (↑y : Int).toNat != (↑y : Int) || Go.IntKind.i64.wrap ((↑y : Int) + (1 : Int)) == (↑n : Int) && U (↑y : Int).toNat != (0 : Int))) = Bool.true) ∧ ((I (↑y : Int).toNat != (↑y : Int) || Go.IntKind.i64.wrap ((↑y : Int) + (1 : Int)) == (↑n : Int) && U (↑y : Int).toNat != (0 : Int) || !Go.IntKind.i64.wrap ((↑y : Int) + (1 : Int)) == (↑n : Int) && (Decidable.decide (U (↑y : Int).toNat < (1 : Int)) || Decidable.decide (U (↑y : Int).toNat < if y = 0 then (0 : Int) else U (y - 1)) || Decidable.decide (U (↑y : Int).toNat > (1099511627800 : Int)))) = Bool.true → (12 : Int) = r) ∧ ((I (↑y : Int).toNat != (↑y : Int) || Go.IntKind.i64.wrap ((↑y : Int) + (1 : Int)) == (↑n : Int) && U (↑y : Int).toNat != (0 : Int) || !Go.IntKind.i64.wrap ((↑y : Int) + (1 : Int)) == (↑n : Int) && (Decidable.decide (U (↑y : Int).toNat < (1 : Int)) || Decidable.decide (U (↑y : Int).toNat < if y = 0 then (0 : Int) else U (y - 1)) || Decidable.decide (U (↑y : Int).toNat > (1099511627800 : Int)))) = Bool.false → ∃ (y' : Nat), (y' ≤ n ∧ P y') ∧ (a = a ∧ n = n ∧ cap = cap ∧ ∀ (i : Nat), i < n → simC (setF I U A N C K i 0) (setF I U A N C K i 0) ∧ simC (setF I U A N C K i 1) (setF I U A N C K i 1) ∧ U i = U i) ∧ (U (↑y : Int).toNat = if y' = 0 then (0 : Int) else U (y' - 1)) ∧ (a = a ∧ n = n ∧ cap = cap ∧ ∀ (i : Nat), i < n → simC (setF I U A N C K i 0) (setF I U A N C K i 0) ∧ simC (setF I U A N C K i 1) (setF I U A N C K i 1) ∧ U i = U i) ∧ (↑n : Int) = (↑n : Int) ∧ Go.IntKind.i64.wrap ((↑y : Int) + (1 : Int)) = (↑y' : Int) ∧ (n - y').succ.le (n - y)))) ∧ (Decidable.decide ((↑y : Int) < (↑n : Int)) = Bool.false → (0 : Int) = r))) := by kernel_rfl
end Go.Proofs.Ytjpddnjgbgpegaa
end

section
namespace Go.Proofs.Ytjpddnjgbgpegaa
open Go.Sx
set_option maxRecDepth 100000
theorem all_rng {n : Nat} {p : Nat → Bool} : (List.range n).all p = true ↔ ∀ j, j < n → p j = true := by
  rw [List.all_eq_true]
  exact ⟨fun h j hj => h j (List.mem_range.2 hj), fun h j hj => h j (List.mem_range.1 hj)⟩
theorem any_rng {n : Nat} {p : Nat → Bool} : (List.range n).any p = true ↔ ∃ j, j < n ∧ p j = true := by
  rw [List.any_eq_true]
  exact ⟨fun ⟨j, h, e⟩ => ⟨j, List.mem_range.1 h, e⟩, fun ⟨j, h, e⟩ => ⟨j, List.mem_range.2 h, e⟩⟩
theorem kIn_succ (n : Nat) (k : Nat → Nat → Int) (e : Nat → Int) : kIn (n + 1) k e = (kIn n k e || (List.range 20).all fun c => e c == k n c) := by
  unfold kIn
  rw [List.range_succ, List.any_append, List.any_cons, List.any_nil, Bool.or_false]
theorem kDis_succ (n : Nat) (k : Nat → Nat → Int) : kDis (n + 1) k = (kDis n k && !kIn n k (k n)) := by
  unfold kDis
  rw [List.range_succ, List.all_append, List.all_cons, List.all_nil, Bool.and_true]
theorem kDis_mono {n m : Nat} {k : Nat → Nat → Int} (h : n ≤ m) (hk : kDis m k = true) : kDis n k = true :=
  all_rng.2 fun j hj => all_rng.1 hk j (by omega)
theorem conj_q (b : Bool) : conj [b] = b := by cases b <;> rfl
theorem ok_ix (a : Option Addr) (n cap : Nat) (k : Nat → Nat → Int) (e : Nat → Int) (hn : n ≤ maxLen) :
    OwesR Try.prog .none [] [((55 + 1) * 100000 + 2, .inv (invIx a n cap k e))] 12 Try.f44 [sXk a n cap k, sKy e] false [.v (sB (kIn n k e))] := by
  rw [vc_ix]
  have hML : maxLen = 9223372036854775807 := rfl
  have z : ∀ i c, simC (u8F k i c) (u8F k i c) := fun _ _ => rfl
  simp only [eq_self, implies_true, and_self, true_and, and_true, z, conj_q, Int.toNat_natCast, Nat.zero_add]
  refine ⟨fun _ => rfl, 0, ⟨Nat.zero_le _, rfl⟩, rfl, fun y hy => ⟨fun hl => ?_, fun hl => ?_⟩⟩
  · have hl := of_decide_eq_true hl
    refine ⟨⟨by omega, by omega⟩, fun h => ?_, fun h => ⟨y + 1, ⟨by omega, ?_⟩, by rw [IntKind.wrap_i64]; omega, by show n - (y + 1) + 1 ≤ n - y; omega⟩⟩
    · rw [decide_eq_true (by omega : ((y : Int) ≥ 0))]
      exact (any_rng.2 ⟨y, by omega, h⟩).symm
    · rw [kIn_succ, hy.2, h]; rfl
  · have hl := of_decide_eq_false hl
    have e1 : y = n := by omega
    rw [← e1, hy.2]
    rfl
theorem card_ct {gl : Globs} : FnOKs Try.prog gl 44 cCt := by
  refine FnOKs.up0 (FnOKs_Q (cx := Cx.none) ⟨fun _ h => (by cases h), fun _ h => (by cases h)⟩ (sl := []) oks_nil Try.func44 (by kernel_rfl) (by kernel_rfl) fun ls hc => ?_) gl
  unfold ctC at hc
  split at hc
  · rename_i a n cap f e
    obtain ⟨p, _⟩ := hc
    have := ok_ix a n cap (kOf f) e p.kn
    unfold sXk at this
    rw [← p.kf] at this
    refine ⟨_, _, fun r hr => ?_, this⟩
    rw [List.mem_singleton.1 hr]; exact trivial
  · exact hc.1.elim
theorem ok_lk (a : Option Addr) (n cap : Nat) (k : Nat → Nat → Int) (hn : n ≤ maxLen) (ha : a = none → n = 0) (hr : ∀ i, i < n → ∀ c, c < 20 → 0 ≤ k i c ∧ k i c < 256) :
    OwesR Try.prog .none slCt [(4, .inv (invLk a n cap k))] 12 Try.f31 [sXk a n cap k] false [.v (sI .i64 (kyE n k))] := by
  rw [vc_lk]
  intro x1
  have e1 : x1 = decide ((n : Int) < 1) := rfl
  have hML : maxLen = 9223372036854775807 := rfl
  have z : ∀ i c, simC (u8F k i c) (u8F k i c) := fun _ _ => rfl
  have k2 : kOf (u8F k) = k := rfl
  clear_value x1
  simp only [eq_self, implies_true, and_self, true_and, and_true, z, Int.toNat_natCast, Nat.zero_add, k2, imp_self]
  refine ⟨fun h => by rw [h]; rfl, fun h => ?_, fun h => ?_⟩
  · rw [e1, Bool.or_eq_true, decide_eq_true_eq, decide_eq_true_eq] at h
    unfold kyE
    rw [if_pos (by omega)]
  · rw [e1, Bool.or_eq_false_iff, decide_eq_false_iff_not, decide_eq_false_iff_not] at h
    have hE : kyE n k = if kDis n k then 0 else 8 := by unfold kyE; rw [if_neg (by omega)]
    rw [hE]
    refine ⟨fun _ => rfl, 0, ⟨Nat.zero_le _, rfl⟩, rfl, fun y hy => ⟨fun hl => ?_, fun hl => ?_⟩⟩
    · have hl := of_decide_eq_true hl
      refine ⟨⟨by omega, by omega⟩, ⟨by omega, by omega⟩, ⟨rfl, by omega, fun e => by have := ha e; omega, fun i hi c hc => hr i (by omega) c hc⟩, fun h => ?_, fun h => ⟨y + 1, ⟨by omega, ?_⟩, by rw [IntKind.wrap_i64]; omega, by show n - (y + 1) + 1 ≤ n - y; omega⟩⟩
      · have hd : kDis n k = false := by
          cases q : kDis n k
          · rfl
          · have := kDis_mono (show y + 1 ≤ n by omega) q
            rw [kDis_succ, h] at this
            rw [Bool.not_true, Bool.and_false] at this
            cases this
        rw [hd]; rfl
      · rw [kDis_succ, hy.2, h]; rfl
    · have hl := of_decide_eq_false hl
      have e1 : y = n := by omega
      rw [← e1, hy.2]
      rfl
theorem card_lk {gl : Globs} : FnOKs Try.prog gl 31 cLk := by
  refine FnOKs.up0 (FnOKs_Q (cx := Cx.none) ⟨fun _ h => (by cases h), fun _ h => (by cases h)⟩ (sl := slCt) (oks_cons card_ct oks_nil) Try.func31 (by kernel_rfl) (by kernel_rfl) fun ls hc => ?_) gl
  unfold lkC at hc
  split at hc
  · rename_i a n cap f
    obtain ⟨p, _⟩ := hc
    have := ok_lk a n cap (kOf f) p.kn p.ka p.kr
    unfold sXk at this
    rw [← p.kf] at this
    refine ⟨_, _, fun r hr => ?_, this⟩
    rw [List.mem_singleton.1 hr]; exact trivial
  · exact hc.1.elim
end Go.Proofs.Ytjpddnjgbgpegaa
end

section
namespace Go.Proofs.Ytjpddnjgbgpegaa
open Go Go.Sx
open Go.WideElems (Fit rg)
open Go.Maps (Keyed)
open Go.ChangeMaps (setBlock)
set_option maxRecDepth 100000
def kv (e : Nat → Int) : Value := .agg ((List.range 20).map fun c => Value.int .u8 (e c)).toArray
def kb (e : Nat → Int) : Prop := ∀ c, c < 20 → 0 ≤ e c ∧ e c < 256
theorem laid_key : WideMaps.KeyLaw Try.prog 71 :=
  deep_law_laid (by kernel_rfl) (m := 2) (by decide) (by decide +kernel) (by kernel_rfl) (by kernel_rfl)
theorem keyd : Keyed Try.prog 71 := Keyed.of_law laid_key
theorem und_key : Try.prog.underlying 71 = some (.array 20 5) := by kernel_rfl
theorem und_u8 : Try.prog.underlying 5 = some (.int .u8) := by kernel_rfl
theorem und_map : Try.prog.underlying 73 = some (.map 71 3) := by kernel_rfl
theorem wf_u8 {x : Int} (h : 0 ≤ x ∧ x < 256) : (Lit.int .u8 x).wf = true := by
  simp [Lit.wf, IntKind.min, IntKind.max, IntKind.signed, IntKind.bits]
  omega
theorem mapM_ok {α β : Type} {f : α → Option β} : ∀ {l : List α}, (∀ x ∈ l, ∃ y, f x = some y) → ∃ r, l.mapM f = some r
  | [], _ => ⟨[], rfl⟩
  | x :: l, h => by
    obtain ⟨y, hy⟩ := h x (by simp)
    obtain ⟨r, hr⟩ := mapM_ok (l := l) fun z hz => h z (by simp [hz])
    exact ⟨y :: r, by simp [List.mapM_cons, hy, hr]⟩
theorem key_lit (e : Nat → Int) (h : kb e) : ∃ l, keyOf Try.prog 71 (kv e) = some l := by
  have hk : Try.prog.keyType 71 = true := by kernel_rfl
  obtain ⟨m, hm⟩ : ∃ m, Try.prog.types.size = m + 1 := ⟨Try.prog.types.size - 1, by kernel_rfl⟩
  have hc : Try.prog.cellsOf 71 = 20 := by kernel_rfl
  have h5 : Try.prog.cellsOf 5 = 1 := by kernel_rfl
  have hf : (kv e).formed Try.prog 71 = true := by
    unfold kv Value.formed
    simp [und_key, hc]
  have hl : ∃ ls, Try.prog.keyLits (Try.prog.types.size + 1) 71 (kv e).cells.toList = some ls := by
    have hcs : (kv e).cells.toList = (List.range 20).map fun c => Value.int .u8 (e c) := by
      unfold kv Value.cells
      simp
    rw [hcs, hm]
    unfold Program.keyLits
    simp only [und_key]
    rw [if_pos (by rw [hc]; simp)]
    obtain ⟨r, hr⟩ := mapM_ok (l := List.range 20) (f := fun i => Try.prog.keyLits (m + 1) 5 ((((List.range 20).map fun c => Value.int .u8 (e c)).drop (i * Try.prog.cellsOf 5)).take (Try.prog.cellsOf 5))) (fun i hi => by
      have hi := List.mem_range.1 hi
      have e1 : ((((List.range 20).map fun c => Value.int .u8 (e c)).drop (i * Try.prog.cellsOf 5)).take (Try.prog.cellsOf 5)) = [Value.int .u8 (e i)] := by
        rw [h5, Nat.mul_one]
        have : ((List.range 20).map fun c => Value.int .u8 (e c)).drop i = Value.int .u8 (e i) :: ((List.range 20).map fun c => Value.int .u8 (e c)).drop (i + 1) := by
          rw [List.drop_eq_getElem_cons (by simpa using hi)]
          simp
        rw [this]
        rfl
      exact ⟨[.int .u8 (e i)], by rw [e1]; unfold Program.keyLits; simp [und_u8, wf_u8 (h i hi)]⟩)
    exact ⟨r.flatten, by rw [hr]; rfl⟩
  obtain ⟨ls, hl⟩ := hl
  refine ⟨.string (keyBytes ls), ?_⟩
  unfold keyOf
  simp only [und_key]
  rw [if_pos (by rw [hk, hf]; rfl), hl]
  rfl
theorem kv_inj {e e' : Nat → Int} (h : kv e = kv e') (c : Nat) (hc : c < 20) : e c = e' c := by
  unfold kv at h
  have h1 : ((List.range 20).map fun c => Value.int .u8 (e c)) = (List.range 20).map fun c => Value.int .u8 (e' c) := by
    have := Value.agg.inj h
    simpa using this
  have h2 := congrArg (fun l => l[c]?) h1
  simp only [List.getElem?_map, List.getElem?_range hc, Option.map_some, Option.some.injEq, Value.int.injEq] at h2
  exact h2.2
end Go.Proofs.Ytjpddnjgbgpegaa
end

section
namespace Go.Proofs.Ytjpddnjgbgpegaa
open Go Go.Sx
open Go.ChangeMaps (setBlock)
open Go.MapKept (Stamped)
set_option maxRecDepth 100000
structure KM (es : Array MapEntry) (clock : Nat) (i : Nat) (k : Nat → Nat → Int) : Prop where
  st : Stamped es clock
  ks : ∀ x ∈ es.toList, ∃ j, j < i ∧ x.key = kv (k j)
  kt : ∀ j, j < i → ∃ x ∈ es.toList, x.key = kv (k j)
  vs : ∀ x ∈ es.toList, ∃ z, x.val = .int .i64 z
theorem km_nil (k : Nat → Nat → Int) : KM #[] 0 0 k :=
  ⟨Go.MapKept.stamped_empty 0, fun x hx => by simp at hx, fun j hj => by omega, fun x hx => by simp at hx⟩
theorem km_lits {es : Array MapEntry} {clock i : Nat} {k : Nat → Nat → Int} (h : KM es clock i k) (hb : ∀ j, j < i → kb (k j)) : ∀ x ∈ es.toList, ∃ l, keyOf Try.prog 71 x.key = some l := fun x hx => by
  obtain ⟨j, hj, e⟩ := h.ks x hx
  rw [e]
  exact key_lit _ (hb j hj)
theorem km_count {es : Array MapEntry} {clock i : Nat} {k : Nat → Nat → Int} (h : KM es clock i k) : es.size = ((List.range i).filter fun j => !kIn j k (k j)).length := by
  have h1 : (es.toList.map (·.key)).Nodup := by
    rw [List.Nodup, List.pairwise_map]
    exact ((Go.MapKept.stamped_iff es clock).1 h.st).2.2
  have hin : ∀ j j', j < j' → kIn j' k (k j') = false → kv (k j) ≠ kv (k j') := fun j j' hj hk e => by
    have : kIn j' k (k j') = true := any_rng.2 ⟨j, hj, all_rng.2 fun c hc => beq_iff_eq.2 (kv_inj e c hc).symm⟩
    rw [hk] at this
    cases this
  have h2 : (((List.range i).filter fun j => !kIn j k (k j)).map fun j => kv (k j)).Nodup := by
    rw [List.Nodup, List.pairwise_map, List.pairwise_filter]
    refine List.Pairwise.imp (R := fun a b => a < b) (fun {a b} hab _ hb => hin a b hab (by simpa using hb)) List.pairwise_lt_range
  have rep : ∀ j, j < i → ∃ j', j' < i ∧ kIn j' k (k j') = false ∧ kv (k j') = kv (k j) := by
    intro j
    induction j using Nat.strongRecOn with
    | _ j ih =>
      intro hj
      cases e : kIn j k (k j)
      · exact ⟨j, hj, e, rfl⟩
      · obtain ⟨m, hm, q⟩ := any_rng.1 e
        obtain ⟨j', a1, a2, a3⟩ := ih m hm (by omega)
        refine ⟨j', a1, a2, a3.trans ?_⟩
        unfold kv
        congr 2
        refine List.map_congr_left fun c hc => ?_
        have := beq_iff_eq.1 (all_rng.1 q c (List.mem_range.1 hc))
        rw [this]
  have hp : (es.toList.map (·.key)).Perm (((List.range i).filter fun j => !kIn j k (k j)).map fun j => kv (k j)) := by
    refine (List.perm_ext_iff_of_nodup h1 h2).2 fun v => ⟨fun hv => ?_, fun hv => ?_⟩
    · obtain ⟨x, hx, rfl⟩ := List.mem_map.1 hv
      obtain ⟨j, hj, e⟩ := h.ks x hx
      obtain ⟨j', a1, a2, a3⟩ := rep j hj
      exact List.mem_map.2 ⟨j', List.mem_filter.2 ⟨List.mem_range.2 a1, by rw [a2]; rfl⟩, a3.trans e.symm⟩
    · obtain ⟨j, hj, rfl⟩ := List.mem_map.1 hv
      obtain ⟨x, hx, e⟩ := h.kt j (List.mem_range.1 (List.mem_filter.1 hj).1)
      exact List.mem_map.2 ⟨x, hx, e⟩
  have := hp.length_eq
  simpa using this
theorem km_less {es : Array MapEntry} {clock n : Nat} {k : Nat → Nat → Int} (h : KM es clock n k) : decide ((es.size : Int) < (n : Int)) = !kDis n k := by
  rw [km_count h]
  have hle := List.length_filter_le (fun j => !kIn j k (k j)) (List.range n)
  rw [List.length_range] at hle
  cases e : kDis n k
  · have hne : ((List.range n).filter fun j => !kIn j k (k j)).length ≠ n := fun q => by
      have : (List.range n).filter (fun j => !kIn j k (k j)) = List.range n := List.filter_sublist.eq_of_length (by rw [q, List.length_range])
      have h2 := List.filter_eq_self.1 this
      have : kDis n k = true := List.all_eq_true.2 h2
      rw [e] at this
      cases this
    rw [Bool.not_false, decide_eq_true_eq]
    omega
  · have : (List.range n).filter (fun j => !kIn j k (k j)) = List.range n := List.filter_eq_self.2 (List.all_eq_true.1 e)
    rw [this, List.length_range, Bool.not_true, decide_eq_false_iff_not]
    omega
end Go.Proofs.Ytjpddnjgbgpegaa
end

section
namespace Go.Proofs.Ytjpddnjgbgpegaa
open Go Go.Sx
open Go.ChangeMaps (setBlock)
open Go.MapKept (Stamped)
set_option maxRecDepth 100000
section
variable {es : Array MapEntry} {clock i : Nat} {k : Nat → Nat → Int} {w : World} {b : Nat}
theorem zero_int (w : World) : (zeroValue 3).run Try.prog w = .ok (.int .i64 0) w := by kernel_rfl
theorem km_look (h : KM es clock i k) (hk : ∀ j, j < i → kb (k j)) (hb : w.heap[b]? = some (.map es clock)) {e : Nat → Int} (he : kb e) :
    ∃ z, (Instr.lookup 73 (.map (some b)) (kv e) false).run Try.prog w = .ok (.int .i64 z) w := by
  obtain ⟨l, hl⟩ := key_lit e he
  rcases keyd.find w hl es.toList (km_lits h hk) with ⟨h1, _⟩ | ⟨j, x, h1, h2, _⟩
  · refine ⟨0, ?_⟩
    simp [Instr.lookup, run_underlying und_map, Go.MapKept.run_getObj_map hb, keyd.check w _ hl, h1, zero_int w, Result.andThen]
  · obtain ⟨z, hz⟩ := h.vs x (List.mem_of_getElem? h2)
    refine ⟨z, ?_⟩
    simp [Instr.lookup, run_underlying und_map, Go.MapKept.run_getObj_map hb, keyd.check w _ hl, h1, hz, Result.andThen]
theorem km_len (hb : w.heap[b]? = some (.map es clock)) (ty : TypeId) : (Builtin.len_ #[73] ty #[.map (some b)]).run Try.prog w = .ok (.int .i64 (es.size : Int)) w := by
  simp [Builtin.len_, run_underlying und_map, Go.MapKept.run_getObj_map hb, goInt, Result.andThen]
theorem km_entry (h : KM es clock i k) (hk : ∀ j, j < i + 1 → kb (k j)) (hb : w.heap[b]? = some (.map es clock)) :
    ∃ (v0 : Int) (st : Nat) (es1 : Array MapEntry) (clock1 : Nat), (Instr.mapEntry 73 (.map (some b)) (kv (k i))).run Try.prog w = .ok (.tuple #[.int .i64 v0, goInt st]) (setBlock w b (.map es1 clock1)) ∧ KM es1 clock1 (i + 1) k ∧
      ∀ (w2 : World) (z : Int), w2.heap[b]? = some (.map es1 clock1) → ∃ es', (Instr.entryStore 73 (.map (some b)) (goInt st) (.int .i64 z)).run Try.prog w2 = .ok () (setBlock w2 b (.map es' clock1)) ∧ KM es' clock1 (i + 1) k := by
  have hk' : ∀ j, j < i → kb (k j) := fun j hj => hk j (by omega)
  obtain ⟨l, hl⟩ := key_lit (k i) (hk i (by omega))
  have store : ∀ (es1 : Array MapEntry) (clock1 j : Nat) (x : MapEntry), KM es1 clock1 (i + 1) k → es1.toList[j]? = some x → ∀ (w2 : World) (z : Int), w2.heap[b]? = some (.map es1 clock1) → ∃ es', (Instr.entryStore 73 (.map (some b)) (goInt x.born) (.int .i64 z)).run Try.prog w2 = .ok () (setBlock w2 b (.map es' clock1)) ∧ KM es' clock1 (i + 1) k := by
    intro es1 clock1 j x hM hj w2 z hw2
    obtain ⟨s1, s2, s3⟩ := hM.st
    have hidx : es1.findIdx? (fun e => ((e.born : Nat) : Int) == ((x.born : Nat) : Int)) = some j := by
      rw [Go.WideElems.findIdx_arr]
      exact Go.WideElems.findIdx_born s2 hj
    have hlist : (es1.modify j fun e => { e with val := .int .i64 z }).toList = es1.toList.set j { x with val := .int .i64 z } := by
      rw [Array.toList_modify, Go.ChangeMaps.modify_eq_set _ _ _ _ hj]
    have hmem : ∀ y ∈ (es1.modify j fun e => { e with val := .int .i64 z }).toList, (∃ y' ∈ es1.toList, y'.key = y.key ∧ y'.born = y.born) ∧ ∃ q, y.val = .int .i64 q := by
      intro y hy
      rw [hlist] at hy
      rcases List.mem_or_eq_of_mem_set hy with hy | rfl
      · exact ⟨⟨y, hy, rfl, rfl⟩, hM.vs y hy⟩
      · exact ⟨⟨x, List.mem_of_getElem? hj, rfl, rfl⟩, z, rfl⟩
    have hmapk : (es1.modify j fun e => { e with val := .int .i64 z }).toList.map (·.key) = es1.toList.map (·.key) := by
      rw [hlist, List.map_set]
      refine Go.WideElems.set_self _ _ _ ?_
      rw [List.getElem?_map, hj]
      rfl
    have hmapb : (es1.modify j fun e => { e with val := .int .i64 z }).toList.map (·.born) = es1.toList.map (·.born) := by
      rw [hlist, List.map_set]
      refine Go.WideElems.set_self _ _ _ ?_
      rw [List.getElem?_map, hj]
      rfl
    refine ⟨es1.modify j fun e => { e with val := .int .i64 z }, ?_, ⟨⟨fun y hy => ?_, by rw [hmapb]; exact s2, by rw [hmapk]; exact s3⟩, fun y hy => ?_, fun m hm => ?_, fun y hy => (hmem y hy).2⟩⟩
    · simp [Instr.entryStore, Go.MapKept.run_getObj_map hw2, asInt, asIntOf, goInt, hidx, Go.MapKept.run_setObj_map _ hw2, Result.andThen, setBlock]
    · obtain ⟨⟨y', hy', _, e⟩, _⟩ := hmem y hy
      rw [← e]; exact s1 y' hy'
    · obtain ⟨⟨y', hy', e, _⟩, _⟩ := hmem y hy
      rw [← e]; exact hM.ks y' hy'
    · obtain ⟨y, hy, e⟩ := hM.kt m hm
      have : y.key ∈ (es1.modify j fun e => { e with val := .int .i64 z }).toList.map (·.key) := by rw [hmapk]; exact List.mem_map.2 ⟨y, hy, rfl⟩
      obtain ⟨y2, hy2, e2⟩ := List.mem_map.1 this
      exact ⟨y2, hy2, by rw [e2, e]⟩
  rcases keyd.find w hl es.toList (km_lits h hk') with ⟨h1, h2⟩ | ⟨j, x, h1, h2, h3⟩
  · have hM : KM (es.push ⟨kv (k i), .int .i64 0, clock⟩) (clock + 1) (i + 1) k := by
      refine ⟨Go.MapKept.stamped_push h.st h2, fun y hy => ?_, fun m hm => ?_, fun y hy => ?_⟩
      · rw [Array.toList_push, List.mem_append, List.mem_singleton] at hy
        rcases hy with hy | rfl
        · obtain ⟨m, hm, e⟩ := h.ks y hy
          exact ⟨m, by omega, e⟩
        · exact ⟨i, by omega, rfl⟩
      · rw [Array.toList_push]
        by_cases c : m < i
        · obtain ⟨y, hy, e⟩ := h.kt m c
          exact ⟨y, List.mem_append.2 (.inl hy), e⟩
        · obtain rfl : m = i := by omega
          exact ⟨_, List.mem_append.2 (.inr (List.mem_singleton.2 rfl)), rfl⟩
      · rw [Array.toList_push, List.mem_append, List.mem_singleton] at hy
        rcases hy with hy | rfl
        · exact h.vs y hy
        · exact ⟨0, rfl⟩
    refine ⟨0, clock, _, _, ?_, hM, store _ _ es.toList.length ⟨kv (k i), .int .i64 0, clock⟩ hM (by simp)⟩
    simp [Instr.mapEntry, run_underlying und_map, Go.MapKept.run_getObj_map hb, keyd.check w false hl, h1, zero_int w, Go.MapKept.run_setObj_map _ hb, Result.andThen, setBlock]
  · obtain ⟨z, hz⟩ := h.vs x (List.mem_of_getElem? h2)
    have hj : es[j]? = some x := by simpa using h2
    have hsame : es.modify j (fun e => { e with key := kv (k i) }) = es := by
      apply Array.ext'
      rw [Array.toList_modify, Go.ChangeMaps.modify_eq_set _ _ _ _ h2, ← h3]
      exact Go.WideElems.set_self _ _ _ h2
    have hM : KM es clock (i + 1) k := by
      refine ⟨h.st, fun y hy => ?_, fun m hm => ?_, h.vs⟩
      · obtain ⟨m, hm, e⟩ := h.ks y hy
        exact ⟨m, by omega, e⟩
      · by_cases c : m < i
        · exact h.kt m c
        · obtain rfl : m = i := by omega
          exact ⟨x, List.mem_of_getElem? h2, h3⟩
    refine ⟨z, x.born, es, clock, ?_, hM, store _ _ j x hM h2⟩
    simp [Instr.mapEntry, run_underlying und_map, Go.MapKept.run_getObj_map hb, keyd.check w false hl, h1, hj, hz, h3, keyd.stays w hl, hsame, Go.MapKept.run_setObj_map _ hb, Result.andThen, setBlock]
end
end Go.Proofs.Ytjpddnjgbgpegaa
end

section
namespace Go.Proofs.Ytjpddnjgbgpegaa
open Go Go.Sx
open Go.ChangeMaps (setBlock)
set_option maxRecDepth 100000
def cq1 : Code → Code
  | .seq x _ => x
  | c => c
def cq2 : Code → Code
  | .seq _ y => y
  | c => c
def cqb : Code → Code
  | .block _ x => x
  | c => c
def cql : Code → Code
  | .loop x => x
  | c => c
def cqo : Code → Array Oper
  | .region _ ops _ => ops
  | _ => #[]
noncomputable def kfB : Code := Try.f33.body.getD .skip
noncomputable def kfL : Code := cql (cqb (cq2 (cq1 (cq2 (cq2 (cq2 kfB))))))
noncomputable def kfI : Code := cqb (cq1 (cq2 (cq2 kfL)))
noncomputable def ops7 : Array Oper := cqo (cq2 kfI)
def kp (b : Nat) (x : Obj) : Nat → Obj → Prop := fun b' y => b' = b ∧ y = x
section
variable {P : Program} {W0 : Base} {ρ : Rho} {tm : List SV} {ob : List SO} {a : Act} {w : World}
theorem holds_any (H : Holds W0 ρ tm ob a w) {d : Nat} (hd : tm.getD d .any = .any) (v : Value) : Holds W0 ρ tm ob (a.put (some d) v) w := by
  have e : Sx.put tm (some d) .any = tm := by
    show tm.set d .any = tm
    apply List.ext_getElem?
    intro t
    rw [List.getElem?_set]
    by_cases c : d = t
    · subst c
      rw [if_pos rfl]
      split
      · rename_i hl
        rw [List.getD_eq_getElem?_getD, List.getElem?_eq_getElem hl, Option.getD_some] at hd
        rw [List.getElem?_eq_getElem hl, hd]
      · rename_i hl
        rw [List.getElem?_eq_none (by omega)]
    · rw [if_neg c]
  have := H.put (some d) (sv := .any) (v := v) trivial trivial
  rw [e] at this
  exact this
theorem holds_turn {Z : World} {ρ0 : Rho} {gl : Globs} {b : Nat} {es : Array MapEntry} {clock : Nat} (H : Holds ⟨Z, [], ρ0, gl, kp b (.map es clock)⟩ ρ tm ob a w) (hb : Z.heap.size ≤ b) (es' : Array MapEntry) (clock' : Nat) :
    Holds ⟨Z, [], ρ0, gl, kp b (.map es' clock')⟩ ρ tm ob a (setBlock w b (.map es' clock')) := by
  obtain ⟨hw, hfar⟩ := H.keeps b _ ⟨rfl, rfl⟩
  have same : ∀ i, i ≠ b → (setBlock w b (.map es' clock')).heap[i]? = w.heap[i]? := fun i hi => Go.ChangeMaps.heap_setBlock_other hw _ hi
  refine ⟨H.size, H.rep, H.bnd, H.defers, ?_, ?_, H.kept, H.gl, ⟨H.fzs.1, H.fzs.2⟩, ?_⟩
  · refine ⟨H.below.os, H.below.tape, H.below.output, ?_, fun i hi => ?_⟩
    · show Z.heap.size ≤ (w.heap.setIfInBounds b _).size
      rw [Array.size_setIfInBounds]
      exact H.below.size
    · rw [same i (by have : i < Z.heap.size := hi; omega)]
      exact H.below.block i hi
  · refine ⟨fun i x hi hx => ?_, H.mem.injs, fun b' o v hv => ?_⟩
    · obtain ⟨q1, ⟨rest, q2, q3⟩, q4⟩ := H.mem.objs i x hi hx
      exact ⟨q1, ⟨rest, q2, by rw [same _ (hfar i ⟨x, hi, hx⟩)]; exact q3⟩, q4⟩
    · obtain ⟨q1, q2⟩ := H.mem.frz b' o v hv
      refine ⟨?_, q2⟩
      have hne : b' ≠ b := fun e => by
        subst e
        unfold World.cell? at q1
        rw [hw] at q1
        cases q1
      unfold World.cell? at q1 ⊢
      rw [same b' hne]
      exact q1
  · rintro b' y ⟨rfl, rfl⟩
    exact ⟨Go.ChangeMaps.heap_setBlock_same hw _, hfar⟩
theorem wpOp_val {ops : Array Oper} {Q : Exit → Act → World → Prop} {K : Act → World → Prop} {i : Nat} {o : Oper} {v : Value} {w' : World} (hi : ops[i]? = some o) (hg : o.guard = none) (hr : (execOp a.eval o).run P w = .ok (.value v) w') (h : K (a.put o.dst v) w') : wpOp P ops Q i K a w := by
  unfold wpOp
  rw [hi]
  simp only
  rw [if_pos (by unfold Region.wanted; rw [hg])]
  refine .inl ?_
  unfold Oper.wp
  rw [hr]
  exact h
theorem wpOp_skip {ops : Array Oper} {Q : Exit → Act → World → Prop} {K : Act → World → Prop} {i : Nat} {o : Oper} {w' : World} (hi : ops[i]? = some o) (hg : o.guard = none) (hr : (execOp a.eval o).run P w = .ok .skip w') (h : K (a.put o.dst undef) w') : wpOp P ops Q i K a w := by
  unfold wpOp
  rw [hi]
  simp only
  rw [if_pos (by unfold Region.wanted; rw [hg])]
  refine .inl ?_
  unfold Oper.wp
  rw [hr]
  exact h
theorem eval_at {d : Nat} {v : Value} (h : d < a.tmps.size) : (a.put (some d) v).eval (.tmp d) = v := by
  simp [Act.put, Act.eval, Array.getElem?_setIfInBounds, h]
end
theorem kv_conc (ρ : Rho) (e : Nat → Int) : (SA.agg [SK.f .u8 20 e]).conc ρ = kv e := by
  unfold kv
  simp only [SA.conc, concs, flat, SK.cells, List.append_nil, List.map_map]
  congr 2
end Go.Proofs.Ytjpddnjgbgpegaa
end

section
namespace Go.Proofs.Ytjpddnjgbgpegaa
open Go Go.Sx
open Go.ChangeMaps (setBlock)
set_option maxRecDepth 100000
theorem op_at {ops : Array Oper} {i : Nat} {g : Option (Nat × Bool)} {d : Option Tmp} {x : Op} (h : (ops[i]?).isSome = true) (h1 : ((ops[i]?).get h).guard = g) (h2 : ((ops[i]?).get h).dst = d) (h3 : ((ops[i]?).get h).op = x) : ∃ o, ops[i]? = some o ∧ o.guard = g ∧ o.dst = d ∧ o.op = x :=
  ⟨(ops[i]?).get h, (Option.some_get h).symm, h1, h2, h3⟩
theorem o70 : ∃ o, ops7[0]? = some o ∧ o.guard = none ∧ o.dst = some 21 ∧ o.op = .move (.tmp 3) := op_at (by kernel_rfl) (by kernel_rfl) (by kernel_rfl) (by kernel_rfl)
theorem o71 : ∃ o, ops7[1]? = some o ∧ o.guard = none ∧ o.dst = some 22 ∧ o.op = .load 71 (.tmp 5) := op_at (by kernel_rfl) (by kernel_rfl) (by kernel_rfl) (by kernel_rfl)
theorem o72 : ∃ o, ops7[2]? = some o ∧ o.guard = none ∧ o.dst = some 23 ∧ o.op = .lookup 73 (.tmp 21) (.tmp 22) false := op_at (by kernel_rfl) (by kernel_rfl) (by kernel_rfl) (by kernel_rfl)
theorem o73 : ∃ o, ops7[3]? = some o ∧ o.guard = none ∧ o.dst = some 24 ∧ o.op = .binOp .add 3 (.tmp 23) (.const (.int .i64 1)) 3 := op_at (by kernel_rfl) (by kernel_rfl) (by kernel_rfl) (by kernel_rfl)
theorem o74 : ∃ o, ops7[4]? = some o ∧ o.guard = none ∧ o.dst = some 25 ∧ o.op = .mapEntry 73 (.tmp 21) (.tmp 22) := op_at (by kernel_rfl) (by kernel_rfl) (by kernel_rfl) (by kernel_rfl)
theorem o75 : ∃ o, ops7[5]? = some o ∧ o.guard = none ∧ o.dst = some 26 ∧ o.op = .extract (.tmp 25) 1 := op_at (by kernel_rfl) (by kernel_rfl) (by kernel_rfl) (by kernel_rfl)
theorem o76 : ∃ o, ops7[6]? = some o ∧ o.guard = none ∧ o.dst = none ∧ o.op = .entryStore 73 (.tmp 21) (.tmp 26) (.tmp 24) := op_at (by kernel_rfl) (by kernel_rfl) (by kernel_rfl) (by kernel_rfl)
theorem sz7 : ops7.size = 7 := by kernel_rfl
theorem add_run (z : Int) (w : World) : (do eqGuard .add 3 (.tmp 23) (.const (.int .i64 1)) (.int .i64 z) (.int .i64 1); binOp .add 3 (.int .i64 z) (.int .i64 1) : Sem Value).run Try.prog w = .ok (.int .i64 (IntKind.i64.wrap (z + 1))) w := by kernel_rfl
theorem put_none (a : Act) (v : Value) : a.put none v = a := rfl
theorem eval_no {a : Act} {d e : Nat} {v : Value} (h : d ≠ e) : (a.put (some d) v).eval (.tmp e) = a.eval (.tmp e) :=
  Act.eval_put fun d' hd' => by
    cases hd'
    intro e'
    cases e'
    exact h rfl
def KS (b : Nat) (es1 : Array MapEntry) (clock1 st i : Nat) (k : Nat → Nat → Int) : Prop := ∀ (w2 : World) (z : Int), w2.heap[b]? = some (.map es1 clock1) → ∃ es', (Instr.entryStore 73 (.map (some b)) (goInt st) (.int .i64 z)).run Try.prog w2 = .ok () (setBlock w2 b (.map es' clock1)) ∧ KM es' clock1 (i + 1) k
theorem VR {s : Sem Value} {v : Value} {P : Program} {w w' : World} (h : s.run P w = .ok v w') : (do pure (Next.value (← s)) : Sem Next).run P w = .ok (.value v) w' := by
  simp [h, Result.andThen]
theorem LK5 {ob : List SO} {e : Nat → Int} (h : ob[0]? = some (.cells 71 [.f .u8 20 e] 0)) : semLoad Try.prog [] ob 71 (.sc (.ptr 0 0)) = some ([], .agg [.f .u8 20 e]) := by
  cases ob with
  | nil => cases h
  | cons x r =>
    obtain rfl : x = .cells 71 [.f .u8 20 e] 0 := Option.some.inj h
    show semLoad Try.prog [] (.cells 71 [.f .u8 20 e] 0 :: r) 71 (.sc (.ptr 0 0)) = some ([], .agg [.f .u8 20 e])
    kernel_rfl
section
variable {Z w0 : World} {ρ0 ρ : Rho} {gl : Globs} {tm : List SV} {ob : List SO} {es : Array MapEntry} {clock i b : Nat} {k : Nat → Nat → Int} {Q : Exit → Act → World → Prop}
theorem r7_ok {a : Act} {w : World} (H : Holds ⟨Z, [], ρ0, gl, kp b (.map es clock)⟩ ρ tm ob a w) (hl : tm.length = 33) (h3 : tm.getD 3 .any = .one (.sc (.val (.map (some b))))) (h5 : tm.getD 5 .any = .one (.sc (.ptr 0 0))) (hob : ob[0]? = some (.cells 71 [.f .u8 20 (k i)] 0))
    (hany : ∀ d, 21 ≤ d → d ≤ 26 → tm.getD d .any = .any) (hb : Z.heap.size ≤ b) (hM : KM es clock i k) (hk : ∀ j, j < i + 1 → kb (k j))
    (hQ : ∀ (a : Act) (w : World) (es' : Array MapEntry) (clock' : Nat), KM es' clock' (i + 1) k → Holds ⟨Z, [], ρ0, gl, kp b (.map es' clock')⟩ ρ tm ob a w → Q .normal a w) (id : Nat) : (Code.region id ops7 true).wp Try.prog Q a w := by
  obtain ⟨o0, i0, g0, d0, x0⟩ := o70
  obtain ⟨o1, i1, g1, d1, x1⟩ := o71
  obtain ⟨o2, i2, g2, d2, x2⟩ := o72
  obtain ⟨o3, i3, g3, d3, x3⟩ := o73
  obtain ⟨o4, i4, g4, d4, x4⟩ := o74
  obtain ⟨o5, i5, g5, d5, x5⟩ := o75
  obtain ⟨o6, i6, g6, d6, x6⟩ := o76
  have hk' : ∀ j, j < i → kb (k j) := fun j hj => hk j (by omega)
  have hki := hk i (by omega)
  have bnd : ∀ {W0 : Base} {a : Act} {w : World} {d : Nat}, Holds W0 ρ tm ob a w → d < 33 → d < a.tmps.size := fun H hd => by rw [H.size, hl]; exact hd
  refine wp_region_any (by kernel_rfl) ?_
  rw [sz7]
  have E3 : ∀ {W0 : Base} {a : Act} {w : World}, Holds W0 ρ tm ob a w → a.eval (.tmp 3) = .map (some b) := fun H => by
    have := H.rep 3
    rw [h3] at this
    exact this
  have L5 : ∀ {es1 : Array MapEntry} {clock1 : Nat} {a : Act} {w : World}, Holds ⟨Z, [], ρ0, gl, kp b (.map es1 clock1)⟩ ρ tm ob a w → (Instr.loadAt 71 (a.eval (.tmp 5))).run Try.prog w = .ok (kv (k i)) w := fun {_ _ a w} H => by
    have h := H.rep 5
    rw [h5] at h
    have h : a.eval (.tmp 5) = SA.conc ρ (.sc (.ptr 0 0)) := h
    have hx : (SA.sc (.ptr 0 0)).bnd (lv ρ ob) := ⟨_, hob, rfl⟩
    have := (semLoad_sound (P := Try.prog) (gl := []) H (t := 71) hx (ps := []) (z := .agg [.f .u8 20 (k i)]) (LK5 hob) (.inl rfl) trivial).1
    rw [kv_conc] at this
    rw [h]
    exact this
  have B1 : ∀ {es1 : Array MapEntry} {clock1 : Nat} {a : Act} {w : World}, Holds ⟨Z, [], ρ0, gl, kp b (.map es1 clock1)⟩ ρ tm ob a w → w.heap[b]? = some (.map es1 clock1) := fun H => (H.keeps b _ ⟨rfl, rfl⟩).1
  have S6 : ∀ (a : Act) (w : World) (es1 : Array MapEntry) (clock1 st : Nat), Holds ⟨Z, [], ρ0, gl, kp b (.map es1 clock1)⟩ ρ tm ob a w → KS b es1 clock1 st i k → a.eval (.tmp 21) = .map (some b) → (∃ z, a.eval (.tmp 24) = .int .i64 z) → a.eval (.tmp 26) = goInt st →
      wpAny Try.prog .any ops7 Q 1 #[true, true, true, true, true, true, false] a w := by
    intro a w es1 clock1 st H hst v21 v24 v26
    obtain ⟨z, v24⟩ := v24
    refine wpAny_all (rs := [6]) (by kernel_rfl) (by simp) fun j hj => ?_
    rw [List.mem_singleton.1 hj]
    obtain ⟨es', hr, hM'⟩ := hst w z (B1 H)
    refine wpOp_skip (w' := setBlock w b (.map es' clock1)) i6 g6 ?_ ?_
    · simp [execOp, x6, v21, v24, v26, hr, Result.andThen]
    · rw [d6, put_none]
      exact wpAny_done (by kernel_rfl) (hQ _ _ es' clock1 hM' (holds_turn H hb es' clock1)) _
  have SA : ∀ (a : Act) (w : World) (es1 : Array MapEntry) (clock1 st : Nat), Holds ⟨Z, [], ρ0, gl, kp b (.map es1 clock1)⟩ ρ tm ob a w → KS b es1 clock1 st i k → a.eval (.tmp 21) = .map (some b) → (∃ z, a.eval (.tmp 24) = .int .i64 z) → (∃ v0, a.eval (.tmp 25) = .tuple #[.int .i64 v0, goInt st]) → 
      wpAny Try.prog .any ops7 Q 2 #[true, true, true, true, true, false, false] a w := by
    intro a w es1 clock1 st H hst v21 v24 v25
    refine wpAny_all (rs := [5]) (by kernel_rfl) (by simp) fun j hj => ?_
    rw [List.mem_singleton.1 hj]
    obtain ⟨v0, hv⟩ := v25
    refine wpOp_val (v := goInt st) (w' := w) i5 g5 ?_ ?_
    · simp [execOp, x5, hv, Instr.extract, Result.andThen]
    · rw [d5]
      exact S6 _ _ es1 clock1 st (holds_any H (hany 26 (by decide) (by decide)) _) hst ((eval_no (d := 26) (by decide)).trans v21) (by obtain ⟨q, hq⟩ := v24; exact ⟨q, (eval_no (d := 26) (by decide)).trans hq⟩) (eval_at (bnd H (by decide)))
  have SB : ∀ (a : Act) (w : World) (es1 : Array MapEntry) (clock1 st : Nat), Holds ⟨Z, [], ρ0, gl, kp b (.map es1 clock1)⟩ ρ tm ob a w → KS b es1 clock1 st i k → a.eval (.tmp 21) = .map (some b) → (∃ z, a.eval (.tmp 23) = .int .i64 z) → a.eval (.tmp 26) = goInt st → 
      wpAny Try.prog .any ops7 Q 2 #[true, true, true, false, true, true, false] a w := by
    intro a w es1 clock1 st H hst v21 v23 v26
    refine wpAny_all (rs := [3]) (by kernel_rfl) (by simp) fun j hj => ?_
    rw [List.mem_singleton.1 hj]
    obtain ⟨z, hz⟩ := v23
    refine wpOp_val (v := .int .i64 (IntKind.i64.wrap (z + 1))) (w' := w) i3 g3 ?_ ?_
    · have hv : a.tmps.getD 23 undef = .int .i64 z := hz
      unfold execOp
      rw [x3]
      simp only [Act.eval, hv]
      exact VR (add_run z w)
    · rw [d3]
      exact S6 _ _ es1 clock1 st (holds_any H (hany 24 (by decide) (by decide)) _) hst ((eval_no (d := 24) (by decide)).trans v21) ⟨_, eval_at (bnd H (by decide))⟩ ((eval_no (d := 24) (by decide)).trans v26)
  have SC : ∀ (a : Act) (w : World) (es1 : Array MapEntry) (clock1 st : Nat), Holds ⟨Z, [], ρ0, gl, kp b (.map es1 clock1)⟩ ρ tm ob a w → KS b es1 clock1 st i k → a.eval (.tmp 21) = .map (some b) → (∃ z, a.eval (.tmp 23) = .int .i64 z) → (∃ v0, a.eval (.tmp 25) = .tuple #[.int .i64 v0, goInt st]) → 
      wpAny Try.prog .any ops7 Q 3 #[true, true, true, false, true, false, false] a w := by
    intro a w es1 clock1 st H hst v21 v23 v25
    refine wpAny_all (rs := [3, 5]) (by kernel_rfl) (by simp) fun j hj => ?_
    simp only [List.mem_cons, List.not_mem_nil, or_false] at hj
    rcases hj with rfl | rfl
    · obtain ⟨z, hz⟩ := v23
      refine wpOp_val (v := .int .i64 (IntKind.i64.wrap (z + 1))) (w' := w) i3 g3 ?_ ?_
      · have hv : a.tmps.getD 23 undef = .int .i64 z := hz
        unfold execOp
        rw [x3]
        simp only [Act.eval, hv]
        exact VR (add_run z w)
      · rw [d3]
        exact SA _ _ es1 clock1 st (holds_any H (hany 24 (by decide) (by decide)) _) hst ((eval_no (d := 24) (by decide)).trans v21) ⟨_, eval_at (bnd H (by decide))⟩ (by obtain ⟨q, hq⟩ := v25; exact ⟨q, (eval_no (d := 24) (by decide)).trans hq⟩)
    · obtain ⟨v0, hv⟩ := v25
      refine wpOp_val (v := goInt st) (w' := w) i5 g5 ?_ ?_
      · simp [execOp, x5, hv, Instr.extract, Result.andThen]
      · rw [d5]
        exact SB _ _ es1 clock1 st (holds_any H (hany 26 (by decide) (by decide)) _) hst ((eval_no (d := 26) (by decide)).trans v21) (by obtain ⟨q, hq⟩ := v23; exact ⟨q, (eval_no (d := 26) (by decide)).trans hq⟩) (eval_at (bnd H (by decide)))
  have SD : ∀ (a : Act) (w : World) (es1 : Array MapEntry) (clock1 st : Nat), Holds ⟨Z, [], ρ0, gl, kp b (.map es1 clock1)⟩ ρ tm ob a w → KS b es1 clock1 st i k → KM es1 clock1 (i + 1) k → a.eval (.tmp 21) = .map (some b) → a.eval (.tmp 22) = kv (k i) → a.eval (.tmp 26) = goInt st → 
      wpAny Try.prog .any ops7 Q 3 #[true, true, false, false, true, true, false] a w := by
    intro a w es1 clock1 st H hst hM1 v21 v22 v26
    refine wpAny_all (rs := [2]) (by kernel_rfl) (by simp) fun j hj => ?_
    rw [List.mem_singleton.1 hj]
    obtain ⟨z, hz⟩ := km_look hM1 hk (B1 H) hki
    refine wpOp_val (v := .int .i64 z) (w' := w) i2 g2 ?_ ?_
    · simp [execOp, x2, v21, v22, hz, Result.andThen]
    · rw [d2]
      exact SB _ _ es1 clock1 st (holds_any H (hany 23 (by decide) (by decide)) _) hst ((eval_no (d := 23) (by decide)).trans v21) ⟨z, eval_at (bnd H (by decide))⟩ ((eval_no (d := 23) (by decide)).trans v26)
  have SE : ∀ (a : Act) (w : World) (es1 : Array MapEntry) (clock1 st : Nat), Holds ⟨Z, [], ρ0, gl, kp b (.map es1 clock1)⟩ ρ tm ob a w → KS b es1 clock1 st i k → KM es1 clock1 (i + 1) k → a.eval (.tmp 21) = .map (some b) → a.eval (.tmp 22) = kv (k i) → (∃ v0, a.eval (.tmp 25) = .tuple #[.int .i64 v0, goInt st]) → 
      wpAny Try.prog .any ops7 Q 4 #[true, true, false, false, true, false, false] a w := by
    intro a w es1 clock1 st H hst hM1 v21 v22 v25
    refine wpAny_all (rs := [2, 5]) (by kernel_rfl) (by simp) fun j hj => ?_
    simp only [List.mem_cons, List.not_mem_nil, or_false] at hj
    rcases hj with rfl | rfl
    · obtain ⟨z, hz⟩ := km_look hM1 hk (B1 H) hki
      refine wpOp_val (v := .int .i64 z) (w' := w) i2 g2 ?_ ?_
      · simp [execOp, x2, v21, v22, hz, Result.andThen]
      · rw [d2]
        exact SC _ _ es1 clock1 st (holds_any H (hany 23 (by decide) (by decide)) _) hst ((eval_no (d := 23) (by decide)).trans v21) ⟨z, eval_at (bnd H (by decide))⟩ (by obtain ⟨q, hq⟩ := v25; exact ⟨q, (eval_no (d := 23) (by decide)).trans hq⟩)
    · obtain ⟨v0, hv⟩ := v25
      refine wpOp_val (v := goInt st) (w' := w) i5 g5 ?_ ?_
      · simp [execOp, x5, hv, Instr.extract, Result.andThen]
      · rw [d5]
        exact SD _ _ es1 clock1 st (holds_any H (hany 26 (by decide) (by decide)) _) hst hM1 ((eval_no (d := 26) (by decide)).trans v21) ((eval_no (d := 26) (by decide)).trans v22) (eval_at (bnd H (by decide)))
  have SF : ∀ (a : Act) (w : World), Holds ⟨Z, [], ρ0, gl, kp b (.map es clock)⟩ ρ tm ob a w → a.eval (.tmp 21) = .map (some b) → a.eval (.tmp 22) = kv (k i) → (∃ z, a.eval (.tmp 24) = .int .i64 z) → 
      wpAny Try.prog .any ops7 Q 3 #[true, true, true, true, false, false, false] a w := by
    intro a w H v21 v22 v24
    refine wpAny_all (rs := [4]) (by kernel_rfl) (by simp) fun j hj => ?_
    rw [List.mem_singleton.1 hj]
    obtain ⟨v0, st, es1, clock1, hr, hM1, hst⟩ := km_entry hM hk (B1 H)
    refine wpOp_val (v := .tuple #[.int .i64 v0, goInt st]) (w' := setBlock w b (.map es1 clock1)) i4 g4 ?_ ?_
    · simp [execOp, x4, v21, v22, hr, Result.andThen]
    · rw [d4]
      exact SA _ _ es1 clock1 st (holds_any (holds_turn H hb es1 clock1) (hany 25 (by decide) (by decide)) _) hst ((eval_no (d := 25) (by decide)).trans v21) (by obtain ⟨q, hq⟩ := v24; exact ⟨q, (eval_no (d := 25) (by decide)).trans hq⟩) ⟨v0, eval_at (bnd H (by decide))⟩
  have SG : ∀ (a : Act) (w : World), Holds ⟨Z, [], ρ0, gl, kp b (.map es clock)⟩ ρ tm ob a w → a.eval (.tmp 21) = .map (some b) → a.eval (.tmp 22) = kv (k i) → (∃ z, a.eval (.tmp 23) = .int .i64 z) → 
      wpAny Try.prog .any ops7 Q 4 #[true, true, true, false, false, false, false] a w := by
    intro a w H v21 v22 v23
    refine wpAny_all (rs := [3, 4]) (by kernel_rfl) (by simp) fun j hj => ?_
    simp only [List.mem_cons, List.not_mem_nil, or_false] at hj
    rcases hj with rfl | rfl
    · obtain ⟨z, hz⟩ := v23
      refine wpOp_val (v := .int .i64 (IntKind.i64.wrap (z + 1))) (w' := w) i3 g3 ?_ ?_
      · have hv : a.tmps.getD 23 undef = .int .i64 z := hz
        unfold execOp
        rw [x3]
        simp only [Act.eval, hv]
        exact VR (add_run z w)
      · rw [d3]
        exact SF _ _ (holds_any H (hany 24 (by decide) (by decide)) _) ((eval_no (d := 24) (by decide)).trans v21) ((eval_no (d := 24) (by decide)).trans v22) ⟨_, eval_at (bnd H (by decide))⟩
    · obtain ⟨v0, st, es1, clock1, hr, hM1, hst⟩ := km_entry hM hk (B1 H)
      refine wpOp_val (v := .tuple #[.int .i64 v0, goInt st]) (w' := setBlock w b (.map es1 clock1)) i4 g4 ?_ ?_
      · simp [execOp, x4, v21, v22, hr, Result.andThen]
      · rw [d4]
        exact SC _ _ es1 clock1 st (holds_any (holds_turn H hb es1 clock1) (hany 25 (by decide) (by decide)) _) hst ((eval_no (d := 25) (by decide)).trans v21) (by obtain ⟨q, hq⟩ := v23; exact ⟨q, (eval_no (d := 25) (by decide)).trans hq⟩) ⟨v0, eval_at (bnd H (by decide))⟩
  have SH : ∀ (a : Act) (w : World), Holds ⟨Z, [], ρ0, gl, kp b (.map es clock)⟩ ρ tm ob a w → a.eval (.tmp 21) = .map (some b) → a.eval (.tmp 22) = kv (k i) → 
      wpAny Try.prog .any ops7 Q 5 #[true, true, false, false, false, false, false] a w := by
    intro a w H v21 v22
    refine wpAny_all (rs := [2, 4]) (by kernel_rfl) (by simp) fun j hj => ?_
    simp only [List.mem_cons, List.not_mem_nil, or_false] at hj
    rcases hj with rfl | rfl
    · obtain ⟨z, hz⟩ := km_look hM hk' (B1 H) hki
      refine wpOp_val (v := .int .i64 z) (w' := w) i2 g2 ?_ ?_
      · simp [execOp, x2, v21, v22, hz, Result.andThen]
      · rw [d2]
        exact SG _ _ (holds_any H (hany 23 (by decide) (by decide)) _) ((eval_no (d := 23) (by decide)).trans v21) ((eval_no (d := 23) (by decide)).trans v22) ⟨z, eval_at (bnd H (by decide))⟩
    · obtain ⟨v0, st, es1, clock1, hr, hM1, hst⟩ := km_entry hM hk (B1 H)
      refine wpOp_val (v := .tuple #[.int .i64 v0, goInt st]) (w' := setBlock w b (.map es1 clock1)) i4 g4 ?_ ?_
      · simp [execOp, x4, v21, v22, hr, Result.andThen]
      · rw [d4]
        exact SE _ _ es1 clock1 st (holds_any (holds_turn H hb es1 clock1) (hany 25 (by decide) (by decide)) _) hst hM1 ((eval_no (d := 25) (by decide)).trans v21) ((eval_no (d := 25) (by decide)).trans v22) ⟨v0, eval_at (bnd H (by decide))⟩
  have SI : ∀ (a : Act) (w : World), Holds ⟨Z, [], ρ0, gl, kp b (.map es clock)⟩ ρ tm ob a w → a.eval (.tmp 21) = .map (some b) → 
      wpAny Try.prog .any ops7 Q 6 #[true, false, false, false, false, false, false] a w := by
    intro a w H v21
    refine wpAny_all (rs := [1]) (by kernel_rfl) (by simp) fun j hj => ?_
    rw [List.mem_singleton.1 hj]
    refine wpOp_val (v := kv (k i)) (w' := w) i1 g1 ?_ ?_
    · simp [execOp, x1, L5 H, Result.andThen]
    · rw [d1]
      exact SH _ _ (holds_any H (hany 22 (by decide) (by decide)) _) ((eval_no (d := 22) (by decide)).trans v21) (eval_at (bnd H (by decide)))
  have SJ : ∀ (a : Act) (w : World), Holds ⟨Z, [], ρ0, gl, kp b (.map es clock)⟩ ρ tm ob a w → a.eval (.tmp 22) = kv (k i) → 
      wpAny Try.prog .any ops7 Q 6 #[false, true, false, false, false, false, false] a w := by
    intro a w H v22
    refine wpAny_all (rs := [0]) (by kernel_rfl) (by simp) fun j hj => ?_
    rw [List.mem_singleton.1 hj]
    refine wpOp_val (v := .map (some b)) (w' := w) i0 g0 ?_ ?_
    · simp [execOp, x0, E3 H]
    · rw [d0]
      exact SH _ _ (holds_any H (hany 21 (by decide) (by decide)) _) (eval_at (bnd H (by decide))) ((eval_no (d := 21) (by decide)).trans v22)
  have SK : ∀ (a : Act) (w : World), Holds ⟨Z, [], ρ0, gl, kp b (.map es clock)⟩ ρ tm ob a w → 
      wpAny Try.prog .any ops7 Q 7 #[false, false, false, false, false, false, false] a w := by
    intro a w H 
    refine wpAny_all (rs := [0, 1]) (by kernel_rfl) (by simp) fun j hj => ?_
    simp only [List.mem_cons, List.not_mem_nil, or_false] at hj
    rcases hj with rfl | rfl
    · refine wpOp_val (v := .map (some b)) (w' := w) i0 g0 ?_ ?_
      · simp [execOp, x0, E3 H]
      · rw [d0]
        exact SI _ _ (holds_any H (hany 21 (by decide) (by decide)) _) (eval_at (bnd H (by decide)))
    · refine wpOp_val (v := kv (k i)) (w' := w) i1 g1 ?_ ?_
      · simp [execOp, x1, L5 H, Result.andThen]
      · rw [d1]
        exact SJ _ _ (holds_any H (hany 22 (by decide) (by decide)) _) (eval_at (bnd H (by decide)))
  exact SK _ _ H.drawnOne
end
end Go.Proofs.Ytjpddnjgbgpegaa
end
