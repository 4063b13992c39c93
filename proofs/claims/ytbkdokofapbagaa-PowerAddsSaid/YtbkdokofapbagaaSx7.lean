/-
  A calculus of symbolic states for walks over translated Go code, part 7: one operation.
-/
import Derived.Test.YtbkdokofapbagaaSx6
namespace Go.Sx
open Go.RowKit

/-! ## A struct or an array put together -/

def placesOf (P : Program) (t : TypeId) : Option (Nat → Option (Nat × Nat)) :=
  match P.underlying t with
  | some (.array _ e) => (P.info? e).map fun ie i => some (i * ie.size, ie.size)
  | some (.struct fs) => (fs.toList.mapM (fun f => (P.info? f.type).map fun i => (f.offset, i.size))).map fun pl i => pl.toArray[i]?
  | _ => none
def fillKs (place : Nat → Option (Nat × Nat)) : List SK → List (Nat × SA) → Option (List SK)
  | ks, [] => some ks
  | ks, (i, x) :: r =>
    match place i with
    | some (off, size) => if (flat (toKs x)).length = size then (lay ks off (toKs x)).bind fun ks' => fillKs place ks' r else none
    | none => none
def semBuild (P : Program) (t : TypeId) (parts : List (Nat × SA)) : VR :=
  match placesOf P t, zeroKs P t with
  | some pl, some zk => (fillKs pl zk parts).map fun ks => ([], .agg ks)
  | _, _ => none

theorem foldl_lay : ∀ (vs : List Value) (off j : Nat) (cur : Array Value), off + j + vs.length ≤ cur.size →
    ((vs.zipIdx j).foldl (fun cs (x : Value × Nat) => cs.setIfInBounds (off + x.2) x.1) cur).toList = cur.toList.take (off + j) ++ vs ++ cur.toList.drop (off + j + vs.length)
  | [], off, j, cur, _ => by simp
  | v :: vs, off, j, cur, h => by
    simp only [List.length_cons] at h
    have ih := foldl_lay vs off (j + 1) (cur.setIfInBounds (off + j) v) (by simp; omega)
    simp only [List.zipIdx_cons, List.foldl_cons]
    rw [ih]
    apply List.ext_getElem?
    intro i
    simp only [Array.toList_setIfInBounds, List.getElem?_append, List.length_append, List.length_take, List.length_set, Array.length_toList, List.getElem?_take, List.getElem?_set, List.getElem?_drop, List.length_cons]
    by_cases h1 : i < off + j
    · have a1 : i < off + (j + 1) := by omega
      have a2 : off + j ≠ i := by omega
      simp [show i < min (off + (j + 1)) cur.size by omega, show i < min (off + j) cur.size by omega, show i < min (off + (j + 1)) cur.size + vs.length by omega, show i < min (off + j) cur.size + (vs.length + 1) by omega, h1, a1, a2]
    · by_cases h2 : i = off + j
      · subst h2
        simp [show off + j < min (off + (j + 1)) cur.size by omega, show ¬ off + j < min (off + j) cur.size by omega, show off + j < min (off + (j + 1)) cur.size + vs.length by omega, show off + j < min (off + j) cur.size + (vs.length + 1) by omega,
          show off + j < off + (j + 1) by omega, show off + j < cur.size by omega, show off + j - min (off + j) cur.size = 0 by omega]
      · by_cases h3 : i < off + j + 1 + vs.length
        · simp [show ¬ i < min (off + (j + 1)) cur.size by omega, show ¬ i < min (off + j) cur.size by omega, show i < min (off + (j + 1)) cur.size + vs.length by omega, show i < min (off + j) cur.size + (vs.length + 1) by omega,
            show i - min (off + j) cur.size = (i - min (off + (j + 1)) cur.size) + 1 by omega]
        · simp [show ¬ i < min (off + (j + 1)) cur.size + vs.length by omega, show ¬ i < min (off + j) cur.size + (vs.length + 1) by omega]
          rw [if_neg (by omega)]
          congr 1
          omega

theorem fillKs_sound {place : Nat → Option (Nat × Nat)} (ρ : Nat → Nat) : ∀ {parts : List (Nat × SA)} {ks r : List SK}, fillKs place ks parts = some r →
    Instr.fill place (concs ρ ks).toArray (parts.map fun p => (p.1, p.2.conc ρ)) = some (concs ρ r).toArray
  | [], ks, r, h => by simp only [fillKs, Option.some.injEq] at h; subst h; rfl
  | (i, x) :: parts, ks, r, h => by
    simp only [fillKs] at h
    split at h
    · rename_i off size hp
      split at h
      · rename_i hs
        obtain ⟨ks', h1, h2⟩ := Option.bind_eq_some_iff.1 h
        have ih := fillKs_sound ρ h2
        obtain ⟨l1, l2⟩ := lay_flat h1
        simp only [List.map_cons, Instr.fill, hp, toKs_conc]
        have hlen : (concs ρ (toKs x)).length = size := by simp [concs, hs]
        have c1 : (decide ((concs ρ (toKs x)).toArray.size ≠ size) || decide (off + (concs ρ (toKs x)).toArray.size > (concs ρ ks).toArray.size)) = false := by
          simp only [List.size_toArray, hlen, ne_eq, not_true_eq_false, decide_false, Bool.false_or, decide_eq_false_iff_not]
          have : (concs ρ ks).length = (flat ks).length := by simp [concs]
          omega
        rw [c1]
        simp only [Bool.false_eq_true, if_false]
        rw [← ih]
        congr 1
        have := foldl_lay (concs ρ (toKs x)) off 0 (concs ρ ks).toArray (by simp only [concs, List.length_map, List.size_toArray]; omega)
        apply Array.ext'
        rw [← Array.foldl_toList, Array.toList_zipIdx]
        simp only [Nat.add_zero] at this ⊢
        rw [this]
        simp only [concs, l2, List.map_append, List.map_take, List.map_drop, List.length_map]
      · cases h
    · cases h

theorem lay_bnd {n : Nat → Prop} {ks new r : List SK} {off : Nat} (h : lay ks off new = some r) (h1 : ∀ k ∈ ks, k.bnd n) (h2 : ∀ k ∈ new, k.bnd n) : ∀ k ∈ r, k.bnd n := by
  rw [bnd_flat, (lay_flat h).2]
  intro c hc
  simp only [List.mem_append] at hc
  rcases hc with (hc | hc) | hc
  · exact bnd_flat.1 h1 c (List.mem_of_mem_take hc)
  · exact bnd_flat.1 h2 c hc
  · exact bnd_flat.1 h1 c (List.mem_of_mem_drop hc)
theorem fillKs_bnd {place : Nat → Option (Nat × Nat)} {n : Nat → Prop} : ∀ {parts : List (Nat × SA)} {ks r : List SK}, fillKs place ks parts = some r → (∀ k ∈ ks, k.bnd n) → (∀ p ∈ parts, p.2.bnd n) → ∀ k ∈ r, k.bnd n
  | [], ks, r, h, h1, _ => by simp only [fillKs, Option.some.injEq] at h; subst h; exact h1
  | (i, x) :: parts, ks, r, h, h1, h2 => by
    simp only [fillKs] at h
    split at h
    · split at h
      · obtain ⟨ks', e1, e2⟩ := Option.bind_eq_some_iff.1 h
        exact fillKs_bnd e2 (lay_bnd e1 h1 (toKs_bnd (h2 (i, x) (by simp)))) (fun p hp => h2 p (by simp [hp]))
      · cases h
    · cases h
theorem zeroKs_bnd {P : Program} {t : TypeId} {ks : List SK} (h : zeroKs P t = some ks) (n : Nat → Prop) : ∀ k ∈ ks, k.bnd n := by
  unfold zeroKs at h
  split at h
  · simp only [Option.some.injEq] at h; subst h
    intro k hk
    obtain ⟨v, _, rfl⟩ := List.mem_map.1 hk
    exact litC_bnd n v
  · cases h
theorem semBuild_sound {P : Program} {t : TypeId} {parts : List (Nat × SA)} {ps : List Prop} {z : SA} (h : semBuild P t parts = some (ps, z)) (ρ : Nat → Nat) (n : Nat → Prop) (hb : ∀ p ∈ parts, p.2.bnd n) (w : World) :
    (Instr.build t (parts.map fun p => (p.1, p.2.conc ρ)).toArray).run P w = .ok (z.conc ρ) w ∧ z.bnd n := by
  unfold semBuild at h
  split at h
  case h_2 => cases h
  rename_i pl zk hpl hzk
  simp only [Option.map_eq_some_iff, Prod.mk.injEq] at h
  obtain ⟨ks, hf, rfl, rfl⟩ := h
  refine ⟨?_, fillKs_bnd hf (zeroKs_bnd hzk n) hb⟩
  have hfill := fillKs_sound ρ hf
  unfold zeroKs at hzk
  split at hzk
  case h_2 => cases hzk
  rename_i z hz
  simp only [Option.some.injEq] at hzk
  subst hzk
  obtain ⟨i, hi, hz⟩ := Option.bind_eq_some_iff.1 hz
  rw [litCs_conc] at hfill
  refine run_build w t _ _ ?_
  unfold Program.built placesOf at *
  split at hpl
  · rename_i m e hu
    obtain ⟨ie, hie, rfl⟩ := Option.map_eq_some_iff.1 hpl
    simp only [hi, hu, hz, hie]
    exact hfill
  · rename_i fs hu
    obtain ⟨pl', hpl', rfl⟩ := Option.map_eq_some_iff.1 hpl
    simp only [hi, hu, hz, hpl']
    exact hfill
  · cases hpl

end Go.Sx
