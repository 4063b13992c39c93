/-
  What a law asks, brought to what its run comes to: arguments opened to their cells, and what is left of them behind the run.
-/
import Derived.ProofKit
import Derived.OpenShut
import Derived.Test.YtbkdokofapbagaaSx12
namespace Go.Sx
open Go.RowKit Go.ChangeShapes Go.WideShapes

/-! ## Flat things: their cells, one behind another -/
inductive LK where
  | bool
  | int (k : IntKind)
  | text

def LK.fits : LK → Value → Prop
  | .bool, .bool _ => True
  | .int k, .int k' n => k' = k ∧ (Lit.int k n).wf = true
  | .text, .string s => s.size ≤ maxLen
  | _, _ => False

def fitsL : List LK → List Value → Prop
  | [], [] => True
  | l :: ls, v :: vs => l.fits v ∧ fitsL ls vs
  | _, _ => False

theorem fitsL_append : ∀ {a b : List LK} {u v : List Value}, fitsL a u → fitsL b v → fitsL (a ++ b) (u ++ v)
  | [], _, [], _, _, h => h
  | _ :: _, _, _ :: _, _, h, k => ⟨h.1, fitsL_append h.2 k⟩
  | [], _, _ :: _, _, h, _ => h.elim
  | _ :: _, _, [], _, h, _ => h.elim

/-- The cells of a struct's fields, where they lie one behind another. -/
def lksF (P : Program) (g : TypeId → Option (List LK)) : List Field → Nat → Option (List LK)
  | [], _ => some []
  | f :: fs, n =>
    match g f.type with
    | none => none
    | some a => if Nat.beq f.offset n && Nat.beq (P.cellsOf f.type) a.length then (lksF P g fs (n + a.length)).map (a ++ ·) else none

def lks (P : Program) : Nat → TypeId → Option (List LK)
  | 0, _ => none
  | d + 1, t =>
    match P.underlying t with
    | some .bool => some [.bool]
    | some (.int k) => some [.int k]
    | some .string => some [.text]
    | some (.struct fs) => match lksF P (lks P d) fs.toList 0 with
      | some a => if Nat.beq (P.cellsOf t) a.length then some a else none
      | none => none
    | some (.array n e) => match lks P d e with
      | some a => if Nat.beq (P.cellsOf e) a.length && Nat.beq (P.cellsOf t) (n * a.length) then some (List.replicate n a).flatten else none
      | none => none
    | _ => none

section
variable {H : Type} {enc : TypeId × Value → H} {P : Program} {w : World} {base : Nat} {sp : Nat → Bool} {held : Bool}

theorem fits_fields {fuel : Nat} {g : TypeId → Option (List LK)} {cs : List Value}
    (hg : ∀ {t a cs' x}, g t = some a → DataW.trod enc P w base sp held fuel t cs' = some x → fitsL a cs') :
    ∀ {fs : List Field} {n : Nat} {a : List LK}, lksF P g fs n = some a →
      (∀ f ∈ fs, ∃ x, DataW.trod enc P w base sp held fuel f.type ((cs.drop f.offset).take (P.cellsOf f.type)) = some x) → fitsL a ((cs.drop n).take a.length)
  | [], n, a, h, _ => by
    simp only [lksF, Option.some.injEq] at h
    subst h
    simp [fitsL]
  | f :: fs, n, a, h, hx => by
    simp only [lksF] at h
    split at h
    · cases h
    · rename_i a0 ha
      split at h
      · rename_i hc
        simp only [Bool.and_eq_true] at hc
        have h1 := Nat.eq_of_beq_eq_true hc.1
        have h2 := Nat.eq_of_beq_eq_true hc.2
        cases hr : lksF P g fs (n + a0.length) with
        | none => rw [hr] at h; simp at h
        | some a1 =>
          rw [hr] at h
          simp only [Option.map_some, Option.some.injEq] at h
          subst h
          obtain ⟨x, hx0⟩ := hx f (by simp)
          have f0 := hg ha hx0
          have f1 := fits_fields hg hr (fun f' hf' => hx f' (by simp [hf']))
          rw [h1, h2] at f0
          have := fitsL_append f0 f1
          rwa [List.length_append, List.take_add, List.drop_drop]
      · cases h

theorem fits_rows {a : List LK} : ∀ {n : Nat} {cs : List Value}, (∀ i, i < n → fitsL a ((cs.drop (i * a.length)).take a.length)) → cs.length = n * a.length → fitsL (List.replicate n a).flatten cs
  | 0, cs, _, hl => by
    have : cs = [] := List.eq_nil_of_length_eq_zero (by omega)
    subst this
    trivial
  | n + 1, cs, h, hl => by
    rw [List.replicate_succ, List.flatten_cons]
    have h0 := h 0 (by omega)
    rw [Nat.zero_mul, List.drop_zero] at h0
    have := fitsL_append h0 (fits_rows (n := n) (cs := cs.drop a.length) (fun i hi => by
      have := h (i + 1) (by omega)
      rw [List.drop_drop]
      rwa [Nat.add_mul, Nat.one_mul, Nat.add_comm] at this) (by rw [List.length_drop, hl, Nat.add_mul]; omega))
    rwa [List.take_append_drop] at this

theorem trod_fits : ∀ {d : Nat} {t : TypeId} {a : List LK} {fuel : Nat} {cs : List Value} {x : DataW H × List MemPlace}, lks P d t = some a → DataW.trod enc P w base sp held fuel t cs = some x → fitsL a cs
  | 0, _, _, _, _, _, h, _ => by cases h
  | d + 1, t, a, fuel, cs, x, h, hx => by
    unfold lks at h
    split at h
    · rename_i hu
      obtain ⟨b, rfl, _⟩ := DataW.trod_bool hu hx
      simp only [Option.some.injEq] at h; subst h
      exact ⟨trivial, trivial⟩
    · rename_i k hu
      obtain ⟨n, rfl, _, hw⟩ := DataW.trod_int hu hx
      simp only [Option.some.injEq] at h; subst h
      exact ⟨⟨rfl, hw⟩, trivial⟩
    · rename_i hu
      obtain ⟨s, rfl, _, hs⟩ := DataW.trod_string hu hx
      simp only [Option.some.injEq] at h; subst h
      exact ⟨hs, trivial⟩
    · rename_i fs hu
      split at h
      · rename_i a' ha
        split at h
        · rename_i hc
          simp only [Option.some.injEq] at h; subst h
          obtain ⟨xs, n, rfl, _, hl, hn, hf⟩ := DataW.trod_struct hu hx
          have := fits_fields (cs := cs) (fun h1 h2 => trod_fits (d := d) h1 h2) ha (fun f hm => by
            obtain ⟨i, hi, e⟩ := List.mem_iff_getElem.1 hm
            have e' : fs[i]? = some f := by rw [← e]; simp at hi ⊢
            have hlt : i < xs.length := by simp at hi; omega
            exact ⟨xs[i], by rw [hf i f e']; simp [hlt]⟩)
          rw [List.drop_zero, List.take_of_length_le (by rw [hl, Nat.eq_of_beq_eq_true hc]; exact Nat.le_refl _)] at this
          exact this
        · cases h
      · cases h
    · rename_i n e hu
      split at h
      · rename_i a' ha
        split at h
        · rename_i hc
          simp only [Bool.and_eq_true] at hc
          simp only [Option.some.injEq] at h; subst h
          obtain ⟨xs, m, rfl, _, hl, hn, hf⟩ := DataW.trod_array hu hx
          have h1 := Nat.eq_of_beq_eq_true hc.1
          have h2 := Nat.eq_of_beq_eq_true hc.2
          refine fits_rows (fun i hi => ?_) (by rw [hl, h2])
          have := hf i hi
          have hlt : i < xs.length := by omega
          rw [h1, List.getElem?_eq_getElem hlt] at this
          exact trod_fits ha this
        · cases h
      · cases h
    · cases h

/-- A struct or an array of flat things, opened: a row of cells that fit. -/
theorem open_flat {d : Nat} {t : TypeId} {a : List LK} {r : Reach} {b0 : Nat} {v : Value} {x : DataW H} {ps : List MemPlace} (ha : lks P d t = some a)
    (hs : (match P.underlying t with | some (.struct _) | some (.array _ _) => true | _ => false) = true)
    (hval : Value.okWide P w r b0 t v) (hd : DataW.Trod enc P w base sp held t v x ps) : ∃ cs : List Value, v = .agg cs.toArray ∧ fitsL a cs := by
  obtain ⟨fuel, hf⟩ := hd
  have : ∃ cs : Array Value, v = .agg cs := by
    unfold Value.okWide at hval
    split at hval
    · obtain ⟨cs, h, _⟩ := hval; exact ⟨cs, h⟩
    · obtain ⟨cs, h, _⟩ := hval; exact ⟨cs, h⟩
    · rename_i h1 h2
      split at hs
      · rename_i e; exact (h1 _ e).elim
      · rename_i e; exact (h2 _ _ e).elim
      · cases hs
  obtain ⟨cs, rfl⟩ := this
  exact ⟨cs.toList, rfl, trod_fits ha hf⟩

/-! ## What is behind a law's run -/
theorem trodAll_carry (hl : laidOutB P = true) {W W' : World} (hb : Below W.heap.size W W') {sp' : Nat → Bool} :
    ∀ {ts : List TypeId} {vs : List Value} {ds : List (DataW H)} {ps : List MemPlace}, ts.all (fun t => P.readableRec t && Nat.blt t P.types.size) = true →
      DataW.TrodAll enc P W 0 (fun _ => true) true ts vs ds ps → (∀ x ∈ ps, x.block < W.heap.size) → (∀ x ∈ ps, sp' x.block = true) → DataW.TrodAll enc P W' 0 sp' true ts vs ds ps
  | [], _, _, _, _, h, _, _ => by
    obtain ⟨rfl, rfl, rfl⟩ := trodAll_nil h
    exact rfl
  | t :: ts, _, _, _, hr, h, hlt, hsp => by
    obtain ⟨v, vs, d, ds, p, q, rfl, rfl, rfl, h1, h2⟩ := trodAll_cons h
    simp only [List.all_cons, Bool.and_eq_true] at hr
    obtain ⟨⟨hr1, hr2⟩, hr3⟩ := hr
    refine trodAll_cons_mk (Go.WideElems.Trod_stays hl hr1 (by simpa [Nat.blt, Nat.succ_le_iff] using hr2) h1 (fun x hx => hb.same (hlt x (by simp [hx]))) (fun x hx => hsp x (by simp [hx])))
      (trodAll_carry hl hb hr3 h2 (fun x hx => hlt x (by simp [hx])) (fun x hx => hsp x (by simp [hx])))

/-- A law that answers true, and leaves its arguments as they were. -/
theorem law_post {f : Func} {s : ChangeSpec} {fresh handsOn again : Bool} {W W' : World} {args : Array Value} {ds gs : List (DataW H)} {before : List MemPlace} {tb : TypeId}
    (hl : laidOutB P = true) (hp : f.params.toList.all (fun t => P.readableRec t && Nat.blt t P.types.size) = true) (hr : f.resultTypes = #[tb]) (hu : P.underlying tb = some .bool) (hv : s.vars = [])
    (hs : s.fn H (ds ++ gs) = { results := [.lit (.bool true)], args := ds, vars := [] })
    (hW : DataW.Whole enc P f.params.toList s.vars false W args.toList ds gs before) (hb : Below W.heap.size W W') :
    s.post enc P f false fresh handsOn again W args (.bool true) W' := by
  have hlt : ∀ p ∈ before, p.block < W.heap.size := fun p hp => hW.lt p hp
  have hW0 := hW
  obtain ⟨p, q, hA, hV, he, hz, hn⟩ := hW
  rw [hv] at hV
  obtain ⟨rfl, rfl⟩ := trodVars_none hV
  rw [List.append_nil] at he
  subst he
  have hres : ∀ (b : Nat) (sp : Nat → Bool) (hd : Bool), DataW.TrodAll enc P W' b sp hd f.resultTypes.toList (Value.resultList f.resultTypes.size (.bool true)) (s.fn H (ds ++ [])).results [] := by
    intro b sp hd
    rw [hs, hr]
    exact trodAll_mk1 (shut_bool hu true)
  have hargs : ∀ sp : Nat → Bool, (∀ x ∈ before, sp x.block = true) → DataW.TrodAll enc P W' 0 sp true f.params.toList args.toList (s.fn H (ds ++ [])).args before := by
    intro sp hsp
    rw [hs]
    exact trodAll_carry hl hb hp hA hlt hsp
  have hvars : ∀ sp : Nat → Bool, DataW.TrodVars enc P W' sp s.vars (s.fn H (ds ++ [])).vars [] := by
    intro sp
    rw [hv, hs]
    exact rfl
  refine ⟨ds, [], before, [], before, [], hW0, hres _ _ _, hargs _ (fun x hx => by simpa using hlt x hx), hvars _, World.keptBut_mono (fun x hx => ⟨hx, .inr (.inl hx)⟩) (hb.frame (· ∈ before)), fun _ => ⟨?_, _, [], before, ⟨before, [], trodAll_append (hargs _ (fun _ _ => rfl)) (hres _ _ _), ?_, (List.append_nil _).symm, ?_, ?_⟩, fun x hx _ => hx⟩⟩
  · refine ok_one hr rfl ?_
    unfold Value.okWide
    rw [hu]
    unfold Cell.okWide
    rw [hu]
    unfold Cell.ok
    rw [hu]
    trivial
  · have := hvars (fun _ => true)
    rw [hs] at this
    exact this
  · intro b off hm
    rw [hb.frozen (hlt _ hm)]
    exact hz b off hm
  · intro h; cases h
end
end Go.Sx
