/-
  Texts: Sx6, Sx7.
-/
import Derived.Test.YtanlbhkppagfdaaM1
import Derived.Laws.CopyOwn
section
namespace Go.Sx
open Go.RowKit
theorem ob_lt {ob : List SO} {i : Nat} {x : SO} (h : ob[i]? = some x) : i < ob.length := by
  rcases Nat.lt_or_ge i ob.length with k | k
  · exact k
  · rw [List.getElem?_eq_none k] at h; cases h
theorem heap_lt {w : World} {i : Nat} {x : Obj} (h : w.heap[i]? = some x) : i < w.heap.size := by
  rcases Nat.lt_or_ge i w.heap.size with k | k
  · exact k
  · rw [Array.getElem?_eq_none k] at h; cases h
def place (ob : List SO) (id : Nat) (x : SO) : Option (List SO) :=
  match ob[id]? with
  | none => if Nat.beq id ob.length then some (ob ++ [x]) else none
  | some .gone => some (ob.set id x)
  | some (.cells _ _ _) => none
  | some (.row _ _ _ _ _) => none
  | some (.rown _ _ _ _ _ _) => none
  | some (.mp _ _ _ _ _ _) => none
  | some .dead => none
theorem place_get {ob ob' : List SO} {id : Nat} {x : SO} (h : place ob id x = some ob') : ¬ live ob id ∧ ob[id]? ≠ some .dead ∧ ob'[id]? = some x ∧ ∀ i, i ≠ id → ob'[i]? = ob[i]? := by
  unfold place at h
  split at h
  · rename_i hn
    split at h
    · rename_i he
      have he := Nat.eq_of_beq_eq_true he
      subst he
      simp only [Option.some.injEq] at h
      subst h
      refine ⟨fun ⟨y, hl, _⟩ => (by rw [hn] at hl; cases hl), by rw [hn]; simp, by simp, fun i hi => ?_⟩
      rcases Nat.lt_or_ge i ob.length with hl | hl
      · rw [List.getElem?_append_left hl]
      · rw [List.getElem?_eq_none hl, List.getElem?_eq_none (by simp; omega)]
    · cases h
  · rename_i hn
    simp only [Option.some.injEq] at h
    subst h
    refine ⟨fun ⟨y, hl, hh⟩ => (by rw [hn] at hl; cases hl; cases hh), by rw [hn]; simp, by simp [ob_lt hn], fun i hi => by rw [List.getElem?_set_ne (fun e => hi e.symm)]⟩
  · cases h
  · cases h
  · cases h
  · cases h
  · cases h
def grown (ρ : Rho) (n b : Nat) : Rho := ⟨fun i => if i = n then b else ρ i, ρ.fz⟩
theorem grown_agree (ρ : Rho) (id b : Nat) {ob : List SO} (h : ¬ live ob id) : Agree (lv ρ ob) ρ (grown ρ id b) := fun i hi => by
  have : i ≠ id := by rintro rfl; exact h hi
  simp only [grown, if_neg this]
theorem live_place {ob ob' : List SO} {id : Nat} {x : SO} (h : place ob id x = some ob') (i : Nat) (hi : live ob i) : live ob' i := by
  obtain ⟨h1, _, _, h3⟩ := place_get h
  obtain ⟨y, hi, hy⟩ := hi
  have : i ≠ id := by rintro rfl; exact h1 ⟨y, hi, hy⟩
  exact ⟨y, by rw [h3 i this]; exact hi, hy⟩
theorem lv_place {ρ : Rho} {ob ob' : List SO} {id b : Nat} {x : SO} (h : place ob id x = some ob') : Env.le (lv ρ ob) (lv (grown ρ id b) ob') := ⟨live_place h, fun _ _ _ k => k⟩
theorem lies_grown {ρ : Rho} {ob : List SO} {id b : Nat} (h : ¬ live ob id) {x : SO} (hx : x.ok (lv ρ ob)) (rest : List Value) : x.lies (grown ρ id b) rest = x.lies ρ rest := lies_agree (grown_agree ρ id b h) hx rest
theorem Mem.placeO {B : Nat} {ρ : Rho} {ob ob' : List SO} {w : World} (h : Mem B ρ ob w) (hB : B ≤ w.heap.size) {id : Nat} {x : SO} {rest : List Value} (hx : x.has = true) (hr : rest.length = x.spare) (hp : place ob id x = some ob') (hb : x.ok (lv ρ ob)) :
    Mem B (grown ρ id w.heap.size) ob' (w.alloc (x.lies ρ rest)) := by
  obtain ⟨p1, _, p2, p3⟩ := place_get hp
  have hag := grown_agree ρ id w.heap.size p1
  have hnew : grown ρ id w.heap.size id = w.heap.size := by simp [grown]
  have old : ∀ i y, ob'[i]? = some y → (i ≠ id ∧ ob[i]? = some y) ∨ (i = id ∧ y = x) := by
    intro i y hi
    by_cases k : i = id
    · subst k
      rw [p2] at hi
      simp only [Option.some.injEq] at hi
      exact .inr ⟨rfl, hi.symm⟩
    · exact .inl ⟨k, by rw [← p3 i k]; exact hi⟩
  refine ⟨fun i y hi hy => ?_, fun i j hi hj hij => ?_, fun b o v hv => ?_⟩
  · rcases old i y hi with ⟨_, hi⟩ | ⟨rfl, rfl⟩
    · obtain ⟨h1, ⟨rs, hrs, h2⟩, h3⟩ := h.objs i y hi hy
      have e := hag i ⟨y, hi, hy⟩
      refine ⟨by rw [e]; exact h1, ⟨rs, hrs, ?_⟩, SO.ok_mono (lv_place hp) h3⟩
      rw [lies_grown p1 h3, e, Below.heap_alloc _ _ _ (heap_lt h2)]; exact h2
    · rw [hnew]
      refine ⟨hB, ⟨rest, hr, ?_⟩, SO.ok_mono (lv_place hp) hb⟩
      rw [lies_grown p1 hb]
      show (w.heap.push _)[w.heap.size]? = _
      simp
  · obtain ⟨y, hi, hy⟩ := hi
    obtain ⟨z, hj, hz⟩ := hj
    rcases old i y hi with ⟨_, hi1⟩ | ⟨hi1, _⟩ <;> rcases old j z hj with ⟨_, hj1⟩ | ⟨hj1, _⟩
    · rw [hag i ⟨y, hi1, hy⟩, hag j ⟨z, hj1, hz⟩] at hij; exact h.injs i j ⟨y, hi1, hy⟩ ⟨z, hj1, hz⟩ hij
    · subst hj1
      rw [hag i ⟨y, hi1, hy⟩, hnew] at hij
      obtain ⟨_, ⟨_, _, h2⟩, _⟩ := h.objs i y hi1 hy
      have := heap_lt h2; omega
    · subst hi1
      rw [hag j ⟨z, hj1, hz⟩, hnew] at hij
      obtain ⟨_, ⟨_, _, h2⟩, _⟩ := h.objs j z hj1 hz
      have := heap_lt h2; omega
    · rw [hi1, hj1]
  · obtain ⟨k1, k2⟩ := h.frz b o v hv
    have hlt : b < w.heap.size := by
      rcases Nat.lt_or_ge b w.heap.size with k | k
      · exact k
      · simp only [World.cell?, Array.getElem?_eq_none k] at k1; cases k1
    refine ⟨?_, fun i hi => ?_⟩
    · simp only [World.cell?] at k1 ⊢
      rw [Below.heap_alloc _ _ _ hlt]; exact k1
    · obtain ⟨y, hi, hy⟩ := hi
      rcases old i y hi with ⟨_, hi1⟩ | ⟨hi1, _⟩
      · rw [hag i ⟨y, hi1, hy⟩]; exact k2 i ⟨y, hi1, hy⟩
      · rw [hi1, hnew]; omega
theorem place_length {ob ob' : List SO} {id : Nat} {x : SO} (h : Sx.place ob id x = some ob') : ob.length ≤ ob'.length := by
  unfold Sx.place at h
  split at h
  · split at h
    · simp only [Option.some.injEq] at h; subst h; simp
    · cases h
  · simp only [Option.some.injEq] at h; subst h; simp
  · cases h
  · cases h
  · cases h
  · cases h
  · cases h
theorem Kept.place {Z : Base} {ρ : Rho} {ob ob' : List SO} (h : Kept Z ρ ob) {id b : Nat} {x : SO} (hp : Sx.place ob id x = some ob') : Kept Z (grown ρ id b) ob' := by
  obtain ⟨p1, p2, _, p4⟩ := place_get hp
  have hd : ∀ i : Nat, ob[i]? = some .dead → ob'[i]? = some .dead := fun i k => by
    have : i ≠ id := by rintro rfl; exact p2 k
    rw [p4 i this]; exact k
  refine ⟨fun i hi => ?_, fun i hi => hd i (h.2.1 i hi), Nat.le_trans h.2.2 (place_length hp)⟩
  rcases h.1 i hi with ⟨k1, k2⟩ | k
  · exact .inl ⟨live_place hp i k1, by rw [grown_agree ρ id b p1 i k1, k2]⟩
  · exact .inr (hd i k)
theorem Keeps.place {keep : Nat → Obj → Prop} {B : Nat} {ρ : Rho} {ob ob' : List SO} {w : World} (h : Keeps keep ρ ob w) (_ : Mem B ρ ob w) {id : Nat} {x : SO} {y : Obj} (hp : Sx.place ob id x = some ob') : Keeps keep (grown ρ id w.heap.size) ob' (w.alloc y) := by
  obtain ⟨p1, _, _, p3⟩ := place_get hp
  intro b z hz
  obtain ⟨k1, k2⟩ := h b z hz
  have hlt : b < w.heap.size := by
    rcases Nat.lt_or_ge b w.heap.size with k | k
    · exact k
    · rw [Array.getElem?_eq_none k] at k1; cases k1
  refine ⟨by rw [Below.heap_alloc _ _ _ hlt]; exact k1, fun i hi => ?_⟩
  by_cases k : i = id
  · subst k
    simp only [grown, if_true]
    omega
  · obtain ⟨y, hi, hy⟩ := hi
    rw [p3 i k] at hi
    rw [grown_agree ρ id w.heap.size p1 i ⟨y, hi, hy⟩]
    exact k2 i ⟨y, hi, hy⟩
theorem Holds.placedO {W0 : Base} {ρ : Rho} {tm : List SV} {ob ob' : List SO} {a : Act} {w : World} (h : Holds W0 ρ tm ob a w) {id : Nat} {x : SO} {rest : List Value} (hx : x.has = true) (hr : rest.length = x.spare) (hp : Sx.place ob id x = some ob') (hb : x.ok (lv ρ ob)) :
    Holds W0 (grown ρ id w.heap.size) tm ob' a (w.alloc (x.lies ρ rest)) ∧ live ob' id ∧ grown ρ id w.heap.size id = w.heap.size := by
  obtain ⟨p1, _, p2, _⟩ := place_get hp
  have hag := grown_agree ρ id w.heap.size p1
  exact ⟨⟨h.size, fun t => hag.sv (h.bnd t) (h.rep t), fun t => SV.bnd_mono (lv_place hp) (h.bnd t), h.defers, h.below.alloc h.below.size _, h.mem.placeO h.below.size hx hr hp hb, h.kept.place hp, h.gl, ⟨h.fzs.le, h.fzs.own⟩, h.keeps.place h.mem hp⟩, ⟨x, p2, hx⟩, by simp [grown]⟩
theorem Holds.placed {W0 : Base} {ρ : Rho} {tm : List SV} {ob ob' : List SO} {a : Act} {w : World} (h : Holds W0 ρ tm ob a w) {id : Nat} {e : TypeId} {ks : List SK} {rest : List Value} (hp : Sx.place ob id (.cells e ks rest.length) = some ob') (hb : ∀ k ∈ ks, k.bnd (lv ρ ob)) (hf : ∀ k ∈ ks, k.fit = true) :
    Holds W0 (grown ρ id w.heap.size) tm ob' a (w.alloc (.cells (concs ρ ks ++ rest).toArray e)) ∧ live ob' id ∧ grown ρ id w.heap.size id = w.heap.size :=
  h.placedO (x := .cells e ks rest.length) rfl rfl hp ⟨hb, hf⟩
theorem Holds.place {W0 : Base} {ρ : Rho} {tm : List SV} {ob ob' : List SO} {a : Act} {w : World} (h : Holds W0 ρ tm ob a w) {id : Nat} {e : TypeId} {ks : List SK} (hp : Sx.place ob id (.cells e ks 0) = some ob') (hb : ∀ k ∈ ks, k.bnd (lv ρ ob)) (hf : ∀ k ∈ ks, k.fit = true) (dst : Option Tmp) :
    Holds W0 (grown ρ id w.heap.size) (Sx.put tm dst (.one (.sc (.ptr id 0)))) ob' (a.put dst (.pointer (some ⟨w.heap.size, 0, none⟩))) (w.alloc (.cells (concs ρ ks).toArray e)) := by
  obtain ⟨H, hl, hg⟩ := h.placed (rest := []) hp hb hf
  rw [List.append_nil] at H
  exact H.put dst (by simp [SV.rep, SA.conc, SC.conc, hg]) hl
def zeroKs (P : Program) (t : TypeId) : Option (List SK) :=
  match (P.info? t).bind (·.zero) with
  | some z => some (z.cells.toList.map litC)
  | none => none
theorem run_zero {P : Program} {t : TypeId} {ks : List SK} (h : zeroKs P t = some ks) (w : World) : ∃ z, (zeroValue t).run P w = .ok z w ∧ ∀ ρ, z.cells = (concs ρ ks).toArray := by
  unfold zeroKs at h
  split at h
  · rename_i z hz
    simp only [Option.some.injEq] at h
    subst h
    obtain ⟨i, hi, hz⟩ := Option.bind_eq_some_iff.1 hz
    refine ⟨z, ?_, fun ρ => by rw [litCs_conc]⟩
    simp [zeroValue, run_typeInfo w hi, hz]
  · cases h
def toKs : SA → List SK
  | .sc (.val (.agg cs)) => cs.toList.map litC
  | .sc c => [.c c]
  | .agg ks => ks
theorem toKs_conc (ρ : Rho) (x : SA) : (x.conc ρ).cells = (concs ρ (toKs x)).toArray := by
  cases x with
  | agg ks => simp [SA.conc, Value.cells, toKs]
  | sc c =>
    cases c with
    | val v => cases v <;> simp [SA.conc, SC.conc, Value.cells, toKs, concs, flat, SK.cells] ; rename_i cs; have := litCs_conc ρ cs.toList; simp only [concs] at this; rw [this]
    | _ => simp [SA.conc, SC.conc, Value.cells, toKs, concs, flat, SK.cells]
theorem toKs_bnd {n : Env} {x : SA} (h : x.bnd n) : ∀ k ∈ toKs x, k.bnd n := by
  cases x with
  | agg ks => exact h
  | sc c =>
    cases c with
    | val v => cases v <;> simp only [toKs, List.mem_singleton, List.mem_map] <;> (try (rintro _ rfl; trivial)); rintro _ ⟨v, _, rfl⟩; exact litC_bnd n v
    | _ => simp only [toKs, List.mem_singleton]; rintro _ rfl; exact h
theorem oneCell_eq (v : Value) : oneCell v = v.oneCell' := by cases v <;> rfl
theorem concs_fit {ks : List SK} (h : ∀ k ∈ ks, k.fit = true) (ρ : Rho) : ∀ v ∈ concs ρ ks, v.oneCell' = true := by
  intro v hv
  simp only [concs, List.mem_map] at hv
  obtain ⟨c, hc, rfl⟩ := hv
  have := fit_flat.1 h c hc
  cases c with
  | val v => simp only [SC.fit, oneCell_eq] at this; exact this
  | _ => rfl
theorem part_more {P : Program} {t : TypeId} {cs rest : List Value} {off : Nat} {z : Value} {w : World} (h : (part t cs.toArray off).run P w = .ok z w) (hl : isAggD ((P.underlying t).getD .invalid) = true → off + P.cellsOf t ≤ cs.length) :
    (part t (cs ++ rest).toArray off).run P w = .ok z w := by
  unfold part at *
  simp only [Sem.run_bind] at h ⊢
  cases hu : P.underlying t with
  | none => simp [isAgg, underlying, hu] at h
  | some u =>
    rw [run_isAgg w t hu] at h ⊢
    simp only [Result.andThen_ok] at h ⊢
    cases hagg : isAggD u with
    | true =>
      simp only [hagg, if_true, Sem.run_bind, info_of_underlying' hu w, Result.andThen_ok, Sem.run_pure] at h ⊢
      have hl := hl (by rw [hu]; exact hagg)
      rw [← h]
      congr 2
      apply Array.ext'
      simp only [Array.toList_extract, List.extract_eq_take_drop]
      rw [List.drop_append_of_le_length (by omega), List.take_append_of_le_length (by rw [List.length_drop]; omega)]
    | false =>
      simp only [hagg, Bool.false_eq_true, if_false] at h ⊢
      simp only [List.getElem?_toArray] at h ⊢
      cases hc : cs[off]? with
      | none => rw [hc] at h; simp at h
      | some v =>
        rw [hc] at h
        rw [List.getElem?_append_left (by rcases Nat.lt_or_ge off cs.length with k | k; exact k; rw [List.getElem?_eq_none k] at hc; cases hc), hc]
        exact h
def segT (P : Program) : Nat → TypeId → List (Bool × Nat)
  | 0, t => [(false, P.cellsOf t)]
  | d + 1, t => match P.underlying t with
    | some (.struct fs) => fs.toList.flatMap fun f => segT P d f.type
    | some (.array n e) => match P.underlying e with
      | some (.int _) => match Nat.ble n 4 with
        | true => [(false, n)]
        | false => [(true, n)]
      | _ => (List.replicate n (segT P d e)).flatten
    | _ => [(false, P.cellsOf t)]
def cellsK (h : Nat → SC) (off n : Nat) : List SK := (List.range n).map fun j => .c (h (off + j))
def kindC (s : SC) : Option IntKind := (asI (.sc s)).map (·.1)
def rowK (h : Nat → SC) (off n : Nat) : List SK :=
  match kindC (h off) with
  | some k => if (List.range n).all fun j => kindC (h (off + j)) == some k then [.f k n fun j => intsC (h (off + j))] else cellsK h off n
  | none => cellsK h off n
def grpK (h : Nat → SC) : Nat → List (Bool × Nat) → List SK
  | _, [] => []
  | off, (false, n) :: r => cellsK h off n ++ grpK h (off + n) r
  | off, (true, n) :: r => rowK h off n ++ grpK h (off + n) r
def segL : List (Bool × Nat) → Nat
  | [] => 0
  | (_, n) :: r => n + segL r
def pieceG (P : Program) (t : TypeId) (m : Nat) (h : Nat → SC) : Option SA :=
  match P.underlying t with
  | some (.struct _) | some (.array _ _) => if P.cellsOf t ≤ m ∧ segL (segT P 8 t) = P.cellsOf t then some (.agg (grpK h 0 (segT P 8 t))) else none
  | some _ => if 0 < m then some (.sc (h 0)) else none
  | none => none
theorem flat_cellsK (h : Nat → SC) (off n : Nat) : flat (cellsK h off n) = (List.range n).map fun j => h (off + j) := by
  unfold cellsK
  generalize List.range n = l
  induction l with
  | nil => rfl
  | cons a l ih => simp only [List.map_cons, flat, SK.cells, ih, List.singleton_append]
theorem kindC_sound {s : SC} {k : IntKind} (h : kindC s = some k) (ρ : Rho) : s.conc ρ = .int k (intsC s) := by
  unfold kindC at h
  obtain ⟨⟨k', n⟩, h1, h2⟩ := Option.map_eq_some_iff.1 h
  simp only at h2
  subst h2
  have := asI_sound h1 ρ
  simp only [SA.conc] at this
  rw [this]
  simp only [intsC, h1]
theorem rowK_sound (h : Nat → SC) (off n : Nat) (ρ : Rho) : (flat (rowK h off n)).map (SC.conc ρ) = (List.range n).map fun j => (h (off + j)).conc ρ := by
  unfold rowK
  split
  · rename_i k hk
    split
    · rename_i hall
      simp only [flat, SK.cells, List.append_nil, List.map_map, Function.comp_def, SC.conc]
      apply List.map_congr_left
      intro j hj
      have := List.all_eq_true.1 hall j hj
      exact (kindC_sound (by simpa using this) ρ).symm
    · rw [flat_cellsK, List.map_map]; rfl
  · rw [flat_cellsK, List.map_map]; rfl
theorem range_shift (n m : Nat) {α : Type} (f : Nat → α) : (List.range (n + m)).map f = (List.range n).map f ++ (List.range m).map fun j => f (n + j) := by
  rw [List.range_add, List.map_append, List.map_map]; rfl
theorem grpK_sound (h : Nat → SC) (ρ : Rho) : ∀ (off : Nat) (l : List (Bool × Nat)), concs ρ (grpK h off l) = (List.range (segL l)).map fun j => (h (off + j)).conc ρ
  | off, [] => rfl
  | off, (false, n) :: r => by
    have ih := grpK_sound h ρ (off + n) r
    simp only [concs] at ih
    simp only [grpK, segL, concs, flat_append, List.map_append, flat_cellsK, List.map_map, range_shift, ih, Nat.add_assoc]
    rfl
  | off, (true, n) :: r => by
    have ih := grpK_sound h ρ (off + n) r
    simp only [concs] at ih
    simp only [grpK, segL, concs, flat_append, List.map_append, rowK_sound, range_shift, ih, Nat.add_assoc]
theorem rowK_bnd {h : Nat → SC} {off n : Nat} {E : Env} (hb : ∀ j, j < n → (h (off + j)).bnd E) : ∀ k ∈ rowK h off n, k.bnd E := by
  unfold rowK
  have hc : ∀ k ∈ cellsK h off n, k.bnd E := by
    intro k hk
    simp only [cellsK, List.mem_map, List.mem_range] at hk
    obtain ⟨j, hj, rfl⟩ := hk
    exact hb j hj
  split
  · split
    · intro k hk; simp only [List.mem_singleton] at hk; subst hk; trivial
    · exact hc
  · exact hc
theorem grpK_bnd {h : Nat → SC} {E : Env} : ∀ (off : Nat) (l : List (Bool × Nat)), (∀ j, j < segL l → (h (off + j)).bnd E) → ∀ k ∈ grpK h off l, k.bnd E
  | off, [], _ => fun k hk => by simp [grpK] at hk
  | off, (b, n) :: r, hb => by
    have h1 : ∀ j, j < n → (h (off + j)).bnd E := fun j hj => hb j (by simp only [segL]; omega)
    have h2 := grpK_bnd (off + n) r (fun j hj => by rw [Nat.add_assoc]; exact hb (n + j) (by simp only [segL]; omega))
    intro k hk
    cases b with
    | false =>
      simp only [grpK, List.mem_append] at hk
      rcases hk with hk | hk
      · simp only [cellsK, List.mem_map, List.mem_range] at hk
        obtain ⟨j, hj, rfl⟩ := hk
        exact h1 j hj
      · exact h2 k hk
    | true =>
      simp only [grpK, List.mem_append] at hk
      rcases hk with hk | hk
      · exact rowK_bnd h1 k hk
      · exact h2 k hk
theorem run_loadVar_cells {P : Program} {w : World} {t : TypeId} {a : Addr} {u : TypeDesc} (hu : P.underlying t = some u) {vs : List Value} (hl : isAggD u = true → vs.length = P.cellsOf t) (hl' : isAggD u = false → 0 < vs.length) (hc : ∀ j v, vs[j]? = some v → w.cell? (a.add j) = some v) :
    (loadVar t a).run P w = .ok (if isAggD u then .agg vs.toArray else vs.headD undef) w := by
  unfold loadVar
  simp only [Sem.run_bind, run_isAgg w t hu, Result.andThen_ok]
  cases hagg : isAggD u with
  | true =>
    simp only [if_true, Sem.run_bind, info_of_underlying' hu w, Result.andThen_ok]
    have := run_loadCells_list (P := P) w a vs hc
    rw [← hl hagg, this]
    rfl
  | false =>
    simp only [Bool.false_eq_true, if_false]
    match vs, hl' hagg, hc with
    | v :: vs, _, hc =>
      have := hc 0 v rfl
      rw [run_load]
      simp only [Addr.add, if_true] at this
      rw [this]
      rfl
theorem pieceG_sound {P : Program} {t : TypeId} {m : Nat} {h : Nat → SC} {z : SA} (hz : pieceG P t m h = some z) {E : Env} (hb : ∀ c, c < m → (h c).bnd E) {ρ : Rho} {w : World} {a : Addr} (hc : ∀ c, c < m → w.cell? (a.add c) = some ((h c).conc ρ)) :
    (loadVar t a).run P w = .ok (z.conc ρ) w ∧ z.bnd E := by
  have cells : ∀ {u}, P.underlying t = some u → isAggD u = true → P.cellsOf t ≤ m → segL (segT P 8 t) = P.cellsOf t → z = .agg (grpK h 0 (segT P 8 t)) → (loadVar t a).run P w = .ok (z.conc ρ) w ∧ z.bnd E := by
    intro u hu hagg hm hseg hz
    subst hz
    refine ⟨?_, grpK_bnd 0 _ fun j hj => ?_⟩
    · have := run_loadVar_cells hu (w := w) (a := a) (vs := concs ρ (grpK h 0 (segT P 8 t))) (fun _ => by rw [grpK_sound, List.length_map, List.length_range, hseg]) (fun e => by rw [hagg] at e; cases e) (fun j v hj => by
        rw [grpK_sound] at hj
        rw [List.getElem?_map] at hj
        obtain ⟨x, hx, rfl⟩ := Option.map_eq_some_iff.1 hj
        obtain ⟨hlt, rfl⟩ := List.getElem?_eq_some_iff.1 hx
        simp only [List.length_range] at hlt
        simp only [List.getElem_range, Nat.zero_add]
        exact hc j (by omega))
      rw [this, hagg]; rfl
    · rw [Nat.zero_add]; exact hb j (by omega)
  unfold pieceG at hz
  split at hz
  · rename_i fs hu
    split at hz
    · rename_i hm
      simp only [Option.some.injEq] at hz
      exact cells hu rfl hm.1 hm.2 hz.symm
    · cases hz
  · rename_i n e hu
    split at hz
    · rename_i hm
      simp only [Option.some.injEq] at hz
      exact cells hu rfl hm.1 hm.2 hz.symm
    · cases hz
  · rename_i u h1 h2 hu
    split at hz
    · rename_i hm
      simp only [Option.some.injEq] at hz
      subst hz
      have hagg : isAggD u = false := by
        cases u <;> simp [isAggD]
        · exact (h2 _ _ rfl).elim
        · exact (h1 _ rfl).elim
      refine ⟨?_, hb 0 hm⟩
      have := run_loadVar_cells hu (w := w) (a := a) (vs := [(h 0).conc ρ]) (fun e => by rw [hagg] at e; cases e) (fun _ => by simp) (fun j v hj => by
        match j, hj with
        | 0, hj => simp only [List.getElem?_cons_zero, Option.some.injEq] at hj; subst hj; exact hc 0 hm
        | j + 1, hj => simp at hj)
      rw [this, hagg]; rfl
    · cases hz
  · cases hz
def selI (b : Bool) (x y : SC) : Option SC :=
  match asI (.sc x), asI (.sc y) with
  | some (k, m), some (k', n) => if k = k' then some (.val (.int k (cond b m n))) else none
  | _, _ => match asB (.sc x), asB (.sc y) with
    | some m, some n => some (.val (.bool (cond b m n)))
    | _, _ => match x, y with
      | .val (.string m), .val (.string n) => some (.val (.string (cond b m n)))
      | _, _ => none
def selO (b : Bool) (x y : SC) : SC :=
  match selI b x y with
  | some z => z
  | none => .val (cond b (x.conc Rho.nil) (y.conc Rho.nil))
def nilB : SC → Bool
  | .val (.slice none 0 0) => true
  | _ => false
def selC (b : Bool) : SC → SC → SC
  | .xs a n cap w g, .xs a' n' cap' w' g' => match Nat.beq w w' with
    | true => .xs (cond b a a') (cond b n n') (cond b cap cap') w (fun i c => selC b (g i c) (g' i c))
    | false => .val (cond b (.slice a n cap) (.slice a' n' cap'))
  | .xs a n cap w g, y => match nilB y with
    | true => .xs (cond b a none) (cond b n 0) (cond b cap 0) w g
    | false => selO b (.xs a n cap w g) y
  | x, .xs a n cap w g => match nilB x with
    | true => .xs (cond b none a) (cond b 0 n) (cond b 0 cap) w g
    | false => selO b x (.xs a n cap w g)
  | x, y => selO b x y
theorem nilB_conc {x : SC} (h : nilB x = true) : x = .val (.slice none 0 0) := by
  unfold nilB at h
  split at h
  · rfl
  · cases h
theorem selI_sound {b : Bool} {x y z : SC} (h : selI b x y = some z) : z.conc Rho.nil = cond b (x.conc Rho.nil) (y.conc Rho.nil) ∧ (∀ E, z.bnd E) ∧ z.fit = true := by
  unfold selI at h
  split at h
  · rename_i k m k' n h1 h2
    split at h
    · rename_i hk
      subst hk
      simp only [Option.some.injEq] at h
      subst h
      have e1 := asI_sound h1 Rho.nil
      have e2 := asI_sound h2 Rho.nil
      simp only [SA.conc] at e1 e2
      rw [e1, e2]
      exact ⟨by cases b <;> rfl, fun _ => trivial, rfl⟩
    · cases h
  · split at h
    · rename_i m n h1 h2
      simp only [Option.some.injEq] at h
      subst h
      have e1 := asB_sound h1 Rho.nil
      have e2 := asB_sound h2 Rho.nil
      simp only [SA.conc] at e1 e2
      rw [e1, e2]
      exact ⟨by cases b <;> rfl, fun _ => trivial, rfl⟩
    · split at h
      · simp only [Option.some.injEq] at h
        subst h
        exact ⟨by cases b <;> rfl, fun _ => trivial, rfl⟩
      · cases h
theorem selO_conc (b : Bool) (x y : SC) : (selO b x y).conc Rho.nil = cond b (x.conc Rho.nil) (y.conc Rho.nil) := by
  unfold selO
  split
  · rename_i h; exact (selI_sound h).1
  · rfl
theorem fit_one {z : SC} (hz : z.fit = true) : oneCell (z.conc Rho.nil) = true := by
  cases z with
  | val v => exact hz
  | _ => rfl
theorem selO_ok (b : Bool) (x y : SC) (hx : b = true → x.fit = true) (hy : b = false → y.fit = true) (E : Env) : (selO b x y).bnd E ∧ (selO b x y).fit = true := by
  unfold selO
  split
  · rename_i h; exact ⟨(selI_sound h).2.1 E, (selI_sound h).2.2⟩
  · refine ⟨trivial, ?_⟩
    cases b
    · exact fit_one (hy rfl)
    · exact fit_one (hx rfl)
theorem selC_conc (b : Bool) (x y : SC) : (selC b x y).conc Rho.nil = cond b (x.conc Rho.nil) (y.conc Rho.nil) := by
  unfold selC
  split
  · split
    · cases b <;> rfl
    · rfl
  · split
    · rename_i h; rw [nilB_conc h]; cases b <;> rfl
    · exact selO_conc b _ _
  · split
    · rename_i h; rw [nilB_conc h]; cases b <;> rfl
    · exact selO_conc b _ _
  · exact selO_conc b _ _
theorem selC_ok (b : Bool) (x : SC) : ∀ {E : Env} (y : SC), (b = true → x.bnd E ∧ x.fit = true) → (b = false → y.bnd E ∧ y.fit = true) → (selC b x y).bnd E ∧ (selC b x y).fit = true := by
  have other : ∀ {x : SC} {E : Env} (y : SC), (∀ a n cap w g, x ≠ .xs a n cap w g) → (b = true → x.bnd E ∧ x.fit = true) → (b = false → y.bnd E ∧ y.fit = true) → (selC b x y).bnd E ∧ (selC b x y).fit = true := by
    intro x E y hne hx hy
    unfold selC
    split
    · exact (hne _ _ _ _ _ rfl).elim
    · exact (hne _ _ _ _ _ rfl).elim
    · split
      · refine ⟨?_, rfl⟩
        cases b
        · exact (hy rfl).1
        · exact ⟨fun _ => ⟨rfl, rfl⟩, Nat.le_refl _, fun _ h => by cases h⟩
      · exact selO_ok b _ _ (fun h => (hx h).2) (fun h => (hy h).2) E
    · exact selO_ok b _ _ (fun h => (hx h).2) (fun h => (hy h).2) E
  induction x with
  | xs a n cap w g ih =>
    intro E y hx hy
    unfold selC
    split
    · rename_i a1 n1 c1 w1 g1 a2 n2 c2 w2 g2 hne
      simp only [SC.xs.injEq] at hne
      obtain ⟨rfl, rfl, rfl, rfl, rfl⟩ := hne
      split
      · rename_i hw
        have hw := Nat.eq_of_beq_eq_true hw
        subst hw
        refine ⟨?_, rfl⟩
        cases b with
        | true =>
          obtain ⟨⟨k1, k2, k3⟩, _⟩ := hx rfl
          refine ⟨k1, k2, fun b hb => ⟨(k3 b hb).1, fun i hi c hc => ?_⟩⟩
          obtain ⟨q1, q2, q3⟩ := (k3 b hb).2 i hi c hc
          obtain ⟨r1, r2⟩ := ih i c (E := E.bare) (g2 i c) (fun _ => ⟨q1, q2⟩) (fun h => by cases h)
          exact ⟨r1, r2, by rw [selC_conc]; exact q3⟩
        | false =>
          obtain ⟨⟨k1, k2, k3⟩, _⟩ := hy rfl
          refine ⟨k1, k2, fun b hb => ⟨(k3 b hb).1, fun i hi c hc => ?_⟩⟩
          obtain ⟨q1, q2, q3⟩ := (k3 b hb).2 i hi c hc
          obtain ⟨r1, r2⟩ := ih i c (E := E.bare) (g2 i c) (fun h => by cases h) (fun _ => ⟨q1, q2⟩)
          exact ⟨r1, r2, by rw [selC_conc]; exact q3⟩
      · exact ⟨trivial, by cases b <;> rfl⟩
    · rename_i a1 n1 c1 w1 g1 hne _
      simp only [SC.xs.injEq] at hne
      obtain ⟨rfl, rfl, rfl, rfl, rfl⟩ := hne
      split
      · refine ⟨?_, rfl⟩
        cases b
        · exact ⟨fun _ => ⟨rfl, rfl⟩, Nat.le_refl _, fun _ h => by cases h⟩
        · exact (hx rfl).1
      · exact selO_ok b _ _ (fun h => (hx h).2) (fun h => (hy h).2) E
    · rename_i hne; exact (hne _ _ _ _ _ rfl).elim
    · rename_i hne _; exact (hne _ _ _ _ _ rfl).elim
  | _ => intro E y hx hy; exact other y (by intros; intro h; cases h) hx hy
def Globs.get : Globs → Nat → Option (List SK)
  | [], _ => none
  | (g, ks) :: r, n => match Nat.beq g n with
    | true => some ks
    | false => Globs.get r n
theorem Globs.get_mem : ∀ {gl : Globs} {n : Nat} {ks : List SK}, gl.get n = some ks → (n, ks) ∈ gl
  | [], _, _, h => by simp [Globs.get] at h
  | (g, ks) :: r, n, ks', h => by
    simp only [Globs.get] at h
    split at h
    · rename_i e
      have e := Nat.eq_of_beq_eq_true e
      simp only [Option.some.injEq] at h
      subst h e
      exact List.mem_cons_self
    · exact List.mem_cons_of_mem _ (Globs.get_mem h)
def xsA : SC → Option Addr
  | .xs a _ _ _ _ => a
  | _ => none
def xsN : SC → Nat
  | .xs _ n _ _ _ => n
  | _ => 0
def xsC : SC → Nat
  | .xs _ _ c _ _ => c
  | _ => 0
def xsG : SC → Nat → Nat → SC
  | .xs _ _ _ _ g => g
  | _ => fun _ _ => .bit false
def xsR (wd : Nat) (s : SC) : SC := .xs (xsA s) (xsN s) (xsC s) wd (xsG s)
def isX (wd : Nat) (s : SC) : Prop :=
  match s with
  | .xs _ _ _ w _ => w = wd
  | _ => False
theorem isX_eq {wd : Nat} {s : SC} (h : isX wd s) : s = xsR wd s := by
  unfold isX at h
  split at h
  · subst h; rfl
  · exact h.elim
theorem isX_bnd {wd : Nat} {s : SC} (h : isX wd s) {E : Env} {p : Nat} (hb : s.bnd (E.one p)) : (xsR wd s).bnd E := by
  rw [← isX_eq h]
  unfold isX at h
  split at h
  · exact hb
  · exact h.elim
def slT (P : Program) (t : TypeId) : Option Nat :=
  match P.underlying t with
  | some (.slice e) => (P.info? e).map (·.size)
  | _ => none
theorem slT_spec {P : Program} {t : TypeId} {wd : Nat} (h : slT P t = some wd) : ∃ e, P.underlying t = some (.slice e) := by
  unfold slT at h
  split at h
  · rename_i e he; exact ⟨e, he⟩
  · cases h
def semLoad (P : Program) (gl : Globs) (ob : List SO) (t : TypeId) (x : SA) : VR :=
  match x with
  | .sc (.ptr o off) =>
    match ob[o]? with
    | some (.cells _ ks _) => (piece P t ks off).map fun z => ([], z)
    | _ => none
  | .sc (.pti o base len i) =>
    match ob[o]? with
    | some (.cells _ ks _) => if isIntT P t then semSel ks base len i else none
    | _ => none
  | .sc (.ptw o w i c) =>
    match ob[o]? with
    | some (.row _ w' n g _) => match Nat.beq w w' with
      | true => (pieceG P t (w - c) fun d => g i (c + d)).map fun z => ([i < n], z)
      | false => none
    | some (.rown _ w' n g _ _) => match Nat.beq w w' && Nat.blt c w with
      | true => (slT P t).map fun wd => ([i < n, isX wd (g i c)], .sc (xsR wd (g i c)))
      | false => none
    | _ => none
  | .sc (.px _ m h) => (pieceG P t m h).map fun z => ([], z)
  | .sc (.val (.pointer (some ⟨b, off, none⟩))) =>
    match gl.get b with
    | some ks => (piece P t ks off).map fun z => ([], z)
    | none => none
  | _ => none
theorem run_loadVar_at {P : Program} {w : World} {b off : Nat} {t e : TypeId} {cs : List Value} (hb : w.heap[b]? = some (.cells cs.toArray e (0, 0))) {z : Value} (h : (part t cs.toArray off).run P w = .ok z w) (hl : off + P.cellsOf t ≤ cs.length) :
    (loadVar t ⟨b, off, none⟩).run P w = .ok z w := by
  unfold loadVar part at *
  simp only [Sem.run_bind] at h ⊢
  cases hg : (isAgg t).run P w with
  | halt x w1 => rw [hg] at h; simp at h
  | ok g w1 =>
    have hw : w1 = w := by
      unfold isAgg at hg
      simp only [Sem.run_bind] at hg
      cases hu : P.underlying t with
      | none => simp [underlying, hu] at hg
      | some u => rw [run_underlying hu] at hg; cases u <;> simp at hg <;> exact hg.2.symm
    subst hw
    rw [hg] at h
    simp only [Result.andThen_ok] at h ⊢
    cases g with
    | false =>
      simp only [Bool.false_eq_true, if_false] at h ⊢
      rw [run_load]
      simp only [World.cell?, hb]
      cases hc : cs.toArray[off]? with
      | none => rw [hc] at h; simp at h
      | some v => rw [hc] at h; simp at h; simp [h]
    | true =>
      simp only [if_true, Sem.run_bind] at h ⊢
      cases hs : (sizeOf t).run P w1 with
      | halt x w2 => rw [hs] at h; simp at h
      | ok n w2 =>
        have hn : n = P.cellsOf t ∧ w2 = w1 := by
          unfold sizeOf typeInfo at hs
          simp only [Sem.run_bind, run_program, Result.andThen_ok] at hs
          cases hi : P.info? t with
          | none => simp [hi] at hs
          | some i => simp [hi] at hs; exact ⟨by simp [Program.cellsOf, hi, hs.1], hs.2.symm⟩
        obtain ⟨rfl, rfl⟩ := hn
        rw [hs] at h
        simp only [Result.andThen_ok, Sem.run_pure] at h ⊢
        have hlen : ((cs.drop off).take (P.cellsOf t)).length = P.cellsOf t := by simp; omega
        have := run_loadCells_list (P := P) w2 ⟨b, off, none⟩ ((cs.drop off).take (P.cellsOf t)) (fun j v hj => by
          have hj' := hj
          rw [List.getElem?_take] at hj
          split at hj
          · rw [List.getElem?_drop] at hj
            simp only [add_addr, World.cell?, hb]
            simpa using hj
          · cases hj)
        rw [hlen] at this
        rw [this]
        simp only [Result.andThen_ok]
        rw [← h]
        simp [List.take_drop]
theorem piece_len {P : Program} {t : TypeId} {ks : List SK} {off : Nat} {z : SA} (h : piece P t ks off = some z) (ρ : Rho) : isAggD ((P.underlying t).getD .invalid) = true → off + P.cellsOf t ≤ (concs ρ ks).length := by
  intro hagg
  unfold piece at h
  split at h
  · obtain ⟨r, hr, rfl⟩ := Option.map_eq_some_iff.1 h; exact (concs_sub hr ρ).1
  · obtain ⟨r, hr, rfl⟩ := Option.map_eq_some_iff.1 h; exact (concs_sub hr ρ).1
  · rename_i u h1 h2 hu
    rw [hu] at hagg
    cases u <;> simp [isAggD] at hagg
    · exact (h2 _ _ rfl).elim
    · exact (h1 _ rfl).elim
  · cases h
theorem run_loadVar_one {P : Program} {w : World} {b off : Nat} {t e : TypeId} {cs : List Value} {u : TypeDesc} (hu : P.underlying t = some u) (hagg : isAggD u = false) (hb : w.heap[b]? = some (.cells cs.toArray e (0, 0))) {z : Value} (h : cs[off]? = some z) :
    (loadVar t ⟨b, off, none⟩).run P w = .ok z w := by
  unfold loadVar
  simp only [Sem.run_bind, run_isAgg w t hu, hagg, Result.andThen_ok, Bool.false_eq_true, if_false]
  rw [run_load]
  simp only [World.cell?, hb]
  have : cs.toArray[off]? = some z := by simpa using h
  simp [this]
theorem rowc_get {w n : Nat} {g : Nat → Nat → SC} : ∀ {i c : Nat}, i < n → c < w → (rowc w n g)[i * w + c]? = some ((g i c).conc Rho.nil) := by
  intro i c hi hc
  unfold rowc
  induction n generalizing i g with
  | zero => omega
  | succ n ih =>
    rw [List.range_succ_eq_map, List.flatMap_cons]
    match i with
    | 0 => rw [Nat.zero_mul, Nat.zero_add, List.getElem?_append_left (by simpa using hc)]; simp [hc]
    | i + 1 =>
      rw [List.getElem?_append_right (by simp only [List.length_map, List.length_range]; rw [Nat.succ_mul]; omega)]
      simp only [List.length_map, List.length_range, List.flatMap_map]
      rw [show (i + 1) * w + c - w = i * w + c by rw [Nat.succ_mul]; omega]
      exact ih (g := fun i c => g (i + 1) c) (by omega)
theorem rowc_length (w n : Nat) (g : Nat → Nat → SC) : (rowc w n g).length = n * w := by
  unfold rowc
  induction n generalizing g with
  | zero => simp
  | succ n ih =>
    rw [List.range_succ_eq_map, List.flatMap_cons, List.flatMap_map, List.length_append, ih (fun i c => g (i + 1) c)]
    simp only [List.length_map, List.length_range]
    rw [Nat.succ_mul]; omega
theorem conc_bare {E : Env} {c : SC} (h : c.bnd E.bare) (ρ : Rho) : c.conc ρ = c.conc Rho.nil := Agree.sc (n := E.bare) (ρ := Rho.nil) (ρ' := ρ) (fun _ k => False.elim k) h
theorem bare_lv {ρ : Rho} {ob : List SO} {c : SC} (h : c.bnd (lv ρ ob).bare) : c.bnd (lv ρ ob) := SC.bnd_mono (n := (lv ρ ob).bare) (Env.bare_le (m := lv ρ ob) fun _ _ _ k => k) h
theorem semLoad_sound {P : Program} {gl : Globs} {W0 : Base} {ρ : Rho} {tm : List SV} {ob : List SO} {a : Act} {w : World} (H : Holds W0 ρ tm ob a w) {t : TypeId} {x z : SA} (hx : x.bnd (lv ρ ob)) {ps : List Prop} (h : semLoad P gl ob t x = some (ps, z)) (hg : gl = [] ∨ gl = W0.gl) (hp : Ok ps) :
    (Instr.loadAt t (x.conc ρ)).run P w = .ok (z.conc ρ) w ∧ z.bnd (lv ρ ob) := by
  unfold semLoad at h
  split at h
  · rename_i o off
    split at h
    · rename_i e ks sp ho
      obtain ⟨z', h', he⟩ := Option.map_eq_some_iff.1 h
      simp only [Prod.mk.injEq] at he
      obtain ⟨rfl, rfl⟩ := he
      clear h
      have h := h'
      obtain ⟨h1, ⟨rest, _, h2⟩, h3, h4⟩ := H.mem.obj o e ks sp ho
      refine ⟨?_, piece_bnd h h3⟩
      have hp := piece_sound h ρ w
      rw [show SA.conc ρ (.sc (.ptr o off)) = .pointer (some ⟨ρ o, off, none⟩) from rfl]
      simp only [Instr.loadAt, Instr.sureAddr, Sem.run_bind, Sem.run_pure, Result.andThen_ok]
      obtain ⟨u, hu⟩ := piece_info h
      have hp := part_more (rest := rest) hp (piece_len h ρ)
      by_cases hagg : isAggD u = true
      · exact run_loadVar_at h2 hp (by have := piece_len h ρ (by rw [hu]; exact hagg); rw [List.length_append]; omega)
      · have hagg : isAggD u = false := by simpa using hagg
        unfold part at hp
        simp only [Sem.run_bind, run_isAgg w t hu, hagg, Result.andThen_ok, Bool.false_eq_true, if_false, List.getElem?_toArray] at hp
        cases hc : (concs ρ ks ++ rest)[off]? with
        | none => rw [hc] at hp; simp at hp
        | some v =>
          rw [hc] at hp
          simp at hp
          exact run_loadVar_one hu hagg h2 (by rw [hc, hp])
    · cases h
  · rename_i o base len i
    split at h
    · rename_i e ks sp ho
      split at h
      · rename_i hi
        obtain ⟨u, hue, hagg⟩ := isIntT_spec hi
        obtain ⟨h1, ⟨rest, _, h2⟩, h3, h4⟩ := H.mem.obj o e ks sp ho
        obtain ⟨h0, h1', hl, ⟨k', n', rfl⟩, hc⟩ := semSel_sound h hp ρ
        refine ⟨?_, trivial⟩
        rw [show SA.conc ρ (.sc (.pti o base len i)) = .pointer (some ⟨ρ o, base + i.toNat, none⟩) from rfl]
        simp only [Instr.loadAt, Instr.sureAddr, Sem.run_bind, Sem.run_pure, Result.andThen_ok]
        exact run_loadVar_one hue hagg h2 (by rw [List.getElem?_append_left (by omega)]; exact hc)
      · cases h
    · cases h
  · rename_i o k i c
    split at h
    · rename_i e k' n g sp ho
      split at h
      · rename_i hk
        have hk := Nat.eq_of_beq_eq_true hk
        subst hk
        obtain ⟨z', h', he⟩ := Option.map_eq_some_iff.1 h
        simp only [Prod.mk.injEq] at he
        obtain ⟨rfl, rfl⟩ := he
        obtain ⟨hi, _⟩ := hp
        obtain ⟨h1, ⟨rest, _, h2⟩, h3⟩ := H.mem.rows ho
        rw [show SA.conc ρ (.sc (.ptw o k i c)) = .pointer (some ⟨ρ o, i * k + c, none⟩) from rfl]
        simp only [Instr.loadAt, Instr.sureAddr, Sem.run_bind, Sem.run_pure, Result.andThen_ok]
        refine pieceG_sound h' (fun d hd => bare_lv (h3 i hi (c + d) (by omega)).1) (fun d hd => ?_)
        rw [add_addr, conc_bare (h3 i hi (c + d) (by omega)).1 ρ]
        simp only [World.cell?, h2]
        have hl : i * k + (c + d) < (rowc k n g).length := by
          rw [rowc_length]
          calc i * k + (c + d) < i * k + k := by omega
            _ = (i + 1) * k := by rw [Nat.succ_mul]
            _ ≤ n * k := Nat.mul_le_mul_right k (by omega)
        have := rowc_get (w := k) (n := n) (g := g) hi (c := c + d) (by omega)
        simp only [Option.isSome_none, Bool.false_eq_true, if_false, List.getElem?_toArray]
        rw [List.getElem?_append_left (by rw [Nat.add_assoc]; exact hl), Nat.add_assoc]
        exact this
      · cases h
    · rename_i e k' n g sp p ho
      split at h
      · rename_i hk
        simp only [Bool.and_eq_true] at hk
        have hk1 := Nat.eq_of_beq_eq_true hk.1
        have hc : c < k := by simpa [Nat.blt_eq] using hk.2
        subst hk1
        obtain ⟨wd, h', he⟩ := Option.map_eq_some_iff.1 h
        simp only [Prod.mk.injEq] at he
        obtain ⟨rfl, rfl⟩ := he
        obtain ⟨hi, hX, _⟩ := hp
        obtain ⟨el, hu⟩ := slT_spec h'
        obtain ⟨h1, ⟨rest, _, h2⟩, _, h3⟩ := H.mem.rowsn ho
        have heq := isX_eq hX
        rw [show SA.conc ρ (.sc (.ptw o k i c)) = .pointer (some ⟨ρ o, i * k + c, none⟩) from rfl]
        simp only [Instr.loadAt, Instr.sureAddr, Sem.run_bind, Sem.run_pure, Result.andThen_ok]
        have hl : i * k + c < (rowc k n (valG ρ g)).length := by
          rw [rowc_length]
          calc i * k + c < i * k + k := by omega
            _ = (i + 1) * k := by rw [Nat.succ_mul]
            _ ≤ n * k := Nat.mul_le_mul_right k (by omega)
        refine ⟨run_loadVar_one hu rfl h2 ?_, isX_bnd hX (h3 i hi c hc).1⟩
        rw [List.getElem?_append_left hl, rowc_get hi hc]
        show some ((g i c).conc ρ) = some ((xsR wd (g i c)).conc ρ)
        rw [← heq]
      · cases h
    · cases h
  · rename_i a m g
    obtain ⟨z', h', he⟩ := Option.map_eq_some_iff.1 h
    simp only [Prod.mk.injEq] at he
    obtain ⟨rfl, rfl⟩ := he
    obtain ⟨hs, hc⟩ := hx
    rw [show SA.conc ρ (.sc (.px a m g)) = .pointer (some a) from rfl]
    simp only [Instr.loadAt, Instr.sureAddr, Sem.run_bind, Sem.run_pure, Result.andThen_ok]
    refine pieceG_sound h' (fun d hd => bare_lv (hc d hd).1) (fun d hd => ?_)
    rw [conc_bare (hc d hd).1 ρ]
    have := (H.mem.frz _ _ _ (hc d hd).2.2).1
    rw [show a.add d = ⟨a.block, a.off + d, none⟩ from ?_]
    · exact this
    · rw [← add_block a d, ← add_off a d, ← add_spot hs d]
  · rename_i b off
    split at h
    · rename_i ks hk
      obtain ⟨z', h', he⟩ := Option.map_eq_some_iff.1 h
      simp only [Prod.mk.injEq] at he
      obtain ⟨rfl, rfl⟩ := he
      have hm := Globs.get_mem hk
      rcases hg with rfl | rfl
      · simp at hm
      obtain ⟨g1, g2⟩ := H.gl _ hm
      have hag : Agree ⟨fun _ => False, ρ.fz⟩ Rho.nil ρ := fun _ k => False.elim k
      have hpc := piece_sound h' Rho.nil w
      have hbz := piece_bnd h' g1
      rw [show SA.conc ρ (.sc (.val (.pointer (some ⟨b, off, none⟩)))) = .pointer (some ⟨b, off, none⟩) from rfl]
      simp only [Instr.loadAt, Instr.sureAddr, Sem.run_bind, Sem.run_pure, Result.andThen_ok]
      rw [hag.sa hbz]
      refine ⟨?_, SA.bnd_mono (n := (lv ρ ob).bare) (Env.bare_le (m := lv ρ ob) fun _ _ _ k => k) hbz⟩
      obtain ⟨u, hu⟩ := piece_info h'
      have cell : ∀ (j : Nat) v, (concs Rho.nil ks)[off + j]? = some v → w.cell? ((⟨b, off, none⟩ : Addr).add j) = some v := fun j v hj => by
        rw [add_addr]; exact (H.mem.frz _ _ _ (g2 _ _ hj)).1
      unfold part at hpc
      simp only [Sem.run_bind, run_isAgg w t hu, Result.andThen_ok] at hpc
      cases hagg : isAggD u with
      | true =>
        have hl := piece_len h' Rho.nil (by rw [hu]; exact hagg)
        have := run_loadVar_cells hu (w := w) (a := ⟨b, off, none⟩) (vs := ((concs Rho.nil ks).drop off).take (P.cellsOf t)) (fun _ => by simp; omega) (fun e => by rw [hagg] at e; cases e) (fun j v hj => by
          rw [List.getElem?_take] at hj
          split at hj
          · rw [List.getElem?_drop] at hj; exact cell j v hj
          · cases hj)
        rw [this, hagg]
        simp only [hagg, if_true, Sem.run_bind, info_of_underlying' hu w, Result.andThen_ok, Sem.run_pure] at hpc
        rw [← hpc]
        simp [List.take_drop]
      | false =>
        simp only [hagg, Bool.false_eq_true, if_false, List.getElem?_toArray] at hpc
        cases hc : (concs Rho.nil ks)[off]? with
        | none => rw [hc] at hpc; simp at hpc
        | some v =>
          rw [hc] at hpc
          have hv : v = z'.conc Rho.nil := by simpa using hpc
          have := run_loadVar_cells hu (w := w) (a := ⟨b, off, none⟩) (vs := [v]) (fun e => by rw [hagg] at e; cases e) (fun _ => by simp) (fun j u hj => by
            match j, hj with
            | 0, hj => simp only [List.getElem?_cons_zero, Option.some.injEq] at hj; subst hj; exact cell 0 _ hc
            | j + 1, hj => simp at hj)
          rw [this, hagg, ← hv]
          rfl
    · cases h
  · cases h
def semSet (ks : List SK) (base len : Nat) (i : Int) (k : IntKind) (v : Int) : Option (List SK) :=
  match sub ks base len with
  | some cs => if kindAll k cs then lay ks base [.f k len (fun j => if j = i.toNat then v else selG cs j)] else none
  | none => none
theorem semSet_sound {ks r : List SK} {base len : Nat} {i : Int} {k : IntKind} {v : Int} (h : semSet ks base len i k v = some r) (h0 : 0 ≤ i) (h1 : i < len) (ρ : Rho) :
    base + len ≤ (concs ρ ks).length ∧ concs ρ r = (concs ρ ks).set (base + i.toNat) (.int k v) := by
  unfold semSet at h
  split at h
  case h_2 => cases h
  rename_i cs hs
  split at h
  case isFalse => cases h
  rename_i ha
  obtain ⟨l1, l2⟩ := lay_flat h
  obtain ⟨s1, s2⟩ := concs_sub hs ρ
  have hlen : (flat cs).length = len := by
    obtain ⟨a, b⟩ := sub_flat hs
    rw [b]; simp; omega
  have hf : ∀ g, flat [SK.f k len g] = (List.range len).map fun j => .val (.int k (g j)) := fun g => by simp [flat, SK.cells]
  have hfl : ∀ g, (flat [SK.f k len g]).length = len := fun g => by rw [hf]; simp
  refine ⟨s1, ?_⟩
  simp only [concs, l2, List.map_append, List.map_take, List.map_drop, hfl]
  have hks : ∀ j, j < len → ((flat ks).map (SC.conc ρ))[base + j]? = some (.int k (selG cs j)) := by
    intro j hj
    have := selG_conc ha ρ (j := j) (by omega)
    rw [s2, List.getElem?_take, if_pos hj, List.getElem?_drop] at this
    exact this
  have hL : base + len ≤ ((flat ks).map (SC.conc ρ)).length := s1
  rw [hf]
  generalize (flat ks).map (SC.conc ρ) = L at hks hL
  apply List.ext_getElem?
  intro m
  simp only [List.getElem?_append, List.length_append, List.length_take, List.getElem?_take, List.getElem?_set, List.getElem?_drop, List.length_map, List.length_range, List.map_map, Nat.min_eq_left (show base ≤ L.length by omega)]
  by_cases c1 : m < base
  · simp [show m < base + len by omega, c1, show base + i.toNat ≠ m by omega]
  · by_cases c2 : m < base + len
    · simp only [c1, c2, if_true, if_false, List.getElem?_map, List.getElem?_range (show m - base < len by omega), Option.map_some, Function.comp_apply, SC.conc]
      by_cases c3 : base + i.toNat = m
      · subst c3
        simp [show base + i.toNat < L.length by omega]
      · rw [if_neg (show ¬ (m - base = i.toNat) by omega), if_neg c3]
        have := hks (m - base) (by omega)
        rw [show base + (m - base) = m by omega] at this
        exact this.symm
    · simp only [c1, c2, if_false, if_neg (show ¬ (base + i.toNat = m) by omega)]
      congr 1
      omega
theorem semSet_bnd {ks r : List SK} {base len : Nat} {i : Int} {k : IntKind} {v : Int} (h : semSet ks base len i k v = some r) {n : Env} (hb : ∀ x ∈ ks, x.bnd n) : ∀ x ∈ r, x.bnd n := by
  unfold semSet at h
  split at h
  case h_2 => cases h
  split at h
  case isFalse => cases h
  obtain ⟨l1, l2⟩ := lay_flat h
  rw [bnd_flat, l2]
  rw [bnd_flat] at hb
  intro c hc
  simp only [List.mem_append] at hc
  rcases hc with (hc | hc) | hc
  · exact hb c (List.mem_of_mem_take hc)
  · simp only [flat, SK.cells, List.append_nil, List.mem_map] at hc
    obtain ⟨j, _, rfl⟩ := hc; trivial
  · exact hb c (List.mem_of_mem_drop hc)
theorem semSet_fit {ks r : List SK} {base len : Nat} {i : Int} {k : IntKind} {v : Int} (h : semSet ks base len i k v = some r) (hb : ∀ x ∈ ks, x.fit = true) : ∀ x ∈ r, x.fit = true := by
  unfold semSet at h
  split at h
  case h_2 => cases h
  split at h
  case isFalse => cases h
  obtain ⟨l1, l2⟩ := lay_flat h
  rw [fit_flat, l2]
  rw [fit_flat] at hb
  intro c hc
  simp only [List.mem_append] at hc
  rcases hc with (hc | hc) | hc
  · exact hb c (List.mem_of_mem_take hc)
  · simp only [flat, SK.cells, List.append_nil, List.mem_map] at hc
    obtain ⟨j, _, rfl⟩ := hc; rfl
  · exact hb c (List.mem_of_mem_drop hc)
theorem Holds.turnedO {W0 : Base} {ρ : Rho} {tm : List SV} {ob : List SO} {a : Act} {w : World} (H : Holds W0 ρ tm ob a w) {o : Nat} {x x' : SO} {rest : List Value} {row : Array Value} (ho : ob[o]? = some x) (hx : x.has = true) (hx' : x'.has = true) (he : x'.elem = x.elem) (hrest : rest.length = x'.spare)
    (h2 : w.heap[ρ o]? = some (.cells row x.elem (0, 0))) (hok : x'.ok (lv ρ ob)) (hm : x'.lies ρ rest = .cells (x'.vals ρ ++ rest).toArray x'.elem (0, 0) := by rfl) :
    Holds W0 ρ tm (ob.set o x') a (w.setRow (ρ o) (x'.vals ρ ++ rest).toArray) := by
  have olt := ob_lt ho
  have h1 := (H.mem.objs o x ho hx).1
  have hlive : ∀ i, live ob i → live (ob.set o x') i := by
    rintro i ⟨y, hi, hy⟩
    by_cases k : o = i
    · subst k; exact ⟨x', by simp [olt], hx'⟩
    · exact ⟨y, by rw [List.getElem?_set_ne k]; exact hi, hy⟩
  have hle : Env.le (lv ρ ob) (lv ρ (ob.set o x')) := ⟨hlive, fun _ _ _ k => k⟩
  have alive : ∀ j : Nat, live (ob.set o x') j → live ob j := by
    rintro j ⟨y, hj, hy⟩
    rw [List.getElem?_set] at hj
    split at hj
    · rename_i hoj; subst hoj; exact ⟨x, ho, hx⟩
    · exact ⟨y, hj, hy⟩
  have hdead : ∀ i : Nat, ob[i]? = some .dead → (ob.set o x')[i]? = some .dead := fun i k => by
    have : o ≠ i := by rintro rfl; rw [ho] at k; cases k; cases hx
    rw [List.getElem?_set_ne this]; exact k
  refine ⟨H.size, H.rep, fun t => SV.bnd_mono hle (H.bnd t), H.defers, below_setRow H.below h1 _, ⟨fun j y hj hy => ?_, fun j k hj hk hjk => ?_, fun b c v hv => ?_⟩, ⟨fun i hi => ?_, fun i hi => hdead i (H.kept.2.1 i hi), by simpa using H.kept.2.2⟩, H.gl, H.fzs, fun b z hz => ⟨by rw [setRow_other _ _ _ _ (fun e => (H.keeps b z hz).2 o ⟨x, ho, hx⟩ e.symm)]; exact (H.keeps b z hz).1, fun i hi => (H.keeps b z hz).2 i (alive i hi)⟩⟩
  · rw [List.getElem?_set] at hj
    split at hj
    · rename_i hoj
      subst hoj
      simp only [Option.some.injEq] at hj
      subst hj
      exact ⟨h1, ⟨rest, hrest, by rw [hm, he]; exact setRow_heap w _ _ _ _ _ h2⟩, SO.ok_mono hle hok⟩
    · rename_i hne
      obtain ⟨a1, ⟨rs, hr, a2⟩, a3⟩ := H.mem.objs j y hj hy
      refine ⟨a1, ⟨rs, hr, ?_⟩, SO.ok_mono hle a3⟩
      rw [setRow_other _ _ _ _ (fun e => hne (H.mem.injs _ _ ⟨x, ho, hx⟩ ⟨y, hj, hy⟩ e.symm))]
      exact a2
  · exact H.mem.injs _ _ (alive j hj) (alive k hk) hjk
  · obtain ⟨k1, k2⟩ := H.mem.frz b c v hv
    refine ⟨?_, fun i hi => k2 i (alive i hi)⟩
    simp only [World.cell?] at k1 ⊢
    rw [setRow_other _ _ _ _ (fun e => k2 o ⟨x, ho, hx⟩ e.symm)]; exact k1
  · rcases H.kept.1 i hi with ⟨k1, k2⟩ | k
    · exact .inl ⟨hlive i k1, k2⟩
    · exact .inr (hdead i k)
theorem Holds.turned {W0 : Base} {ρ : Rho} {tm : List SV} {ob : List SO} {a : Act} {w : World} (H : Holds W0 ρ tm ob a w) {o : Nat} {e : TypeId} {ks r : List SK} {sp : Nat} {rest : List Value} (ho : ob[o]? = some (.cells e ks sp)) (hrest : rest.length = sp)
    (h2 : w.heap[ρ o]? = some (.cells (concs ρ ks ++ rest).toArray e (0, 0))) (hbr : ∀ k ∈ r, k.bnd (lv ρ ob)) (hfr : ∀ k ∈ r, k.fit = true) :
    Holds W0 ρ tm (ob.set o (.cells e r sp)) a (w.setRow (ρ o) (concs ρ r ++ rest).toArray) :=
  H.turnedO (x' := .cells e r sp) ho rfl rfl rfl hrest h2 ⟨hbr, hfr⟩
def bareC : SC → Bool
  | .num _ _ | .bit _ | .xs _ _ _ _ _ | .px _ _ _ => true
  | .val v => oneCell v
  | _ => false
theorem bareC_ok {c : SC} (h : bareC c = true) {E : Env} (hb : c.bnd E) : c.bnd E.bare ∧ c.fit = true := by
  cases c with
  | val v => exact ⟨trivial, h⟩
  | num k n => exact ⟨trivial, rfl⟩
  | bit b => exact ⟨trivial, rfl⟩
  | xs a n cap w g => exact ⟨hb, rfl⟩
  | px a m g => exact ⟨hb, rfl⟩
  | _ => simp [bareC] at h
def setG (g : Nat → Nat → SC) (i c : Nat) (new : List SC) : Nat → Nat → SC := fun j d =>
  match Nat.ble c d with
  | true => match new[d - c]? with
    | some x => selC (decide (j = i)) x (g j d)
    | none => g j d
  | false => g j d
theorem setG_spec (g : Nat → Nat → SC) (i c : Nat) (new : List SC) (j d : Nat) :
    (setG g i c new j d = g j d ∧ (d < c ∨ c + new.length ≤ d)) ∨ ∃ x, c ≤ d ∧ new[d - c]? = some x ∧ setG g i c new j d = selC (decide (j = i)) x (g j d) := by
  unfold setG
  split
  · rename_i hc
    have hc := Nat.le_of_ble_eq_true hc
    split
    · rename_i x hx; exact .inr ⟨x, hc, hx, rfl⟩
    · rename_i hx
      have := List.getElem?_eq_none_iff.1 hx
      exact .inl ⟨rfl, .inr (by omega)⟩
  · rename_i hc
    refine .inl ⟨rfl, .inl ?_⟩
    rcases Nat.lt_or_ge d c with k | k
    · exact k
    · rw [Nat.ble_eq_true_of_le k] at hc; cases hc
theorem setG_ok {E : Env} {w n : Nat} {g : Nat → Nat → SC} (h : rowOK E w n g) (i c : Nat) {new : List SC} (hn : ∀ x ∈ new, x.bnd E.bare ∧ x.fit = true) : rowOK E w n (setG g i c new) := by
  intro j hj d hd
  rcases setG_spec g i c new j d with ⟨e, _⟩ | ⟨x, _, hx, e⟩
  · rw [e]; exact h j hj d hd
  · rw [e]
    exact selC_ok _ _ _ (fun _ => hn x (List.mem_of_getElem? hx)) (fun _ => h j hj d hd)
theorem rowc_ext {w n : Nat} {l : List Value} {g : Nat → Nat → SC} (hl : l.length = n * w) (h : ∀ i c, i < n → c < w → l[i * w + c]? = some ((g i c).conc Rho.nil)) : l = rowc w n g := by
  apply List.ext_getElem?
  intro m
  rcases Nat.lt_or_ge m (n * w) with k | k
  · have hw : 0 < w := by rcases Nat.eq_zero_or_pos w with e | e; subst e; simp at k; exact e
    have hi : m / w < n := Nat.div_lt_of_lt_mul (by rw [Nat.mul_comm]; exact k)
    have hc : m % w < w := Nat.mod_lt _ hw
    have hm : m / w * w + m % w = m := by rw [Nat.mul_comm]; exact Nat.div_add_mod m w
    have h1 := h (m / w) (m % w) hi hc
    have h2 := rowc_get (g := g) hi hc
    rw [hm] at h1 h2
    rw [h1, h2]
  · rw [List.getElem?_eq_none (by omega), List.getElem?_eq_none (by rw [rowc_length]; exact k)]
theorem rowc_set {w n : Nat} {g : Nat → Nat → SC} {i c : Nat} (hi : i < n) {new : List SC} (hc : c + new.length ≤ w) :
    (rowc w n g).take (i * w + c) ++ new.map (SC.conc Rho.nil) ++ (rowc w n g).drop (i * w + c + new.length) = rowc w n (setG g i c new) := by
  have hw : i * w + w ≤ n * w := by
    calc i * w + w = (i + 1) * w := by rw [Nat.succ_mul]
      _ ≤ n * w := Nat.mul_le_mul_right w hi
  refine rowc_ext ?_ fun j d hj hd => ?_
  · simp only [List.length_append, List.length_take, List.length_map, List.length_drop, rowc_length]; omega
  have hjw : j * w + w ≤ n * w := by
    calc j * w + w = (j + 1) * w := by rw [Nat.succ_mul]
      _ ≤ n * w := Nat.mul_le_mul_right w hj
  have hg := rowc_get (w := w) (g := g) hj hd
  have lij : j < i → j * w + w ≤ i * w := fun h => by
    calc j * w + w = (j + 1) * w := by rw [Nat.succ_mul]
      _ ≤ i * w := Nat.mul_le_mul_right w h
  have lji : i < j → i * w + w ≤ j * w := fun h => by
    calc i * w + w = (i + 1) * w := by rw [Nat.succ_mul]
      _ ≤ j * w := Nat.mul_le_mul_right w h
  have out : (j ≠ i ∨ d < c ∨ c + new.length ≤ d) → ((rowc w n g).take (i * w + c) ++ new.map (SC.conc Rho.nil) ++ (rowc w n g).drop (i * w + c + new.length))[j * w + d]? = (rowc w n g)[j * w + d]? := by
    intro hne
    have hcase : j * w + d < i * w + c ∨ i * w + c + new.length ≤ j * w + d := by
      rcases Nat.lt_trichotomy j i with k | k | k
      · have := lij k; omega
      · subst k; omega
      · have := lji k; omega
    simp only [List.getElem?_append, List.length_append, List.length_take, List.length_map, rowc_length, List.getElem?_take, List.getElem?_drop, Nat.min_eq_left (show i * w + c ≤ n * w by omega)]
    rcases hcase with k | k
    · rw [if_pos (by omega), if_pos k, if_pos k]
    · rw [if_neg (by omega)]; congr 1; omega
  rcases setG_spec g i c new j d with ⟨e, hne⟩ | ⟨x, hcd, hx, e⟩
  · rw [e, out (.inr hne)]; exact hg
  · rw [e, selC_conc]
    by_cases hji : j = i
    · subst hji
      simp only [decide_true, cond_true]
      have hlt : d - c < new.length := (List.getElem?_eq_some_iff.1 hx).1
      simp only [List.getElem?_append, List.length_append, List.length_take, List.length_map, rowc_length, Nat.min_eq_left (show j * w + c ≤ n * w by omega)]
      rw [if_pos (by omega), if_neg (by omega), List.getElem?_map, show j * w + d - (j * w + c) = d - c by omega, hx]; rfl
    · simp only [hji, decide_false, cond_false]
      rw [out (.inl hji)]; exact hg
def okP (p : Nat) : SC → Bool
  | .slw o _ _ _ _ => Nat.beq o p
  | s => bareC s
theorem okP_bnd {p : Nat} {s : SC} (h : okP p s = true) {E : Env} (hb : s.bnd E) : s.bnd (E.one p) ∧ s.fit = true := by
  unfold okP at h
  split at h
  · exact ⟨Nat.eq_of_beq_eq_true h, rfl⟩
  · obtain ⟨q1, q2⟩ := bareC_ok h hb
    exact ⟨SC.bnd_mono (n := E.bare) (m := E.one p) ⟨fun _ k => False.elim k, fun _ _ _ k => k⟩ q1, q2⟩
def setN (g : Nat → Nat → SC) (i c : Nat) (new : List SC) : Nat → Nat → SC := fun j d =>
  match Nat.ble c d with
  | true => match new[d - c]? with
    | some x => cond (decide (j = i)) x (g j d)
    | none => g j d
  | false => g j d
theorem setN_spec (g : Nat → Nat → SC) (i c : Nat) (new : List SC) (j d : Nat) :
    (setN g i c new j d = g j d ∧ (d < c ∨ c + new.length ≤ d)) ∨ ∃ x, c ≤ d ∧ new[d - c]? = some x ∧ setN g i c new j d = cond (decide (j = i)) x (g j d) := by
  unfold setN
  split
  · rename_i hc
    have hc := Nat.le_of_ble_eq_true hc
    split
    · rename_i x hx; exact .inr ⟨x, hc, hx, rfl⟩
    · rename_i hx
      have := List.getElem?_eq_none_iff.1 hx
      exact .inl ⟨rfl, .inr (by omega)⟩
  · rename_i hc
    refine .inl ⟨rfl, .inl ?_⟩
    rcases Nat.lt_or_ge d c with k | k
    · exact k
    · rw [Nat.ble_eq_true_of_le k] at hc; cases hc
theorem setN_ok {E : Env} {w n p : Nat} {g : Nat → Nat → SC} (h : rowOKn E w n g p) (i c : Nat) {new : List SC} (hn : ∀ x ∈ new, x.bnd (E.one p) ∧ x.fit = true) : rowOKn E w n (setN g i c new) p := by
  intro j hj d hd
  rcases setN_spec g i c new j d with ⟨e, _⟩ | ⟨x, _, hx, e⟩
  · rw [e]; exact h j hj d hd
  · rw [e]
    cases decide (j = i)
    · exact h j hj d hd
    · exact hn x (List.mem_of_getElem? hx)
theorem setN_vals {ρ : Rho} {w n : Nat} {g : Nat → Nat → SC} (i c : Nat) (new : List SC) : rowc w n (valG ρ (setN g i c new)) = rowc w n (setG (valG ρ g) i c (new.map fun x => .val (x.conc ρ))) := by
  refine rowc_pt fun j hj d hd => ?_
  show (setN g i c new j d).conc ρ = _
  unfold setN setG
  split
  · rw [List.getElem?_map]
    cases hx : new[d - c]? with
    | none => rfl
    | some x =>
      show (cond (decide (j = i)) x (g j d)).conc ρ = (selC (decide (j = i)) (.val (x.conc ρ)) (valG ρ g j d)).conc Rho.nil
      rw [selC_conc]
      cases decide (j = i) <;> rfl
  · rfl
def semStore (P : Program) (ob : List SO) (t : TypeId) (x y : SA) : Option (List Prop × List SO) :=
  match x with
  | .sc (.ptr o off) =>
    match ob[o]? with
    | some (.cells e ks sp) =>
      if (P.info? t).map (·.size) = some (flat (toKs y)).length ∧ (toKs y).all SK.fit = true then (lay ks off (toKs y)).map fun r => ([], ob.set o (.cells e r sp)) else none
    | _ => none
  | .sc (.pti o base len i) =>
    match ob[o]?, asI y with
    | some (.cells e ks sp), some (k, v) =>
      if (P.info? t).map (·.size) = some 1 then (semSet ks base len i k v).map fun r => ([0 ≤ i ∧ i < (len : Int)], ob.set o (.cells e r sp)) else none
    | _, _ => none
  | .sc (.ptw o w i c) =>
    match ob[o]? with
    | some (.row e w' n g sp) =>
      if Nat.beq w w' = true ∧ (P.info? t).map (·.size) = some (flat (toKs y)).length ∧ c + (flat (toKs y)).length ≤ w ∧ (flat (toKs y)).all bareC = true
      then some ([i < n], ob.set o (.row e w' n (setG g i c (flat (toKs y))) sp)) else none
    | some (.rown e w' n g sp p) =>
      if Nat.beq w w' = true ∧ (P.info? t).map (·.size) = some (flat (toKs y)).length ∧ c + (flat (toKs y)).length ≤ w ∧ (flat (toKs y)).all (okP p) = true
      then some ([i < n], ob.set o (.rown e w' n (setN g i c (flat (toKs y))) sp p)) else none
    | _ => none
  | _ => none
theorem run_storeVar_at {P : Program} {w : World} {b off : Nat} {t e : TypeId} {row new : List Value} {i : TypeInfo} (hi : P.info? t = some i) {v : Value} (hv : v.cells = new.toArray) (hsz : i.size = new.length)
    (hb : w.heap[b]? = some (.cells row.toArray e (0, 0))) (hl : off + new.length ≤ row.length) (hf : ∀ x ∈ new, x.oneCell' = true) :
    (storeVar t ⟨b, off, none⟩ v).run P w = .ok () (w.setRow b (row.take off ++ new ++ row.drop (off + new.length)).toArray) := by
  have hst := run_storeCells_at (P := P) b off e new 0 row.toArray w hb (by simpa using hl) hf
  simp only [storeVar, Sem.run_bind, run_sizeOf w hi, Result.andThen_ok]
  have : ¬ new.toArray.size ≠ P.cellsOf t := by simp [Program.cellsOf, hi, hsz]
  simp only [Sem.run_ite, hv]
  rw [if_neg this]
  simpa using hst
theorem semStore_sound {P : Program} {W0 : Base} {ρ : Rho} {tm : List SV} {ob ob' : List SO} {a : Act} {w : World} (H : Holds W0 ρ tm ob a w) {t : TypeId} {x y : SA} (hb : y.bnd (lv ρ ob)) {ps : List Prop} (h : semStore P ob t x y = some (ps, ob')) (hp : Ok ps) :
    ∃ w', (Instr.storeAt t (x.conc ρ) (y.conc ρ)).run P w = .ok () w' ∧ Holds W0 ρ tm ob' a w' := by
  unfold semStore at h
  split at h
  · rename_i o off
    split at h
    · rename_i e ks sp ho
      split at h
      · rename_i hc
        obtain ⟨hs, hf⟩ := hc
        obtain ⟨r, hr, he⟩ := Option.map_eq_some_iff.1 h
        simp only [Prod.mk.injEq] at he
        obtain ⟨rfl, rfl⟩ := he
        obtain ⟨h1, ⟨rest, hrest, h2⟩, h3, h4⟩ := H.mem.obj o e ks sp ho
        obtain ⟨l1, l2⟩ := lay_flat hr
        have hf' : ∀ k ∈ toKs y, k.fit = true := fun k hk => List.all_eq_true.1 hf k hk
        have hlen : (concs ρ (toKs y)).length = (flat (toKs y)).length := by simp [concs]
        have hkl : (concs ρ ks).length = (flat ks).length := by simp [concs]
        obtain ⟨i, hi⟩ : ∃ i, P.info? t = some i := by
          cases hi : P.info? t with
          | none => simp [hi] at hs
          | some i => exact ⟨i, rfl⟩
        have hsz : i.size = (flat (toKs y)).length := by simpa [hi] using hs
        have hst := run_storeVar_at (off := off) hi (toKs_conc ρ y) (by rw [hsz, hlen]) h2 (by rw [List.length_append]; omega) (concs_fit hf' ρ)
        have hnew : (concs ρ ks ++ rest).take off ++ concs ρ (toKs y) ++ (concs ρ ks ++ rest).drop (off + (concs ρ (toKs y)).length) = concs ρ r ++ rest := by
          rw [List.take_append_of_le_length (by omega), List.drop_append_of_le_length (by omega), hlen]
          simp only [concs, l2, List.map_append, List.map_take, List.map_drop, List.append_assoc]
        rw [hnew] at hst
        refine ⟨_, ?_, H.turned ho hrest h2 ?_ ?_⟩
        · rw [show SA.conc ρ (.sc (.ptr o off)) = .pointer (some ⟨ρ o, off, none⟩) from rfl]
          simp only [Instr.storeAt, Instr.sureAddr, Sem.run_bind, Sem.run_pure, Result.andThen_ok]
          exact hst
        · rw [bnd_flat, l2]
          intro c hc
          simp only [List.mem_append] at hc
          rcases hc with (hc | hc) | hc
          · exact bnd_flat.1 h3 c (List.mem_of_mem_take hc)
          · exact bnd_flat.1 (toKs_bnd hb) c hc
          · exact bnd_flat.1 h3 c (List.mem_of_mem_drop hc)
        · rw [fit_flat, l2]
          intro c hc
          simp only [List.mem_append] at hc
          rcases hc with (hc | hc) | hc
          · exact fit_flat.1 h4 c (List.mem_of_mem_take hc)
          · exact fit_flat.1 hf' c hc
          · exact fit_flat.1 h4 c (List.mem_of_mem_drop hc)
      · cases h
    · cases h
  · rename_i o base len i
    split at h
    · rename_i e ks sp k v ho hv
      split at h
      · rename_i hs
        obtain ⟨r, hr, he⟩ := Option.map_eq_some_iff.1 h
        simp only [Prod.mk.injEq] at he
        obtain ⟨rfl, rfl⟩ := he
        obtain ⟨⟨g0, g1⟩, _⟩ := hp
        obtain ⟨h1, ⟨rest, hrest, h2⟩, h3, h4⟩ := H.mem.obj o e ks sp ho
        obtain ⟨r1, r2⟩ := semSet_sound hr g0 g1 ρ
        obtain ⟨i', hi⟩ : ∃ i, P.info? t = some i := by
          cases hi : P.info? t with
          | none => simp [hi] at hs
          | some i => exact ⟨i, rfl⟩
        have hsz : i'.size = 1 := by simpa [hi] using hs
        have hst := run_storeVar_at (off := base + i.toNat) (new := [.int k v]) (v := .int k v) hi rfl hsz h2 (by rw [List.length_append, List.length_singleton]; omega) (by simp [Value.oneCell'])
        have hnew : (concs ρ ks ++ rest).take (base + i.toNat) ++ [.int k v] ++ (concs ρ ks ++ rest).drop (base + i.toNat + [Value.int k v].length) = concs ρ r ++ rest := by
          rw [List.take_append_of_le_length (by omega), List.drop_append_of_le_length (by rw [List.length_singleton]; omega), r2, List.length_singleton, ← List.append_assoc]
          congr 1
          rw [List.set_eq_take_append_cons_drop, if_pos (by omega)]
          simp
        rw [hnew] at hst
        refine ⟨_, ?_, H.turned ho hrest h2 (semSet_bnd hr h3) (semSet_fit hr h4)⟩
        rw [show SA.conc ρ (.sc (.pti o base len i)) = .pointer (some ⟨ρ o, base + i.toNat, none⟩) from rfl, asI_sound hv ρ]
        simp only [Instr.storeAt, Instr.sureAddr, Sem.run_bind, Sem.run_pure, Result.andThen_ok]
        exact hst
      · cases h
    · cases h
  · rename_i o k i c
    split at h
    · rename_i e k' n g sp ho
      split at h
      · rename_i hc
        obtain ⟨hk, hs, hcw, hbare⟩ := hc
        have hk := Nat.eq_of_beq_eq_true hk
        subst hk
        simp only [Option.some.injEq, Prod.mk.injEq] at h
        obtain ⟨rfl, rfl⟩ := h
        obtain ⟨hi, _⟩ := hp
        obtain ⟨h1, ⟨rest, hrest, h2⟩, h3⟩ := H.mem.rows ho
        obtain ⟨it, hit⟩ : ∃ i, P.info? t = some i := by
          cases hi : P.info? t with
          | none => simp [hi] at hs
          | some i => exact ⟨i, rfl⟩
        have hsz : it.size = (flat (toKs y)).length := by simpa [hit] using hs
        have hnb : ∀ x ∈ flat (toKs y), x.bnd (lv ρ ob).bare ∧ x.fit = true := fun x hx => bareC_ok (List.all_eq_true.1 hbare x hx) (flat_bnd (toKs_bnd hb) x hx)
        have hconc : concs ρ (toKs y) = (flat (toKs y)).map (SC.conc Rho.nil) := List.map_congr_left fun c hc => conc_bare (hnb c hc).1 ρ
        have hl : i * k + k ≤ n * k := by
          calc i * k + k = (i + 1) * k := by rw [Nat.succ_mul]
            _ ≤ n * k := Nat.mul_le_mul_right k hi
        have hst := run_storeVar_at (off := i * k + c) hit (toKs_conc ρ y) (by rw [hsz]; simp [concs]) h2 (by rw [List.length_append, rowc_length]; simp only [concs, List.length_map]; omega) (concs_fit (fit_flat.2 fun c hc => (hnb c hc).2) ρ)
        have hnew : (rowc k n g ++ rest).take (i * k + c) ++ concs ρ (toKs y) ++ (rowc k n g ++ rest).drop (i * k + c + (concs ρ (toKs y)).length) = rowc k n (setG g i c (flat (toKs y))) ++ rest := by
          rw [← rowc_set hi hcw, hconc, List.length_map, List.take_append_of_le_length (by rw [rowc_length]; omega), List.drop_append_of_le_length (by rw [rowc_length]; omega)]
          simp only [List.append_assoc]
        rw [hnew] at hst
        refine ⟨_, ?_, H.turnedO (x' := .row e k n (setG g i c (flat (toKs y))) sp) ho rfl rfl rfl hrest h2 (setG_ok h3 i c hnb)⟩
        rw [show SA.conc ρ (.sc (.ptw o k i c)) = .pointer (some ⟨ρ o, i * k + c, none⟩) from rfl]
        simp only [Instr.storeAt, Instr.sureAddr, Sem.run_bind, Sem.run_pure, Result.andThen_ok]
        exact hst
      · cases h
    · rename_i e k' n g sp p ho
      split at h
      · rename_i hc
        obtain ⟨hk, hs, hcw, hbare⟩ := hc
        have hk := Nat.eq_of_beq_eq_true hk
        subst hk
        simp only [Option.some.injEq, Prod.mk.injEq] at h
        obtain ⟨rfl, rfl⟩ := h
        obtain ⟨hi, _⟩ := hp
        obtain ⟨h1, ⟨rest, hrest, h2⟩, hlp, h3⟩ := H.mem.rowsn ho
        obtain ⟨it, hit⟩ : ∃ i, P.info? t = some i := by
          cases hi : P.info? t with
          | none => simp [hi] at hs
          | some i => exact ⟨i, rfl⟩
        have hsz : it.size = (flat (toKs y)).length := by simpa [hit] using hs
        have hnb : ∀ x ∈ flat (toKs y), x.bnd ((lv ρ ob).one p) ∧ x.fit = true := fun x hx => okP_bnd (List.all_eq_true.1 hbare x hx) (flat_bnd (toKs_bnd hb) x hx)
        have hl : i * k + k ≤ n * k := by
          calc i * k + k = (i + 1) * k := by rw [Nat.succ_mul]
            _ ≤ n * k := Nat.mul_le_mul_right k hi
        have hst := run_storeVar_at (off := i * k + c) hit (toKs_conc ρ y) (by rw [hsz]; simp [concs]) h2 (by rw [List.length_append, rowc_length]; simp only [concs, List.length_map]; omega) (concs_fit (fit_flat.2 fun c hc => (hnb c hc).2) ρ)
        have hcs : concs ρ (toKs y) = ((flat (toKs y)).map fun x => SC.val (x.conc ρ)).map (SC.conc Rho.nil) := by
          rw [List.map_map]; rfl
        have hnew : (rowc k n (valG ρ g) ++ rest).take (i * k + c) ++ concs ρ (toKs y) ++ (rowc k n (valG ρ g) ++ rest).drop (i * k + c + (concs ρ (toKs y)).length) = rowc k n (valG ρ (setN g i c (flat (toKs y)))) ++ rest := by
          rw [setN_vals, ← rowc_set hi (by rw [List.length_map]; exact hcw), hcs, List.length_map, List.length_map, List.take_append_of_le_length (by rw [rowc_length]; omega), List.drop_append_of_le_length (by rw [rowc_length]; omega)]
          simp only [List.append_assoc]
        rw [hnew] at hst
        refine ⟨_, ?_, H.turnedO (x' := .rown e k n (setN g i c (flat (toKs y))) sp p) ho rfl rfl rfl hrest h2 ⟨hlp, setN_ok h3 i c hnb⟩⟩
        rw [show SA.conc ρ (.sc (.ptw o k i c)) = .pointer (some ⟨ρ o, i * k + c, none⟩) from rfl]
        simp only [Instr.storeAt, Instr.sureAddr, Sem.run_bind, Sem.run_pure, Result.andThen_ok]
        exact hst
      · cases h
    · cases h
  · cases h
end Go.Sx
end

section
namespace Go.Sx
open Go.RowKit
def placesOf (P : Program) (t : TypeId) : Option (Nat → Option (Nat × Nat)) :=
  match P.underlying t with
  | some (.array _ e) => (P.info? e).map fun ie i => some (i * ie.size, ie.size)
  | some (.struct fs) => (fs.toList.mapM (fun f => (P.info? f.type).map fun i => (f.offset, i.size))).map fun pl i => pl.toArray[i]?
  | _ => none
def fillKs (place : Nat → Option (Nat × Nat)) : List SK → List (Nat × SA) → Option (List SK)
  | ks, [] => some ks
  | ks, (i, x) :: r =>
    match place i with
    | some (off, size) => if (flat (toKs x)).length = size then (lay ks off (toKs x)).bind fun ks' => fillKs place ks' r else none
    | none => none
def semBuild (P : Program) (t : TypeId) (parts : List (Nat × SA)) : VR :=
  match placesOf P t, zeroKs P t with
  | some pl, some zk => (fillKs pl zk parts).map fun ks => ([], .agg ks)
  | _, _ => none
theorem foldl_lay : ∀ (vs : List Value) (off j : Nat) (cur : Array Value), off + j + vs.length ≤ cur.size →
    ((vs.zipIdx j).foldl (fun cs (x : Value × Nat) => cs.setIfInBounds (off + x.2) x.1) cur).toList = cur.toList.take (off + j) ++ vs ++ cur.toList.drop (off + j + vs.length)
  | [], off, j, cur, _ => by simp
  | v :: vs, off, j, cur, h => by
    simp only [List.length_cons] at h
    have ih := foldl_lay vs off (j + 1) (cur.setIfInBounds (off + j) v) (by simp; omega)
    simp only [List.zipIdx_cons, List.foldl_cons]
    rw [ih]
    apply List.ext_getElem?
    intro i
    simp only [Array.toList_setIfInBounds, List.getElem?_append, List.length_append, List.length_take, List.length_set, Array.length_toList, List.getElem?_take, List.getElem?_set, List.getElem?_drop, List.length_cons]
    by_cases h1 : i < off + j
    · have a1 : i < off + (j + 1) := by omega
      have a2 : off + j ≠ i := by omega
      simp [show i < min (off + (j + 1)) cur.size by omega, show i < min (off + j) cur.size by omega, show i < min (off + (j + 1)) cur.size + vs.length by omega, show i < min (off + j) cur.size + (vs.length + 1) by omega, h1, a1, a2]
    · by_cases h2 : i = off + j
      · subst h2
        simp [show off + j < min (off + (j + 1)) cur.size by omega, show ¬ off + j < min (off + j) cur.size by omega, show off + j < min (off + (j + 1)) cur.size + vs.length by omega, show off + j < min (off + j) cur.size + (vs.length + 1) by omega,
          show off + j < off + (j + 1) by omega, show off + j < cur.size by omega, show off + j - min (off + j) cur.size = 0 by omega]
      · by_cases h3 : i < off + j + 1 + vs.length
        · simp [show ¬ i < min (off + (j + 1)) cur.size by omega, show ¬ i < min (off + j) cur.size by omega, show i < min (off + (j + 1)) cur.size + vs.length by omega, show i < min (off + j) cur.size + (vs.length + 1) by omega,
            show i - min (off + j) cur.size = (i - min (off + (j + 1)) cur.size) + 1 by omega]
        · simp [show ¬ i < min (off + (j + 1)) cur.size + vs.length by omega, show ¬ i < min (off + j) cur.size + (vs.length + 1) by omega]
          rw [if_neg (by omega)]
          congr 1
          omega
theorem fillKs_sound {place : Nat → Option (Nat × Nat)} (ρ : Rho) : ∀ {parts : List (Nat × SA)} {ks r : List SK}, fillKs place ks parts = some r →
    Instr.fill place (concs ρ ks).toArray (parts.map fun p => (p.1, p.2.conc ρ)) = some (concs ρ r).toArray
  | [], ks, r, h => by simp only [fillKs, Option.some.injEq] at h; subst h; rfl
  | (i, x) :: parts, ks, r, h => by
    simp only [fillKs] at h
    split at h
    · rename_i off size hp
      split at h
      · rename_i hs
        obtain ⟨ks', h1, h2⟩ := Option.bind_eq_some_iff.1 h
        have ih := fillKs_sound ρ h2
        obtain ⟨l1, l2⟩ := lay_flat h1
        simp only [List.map_cons, Instr.fill, hp, toKs_conc]
        have hlen : (concs ρ (toKs x)).length = size := by simp [concs, hs]
        have c1 : (decide ((concs ρ (toKs x)).toArray.size ≠ size) || decide (off + (concs ρ (toKs x)).toArray.size > (concs ρ ks).toArray.size)) = false := by
          simp only [List.size_toArray, hlen, ne_eq, not_true_eq_false, decide_false, Bool.false_or, decide_eq_false_iff_not]
          have : (concs ρ ks).length = (flat ks).length := by simp [concs]
          omega
        rw [c1]
        simp only [Bool.false_eq_true, if_false]
        rw [← ih]
        congr 1
        have := foldl_lay (concs ρ (toKs x)) off 0 (concs ρ ks).toArray (by simp only [concs, List.length_map, List.size_toArray]; omega)
        apply Array.ext'
        rw [← Array.foldl_toList, Array.toList_zipIdx]
        simp only [Nat.add_zero] at this ⊢
        rw [this]
        simp only [concs, l2, List.map_append, List.map_take, List.map_drop, List.length_map]
      · cases h
    · cases h
theorem lay_bnd {n : Env} {ks new r : List SK} {off : Nat} (h : lay ks off new = some r) (h1 : ∀ k ∈ ks, k.bnd n) (h2 : ∀ k ∈ new, k.bnd n) : ∀ k ∈ r, k.bnd n := by
  rw [bnd_flat, (lay_flat h).2]
  intro c hc
  simp only [List.mem_append] at hc
  rcases hc with (hc | hc) | hc
  · exact bnd_flat.1 h1 c (List.mem_of_mem_take hc)
  · exact bnd_flat.1 h2 c hc
  · exact bnd_flat.1 h1 c (List.mem_of_mem_drop hc)
theorem fillKs_bnd {place : Nat → Option (Nat × Nat)} {n : Env} : ∀ {parts : List (Nat × SA)} {ks r : List SK}, fillKs place ks parts = some r → (∀ k ∈ ks, k.bnd n) → (∀ p ∈ parts, p.2.bnd n) → ∀ k ∈ r, k.bnd n
  | [], ks, r, h, h1, _ => by simp only [fillKs, Option.some.injEq] at h; subst h; exact h1
  | (i, x) :: parts, ks, r, h, h1, h2 => by
    simp only [fillKs] at h
    split at h
    · split at h
      · obtain ⟨ks', e1, e2⟩ := Option.bind_eq_some_iff.1 h
        exact fillKs_bnd e2 (lay_bnd e1 h1 (toKs_bnd (h2 (i, x) (by simp)))) (fun p hp => h2 p (by simp [hp]))
      · cases h
    · cases h
theorem zeroKs_bnd {P : Program} {t : TypeId} {ks : List SK} (h : zeroKs P t = some ks) (n : Env) : ∀ k ∈ ks, k.bnd n := by
  unfold zeroKs at h
  split at h
  · simp only [Option.some.injEq] at h; subst h
    intro k hk
    obtain ⟨v, _, rfl⟩ := List.mem_map.1 hk
    exact litC_bnd n v
  · cases h
theorem semBuild_sound {P : Program} {t : TypeId} {parts : List (Nat × SA)} {ps : List Prop} {z : SA} (h : semBuild P t parts = some (ps, z)) (ρ : Rho) (n : Env) (hb : ∀ p ∈ parts, p.2.bnd n) (w : World) :
    (Instr.build t (parts.map fun p => (p.1, p.2.conc ρ)).toArray).run P w = .ok (z.conc ρ) w ∧ z.bnd n := by
  unfold semBuild at h
  split at h
  case h_2 => cases h
  rename_i pl zk hpl hzk
  simp only [Option.map_eq_some_iff, Prod.mk.injEq] at h
  obtain ⟨ks, hf, rfl, rfl⟩ := h
  refine ⟨?_, fillKs_bnd hf (zeroKs_bnd hzk n) hb⟩
  have hfill := fillKs_sound ρ hf
  unfold zeroKs at hzk
  split at hzk
  case h_2 => cases hzk
  rename_i z hz
  simp only [Option.some.injEq] at hzk
  subst hzk
  obtain ⟨i, hi, hz⟩ := Option.bind_eq_some_iff.1 hz
  rw [litCs_conc] at hfill
  refine run_build w t _ _ ?_
  unfold Program.built placesOf at *
  split at hpl
  · rename_i m e hu
    obtain ⟨ie, hie, rfl⟩ := Option.map_eq_some_iff.1 hpl
    simp only [hi, hu, hz, hie]
    exact hfill
  · rename_i fs hu
    obtain ⟨pl', hpl', rfl⟩ := Option.map_eq_some_iff.1 hpl
    simp only [hi, hu, hz, hpl']
    exact hfill
  · cases hpl
end Go.Sx
end
