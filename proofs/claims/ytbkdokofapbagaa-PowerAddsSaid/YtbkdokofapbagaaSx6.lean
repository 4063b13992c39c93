/-
  A calculus of symbolic states for walks over translated Go code, part 6: operations on memory, calls, one operation, a region.
-/
import Derived.Test.YtbkdokofapbagaaSx5
import Derived.Laws.CopyOwn
namespace Go.Sx
open Go.RowKit

/-! ## Memory -/

theorem ob_lt {ob : List SO} {i : Nat} {x : SO} (h : ob[i]? = some x) : i < ob.length := by
  rcases Nat.lt_or_ge i ob.length with k | k
  · exact k
  · rw [List.getElem?_eq_none k] at h; cases h
theorem heap_lt {w : World} {i : Nat} {x : Obj} (h : w.heap[i]? = some x) : i < w.heap.size := by
  rcases Nat.lt_or_ge i w.heap.size with k | k
  · exact k
  · rw [Array.getElem?_eq_none k] at h; cases h

/-- One more block, at a place where there is none. -/
def place (ob : List SO) (id : Nat) (x : SO) : Option (List SO) :=
  match ob[id]? with
  | none => if Nat.beq id ob.length then some (ob ++ [x]) else none
  | some .gone => some (ob.set id x)
  | some (.cells _ _ _) => none
  | some .dead => none
theorem place_get {ob ob' : List SO} {id : Nat} {x : SO} (h : place ob id x = some ob') : ¬ live ob id ∧ ob[id]? ≠ some .dead ∧ ob'[id]? = some x ∧ ∀ i, i ≠ id → ob'[i]? = ob[i]? := by
  unfold place at h
  split at h
  · rename_i hn
    split at h
    · rename_i he
      have he := Nat.eq_of_beq_eq_true he
      subst he
      simp only [Option.some.injEq] at h
      subst h
      refine ⟨fun ⟨e, ks, sp, hl⟩ => (by rw [hn] at hl; cases hl), by rw [hn]; simp, by simp, fun i hi => ?_⟩
      rcases Nat.lt_or_ge i ob.length with hl | hl
      · rw [List.getElem?_append_left hl]
      · rw [List.getElem?_eq_none hl, List.getElem?_eq_none (by simp; omega)]
    · cases h
  · rename_i hn
    simp only [Option.some.injEq] at h
    subst h
    refine ⟨fun ⟨e, ks, sp, hl⟩ => (by rw [hn] at hl; cases hl), by rw [hn]; simp, by simp [ob_lt hn], fun i hi => by rw [List.getElem?_set_ne (fun e => hi e.symm)]⟩
  · cases h
  · cases h
def grown (ρ : Nat → Nat) (n b : Nat) : Nat → Nat := fun i => if i = n then b else ρ i
theorem grown_agree (ρ : Nat → Nat) (id b : Nat) {ob : List SO} (h : ¬ live ob id) : Agree (live ob) ρ (grown ρ id b) := fun i hi => by
  have : i ≠ id := by rintro rfl; exact h hi
  simp only [grown, if_neg this]
theorem live_place {ob ob' : List SO} {id : Nat} {x : SO} (h : place ob id x = some ob') (i : Nat) (hi : live ob i) : live ob' i := by
  obtain ⟨h1, _, _, h3⟩ := place_get h
  obtain ⟨e, ks, sp, hi⟩ := hi
  have : i ≠ id := by rintro rfl; exact h1 ⟨e, ks, sp, hi⟩
  exact ⟨e, ks, sp, by rw [h3 i this]; exact hi⟩
theorem Mem.place {B : Nat} {ρ : Nat → Nat} {ob ob' : List SO} {w : World} (h : Mem B ρ ob w) (hB : B ≤ w.heap.size) {id : Nat} {e : TypeId} {ks : List SK} {rest : List Value} (hp : place ob id (.cells e ks rest.length) = some ob') (hb : ∀ k ∈ ks, k.bnd (live ob)) (hf : ∀ k ∈ ks, k.fit = true) :
    Mem B (grown ρ id w.heap.size) ob' (w.alloc (.cells (concs ρ ks ++ rest).toArray e)) := by
  obtain ⟨p1, _, p2, p3⟩ := place_get hp
  have hag := grown_agree ρ id w.heap.size p1
  have hnew : grown ρ id w.heap.size id = w.heap.size := by simp [grown]
  have old : ∀ i e' ks' sp', ob'[i]? = some (.cells e' ks' sp') → (i ≠ id ∧ ob[i]? = some (.cells e' ks' sp')) ∨ (i = id ∧ e' = e ∧ ks' = ks ∧ sp' = rest.length) := by
    intro i e' ks' sp' hi
    by_cases k : i = id
    · subst k
      rw [p2] at hi
      simp only [Option.some.injEq, SO.cells.injEq] at hi
      exact .inr ⟨rfl, hi.1.symm, hi.2.1.symm, hi.2.2.symm⟩
    · exact .inl ⟨k, by rw [← p3 i k]; exact hi⟩
  refine ⟨fun i e' ks' sp' hi => ?_, fun i j e1 k1 s1 e2 k2 s2 hi hj hij => ?_⟩
  · rcases old i e' ks' sp' hi with ⟨_, hi⟩ | ⟨rfl, rfl, rfl, rfl⟩
    · obtain ⟨h1, ⟨rs, hr, h2⟩, h3, h4⟩ := h.obj i e' ks' sp' hi
      rw [hag i ⟨_, _, _, hi⟩, hag.sks h3]
      refine ⟨h1, ⟨rs, hr, ?_⟩, fun k hk => SK.bnd_mono (live_place hp) (h3 k hk), h4⟩
      rw [Below.heap_alloc _ _ _ (heap_lt h2)]; exact h2
    · rw [hnew, hag.sks hb]
      refine ⟨hB, ⟨rest, rfl, ?_⟩, fun k hk => SK.bnd_mono (live_place hp) (hb k hk), hf⟩
      show (w.heap.push _)[w.heap.size]? = _
      simp
  · rcases old i e1 k1 s1 hi with ⟨_, hi1⟩ | ⟨hi1, _⟩ <;> rcases old j e2 k2 s2 hj with ⟨_, hj1⟩ | ⟨hj1, _⟩
    · rw [hag i ⟨_, _, _, hi1⟩, hag j ⟨_, _, _, hj1⟩] at hij; exact h.inj i j _ _ _ _ _ _ hi1 hj1 hij
    · subst hj1
      rw [hag i ⟨_, _, _, hi1⟩, hnew] at hij
      obtain ⟨_, ⟨_, _, h2⟩, _⟩ := h.obj i _ _ _ hi1
      have := heap_lt h2; omega
    · subst hi1
      rw [hag j ⟨_, _, _, hj1⟩, hnew] at hij
      obtain ⟨_, ⟨_, _, h2⟩, _⟩ := h.obj j _ _ _ hj1
      have := heap_lt h2; omega
    · rw [hi1, hj1]
theorem place_length {ob ob' : List SO} {id : Nat} {x : SO} (h : Sx.place ob id x = some ob') : ob.length ≤ ob'.length := by
  unfold Sx.place at h
  split at h
  · split at h
    · simp only [Option.some.injEq] at h; subst h; simp
    · cases h
  · simp only [Option.some.injEq] at h; subst h; simp
  · cases h
  · cases h
theorem Kept.place {Z : Base} {ρ : Nat → Nat} {ob ob' : List SO} (h : Kept Z ρ ob) {id b : Nat} {x : SO} (hp : Sx.place ob id x = some ob') : Kept Z (grown ρ id b) ob' := by
  obtain ⟨p1, p2, _, p4⟩ := place_get hp
  have hd : ∀ i : Nat, ob[i]? = some .dead → ob'[i]? = some .dead := fun i k => by
    have : i ≠ id := by rintro rfl; exact p2 k
    rw [p4 i this]; exact k
  refine ⟨fun i hi => ?_, fun i hi => hd i (h.2.1 i hi), Nat.le_trans h.2.2 (place_length hp)⟩
  rcases h.1 i hi with ⟨k1, k2⟩ | k
  · exact .inl ⟨live_place hp i k1, by rw [grown_agree ρ id b p1 i k1, k2]⟩
  · exact .inr (hd i k)

theorem Holds.placed {W0 : Base} {ρ : Nat → Nat} {tm : List SV} {ob ob' : List SO} {a : Act} {w : World} (h : Holds W0 ρ tm ob a w) {id : Nat} {e : TypeId} {ks : List SK} {rest : List Value} (hp : Sx.place ob id (.cells e ks rest.length) = some ob') (hb : ∀ k ∈ ks, k.bnd (live ob)) (hf : ∀ k ∈ ks, k.fit = true) :
    Holds W0 (grown ρ id w.heap.size) tm ob' a (w.alloc (.cells (concs ρ ks ++ rest).toArray e)) ∧ live ob' id ∧ grown ρ id w.heap.size id = w.heap.size := by
  obtain ⟨p1, _, p2, _⟩ := place_get hp
  have hag := grown_agree ρ id w.heap.size p1
  exact ⟨⟨h.size, fun t => hag.sv (h.bnd t) (h.rep t), fun t => SV.bnd_mono (live_place hp) (h.bnd t), h.defers, h.below.alloc h.below.size _, h.mem.place h.below.size hp hb hf, h.kept.place hp⟩, ⟨e, ks, _, p2⟩, by simp [grown]⟩
theorem Holds.place {W0 : Base} {ρ : Nat → Nat} {tm : List SV} {ob ob' : List SO} {a : Act} {w : World} (h : Holds W0 ρ tm ob a w) {id : Nat} {e : TypeId} {ks : List SK} (hp : Sx.place ob id (.cells e ks 0) = some ob') (hb : ∀ k ∈ ks, k.bnd (live ob)) (hf : ∀ k ∈ ks, k.fit = true) (dst : Option Tmp) :
    Holds W0 (grown ρ id w.heap.size) (Sx.put tm dst (.one (.sc (.ptr id 0)))) ob' (a.put dst (.pointer (some ⟨w.heap.size, 0, none⟩))) (w.alloc (.cells (concs ρ ks).toArray e)) := by
  obtain ⟨H, hl, hg⟩ := h.placed (rest := []) hp hb hf
  rw [List.append_nil] at H
  exact H.put dst (by simp [SV.rep, SA.conc, SC.conc, hg]) hl

/-- The type's zero, as cells. -/
def zeroKs (P : Program) (t : TypeId) : Option (List SK) :=
  match (P.info? t).bind (·.zero) with
  | some z => some (z.cells.toList.map litC)
  | none => none
theorem run_zero {P : Program} {t : TypeId} {ks : List SK} (h : zeroKs P t = some ks) (w : World) : ∃ z, (zeroValue t).run P w = .ok z w ∧ ∀ ρ, z.cells = (concs ρ ks).toArray := by
  unfold zeroKs at h
  split at h
  · rename_i z hz
    simp only [Option.some.injEq] at h
    subst h
    obtain ⟨i, hi, hz⟩ := Option.bind_eq_some_iff.1 hz
    refine ⟨z, ?_, fun ρ => by rw [litCs_conc]⟩
    simp [zeroValue, run_typeInfo w hi, hz]
  · cases h

def toKs : SA → List SK
  | .sc (.val (.agg cs)) => cs.toList.map litC
  | .sc c => [.c c]
  | .agg ks => ks
theorem toKs_conc (ρ : Nat → Nat) (x : SA) : (x.conc ρ).cells = (concs ρ (toKs x)).toArray := by
  cases x with
  | agg ks => simp [SA.conc, Value.cells, toKs]
  | sc c =>
    cases c with
    | val v => cases v <;> simp [SA.conc, SC.conc, Value.cells, toKs, concs, flat, SK.cells] ; rename_i cs; have := litCs_conc ρ cs.toList; simp only [concs] at this; rw [this]
    | _ => simp [SA.conc, SC.conc, Value.cells, toKs, concs, flat, SK.cells]
theorem toKs_bnd {n : Nat → Prop} {x : SA} (h : x.bnd n) : ∀ k ∈ toKs x, k.bnd n := by
  cases x with
  | agg ks => exact h
  | sc c =>
    cases c with
    | val v => cases v <;> simp only [toKs, List.mem_singleton, List.mem_map] <;> (try (rintro _ rfl; trivial)); rintro _ ⟨v, _, rfl⟩; exact litC_bnd n v
    | _ => simp only [toKs, List.mem_singleton]; rintro _ rfl; exact h

theorem oneCell_eq (v : Value) : oneCell v = v.oneCell' := by cases v <;> rfl
theorem concs_fit {ks : List SK} (h : ∀ k ∈ ks, k.fit = true) (ρ : Nat → Nat) : ∀ v ∈ concs ρ ks, v.oneCell' = true := by
  intro v hv
  simp only [concs, List.mem_map] at hv
  obtain ⟨c, hc, rfl⟩ := hv
  have := fit_flat.1 h c hc
  cases c with
  | val v => simp only [SC.fit, oneCell_eq] at this; exact this
  | _ => rfl

/-- The part of a row that begins as another one does. -/
theorem part_more {P : Program} {t : TypeId} {cs rest : List Value} {off : Nat} {z : Value} {w : World} (h : (part t cs.toArray off).run P w = .ok z w) (hl : isAggD ((P.underlying t).getD .invalid) = true → off + P.cellsOf t ≤ cs.length) :
    (part t (cs ++ rest).toArray off).run P w = .ok z w := by
  unfold part at *
  simp only [Sem.run_bind] at h ⊢
  cases hu : P.underlying t with
  | none => simp [isAgg, underlying, hu] at h
  | some u =>
    rw [run_isAgg w t hu] at h ⊢
    simp only [Result.andThen_ok] at h ⊢
    cases hagg : isAggD u with
    | true =>
      simp only [hagg, if_true, Sem.run_bind, info_of_underlying' hu w, Result.andThen_ok, Sem.run_pure] at h ⊢
      have hl := hl (by rw [hu]; exact hagg)
      rw [← h]
      congr 2
      apply Array.ext'
      simp only [Array.toList_extract, List.extract_eq_take_drop]
      rw [List.drop_append_of_le_length (by omega), List.take_append_of_le_length (by rw [List.length_drop]; omega)]
    | false =>
      simp only [hagg, Bool.false_eq_true, if_false] at h ⊢
      simp only [List.getElem?_toArray] at h ⊢
      cases hc : cs[off]? with
      | none => rw [hc] at h; simp at h
      | some v =>
        rw [hc] at h
        rw [List.getElem?_append_left (by rcases Nat.lt_or_ge off cs.length with k | k; exact k; rw [List.getElem?_eq_none k] at hc; cases hc), hc]
        exact h
def semLoad (P : Program) (ob : List SO) (t : TypeId) (x : SA) : VR :=
  match x with
  | .sc (.ptr o off) =>
    match ob[o]? with
    | some (.cells _ ks _) => (piece P t ks off).map fun z => ([], z)
    | _ => none
  | .sc (.pti o base len i) =>
    match ob[o]? with
    | some (.cells _ ks _) => if isIntT P t then semSel ks base len i else none
    | _ => none
  | _ => none
theorem run_loadVar_at {P : Program} {w : World} {b off : Nat} {t e : TypeId} {cs : List Value} (hb : w.heap[b]? = some (.cells cs.toArray e (0, 0))) {z : Value} (h : (part t cs.toArray off).run P w = .ok z w) (hl : off + P.cellsOf t ≤ cs.length) :
    (loadVar t ⟨b, off, none⟩).run P w = .ok z w := by
  unfold loadVar part at *
  simp only [Sem.run_bind] at h ⊢
  cases hg : (isAgg t).run P w with
  | halt x w1 => rw [hg] at h; simp at h
  | ok g w1 =>
    have hw : w1 = w := by
      unfold isAgg at hg
      simp only [Sem.run_bind] at hg
      cases hu : P.underlying t with
      | none => simp [underlying, hu] at hg
      | some u => rw [run_underlying hu] at hg; cases u <;> simp at hg <;> exact hg.2.symm
    subst hw
    rw [hg] at h
    simp only [Result.andThen_ok] at h ⊢
    cases g with
    | false =>
      simp only [Bool.false_eq_true, if_false] at h ⊢
      rw [run_load]
      simp only [World.cell?, hb]
      cases hc : cs.toArray[off]? with
      | none => rw [hc] at h; simp at h
      | some v => rw [hc] at h; simp at h; simp [h]
    | true =>
      simp only [if_true, Sem.run_bind] at h ⊢
      cases hs : (sizeOf t).run P w1 with
      | halt x w2 => rw [hs] at h; simp at h
      | ok n w2 =>
        have hn : n = P.cellsOf t ∧ w2 = w1 := by
          unfold sizeOf typeInfo at hs
          simp only [Sem.run_bind, run_program, Result.andThen_ok] at hs
          cases hi : P.info? t with
          | none => simp [hi] at hs
          | some i => simp [hi] at hs; exact ⟨by simp [Program.cellsOf, hi, hs.1], hs.2.symm⟩
        obtain ⟨rfl, rfl⟩ := hn
        rw [hs] at h
        simp only [Result.andThen_ok, Sem.run_pure] at h ⊢
        have hlen : ((cs.drop off).take (P.cellsOf t)).length = P.cellsOf t := by simp; omega
        have := run_loadCells_list (P := P) w2 ⟨b, off, none⟩ ((cs.drop off).take (P.cellsOf t)) (fun j v hj => by
          have hj' := hj
          rw [List.getElem?_take] at hj
          split at hj
          · rw [List.getElem?_drop] at hj
            simp only [add_addr, World.cell?, hb]
            simpa using hj
          · cases hj)
        rw [hlen] at this
        rw [this]
        simp only [Result.andThen_ok]
        rw [← h]
        simp [List.take_drop]
theorem piece_len {P : Program} {t : TypeId} {ks : List SK} {off : Nat} {z : SA} (h : piece P t ks off = some z) (ρ : Nat → Nat) : isAggD ((P.underlying t).getD .invalid) = true → off + P.cellsOf t ≤ (concs ρ ks).length := by
  intro hagg
  unfold piece at h
  split at h
  · obtain ⟨r, hr, rfl⟩ := Option.map_eq_some_iff.1 h; exact (concs_sub hr ρ).1
  · obtain ⟨r, hr, rfl⟩ := Option.map_eq_some_iff.1 h; exact (concs_sub hr ρ).1
  · rename_i u h1 h2 hu
    rw [hu] at hagg
    cases u <;> simp [isAggD] at hagg
    · exact (h2 _ _ rfl).elim
    · exact (h1 _ rfl).elim
  · cases h
theorem run_loadVar_one {P : Program} {w : World} {b off : Nat} {t e : TypeId} {cs : List Value} {u : TypeDesc} (hu : P.underlying t = some u) (hagg : isAggD u = false) (hb : w.heap[b]? = some (.cells cs.toArray e (0, 0))) {z : Value} (h : cs[off]? = some z) :
    (loadVar t ⟨b, off, none⟩).run P w = .ok z w := by
  unfold loadVar
  simp only [Sem.run_bind, run_isAgg w t hu, hagg, Result.andThen_ok, Bool.false_eq_true, if_false]
  rw [run_load]
  simp only [World.cell?, hb]
  have : cs.toArray[off]? = some z := by simpa using h
  simp [this]
theorem semLoad_sound {P : Program} {W0 : Base} {ρ : Nat → Nat} {tm : List SV} {ob : List SO} {a : Act} {w : World} (H : Holds W0 ρ tm ob a w) {t : TypeId} {x z : SA} {ps : List Prop} (h : semLoad P ob t x = some (ps, z)) (hp : Ok ps) :
    (Instr.loadAt t (x.conc ρ)).run P w = .ok (z.conc ρ) w ∧ z.bnd (live ob) := by
  unfold semLoad at h
  split at h
  · rename_i o off
    split at h
    · rename_i e ks sp ho
      obtain ⟨z', h', he⟩ := Option.map_eq_some_iff.1 h
      simp only [Prod.mk.injEq] at he
      obtain ⟨rfl, rfl⟩ := he
      clear h
      have h := h'
      obtain ⟨h1, ⟨rest, _, h2⟩, h3, h4⟩ := H.mem.obj o e ks sp ho
      refine ⟨?_, piece_bnd h h3⟩
      have hp := piece_sound h ρ w
      rw [show SA.conc ρ (.sc (.ptr o off)) = .pointer (some ⟨ρ o, off, none⟩) from rfl]
      simp only [Instr.loadAt, Instr.sureAddr, Sem.run_bind, Sem.run_pure, Result.andThen_ok]
      obtain ⟨u, hu⟩ := piece_info h
      have hp := part_more (rest := rest) hp (piece_len h ρ)
      by_cases hagg : isAggD u = true
      · exact run_loadVar_at h2 hp (by have := piece_len h ρ (by rw [hu]; exact hagg); rw [List.length_append]; omega)
      · have hagg : isAggD u = false := by simpa using hagg
        unfold part at hp
        simp only [Sem.run_bind, run_isAgg w t hu, hagg, Result.andThen_ok, Bool.false_eq_true, if_false, List.getElem?_toArray] at hp
        cases hc : (concs ρ ks ++ rest)[off]? with
        | none => rw [hc] at hp; simp at hp
        | some v =>
          rw [hc] at hp
          simp at hp
          exact run_loadVar_one hu hagg h2 (by rw [hc, hp])
    · cases h
  · rename_i o base len i
    split at h
    · rename_i e ks sp ho
      split at h
      · rename_i hi
        obtain ⟨u, hue, hagg⟩ := isIntT_spec hi
        obtain ⟨h1, ⟨rest, _, h2⟩, h3, h4⟩ := H.mem.obj o e ks sp ho
        obtain ⟨h0, h1', hl, ⟨k', n', rfl⟩, hc⟩ := semSel_sound h hp ρ
        refine ⟨?_, trivial⟩
        rw [show SA.conc ρ (.sc (.pti o base len i)) = .pointer (some ⟨ρ o, base + i.toNat, none⟩) from rfl]
        simp only [Instr.loadAt, Instr.sureAddr, Sem.run_bind, Sem.run_pure, Result.andThen_ok]
        exact run_loadVar_one hue hagg h2 (by rw [List.getElem?_append_left (by omega)]; exact hc)
      · cases h
    · cases h
  · cases h

/-- One of some cells, written anew. -/
def semSet (ks : List SK) (base len : Nat) (i : Int) (k : IntKind) (v : Int) : Option (List SK) :=
  match sub ks base len with
  | some cs => if kindAll k cs then lay ks base [.f k len (fun j => if j = i.toNat then v else selG cs j)] else none
  | none => none
theorem semSet_sound {ks r : List SK} {base len : Nat} {i : Int} {k : IntKind} {v : Int} (h : semSet ks base len i k v = some r) (h0 : 0 ≤ i) (h1 : i < len) (ρ : Nat → Nat) :
    base + len ≤ (concs ρ ks).length ∧ concs ρ r = (concs ρ ks).set (base + i.toNat) (.int k v) := by
  unfold semSet at h
  split at h
  case h_2 => cases h
  rename_i cs hs
  split at h
  case isFalse => cases h
  rename_i ha
  obtain ⟨l1, l2⟩ := lay_flat h
  obtain ⟨s1, s2⟩ := concs_sub hs ρ
  have hlen : (flat cs).length = len := by
    obtain ⟨a, b⟩ := sub_flat hs
    rw [b]; simp; omega
  have hf : ∀ g, flat [SK.f k len g] = (List.range len).map fun j => .val (.int k (g j)) := fun g => by simp [flat, SK.cells]
  have hfl : ∀ g, (flat [SK.f k len g]).length = len := fun g => by rw [hf]; simp
  refine ⟨s1, ?_⟩
  simp only [concs, l2, List.map_append, List.map_take, List.map_drop, hfl]
  have hks : ∀ j, j < len → ((flat ks).map (SC.conc ρ))[base + j]? = some (.int k (selG cs j)) := by
    intro j hj
    have := selG_conc ha ρ (j := j) (by omega)
    rw [s2, List.getElem?_take, if_pos hj, List.getElem?_drop] at this
    exact this
  have hL : base + len ≤ ((flat ks).map (SC.conc ρ)).length := s1
  rw [hf]
  generalize (flat ks).map (SC.conc ρ) = L at hks hL
  apply List.ext_getElem?
  intro m
  simp only [List.getElem?_append, List.length_append, List.length_take, List.getElem?_take, List.getElem?_set, List.getElem?_drop, List.length_map, List.length_range, List.map_map, Nat.min_eq_left (show base ≤ L.length by omega)]
  by_cases c1 : m < base
  · simp [show m < base + len by omega, c1, show base + i.toNat ≠ m by omega]
  · by_cases c2 : m < base + len
    · simp only [c1, c2, if_true, if_false, List.getElem?_map, List.getElem?_range (show m - base < len by omega), Option.map_some, Function.comp_apply, SC.conc]
      by_cases c3 : base + i.toNat = m
      · subst c3
        simp [show base + i.toNat < L.length by omega]
      · rw [if_neg (show ¬ (m - base = i.toNat) by omega), if_neg c3]
        have := hks (m - base) (by omega)
        rw [show base + (m - base) = m by omega] at this
        exact this.symm
    · simp only [c1, c2, if_false, if_neg (show ¬ (base + i.toNat = m) by omega)]
      congr 1
      omega
theorem semSet_bnd {ks r : List SK} {base len : Nat} {i : Int} {k : IntKind} {v : Int} (h : semSet ks base len i k v = some r) {n : Nat → Prop} (hb : ∀ x ∈ ks, x.bnd n) : ∀ x ∈ r, x.bnd n := by
  unfold semSet at h
  split at h
  case h_2 => cases h
  split at h
  case isFalse => cases h
  obtain ⟨l1, l2⟩ := lay_flat h
  rw [bnd_flat, l2]
  rw [bnd_flat] at hb
  intro c hc
  simp only [List.mem_append] at hc
  rcases hc with (hc | hc) | hc
  · exact hb c (List.mem_of_mem_take hc)
  · simp only [flat, SK.cells, List.append_nil, List.mem_map] at hc
    obtain ⟨j, _, rfl⟩ := hc; trivial
  · exact hb c (List.mem_of_mem_drop hc)
theorem semSet_fit {ks r : List SK} {base len : Nat} {i : Int} {k : IntKind} {v : Int} (h : semSet ks base len i k v = some r) (hb : ∀ x ∈ ks, x.fit = true) : ∀ x ∈ r, x.fit = true := by
  unfold semSet at h
  split at h
  case h_2 => cases h
  split at h
  case isFalse => cases h
  obtain ⟨l1, l2⟩ := lay_flat h
  rw [fit_flat, l2]
  rw [fit_flat] at hb
  intro c hc
  simp only [List.mem_append] at hc
  rcases hc with (hc | hc) | hc
  · exact hb c (List.mem_of_mem_take hc)
  · simp only [flat, SK.cells, List.append_nil, List.mem_map] at hc
    obtain ⟨j, _, rfl⟩ := hc; rfl
  · exact hb c (List.mem_of_mem_drop hc)

/-- A block's cells, turned. -/
theorem Holds.turned {W0 : Base} {ρ : Nat → Nat} {tm : List SV} {ob : List SO} {a : Act} {w : World} (H : Holds W0 ρ tm ob a w) {o : Nat} {e : TypeId} {ks r : List SK} {sp : Nat} {rest : List Value} (ho : ob[o]? = some (.cells e ks sp)) (hrest : rest.length = sp)
    (h2 : w.heap[ρ o]? = some (.cells (concs ρ ks ++ rest).toArray e (0, 0))) (hbr : ∀ k ∈ r, k.bnd (live ob)) (hfr : ∀ k ∈ r, k.fit = true) :
    Holds W0 ρ tm (ob.set o (.cells e r sp)) a (w.setRow (ρ o) (concs ρ r ++ rest).toArray) := by
  have olt := ob_lt ho
  have h1 := (H.mem.obj o e ks sp ho).1
  have hlive : ∀ i, live ob i → live (ob.set o (SO.cells e r sp)) i := by
    rintro i ⟨e', ks', sp', hi⟩
    by_cases k : o = i
    · subst k; exact ⟨e, r, sp, by simp [olt]⟩
    · exact ⟨e', ks', sp', by rw [List.getElem?_set_ne k]; exact hi⟩
  have hdead : ∀ i : Nat, ob[i]? = some .dead → (ob.set o (SO.cells e r sp))[i]? = some .dead := fun i k => by
    have : o ≠ i := by rintro rfl; rw [ho] at k; cases k
    rw [List.getElem?_set_ne this]; exact k
  refine ⟨H.size, H.rep, fun t => SV.bnd_mono hlive (H.bnd t), H.defers, below_setRow H.below h1 _, ⟨fun j e' ks' sp' hj => ?_, fun j k e1 k1 s1 e2 k2 s2 hj hk hjk => ?_⟩, fun i hi => ?_, fun i hi => hdead i (H.kept.2.1 i hi), by simpa using H.kept.2.2⟩
  · rw [List.getElem?_set] at hj
    split at hj
    · rename_i hoj
      subst hoj
      simp only [Option.some.injEq, SO.cells.injEq] at hj
      obtain ⟨rfl, rfl, rfl⟩ := hj
      exact ⟨h1, ⟨rest, hrest, setRow_heap w _ _ _ _ _ h2⟩, fun k hk => SK.bnd_mono hlive (hbr k hk), hfr⟩
    · rename_i hne
      obtain ⟨a1, ⟨rs, hr, a2⟩, a3, a4⟩ := H.mem.obj j e' ks' sp' hj
      refine ⟨a1, ⟨rs, hr, ?_⟩, fun k hk => SK.bnd_mono hlive (a3 k hk), a4⟩
      rw [setRow_other _ _ _ _ (fun e => hne (H.mem.inj _ _ _ _ _ _ _ _ ho hj e.symm))]
      exact a2
  · have alive : ∀ (j : Nat) e' ks' sp', (ob.set o (SO.cells e r sp))[j]? = some (SO.cells e' ks' sp') → ∃ e'' ks'' sp'', ob[j]? = some (SO.cells e'' ks'' sp'') := by
      intro j e' ks' sp' hj
      rw [List.getElem?_set] at hj
      split at hj
      · rename_i hoj; subst hoj; exact ⟨_, _, _, ho⟩
      · exact ⟨_, _, _, hj⟩
    obtain ⟨_, _, _, hj'⟩ := alive j _ _ _ hj
    obtain ⟨_, _, _, hk'⟩ := alive k _ _ _ hk
    exact H.mem.inj _ _ _ _ _ _ _ _ hj' hk' hjk
  · rcases H.kept.1 i hi with ⟨k1, k2⟩ | k
    · exact .inl ⟨hlive i k1, k2⟩
    · exact .inr (hdead i k)

def semStore (P : Program) (ob : List SO) (t : TypeId) (x y : SA) : Option (List Prop × List SO) :=
  match x with
  | .sc (.ptr o off) =>
    match ob[o]? with
    | some (.cells e ks sp) =>
      if (P.info? t).map (·.size) = some (flat (toKs y)).length ∧ (toKs y).all SK.fit = true then (lay ks off (toKs y)).map fun r => ([], ob.set o (.cells e r sp)) else none
    | _ => none
  | .sc (.pti o base len i) =>
    match ob[o]?, asI y with
    | some (.cells e ks sp), some (k, v) =>
      if (P.info? t).map (·.size) = some 1 then (semSet ks base len i k v).map fun r => ([0 ≤ i ∧ i < (len : Int)], ob.set o (.cells e r sp)) else none
    | _, _ => none
  | _ => none
theorem run_storeVar_at {P : Program} {w : World} {b off : Nat} {t e : TypeId} {row new : List Value} {i : TypeInfo} (hi : P.info? t = some i) {v : Value} (hv : v.cells = new.toArray) (hsz : i.size = new.length)
    (hb : w.heap[b]? = some (.cells row.toArray e (0, 0))) (hl : off + new.length ≤ row.length) (hf : ∀ x ∈ new, x.oneCell' = true) :
    (storeVar t ⟨b, off, none⟩ v).run P w = .ok () (w.setRow b (row.take off ++ new ++ row.drop (off + new.length)).toArray) := by
  have hst := run_storeCells_at (P := P) b off e new 0 row.toArray w hb (by simpa using hl) hf
  simp only [storeVar, Sem.run_bind, run_sizeOf w hi, Result.andThen_ok]
  have : ¬ new.toArray.size ≠ P.cellsOf t := by simp [Program.cellsOf, hi, hsz]
  simp only [Sem.run_ite, hv]
  rw [if_neg this]
  simpa using hst
theorem semStore_sound {P : Program} {W0 : Base} {ρ : Nat → Nat} {tm : List SV} {ob ob' : List SO} {a : Act} {w : World} (H : Holds W0 ρ tm ob a w) {t : TypeId} {x y : SA} (hb : y.bnd (live ob)) {ps : List Prop} (h : semStore P ob t x y = some (ps, ob')) (hp : Ok ps) :
    ∃ w', (Instr.storeAt t (x.conc ρ) (y.conc ρ)).run P w = .ok () w' ∧ Holds W0 ρ tm ob' a w' := by
  unfold semStore at h
  split at h
  · rename_i o off
    split at h
    · rename_i e ks sp ho
      split at h
      · rename_i hc
        obtain ⟨hs, hf⟩ := hc
        obtain ⟨r, hr, he⟩ := Option.map_eq_some_iff.1 h
        simp only [Prod.mk.injEq] at he
        obtain ⟨rfl, rfl⟩ := he
        obtain ⟨h1, ⟨rest, hrest, h2⟩, h3, h4⟩ := H.mem.obj o e ks sp ho
        obtain ⟨l1, l2⟩ := lay_flat hr
        have hf' : ∀ k ∈ toKs y, k.fit = true := fun k hk => List.all_eq_true.1 hf k hk
        have hlen : (concs ρ (toKs y)).length = (flat (toKs y)).length := by simp [concs]
        have hkl : (concs ρ ks).length = (flat ks).length := by simp [concs]
        obtain ⟨i, hi⟩ : ∃ i, P.info? t = some i := by
          cases hi : P.info? t with
          | none => simp [hi] at hs
          | some i => exact ⟨i, rfl⟩
        have hsz : i.size = (flat (toKs y)).length := by simpa [hi] using hs
        have hst := run_storeVar_at (off := off) hi (toKs_conc ρ y) (by rw [hsz, hlen]) h2 (by rw [List.length_append]; omega) (concs_fit hf' ρ)
        have hnew : (concs ρ ks ++ rest).take off ++ concs ρ (toKs y) ++ (concs ρ ks ++ rest).drop (off + (concs ρ (toKs y)).length) = concs ρ r ++ rest := by
          rw [List.take_append_of_le_length (by omega), List.drop_append_of_le_length (by omega), hlen]
          simp only [concs, l2, List.map_append, List.map_take, List.map_drop, List.append_assoc]
        rw [hnew] at hst
        refine ⟨_, ?_, H.turned ho hrest h2 ?_ ?_⟩
        · rw [show SA.conc ρ (.sc (.ptr o off)) = .pointer (some ⟨ρ o, off, none⟩) from rfl]
          simp only [Instr.storeAt, Instr.sureAddr, Sem.run_bind, Sem.run_pure, Result.andThen_ok]
          exact hst
        · rw [bnd_flat, l2]
          intro c hc
          simp only [List.mem_append] at hc
          rcases hc with (hc | hc) | hc
          · exact bnd_flat.1 h3 c (List.mem_of_mem_take hc)
          · exact bnd_flat.1 (toKs_bnd hb) c hc
          · exact bnd_flat.1 h3 c (List.mem_of_mem_drop hc)
        · rw [fit_flat, l2]
          intro c hc
          simp only [List.mem_append] at hc
          rcases hc with (hc | hc) | hc
          · exact fit_flat.1 h4 c (List.mem_of_mem_take hc)
          · exact fit_flat.1 hf' c hc
          · exact fit_flat.1 h4 c (List.mem_of_mem_drop hc)
      · cases h
    · cases h
  · rename_i o base len i
    split at h
    · rename_i e ks sp k v ho hv
      split at h
      · rename_i hs
        obtain ⟨r, hr, he⟩ := Option.map_eq_some_iff.1 h
        simp only [Prod.mk.injEq] at he
        obtain ⟨rfl, rfl⟩ := he
        obtain ⟨⟨g0, g1⟩, _⟩ := hp
        obtain ⟨h1, ⟨rest, hrest, h2⟩, h3, h4⟩ := H.mem.obj o e ks sp ho
        obtain ⟨r1, r2⟩ := semSet_sound hr g0 g1 ρ
        obtain ⟨i', hi⟩ : ∃ i, P.info? t = some i := by
          cases hi : P.info? t with
          | none => simp [hi] at hs
          | some i => exact ⟨i, rfl⟩
        have hsz : i'.size = 1 := by simpa [hi] using hs
        have hst := run_storeVar_at (off := base + i.toNat) (new := [.int k v]) (v := .int k v) hi rfl hsz h2 (by rw [List.length_append, List.length_singleton]; omega) (by simp [Value.oneCell'])
        have hnew : (concs ρ ks ++ rest).take (base + i.toNat) ++ [.int k v] ++ (concs ρ ks ++ rest).drop (base + i.toNat + [Value.int k v].length) = concs ρ r ++ rest := by
          rw [List.take_append_of_le_length (by omega), List.drop_append_of_le_length (by rw [List.length_singleton]; omega), r2, List.length_singleton, ← List.append_assoc]
          congr 1
          rw [List.set_eq_take_append_cons_drop, if_pos (by omega)]
          simp
        rw [hnew] at hst
        refine ⟨_, ?_, H.turned ho hrest h2 (semSet_bnd hr h3) (semSet_fit hr h4)⟩
        rw [show SA.conc ρ (.sc (.pti o base len i)) = .pointer (some ⟨ρ o, base + i.toNat, none⟩) from rfl, asI_sound hv ρ]
        simp only [Instr.storeAt, Instr.sureAddr, Sem.run_bind, Sem.run_pure, Result.andThen_ok]
        exact hst
      · cases h
    · cases h
  · cases h

end Go.Sx
