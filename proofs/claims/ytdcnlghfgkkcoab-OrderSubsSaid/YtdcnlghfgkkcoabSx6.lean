/-
  A calculus of symbolic states for walks over translated Go code, part 6: operations on memory, calls, one operation, a region.
-/
import Derived.Test.YtdcnlghfgkkcoabSx5
import Derived.Laws.CopyOwn
namespace Go.Sx
open Go.RowKit

/-! ## Memory -/

theorem ob_lt {ob : List SO} {i : Nat} {x : SO} (h : ob[i]? = some x) : i < ob.length := by
  rcases Nat.lt_or_ge i ob.length with k | k
  · exact k
  · rw [List.getElem?_eq_none k] at h; cases h
theorem heap_lt {w : World} {i : Nat} {x : Obj} (h : w.heap[i]? = some x) : i < w.heap.size := by
  rcases Nat.lt_or_ge i w.heap.size with k | k
  · exact k
  · rw [Array.getElem?_eq_none k] at h; cases h

/-- One more block, at a place where there is none. -/
def place (ob : List SO) (id : Nat) (x : SO) : Option (List SO) :=
  match ob[id]? with
  | none => if Nat.beq id ob.length then some (ob ++ [x]) else none
  | some .gone => some (ob.set id x)
  | some (.cells _ _) => none
theorem place_get {ob ob' : List SO} {id : Nat} {x : SO} (h : place ob id x = some ob') : ¬ live ob id ∧ ob'[id]? = some x ∧ ∀ i, i ≠ id → ob'[i]? = ob[i]? := by
  unfold place at h
  split at h
  · rename_i hn
    split at h
    · rename_i he
      have he := Nat.eq_of_beq_eq_true he
      subst he
      simp only [Option.some.injEq] at h
      subst h
      refine ⟨fun ⟨e, ks, hl⟩ => (by rw [hn] at hl; cases hl), by simp, fun i hi => ?_⟩
      rcases Nat.lt_or_ge i ob.length with hl | hl
      · rw [List.getElem?_append_left hl]
      · rw [List.getElem?_eq_none hl, List.getElem?_eq_none (by simp; omega)]
    · cases h
  · rename_i hn
    simp only [Option.some.injEq] at h
    subst h
    refine ⟨fun ⟨e, ks, hl⟩ => (by rw [hn] at hl; cases hl), by simp [ob_lt hn], fun i hi => by rw [List.getElem?_set_ne (fun e => hi e.symm)]⟩
  · cases h
def grown (ρ : Nat → Nat) (n b : Nat) : Nat → Nat := fun i => if i = n then b else ρ i
theorem grown_agree (ρ : Nat → Nat) (id b : Nat) {ob : List SO} (h : ¬ live ob id) : Agree (live ob) ρ (grown ρ id b) := fun i hi => by
  have : i ≠ id := by rintro rfl; exact h hi
  simp only [grown, if_neg this]
theorem live_place {ob ob' : List SO} {id : Nat} {x : SO} (h : place ob id x = some ob') (i : Nat) (hi : live ob i) : live ob' i := by
  obtain ⟨h1, _, h3⟩ := place_get h
  obtain ⟨e, ks, hi⟩ := hi
  have : i ≠ id := by rintro rfl; exact h1 ⟨e, ks, hi⟩
  exact ⟨e, ks, by rw [h3 i this]; exact hi⟩
theorem Mem.place {B : Nat} {ρ : Nat → Nat} {ob ob' : List SO} {w : World} (h : Mem B ρ ob w) (hB : B ≤ w.heap.size) {id : Nat} {e : TypeId} {ks : List SK} (hp : place ob id (.cells e ks) = some ob') (hb : ∀ k ∈ ks, k.bnd (live ob)) (hf : ∀ k ∈ ks, k.fit = true) :
    Mem B (grown ρ id w.heap.size) ob' (w.alloc (.cells (concs ρ ks).toArray e)) := by
  obtain ⟨p1, p2, p3⟩ := place_get hp
  have hag := grown_agree ρ id w.heap.size p1
  have hnew : grown ρ id w.heap.size id = w.heap.size := by simp [grown]
  have old : ∀ i e' ks', ob'[i]? = some (.cells e' ks') → (i ≠ id ∧ ob[i]? = some (.cells e' ks')) ∨ (i = id ∧ e' = e ∧ ks' = ks) := by
    intro i e' ks' hi
    by_cases k : i = id
    · subst k
      rw [p2] at hi
      simp only [Option.some.injEq, SO.cells.injEq] at hi
      exact .inr ⟨rfl, hi.1.symm, hi.2.symm⟩
    · exact .inl ⟨k, by rw [← p3 i k]; exact hi⟩
  refine ⟨fun i e' ks' hi => ?_, fun i j e1 k1 e2 k2 hi hj hij => ?_⟩
  · rcases old i e' ks' hi with ⟨_, hi⟩ | ⟨rfl, rfl, rfl⟩
    · obtain ⟨h1, h2, h3, h4⟩ := h.obj i e' ks' hi
      rw [hag i ⟨_, _, hi⟩, hag.sks h3]
      refine ⟨h1, ?_, fun k hk => SK.bnd_mono (live_place hp) (h3 k hk), h4⟩
      rw [Below.heap_alloc _ _ _ (heap_lt h2)]; exact h2
    · rw [hnew, hag.sks hb]
      refine ⟨hB, ?_, fun k hk => SK.bnd_mono (live_place hp) (hb k hk), hf⟩
      show (w.heap.push _)[w.heap.size]? = _
      simp
  · rcases old i e1 k1 hi with ⟨_, hi1⟩ | ⟨hi1, _, _⟩ <;> rcases old j e2 k2 hj with ⟨_, hj1⟩ | ⟨hj1, _, _⟩
    · rw [hag i ⟨_, _, hi1⟩, hag j ⟨_, _, hj1⟩] at hij; exact h.inj i j _ _ _ _ hi1 hj1 hij
    · subst hj1
      rw [hag i ⟨_, _, hi1⟩, hnew] at hij
      have := heap_lt (h.obj i _ _ hi1).2.1; omega
    · subst hi1
      rw [hag j ⟨_, _, hj1⟩, hnew] at hij
      have := heap_lt (h.obj j _ _ hj1).2.1; omega
    · rw [hi1, hj1]

theorem Holds.place {W0 : World} {ρ : Nat → Nat} {tm : List SV} {ob ob' : List SO} {a : Act} {w : World} (h : Holds W0 ρ tm ob a w) {id : Nat} {e : TypeId} {ks : List SK} (hp : Sx.place ob id (.cells e ks) = some ob') (hb : ∀ k ∈ ks, k.bnd (live ob)) (hf : ∀ k ∈ ks, k.fit = true) (dst : Option Tmp) :
    Holds W0 (grown ρ id w.heap.size) (Sx.put tm dst (.one (.sc (.ptr id 0)))) ob' (a.put dst (.pointer (some ⟨w.heap.size, 0, none⟩))) (w.alloc (.cells (concs ρ ks).toArray e)) := by
  obtain ⟨p1, p2, _⟩ := place_get hp
  have hag := grown_agree ρ id w.heap.size p1
  refine Holds.put ⟨h.size, fun t => hag.sv (h.bnd t) (h.rep t), fun t => SV.bnd_mono (live_place hp) (h.bnd t), h.defers, h.below.alloc h.below.size _, h.mem.place h.below.size hp hb hf⟩ dst ?_ ?_
  · simp [SV.rep, SA.conc, SC.conc, grown]
  · exact ⟨e, ks, p2⟩

/-- The type's zero, as cells. -/
def zeroKs (P : Program) (t : TypeId) : Option (List SK) :=
  match (P.info? t).bind (·.zero) with
  | some z => some (z.cells.toList.map litC)
  | none => none
theorem run_zero {P : Program} {t : TypeId} {ks : List SK} (h : zeroKs P t = some ks) (w : World) : ∃ z, (zeroValue t).run P w = .ok z w ∧ ∀ ρ, z.cells = (concs ρ ks).toArray := by
  unfold zeroKs at h
  split at h
  · rename_i z hz
    simp only [Option.some.injEq] at h
    subst h
    obtain ⟨i, hi, hz⟩ := Option.bind_eq_some_iff.1 hz
    refine ⟨z, ?_, fun ρ => by rw [litCs_conc]⟩
    simp [zeroValue, run_typeInfo w hi, hz]
  · cases h

def toKs : SA → List SK
  | .sc (.val (.agg cs)) => cs.toList.map litC
  | .sc c => [.c c]
  | .agg ks => ks
theorem toKs_conc (ρ : Nat → Nat) (x : SA) : (x.conc ρ).cells = (concs ρ (toKs x)).toArray := by
  cases x with
  | agg ks => simp [SA.conc, Value.cells, toKs]
  | sc c =>
    cases c with
    | val v => cases v <;> simp [SA.conc, SC.conc, Value.cells, toKs, concs, flat, SK.cells] ; rename_i cs; have := litCs_conc ρ cs.toList; simp only [concs] at this; rw [this]
    | _ => simp [SA.conc, SC.conc, Value.cells, toKs, concs, flat, SK.cells]
theorem toKs_bnd {n : Nat → Prop} {x : SA} (h : x.bnd n) : ∀ k ∈ toKs x, k.bnd n := by
  cases x with
  | agg ks => exact h
  | sc c =>
    cases c with
    | val v => cases v <;> simp only [toKs, List.mem_singleton, List.mem_map] <;> (try (rintro _ rfl; trivial)); rintro _ ⟨v, _, rfl⟩; exact litC_bnd n v
    | _ => simp only [toKs, List.mem_singleton]; rintro _ rfl; exact h

theorem oneCell_eq (v : Value) : oneCell v = v.oneCell' := by cases v <;> rfl
theorem concs_fit {ks : List SK} (h : ∀ k ∈ ks, k.fit = true) (ρ : Nat → Nat) : ∀ v ∈ concs ρ ks, v.oneCell' = true := by
  intro v hv
  simp only [concs, List.mem_map] at hv
  obtain ⟨c, hc, rfl⟩ := hv
  have := fit_flat.1 h c hc
  cases c with
  | val v => simp only [SC.fit, oneCell_eq] at this; exact this
  | _ => rfl

def semLoad (P : Program) (ob : List SO) (t : TypeId) (x : SA) : Option SA :=
  match x with
  | .sc (.ptr o off) =>
    match ob[o]? with
    | some (.cells _ ks) => piece P t ks off
    | _ => none
  | _ => none
theorem run_loadVar_at {P : Program} {w : World} {b off : Nat} {t e : TypeId} {cs : List Value} (hb : w.heap[b]? = some (.cells cs.toArray e (0, 0))) {z : Value} (h : (part t cs.toArray off).run P w = .ok z w) (hl : off + P.cellsOf t ≤ cs.length) :
    (loadVar t ⟨b, off, none⟩).run P w = .ok z w := by
  unfold loadVar part at *
  simp only [Sem.run_bind] at h ⊢
  cases hg : (isAgg t).run P w with
  | halt x w1 => rw [hg] at h; simp at h
  | ok g w1 =>
    have hw : w1 = w := by
      unfold isAgg at hg
      simp only [Sem.run_bind] at hg
      cases hu : P.underlying t with
      | none => simp [underlying, hu] at hg
      | some u => rw [run_underlying hu] at hg; cases u <;> simp at hg <;> exact hg.2.symm
    subst hw
    rw [hg] at h
    simp only [Result.andThen_ok] at h ⊢
    cases g with
    | false =>
      simp only [Bool.false_eq_true, if_false] at h ⊢
      rw [run_load]
      simp only [World.cell?, hb]
      cases hc : cs.toArray[off]? with
      | none => rw [hc] at h; simp at h
      | some v => rw [hc] at h; simp at h; simp [h]
    | true =>
      simp only [if_true, Sem.run_bind] at h ⊢
      cases hs : (sizeOf t).run P w1 with
      | halt x w2 => rw [hs] at h; simp at h
      | ok n w2 =>
        have hn : n = P.cellsOf t ∧ w2 = w1 := by
          unfold sizeOf typeInfo at hs
          simp only [Sem.run_bind, run_program, Result.andThen_ok] at hs
          cases hi : P.info? t with
          | none => simp [hi] at hs
          | some i => simp [hi] at hs; exact ⟨by simp [Program.cellsOf, hi, hs.1], hs.2.symm⟩
        obtain ⟨rfl, rfl⟩ := hn
        rw [hs] at h
        simp only [Result.andThen_ok, Sem.run_pure] at h ⊢
        have hlen : ((cs.drop off).take (P.cellsOf t)).length = P.cellsOf t := by simp; omega
        have := run_loadCells_list (P := P) w2 ⟨b, off, none⟩ ((cs.drop off).take (P.cellsOf t)) (fun j v hj => by
          have hj' := hj
          rw [List.getElem?_take] at hj
          split at hj
          · rw [List.getElem?_drop] at hj
            simp only [add_addr, World.cell?, hb]
            simpa using hj
          · cases hj)
        rw [hlen] at this
        rw [this]
        simp only [Result.andThen_ok]
        rw [← h]
        simp [List.take_drop]
theorem piece_len {P : Program} {t : TypeId} {ks : List SK} {off : Nat} {z : SA} (h : piece P t ks off = some z) (ρ : Nat → Nat) : isAggD ((P.underlying t).getD .invalid) = true → off + P.cellsOf t ≤ (concs ρ ks).length := by
  intro hagg
  unfold piece at h
  split at h
  · obtain ⟨r, hr, rfl⟩ := Option.map_eq_some_iff.1 h; exact (concs_sub hr ρ).1
  · obtain ⟨r, hr, rfl⟩ := Option.map_eq_some_iff.1 h; exact (concs_sub hr ρ).1
  · rename_i u h1 h2 hu
    rw [hu] at hagg
    cases u <;> simp [isAggD] at hagg
    · exact (h2 _ _ rfl).elim
    · exact (h1 _ rfl).elim
  · cases h
theorem semLoad_sound {P : Program} {W0 : World} {ρ : Nat → Nat} {tm : List SV} {ob : List SO} {a : Act} {w : World} (H : Holds W0 ρ tm ob a w) {t : TypeId} {x z : SA} (h : semLoad P ob t x = some z) :
    (Instr.loadAt t (x.conc ρ)).run P w = .ok (z.conc ρ) w ∧ z.bnd (live ob) := by
  unfold semLoad at h
  split at h
  · rename_i o off
    split at h
    · rename_i e ks ho
      obtain ⟨h1, h2, h3, h4⟩ := H.mem.obj o e ks ho
      refine ⟨?_, piece_bnd h h3⟩
      have hp := piece_sound h ρ w
      rw [show SA.conc ρ (.sc (.ptr o off)) = .pointer (some ⟨ρ o, off, none⟩) from rfl]
      simp only [Instr.loadAt, Instr.sureAddr, Sem.run_bind, Sem.run_pure, Result.andThen_ok]
      obtain ⟨u, hu⟩ := piece_info h
      by_cases hagg : isAggD u = true
      · exact run_loadVar_at h2 hp (piece_len h ρ (by rw [hu]; exact hagg))
      · have hagg : isAggD u = false := by simpa using hagg
        unfold loadVar
        unfold part at hp
        simp only [Sem.run_bind, run_isAgg w t hu, hagg, Result.andThen_ok, Bool.false_eq_true, if_false] at hp ⊢
        rw [run_load]
        simp only [World.cell?, h2]
        cases hc : (concs ρ ks).toArray[off]? with
        | none => rw [hc] at hp; simp at hp
        | some v => rw [hc] at hp; simp at hp; simp [hp]
    · cases h
  · cases h

def semStore (P : Program) (ob : List SO) (t : TypeId) (x y : SA) : Option (List SO) :=
  match x with
  | .sc (.ptr o off) =>
    match ob[o]? with
    | some (.cells e ks) =>
      if (P.info? t).map (·.size) = some (flat (toKs y)).length ∧ (toKs y).all SK.fit = true then (lay ks off (toKs y)).map fun r => ob.set o (.cells e r) else none
    | _ => none
  | _ => none
theorem semStore_sound {P : Program} {W0 : World} {ρ : Nat → Nat} {tm : List SV} {ob ob' : List SO} {a : Act} {w : World} (H : Holds W0 ρ tm ob a w) {t : TypeId} {x y : SA} (hb : y.bnd (live ob)) (h : semStore P ob t x y = some ob') :
    ∃ w', (Instr.storeAt t (x.conc ρ) (y.conc ρ)).run P w = .ok () w' ∧ Holds W0 ρ tm ob' a w' := by
  unfold semStore at h
  split at h
  · rename_i o off
    split at h
    · rename_i e ks ho
      split at h
      · rename_i hc
        obtain ⟨hs, hf⟩ := hc
        obtain ⟨r, hr, rfl⟩ := Option.map_eq_some_iff.1 h
        obtain ⟨h1, h2, h3, h4⟩ := H.mem.obj o e ks ho
        obtain ⟨l1, l2⟩ := lay_flat hr
        have hf' : ∀ k ∈ toKs y, k.fit = true := fun k hk => List.all_eq_true.1 hf k hk
        have hlen : (concs ρ (toKs y)).length = (flat (toKs y)).length := by simp [concs]
        have hst := run_storeCells_at (P := P) (ρ o) off e (concs ρ (toKs y)) 0 (concs ρ ks).toArray w h2 (by rw [hlen]; simpa [concs] using l1) (concs_fit hf' ρ)
        have hnew : ((concs ρ ks).toArray.toList.take (off + 0) ++ concs ρ (toKs y) ++ (concs ρ ks).toArray.toList.drop (off + 0 + (concs ρ (toKs y)).length)).toArray = (concs ρ r).toArray := by
          rw [hlen]
          simp only [concs, l2, List.map_append, List.map_take, List.map_drop, Nat.add_zero]
        rw [hnew] at hst
        obtain ⟨i, hi⟩ : ∃ i, P.info? t = some i := by
          cases hi : P.info? t with
          | none => simp [hi] at hs
          | some i => exact ⟨i, rfl⟩
        have hsz : i.size = (flat (toKs y)).length := by simpa [hi] using hs
        refine ⟨w.setRow (ρ o) (concs ρ r).toArray, ?_, ?_⟩
        · rw [show SA.conc ρ (.sc (.ptr o off)) = .pointer (some ⟨ρ o, off, none⟩) from rfl]
          simp only [Instr.storeAt, Instr.sureAddr, Sem.run_bind, Sem.run_pure, Result.andThen_ok, storeVar, run_sizeOf w hi]
          have : ¬ (concs ρ (toKs y)).toArray.size ≠ P.cellsOf t := by
            simp [Program.cellsOf, hi, hsz, concs]
          simp only [Sem.run_ite, toKs_conc]
          rw [if_neg this]
          exact hst
        · have hbr : ∀ k ∈ r, k.bnd (live ob) := by
            rw [bnd_flat, l2]
            intro c hc
            simp only [List.mem_append] at hc
            rcases hc with (hc | hc) | hc
            · exact bnd_flat.1 h3 c (List.mem_of_mem_take hc)
            · exact bnd_flat.1 (toKs_bnd hb) c hc
            · exact bnd_flat.1 h3 c (List.mem_of_mem_drop hc)
          have hfr : ∀ k ∈ r, k.fit = true := by
            rw [fit_flat, l2]
            intro c hc
            simp only [List.mem_append] at hc
            rcases hc with (hc | hc) | hc
            · exact fit_flat.1 h4 c (List.mem_of_mem_take hc)
            · exact fit_flat.1 hf' c hc
            · exact fit_flat.1 h4 c (List.mem_of_mem_drop hc)
          have olt := ob_lt ho
          have hlive : ∀ i, live ob i → live (ob.set o (SO.cells e r)) i := by
            rintro i ⟨e', ks', hi⟩
            by_cases k : o = i
            · subst k; exact ⟨e, r, by simp [olt]⟩
            · exact ⟨e', ks', by rw [List.getElem?_set_ne k]; exact hi⟩
          refine ⟨H.size, H.rep, fun t => SV.bnd_mono hlive (H.bnd t), H.defers, below_setRow H.below h1 _, ⟨fun j e' ks' hj => ?_, fun j k e1 k1 e2 k2 hj hk hjk => ?_⟩⟩
          · rw [List.getElem?_set] at hj
            split at hj
            · rename_i hoj
              subst hoj
              simp only [Option.some.injEq, SO.cells.injEq] at hj
              obtain ⟨rfl, rfl⟩ := hj
              exact ⟨h1, setRow_heap w _ _ _ _ _ h2, fun k hk => SK.bnd_mono hlive (hbr k hk), hfr⟩
            · rename_i hne
              obtain ⟨a1, a2, a3, a4⟩ := H.mem.obj j e' ks' hj
              refine ⟨a1, ?_, fun k hk => SK.bnd_mono hlive (a3 k hk), a4⟩
              rw [setRow_other _ _ _ _ (fun e => hne (H.mem.inj _ _ _ _ _ _ ho hj e.symm))]
              exact a2
          · have alive : ∀ (j : Nat) e' ks', (ob.set o (SO.cells e r))[j]? = some (SO.cells e' ks') → ∃ e'' ks'', ob[j]? = some (SO.cells e'' ks'') := by
              intro j e' ks' hj
              rw [List.getElem?_set] at hj
              split at hj
              · rename_i hoj; subst hoj; exact ⟨_, _, ho⟩
              · exact ⟨_, _, hj⟩
            obtain ⟨_, _, hj'⟩ := alive j _ _ hj
            obtain ⟨_, _, hk'⟩ := alive k _ _ hk
            exact H.mem.inj _ _ _ _ _ _ hj' hk' hjk
      · cases h
    · cases h
  · cases h

end Go.Sx
