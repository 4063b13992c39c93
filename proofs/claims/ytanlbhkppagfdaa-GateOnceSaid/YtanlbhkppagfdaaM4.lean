/-
  Texts: SxM, Sx9.
-/
import Derived.Test.YtanlbhkppagfdaaM1
import Derived.Test.YtanlbhkppagfdaaM2
import Derived.Test.YtanlbhkppagfdaaM3
import Derived.MapKept
import Derived.Maps.AppendAt
section
namespace Go.Sx
open Go.RowKit
def mIx (n : Nat) (key : Nat → Int) (x : Int) : Nat := (List.range n).findIdx fun j => x == key j
def mHas (n j : Nat) : Bool := Nat.blt j n
def mN (n j : Nat) : Nat := cond (mHas n j) n (n + 1)
def mK (n : Nat) (key : Nat → Int) (x : Int) (i : Nat) : Int := cond (Nat.beq i n) x (key i)
def mG (j : Nat) (vs : List SC) (g : Nat → Nat → SC) (i c : Nat) : SC := selC (Nat.beq i j) (vs.getD c (.bit false)) (g i c)
theorem mIx_le (n : Nat) (key : Nat → Int) (x : Int) : mIx n key x ≤ n := by
  have := List.findIdx_le_length (xs := List.range n) (p := fun j => x == key j)
  rwa [List.length_range] at this
theorem mIx_key {n : Nat} {key : Nat → Int} {x : Int} (h : mIx n key x < n) : key (mIx n key x) = x := by
  have := List.findIdx_getElem (xs := List.range n) (p := fun j => x == key j) (w := by rw [List.length_range]; exact h)
  rw [List.getElem_range] at this
  exact (beq_iff_eq.1 this).symm
theorem mIx_none {n : Nat} {key : Nat → Int} {x : Int} (h : mIx n key x = n) (j : Nat) (hj : j < n) : key j ≠ x := fun e => by
  have := List.findIdx_lt_length_of_exists (xs := List.range n) (p := fun j => x == key j) ⟨j, List.mem_range.2 hj, beq_iff_eq.2 e.symm⟩
  rw [List.length_range] at this
  have h : (List.range n).findIdx (fun j => x == key j) = n := h
  omega
theorem mHas_iff {n j : Nat} : mHas n j = true ↔ j < n := by
  unfold mHas
  constructor
  · exact fun h => Nat.le_of_ble_eq_true h
  · exact fun h => Nat.ble_eq_true_of_le h
theorem mHas_no {n j : Nat} : mHas n j = false ↔ n ≤ j := by
  rw [← Bool.not_eq_true, mHas_iff]; omega
theorem beqF {i n : Nat} (h : i ≠ n) : Nat.beq i n = false := by
  rw [← Bool.not_eq_true]; exact fun e => h (Nat.eq_of_beq_eq_true e)
theorem findNow_told {kd k : IntKind} {α : Type} (x : Int) (ek : α → Int) (ev : α → Value) (eb : α → Nat) : ∀ (l : List α) (i : Nat), Instr.findNow (.int kd) (.int k x) (l.map fun a => ⟨.int k (ek a), ev a, eb a⟩) i = some ((l[l.findIdx fun a => x == ek a]?).map fun a => (i + l.findIdx (fun a => x == ek a), ev a))
  | [], _ => rfl
  | a :: l, i => by
    rw [List.map_cons, Instr.findNow]
    simp only [Instr.sameNow, if_true]
    rw [List.findIdx_cons]
    cases h : (x == ek a)
    · simp only [cond_false]
      rw [findNow_told x ek ev eb l (i + 1), List.getElem?_cons_succ]
      congr 2
      funext b
      rw [Nat.add_assoc, Nat.add_comm 1]
    · simp only [cond_true, List.getElem?_cons_zero, Option.map_some, Nat.add_zero]
section
variable {P : Program} {kt et : TypeId} {k : IntKind}
theorem run_findKey (hk : P.underlying kt = some (.int k)) (sc : Bool) (w n : Nat) (key : Nat → Int) (g : Nat → Nat → SC) (x : Int) (W : World) :
    (Instr.findKey kt (.int k x) (mpE sc k w n key g).toList).run P W = .ok (if mIx n key x < n then some (mIx n key x, mpV sc w (g (mIx n key x))) else none) W := by
  unfold Instr.findKey
  simp only [Sem.run_bind, run_underlying hk, Result.andThen_ok]
  rw [show (mpE sc k w n key g).toList = (List.range n).map fun i => (⟨.int k (key i), mpV sc w (g i), i⟩ : MapEntry) by simp [mpE]]
  rw [findNow_told x key (fun i => mpV sc w (g i)) (fun i => i)]
  simp only [Sem.run_pure]
  by_cases h : mIx n key x < n
  · rw [if_pos h]
    have : (List.range n)[mIx n key x]? = some (mIx n key x) := List.getElem?_range h
    unfold mIx at this ⊢
    rw [this]
    simp
  · rw [if_neg h]
    have : (List.range n)[mIx n key x]? = none := List.getElem?_eq_none (by rw [List.length_range]; omega)
    unfold mIx at this
    rw [this]
    rfl
theorem run_checkKey (hk : P.underlying kt = some (.int k)) (e : Bool) (v : Value) (W : World) : (Instr.checkKey e 10000 kt v).run P W = .ok () W := by
  rw [show (10000 : Nat) = 9999 + 1 from rfl]
  unfold Instr.checkKey
  simp only [Sem.run_bind, run_underlying hk, Result.andThen_ok]
  rfl
theorem run_stays (x : Int) (W : World) : (Instr.keyThatStays (.int k x) (.int k x)).run P W = .ok (.int k x) W := by
  unfold Instr.keyThatStays
  rw [if_pos (by simp [Instr.sameBits])]
  rfl
variable {t : TypeId} (ht : P.underlying t = some (.map kt et)) (hk : P.underlying kt = some (.int k))
include ht hk
theorem run_lookup {z : Value} (hz : ∀ W, (zeroValue et).run P W = .ok z W) {sc : Bool} {w n : Nat} {key : Nat → Int} {g : Nat → Nat → SC} {W : World} {r : Nat} (hb : W.heap[r]? = some (.map (mpE sc k w n key g) n)) (x : Int) (ok : Bool) :
    (Instr.lookup t (.map (some r)) (.int k x) ok).run P W = .ok (if ok then .tuple #[if mHas n (mIx n key x) then mpV sc w (g (mIx n key x)) else z, .bool (mHas n (mIx n key x))] else if mHas n (mIx n key x) then mpV sc w (g (mIx n key x)) else z) W := by
  unfold Instr.lookup
  simp only [Sem.run_bind, run_underlying ht, Go.MapKept.run_getObj_map hb, Result.andThen_ok, Sem.run_pure, run_checkKey hk, run_findKey hk]
  by_cases h : mIx n key x < n
  · have hm : mHas n (mIx n key x) = true := mHas_iff.2 h
    simp only [if_pos h, hm, if_true, Sem.run_pure, Result.andThen_ok]
    cases ok <;> rfl
  · have hm : mHas n (mIx n key x) = false := mHas_no.2 (by omega)
    simp only [if_neg h, hm, Bool.false_eq_true, if_false, Sem.run_bind, hz, Sem.run_pure, Result.andThen_ok]
theorem run_mapUpdate {sc : Bool} {w n : Nat} {key : Nat → Int} {g : Nat → Nat → SC} {W : World} {r : Nat} (hb : W.heap[r]? = some (.map (mpE sc k w n key g) n)) (x : Int) {v : Value} {cs : List SC} (hv : mpV sc w (fun c => cs.getD c (.bit false)) = v) :
    (Instr.mapUpdate t (.map (some r)) (.int k x) v).run P W = .ok () { W with heap := W.heap.setIfInBounds r (.map (mpE sc k w (mN n (mIx n key x)) (mK n key x) (mG (mIx n key x) cs g)) (mN n (mIx n key x))) } := by
  have hat : ∀ {i : Nat}, i < n → (mpE sc k w n key g)[i]? = some ⟨.int k (key i), mpV sc w (g i), i⟩ := fun {i} hi => by
    unfold mpE
    rw [List.getElem?_toArray, List.getElem?_map, List.getElem?_range hi]
    rfl
  have hval : ∀ i : Nat, mpV sc w (mG (mIx n key x) cs g i) = if i = mIx n key x then v else mpV sc w (g i) := fun i => by
    rw [← hv]
    unfold mpV mG
    by_cases e : i = mIx n key x
    · rw [if_pos e, show Nat.beq i (mIx n key x) = true by rw [← e]; exact Nat.beq_refl i]
      cases sc <;> simp only [selC_conc, cond_true]
    · rw [if_neg e, beqF e]
      cases sc <;> simp only [selC_conc, cond_false]
  unfold Instr.mapUpdate
  simp only [Sem.run_bind, run_underlying ht, Go.MapKept.run_getObj_map hb, Result.andThen_ok, run_checkKey hk, run_findKey hk]
  by_cases h : mIx n key x < n
  · have hm : mHas n (mIx n key x) = true := mHas_iff.2 h
    have hx := mIx_key h
    simp only [if_pos h, Sem.run_bind, hat h, Option.map_some, Option.getD_some, hx, run_stays, Result.andThen_ok, Go.MapKept.run_setObj_map _ hb]
    have : (mpE sc k w n key g).modify (mIx n key x) (fun e => { e with key := .int k x, val := v }) = mpE sc k w (mN n (mIx n key x)) (mK n key x) (mG (mIx n key x) cs g) := by
      unfold mN
      rw [hm, cond_true]
      apply Array.ext'
      rw [Array.toList_modify]
      apply List.ext_getElem?
      intro i
      rw [List.getElem?_modify]
      unfold mpE
      simp only [List.toList_toArray, List.getElem?_map]
      by_cases hi : i < n
      · rw [List.getElem?_range hi]
        simp only [Option.map_some, hval]
        have hk0 : mK n key x i = key i := by
          unfold mK
          rw [beqF (by omega)]
          rfl
        rw [hk0]
        by_cases e : mIx n key x = i
        · subst e
          simp [hx]
        · simp [e, Ne.symm e]
      · rw [List.getElem?_eq_none (by rw [List.length_range]; omega)]
        rfl
    rw [this]
    unfold mN
    rw [hm]; rfl
  · have hm : mHas n (mIx n key x) = false := mHas_no.2 (by omega)
    have hn : mIx n key x = n := by have := mIx_le n key x; omega
    simp only [if_neg h, Go.MapKept.run_setObj_map _ hb]
    have : (mpE sc k w n key g).push ⟨.int k x, v, n⟩ = mpE sc k w (mN n (mIx n key x)) (mK n key x) (mG (mIx n key x) cs g) := by
      unfold mN
      rw [hm, cond_false]
      apply Array.ext'
      rw [Array.toList_push]
      unfold mpE
      simp only [List.toList_toArray, List.range_succ, List.map_append, List.map_cons, List.map_nil, hval]
      congr 1
      · refine List.map_congr_left fun i hi => ?_
        have hi := List.mem_range.1 hi
        rw [if_neg (by omega)]
        unfold mK
        rw [beqF (by omega)]
        rfl
      · rw [if_pos hn.symm]
        unfold mK
        rw [Nat.beq_refl]
        rfl
    rw [this]
    unfold mN
    rw [hm]; rfl
end
def mapT (P : Program) (t : TypeId) : Option (IntKind × Bool × List SK) :=
  match P.underlying t with
  | some (.map kt et) => match P.underlying kt, (P.info? et).bind (·.zero) with
    | some (.int k), some z => match z with
      | .agg cs => match cs.toList.all oneCell with
        | true => some (k, false, cs.toList.map litC)
        | false => none
      | v => match oneCell v with
        | true => some (k, true, [litC v])
        | false => none
    | _, _ => none
  | _ => none
def lookA (sc b : Bool) (w : Nat) (h z : Nat → SC) : SA := match sc with
  | true => .sc (selC b (h 0) (z 0))
  | false => .agg ((List.range w).map fun c => SK.c (selC b (h c) (z c)))
def zeroC (zs : List SK) (c : Nat) : SC := (flat zs).getD c (.bit false)
def laidM (sc : Bool) (y : SA) : Option (List SC) := match sc, y with
  | true, .sc c => some [c]
  | false, .agg ks => some (flat ks)
  | _, _ => none
theorem mapT_spec {P : Program} {t : TypeId} {k : IntKind} {sc : Bool} {zs : List SK} (h : mapT P t = some (k, sc, zs)) : ∃ kt et z, P.underlying t = some (.map kt et) ∧ P.underlying kt = some (.int k) ∧ (∀ W, (zeroValue et).run P W = .ok z W) ∧ mpV sc zs.length (zeroC zs) = z ∧ (sc = true → zs.length = 1) ∧ (∀ c, c < zs.length → ∀ E : Env, (zeroC zs c).bnd E ∧ (zeroC zs c).fit = true) := by
  have lit1 : ∀ v : Value, oneCell v = true → flat [litC v] = [match litC v with | .c s => s | _ => .bit false] ∧ (match litC v with | .c s => s | _ => .bit false).conc Rho.nil = v ∧ (∀ E : Env, (match litC v with | .c s => s | _ => .bit false : SC).bnd E) ∧ (match litC v with | .c s => s | _ => .bit false : SC).fit = true := by
    intro v hv
    cases v <;> first | exact ⟨rfl, rfl, fun _ => trivial, rfl⟩ | exact ⟨rfl, rfl, fun _ => trivial, hv⟩
  unfold mapT at h
  split at h
  case h_2 => cases h
  rename_i kt et ht
  split at h
  case h_2 => cases h
  rename_i k' z hk hz
  obtain ⟨i, hi, hz⟩ := Option.bind_eq_some_iff.1 hz
  have hrun : ∀ W, (zeroValue et).run P W = .ok z W := fun W => by simp [zeroValue, run_typeInfo W hi, hz]
  split at h
  · rename_i cs _
    split at h
    case h_2 => cases h
    rename_i hall
    simp only [Option.some.injEq, Prod.mk.injEq] at h
    obtain ⟨rfl, rfl, rfl⟩ := h
    have hcs : ∀ l : List Value, l.all oneCell = true → flat (l.map litC) = l.map (fun v => match litC v with | .c s => s | _ => .bit false) ∧ (flat (l.map litC)).map (SC.conc Rho.nil) = l ∧ ∀ c ∈ flat (l.map litC), (∀ E : Env, c.bnd E) ∧ c.fit = true := by
      intro l hl
      induction l with
      | nil => exact ⟨rfl, rfl, fun c hc => by cases hc⟩
      | cons v l ih =>
        simp only [List.all_cons, Bool.and_eq_true] at hl
        obtain ⟨i1, i2, i3⟩ := ih hl.2
        obtain ⟨l1, l2, l3, l4⟩ := lit1 v hl.1
        have e : flat ((v :: l).map litC) = (match litC v with | .c s => s | _ => .bit false) :: flat (l.map litC) := by
          show (litC v).cells ++ flat (l.map litC) = _
          have : (litC v).cells ++ [] = flat [litC v] := rfl
          rw [List.append_nil] at this
          rw [this, l1]
          rfl
        refine ⟨by rw [e, i1]; rfl, by rw [e, List.map_cons, l2, i2], fun c hc => ?_⟩
        rw [e] at hc
        rcases List.mem_cons.1 hc with rfl | hc
        · exact ⟨l3, l4⟩
        · exact i3 c hc
    obtain ⟨h1, h2, h3⟩ := hcs _ hall
    have hlen : (flat (cs.toList.map litC)).length = (cs.toList.map litC).length := by rw [h1]; simp
    refine ⟨kt, et, _, ht, hk, hrun, ?_, fun e => (by cases e), fun c hc E => ?_⟩
    · show Value.agg ((List.range (cs.toList.map litC).length).map fun c => (zeroC (cs.toList.map litC) c).conc Rho.nil).toArray = _
      congr 1
      apply Array.ext'
      show (List.range (cs.toList.map litC).length).map (fun c => (zeroC (cs.toList.map litC) c).conc Rho.nil) = cs.toList
      rw [← hlen]
      apply List.ext_getElem?
      intro i
      by_cases hi : i < (flat (cs.toList.map litC)).length
      · rw [List.getElem?_map, List.getElem?_range hi, Option.map_some]
        conv => rhs; rw [← h2, List.getElem?_map, List.getElem?_eq_getElem hi, Option.map_some]
        unfold zeroC
        rw [List.getD_eq_getElem?_getD, List.getElem?_eq_getElem hi, Option.getD_some]
      · have hl2 : cs.toList.length = (flat (cs.toList.map litC)).length := by rw [hlen, List.length_map]
        rw [List.getElem?_map, List.getElem?_eq_none (by rw [List.length_range]; omega), List.getElem?_eq_none (by omega)]
        rfl
    · have hm : zeroC (cs.toList.map litC) c ∈ flat (cs.toList.map litC) := by
        unfold zeroC
        rw [List.getD_eq_getElem?_getD, List.getElem?_eq_getElem (by omega), Option.getD_some]
        exact List.getElem_mem _
      exact ⟨(h3 _ hm).1 E, (h3 _ hm).2⟩
  · split at h
    · rename_i hv
      simp only [Option.some.injEq, Prod.mk.injEq] at h
      obtain ⟨rfl, rfl, rfl⟩ := h
      obtain ⟨l1, l2, l3, l4⟩ := lit1 z hv
      refine ⟨kt, et, _, ht, hk, hrun, ?_, fun _ => rfl, ?_⟩
      · show (zeroC [litC z] 0).conc Rho.nil = z
        unfold zeroC
        rw [l1]
        exact l2
      · intro c hc E
        have : c = 0 := by simpa using hc
        subst this
        unfold zeroC
        rw [l1]
        exact ⟨l3 E, l4⟩
    · cases h
theorem Holds.turnedM {W0 : Base} {ρ : Rho} {tm : List SV} {ob : List SO} {a : Act} {W : World} (H : Holds W0 ρ tm ob a W) {o : Nat} {sc : Bool} {k : IntKind} {w n n' : Nat} {key key' : Nat → Int} {g g' : Nat → Nat → SC} (ho : ob[o]? = some (.mp sc k w n key g)) (hok : rowOK (lv ρ ob) w n' g') :
    Holds W0 ρ tm (ob.set o (.mp sc k w n' key' g')) a { W with heap := W.heap.setIfInBounds (ρ o) (.map (mpE sc k w n' key' g') n') } := by
  have olt := ob_lt ho
  obtain ⟨h1, ⟨rest, hrest, h2⟩, _⟩ := H.mem.objs o _ ho rfl
  have hr0 : rest = [] := List.length_eq_zero_iff.1 hrest
  subst hr0
  have hlt := heap_lt h2
  have other : ∀ i, i ≠ ρ o → (W.heap.setIfInBounds (ρ o) (.map (mpE sc k w n' key' g') n'))[i]? = W.heap[i]? := fun i hi => by rw [Array.getElem?_setIfInBounds, if_neg (fun e => hi e.symm)]
  have here : (W.heap.setIfInBounds (ρ o) (.map (mpE sc k w n' key' g') n'))[ρ o]? = some (.map (mpE sc k w n' key' g') n') := by rw [Array.getElem?_setIfInBounds, if_pos rfl, if_pos hlt]
  have hlive : ∀ i, live ob i → live (ob.set o (.mp sc k w n' key' g')) i := by
    rintro i ⟨y, hi, hy⟩
    by_cases q : o = i
    · subst q; exact ⟨.mp sc k w n' key' g', by simp [olt], rfl⟩
    · exact ⟨y, by rw [List.getElem?_set_ne q]; exact hi, hy⟩
  have hle : Env.le (lv ρ ob) (lv ρ (ob.set o (.mp sc k w n' key' g'))) := ⟨hlive, fun _ _ _ q => q⟩
  have alive : ∀ j : Nat, live (ob.set o (.mp sc k w n' key' g')) j → live ob j := by
    rintro j ⟨y, hj, hy⟩
    rw [List.getElem?_set] at hj
    split at hj
    · rename_i hoj; subst hoj; exact ⟨_, ho, rfl⟩
    · exact ⟨y, hj, hy⟩
  have hdead : ∀ i : Nat, ob[i]? = some .dead → (ob.set o (.mp sc k w n' key' g'))[i]? = some .dead := fun i q => by
    have : o ≠ i := by rintro rfl; rw [ho] at q; cases q
    rw [List.getElem?_set_ne this]; exact q
  refine ⟨H.size, H.rep, fun t => SV.bnd_mono hle (H.bnd t), H.defers, ⟨H.below.os, H.below.tape, H.below.output, ?_, fun i hi => ?_⟩, ⟨fun j y hj hy => ?_, fun j l hj hl hjl => H.mem.injs _ _ (alive j hj) (alive l hl) hjl, fun b c v hv => ?_⟩, ⟨fun i hi => ?_, fun i hi => hdead i (H.kept.2.1 i hi), by simpa using H.kept.2.2⟩, H.gl, H.fzs, fun b z hz => ⟨?_, fun i hi => (H.keeps b z hz).2 i (alive i hi)⟩⟩
  · show W0.w.heap.size ≤ (W.heap.setIfInBounds _ _).size
    rw [Array.size_setIfInBounds]; exact H.below.size
  · show (W.heap.setIfInBounds _ _)[i]? = _
    rw [other i (by have : i < W0.w.heap.size := hi; omega)]
    exact H.below.block i hi
  · rw [List.getElem?_set] at hj
    split at hj
    · rename_i hoj
      subst hoj
      simp only [Option.some.injEq] at hj
      subst hj
      exact ⟨h1, ⟨[], rfl, here⟩, SO.ok_mono (x := .mp sc k w n' key' g') hle hok⟩
    · rename_i hne
      obtain ⟨a1, ⟨rs, hr, a2⟩, a3⟩ := H.mem.objs j y hj hy
      refine ⟨a1, ⟨rs, hr, ?_⟩, SO.ok_mono hle a3⟩
      show (W.heap.setIfInBounds _ _)[ρ j]? = _
      rw [other _ (fun e => hne (H.mem.injs _ _ (live_mp ho) ⟨y, hj, hy⟩ e.symm))]
      exact a2
  · obtain ⟨k1, k2⟩ := H.mem.frz b c v hv
    refine ⟨?_, fun i hi => k2 i (alive i hi)⟩
    simp only [World.cell?] at k1 ⊢
    rw [other _ (fun e => k2 o (live_mp ho) e.symm)]; exact k1
  · rcases H.kept.1 i hi with ⟨k1, k2⟩ | q
    · exact .inl ⟨hlive i k1, k2⟩
    · exact .inr (hdead i q)
  · show (W.heap.setIfInBounds _ _)[b]? = _
    rw [other _ (fun e => (H.keeps b z hz).2 o (live_mp ho) e.symm)]
    exact (H.keeps b z hz).1
theorem Holds.mapAt {W0 : Base} {ρ : Rho} {tm : List SV} {ob : List SO} {a : Act} {W : World} (H : Holds W0 ρ tm ob a W) {o : Nat} {sc : Bool} {k : IntKind} {w n : Nat} {key : Nat → Int} {g : Nat → Nat → SC} (ho : ob[o]? = some (.mp sc k w n key g)) :
    W.heap[ρ o]? = some (.map (mpE sc k w n key g) n) ∧ rowOK (lv ρ ob) w n g := by
  obtain ⟨_, ⟨rest, _, h2⟩, h3⟩ := H.mem.objs o _ ho rfl
  exact ⟨h2, h3⟩
theorem mG_ok {E : Env} {w n : Nat} {g : Nat → Nat → SC} (h : rowOK E w n g) {cs : List SC} (hc : ∀ c ∈ cs, c.bnd E.bare ∧ c.fit = true) (hw : w = cs.length) {j : Nat} (hj : j ≤ n) : rowOK E w (mN n j) (mG j cs g) := by
  intro i hi c hcw
  unfold mG
  refine selC_ok _ _ _ (fun _ => ?_) (fun e => ?_)
  · have hl : c < cs.length := by omega
    rw [List.getD_eq_getElem?_getD, List.getElem?_eq_getElem hl, Option.getD_some]
    exact hc _ (List.getElem_mem hl)
  · refine h i ?_ c hcw
    have hne : i ≠ j := fun q => by subst q; rw [Nat.beq_refl] at e; cases e
    unfold mN at hi
    cases hm : mHas n j
    · rw [hm, cond_false] at hi
      have := mHas_no.1 hm
      omega
    · rw [hm, cond_true] at hi
      exact hi
theorem lookA_sound {E : Env} {sc : Bool} {w n : Nat} {g : Nat → Nat → SC} (h : rowOK E w n g) {z : Nat → SC} (hz : ∀ c, c < w → (z c).bnd E.bare ∧ (z c).fit = true) (hs : sc = true → w = 1) (j : Nat) (ρ : Rho) :
    (lookA sc (mHas n j) w (g j) z).conc ρ = (if mHas n j then mpV sc w (g j) else mpV sc w z) ∧ (lookA sc (mHas n j) w (g j) z).bnd E := by
  have hb : ∀ c, c < w → (selC (mHas n j) (g j c) (z c)).bnd E.bare ∧ (selC (mHas n j) (g j c) (z c)).fit = true := fun c hc => selC_ok _ _ _ (fun hm => h j (mHas_iff.1 hm) c hc) (fun _ => hz c hc)
  have hcc : ∀ c, c < w → (selC (mHas n j) (g j c) (z c)).conc ρ = cond (mHas n j) ((g j c).conc Rho.nil) ((z c).conc Rho.nil) := fun c hc => by rw [conc_bare (hb c hc).1 ρ, selC_conc]
  have hle : Env.le E.bare E := ⟨fun _ q => q.elim, fun _ _ _ q => q⟩
  cases sc with
  | true =>
    have hw := hs rfl
    subst hw
    refine ⟨?_, SC.bnd_mono hle (hb 0 Nat.one_pos).1⟩
    show (selC (mHas n j) (g j 0) (z 0)).conc ρ = _
    rw [hcc 0 Nat.one_pos]
    cases mHas n j <;> rfl
  | false =>
    refine ⟨?_, fun k hk => ?_⟩
    · show Value.agg (concs ρ _).toArray = _
      have hfl : ∀ (l : List Nat) (f : Nat → SC), flat (l.map fun c => SK.c (f c)) = l.map f := fun l f => by
        induction l with
        | nil => rfl
        | cons a l ih => show (f a) :: flat (l.map fun c => SK.c (f c)) = _; rw [ih]; rfl
      unfold concs
      rw [hfl, List.map_map]
      have e : ((List.range w).map (SC.conc ρ ∘ fun c => selC (mHas n j) (g j c) (z c))) = (List.range w).map fun c => cond (mHas n j) ((g j c).conc Rho.nil) ((z c).conc Rho.nil) := List.map_congr_left fun c hc => hcc c (List.mem_range.1 hc)
      rw [e]
      cases mHas n j <;> rfl
    · obtain ⟨c, hc, rfl⟩ := List.mem_map.1 hk
      exact SC.bnd_mono hle (hb c (List.mem_range.1 hc)).1
theorem laidM_sound {E : Env} {sc : Bool} {y : SA} {cs : List SC} (h : laidM sc y = some cs) (hb : y.bnd E) (hc : cs.all bareC = true) (ρ : Rho) : mpV sc cs.length (fun c => cs.getD c (.bit false)) = y.conc ρ ∧ ∀ c ∈ cs, c.bnd E.bare ∧ c.fit = true := by
  unfold laidM at h
  split at h
  · rename_i c
    simp only [Option.some.injEq] at h
    subst h
    have hbc : bareC c = true := by simpa using hc
    obtain ⟨q1, q2⟩ := bareC_ok hbc hb
    refine ⟨?_, fun x hx => by rw [List.mem_singleton.1 hx]; exact ⟨q1, q2⟩⟩
    show c.conc Rho.nil = c.conc ρ
    exact (conc_bare q1 ρ).symm
  · rename_i ks
    simp only [Option.some.injEq] at h
    subst h
    have hq : ∀ c ∈ flat ks, c.bnd E.bare ∧ c.fit = true := fun c hm => bareC_ok (List.all_eq_true.1 hc c hm) (flat_bnd hb c hm)
    refine ⟨?_, hq⟩
    show Value.agg ((List.range (flat ks).length).map fun c => ((flat ks).getD c (.bit false)).conc Rho.nil).toArray = Value.agg (concs ρ ks).toArray
    congr 2
    unfold concs
    apply List.ext_getElem?
    intro i
    by_cases hi : i < (flat ks).length
    · rw [List.getElem?_map, List.getElem?_range hi, List.getElem?_map, List.getElem?_eq_getElem hi, Option.map_some, Option.map_some, List.getD_eq_getElem?_getD, List.getElem?_eq_getElem hi, Option.getD_some, conc_bare (hq _ (List.getElem_mem hi)).1 ρ]
    · rw [List.getElem?_eq_none (by rw [List.length_map, List.length_range]; omega), List.getElem?_eq_none (by rw [List.length_map]; omega)]
  · cases h
end Go.Sx
end

section
namespace Go.Sx
open Go.RowKit
def eff : Op → Bool
  | .alloc _ | .box .. | .store .. | .buildSlice .. | .makeSlice .. | .call { callee := .builtin .copy, .. } => true
  | _ => false
def guarded (P : Program) (cx : Cx) (id : Nat) (tm : List SV) (ob : List SO) (o : Oper) (g : Bool) : Option (List Prop × SV × List SO) :=
  if eff o.op then none else
  match semOp P cx id tm ob o with
  | some (ps, .one x, _) => some (ps.map (fun p => g = true → p), .gd g x, ob)
  | some (ps, .gd b x, _) => some (((b = true) :: ps).map (fun p => g = true → p), .gd g x, ob)
  | _ => none
def semG0 (P : Program) (cx : Cx) (ops : Array Oper) (id : Nat) (tm : List SV) (ob : List SO) (o : Oper) : Option (List Prop × SV × List SO) :=
  match o.guard with
  | none => semOp P cx id tm ob o
  | some (j, want) =>
    match (ops[j]?).bind (·.dst) with
    | none => none
    | some d =>
      match tm.getD d .any with
      | .one (.sc (.bit b)) => if b == want then semOp P cx id tm ob o else some ([], .one (.sc (.val undef)), ob)
      | .one (.sc (.val (.bool b))) => match want with
        | true => guarded P cx id tm ob o b
        | false => guarded P cx id tm ob o (!b)
      | .gd g (.sc (.bit b)) => if b == want then guarded P cx id tm ob o g else some ([], .one (.sc (.val undef)), ob)
      | .gd g (.sc (.val (.bool b))) => match want with
        | true => guarded P cx id tm ob o (g && b)
        | false => guarded P cx id tm ob o (g && !b)
      | _ => none
theorem semOp_quiet {P : Program} {cx : Cx} {id : Nat} {tm : List SV} {ob ob' : List SO} {o : Oper} {ps : List Prop} {sv : SV} (h : semOp P cx id tm ob o = some (ps, sv, ob')) (he : eff o.op = false) : ob' = ob := by
  unfold semOp at h
  split at h
  all_goals first
    | (rename_i ho; simp [eff, ho] at he; done)
    | skip
  · simp only [Option.some.injEq, Prod.mk.injEq] at h; exact h.2.2.symm
  · simp only [Option.some.injEq, Prod.mk.injEq] at h; exact h.2.2.symm
  · split at h
    · obtain ⟨z, _, e⟩ := Option.map_eq_some_iff.1 h; simp only [Prod.mk.injEq] at e; exact e.2.2.symm
    · cases h
  · split at h
    · split at h
      · split at h
        · simp only [Option.some.injEq, Prod.mk.injEq] at h; exact h.2.2.symm
        · cases h
      · cases h
    · cases h
  · split at h
    · split at h
      · obtain ⟨z, _, e⟩ := Option.map_eq_some_iff.1 h; simp only [Prod.mk.injEq] at e; exact e.2.2.symm
      · cases h
    · obtain ⟨z, _, e⟩ := Option.map_eq_some_iff.1 h; simp only [Prod.mk.injEq] at e; exact e.2.2.symm
  · obtain ⟨z, _, e⟩ := Option.map_eq_some_iff.1 h; simp only [Prod.mk.injEq] at e; exact e.2.2.symm
section
variable {P : Program} {W0 : Base} {ρ : Rho} {tm : List SV} {ob : List SO} {a : Act} {w : World}
theorem yielded_of {ops : Array Oper} {j : Nat} {d : Tmp} (hd : (ops[j]?).bind (·.dst) = some d) (tmps : Array Value) :
    yielded ops tmps j = match tmps.getD d undef with | .bool b => some b | _ => none := by
  unfold yielded
  rw [hd]
  simp only [Option.bind_some, Array.getD_eq_getD_getElem?]
  cases tmps[d]? with
  | none => rfl
  | some v => cases v <;> rfl
theorem put_rep {tm : List SV} {dst : Option Tmp} {sv sv' : SV} {a : Act} (hs : a.tmps.size = (put tm dst sv).length) (hr : ∀ t : Nat, ((put tm dst sv).getD t .any).rep ρ (a.tmps.getD t undef)) (hb : ∀ t : Nat, ((put tm dst sv).getD t .any).bnd (lv ρ ob))
    (h1 : ∀ v, sv.rep ρ v → sv'.rep ρ v) (h2 : sv.bnd (lv ρ ob) → sv'.bnd (lv ρ ob)) :
    a.tmps.size = (put tm dst sv').length ∧ (∀ t : Nat, ((put tm dst sv').getD t .any).rep ρ (a.tmps.getD t undef)) ∧ (∀ t : Nat, ((put tm dst sv').getD t .any).bnd (lv ρ ob)) := by
  cases dst with
  | none => exact ⟨hs, hr, hb⟩
  | some d =>
    refine ⟨by rw [hs, length_put, length_put], fun t => ?_, fun t => ?_⟩
    · have := hr t
      simp only [put, List.getD_eq_getElem?_getD, List.getElem?_set] at this ⊢
      by_cases e : d = t
      · subst e
        by_cases l : d < tm.length
        · simp only [l, if_true, Option.getD_some] at this ⊢; exact h1 _ this
        · simp only [l, if_true, if_false, Option.getD_none] at this ⊢; exact trivial
      · simp only [e, if_false] at this ⊢; exact this
    · have := hb t
      simp only [put, List.getD_eq_getElem?_getD, List.getElem?_set] at this ⊢
      by_cases e : d = t
      · subst e
        by_cases l : d < tm.length
        · simp only [l, if_true, Option.getD_some] at this ⊢; exact h2 this
        · simp only [l, if_true, if_false, Option.getD_none] at this ⊢; exact trivial
      · simp only [e, if_false] at this ⊢; exact this
theorem Holds.as {tm : List SV} {dst : Option Tmp} {sv sv' : SV} (H : Holds W0 ρ (Sx.put tm dst sv) ob a w) (h1 : ∀ v, sv.rep ρ v → sv'.rep ρ v) (h2 : sv.bnd (lv ρ ob) → sv'.bnd (lv ρ ob)) : Holds W0 ρ (Sx.put tm dst sv') ob a w := by
  obtain ⟨a1, a2, a3⟩ := put_rep H.size H.rep H.bnd h1 h2
  exact ⟨a1, a2, a3, H.defers, H.below, H.mem, H.kept, H.gl, H.fzs, H.keeps⟩
theorem guarded_sound {cx : Cx} (hcx : CxOK P cx) (hgl : cx.gl = W0.gl) (H : Holds W0 ρ tm ob a w) {id : Nat} {o : Oper} {g : Bool} {ps : List Prop} {sv : SV} {ob' : List SO} (h : guarded P cx id tm ob o g = some (ps, sv, ob')) (hp : Ok ps)
    {K : Act → World → Prop} {Q : Exit → Act → World → Prop} (hK : ∀ ρ' a' w', Holds W0 ρ' (put tm o.dst sv) ob' a' w' → K a' w') :
    if g then o.wp P a w K Q else K (a.put o.dst undef) w := by
  unfold guarded at h
  split at h
  · cases h
  rename_i he
  have he : eff o.op = false := by simpa using he
  split at h
  · rename_i p1 x ob1 h1
    simp only [Option.some.injEq, Prod.mk.injEq] at h
    obtain ⟨rfl, rfl, rfl⟩ := h
    have hq := semOp_quiet h1 he
    subst hq
    cases g with
    | true =>
      simp only [if_true]
      exact semOp_sound hcx hgl H h1 (Ok_map hp rfl) fun ρ' a' w' H' => hK ρ' a' w' (H'.as (fun v hv => by simpa [SV.rep] using hv) (fun hb _ => hb))
    | false =>
      simp only [Bool.false_eq_true, if_false]
      exact hK ρ _ _ (H.put o.dst (by simp [SV.rep]) (by intro e; cases e))
  · rename_i p1 b x ob1 h1
    simp only [Option.some.injEq, Prod.mk.injEq] at h
    obtain ⟨rfl, rfl, rfl⟩ := h
    have hq := semOp_quiet h1 he
    subst hq
    cases g with
    | true =>
      simp only [if_true]
      have hp' := Ok_map hp rfl
      have hb := hp'.1
      exact semOp_sound hcx hgl H h1 hp'.2 fun ρ' a' w' H' => hK ρ' a' w' (H'.as (fun v hv => by simpa [SV.rep, hb] using hv) (fun hbn _ => hbn hb))
    | false =>
      simp only [Bool.false_eq_true, if_false]
      exact hK ρ _ _ (H.put o.dst (by simp [SV.rep]) (by intro e; cases e))
  · cases h
theorem semG0_sound {cx : Cx} (hcx : CxOK P cx) (hgl : cx.gl = W0.gl) {ops : Array Oper} {id : Nat} (H : Holds W0 ρ tm ob a w) {o : Oper} {ps : List Prop} {sv : SV} {ob' : List SO} (h : semG0 P cx ops id tm ob o = some (ps, sv, ob')) (hp : Ok ps)
    {K : Act → World → Prop} {Q : Exit → Act → World → Prop} (hK : ∀ ρ' a' w', Holds W0 ρ' (put tm o.dst sv) ob' a' w' → K a' w') :
    if Region.wanted o (yielded ops a.tmps) then o.wp P a w K Q else K (a.put o.dst undef) w := by
  unfold semG0 at h
  split at h
  · rename_i hg
    simp only [Region.wanted, hg, if_true]
    exact semOp_sound hcx hgl H h hp hK
  rename_i j want hg
  split at h
  · cases h
  rename_i d hd
  have hrep := H.rep d
  have hw : Region.wanted o (yielded ops a.tmps) = ((match a.tmps.getD d undef with | .bool b => some b | _ => none) == some want) := by
    simp only [Region.wanted, hg, yielded_of hd]
  rw [hw]
  split at h
  · rename_i b hb
    rw [hb] at hrep
    simp only [SV.rep, SA.conc, SC.conc] at hrep
    rw [hrep]
    split at h
    · rename_i e
      have : ((some b : Option Bool) == some want) = true := by simpa using e
      simp only [this, if_true]
      exact semOp_sound hcx hgl H h hp hK
    · rename_i e
      have : ((some b : Option Bool) == some want) = false := by simpa using e
      simp only [this, Bool.false_eq_true, if_false]
      simp only [Option.some.injEq, Prod.mk.injEq] at h
      obtain ⟨rfl, rfl, rfl⟩ := h
      exact hK ρ _ _ (H.put o.dst (sv := .one (.sc (.val undef))) rfl trivial)
  · rename_i b hb
    rw [hb] at hrep
    simp only [SV.rep, SA.conc, SC.conc] at hrep
    rw [hrep]
    split at h
    · have := guarded_sound hcx hgl H h hp (Q := Q) hK
      have e : ((some b : Option Bool) == some true) = b := by cases b <;> rfl
      simp only [e]
      exact this
    · have := guarded_sound hcx hgl H h hp (Q := Q) hK
      have e : ((some b : Option Bool) == some false) = !b := by cases b <;> rfl
      simp only [e]
      exact this
  · rename_i g b hb
    rw [hb] at hrep
    simp only [SV.rep, SA.conc, SC.conc] at hrep
    rw [hrep]
    split at h
    · rename_i e
      have e : b = want := by simpa using e
      subst e
      have := guarded_sound hcx hgl H h hp (Q := Q) hK
      cases g
      · simpa [undef] using this
      · simpa using this
    · rename_i e
      simp only [Option.some.injEq, Prod.mk.injEq] at h
      obtain ⟨rfl, rfl, rfl⟩ := h
      have hk : K (a.put o.dst undef) w := hK ρ _ _ (H.put o.dst (sv := .one (.sc (.val undef))) rfl trivial)
      have e : (b == want) = false := by simpa using e
      cases g
      · simpa [undef] using hk
      · simpa [e] using hk
  · rename_i g b hb
    rw [hb] at hrep
    simp only [SV.rep, SA.conc, SC.conc] at hrep
    rw [hrep]
    split at h
    · have := guarded_sound hcx hgl H h hp (Q := Q) hK
      cases g
      · simpa [undef] using this
      · cases b <;> simpa using this
    · have := guarded_sound hcx hgl H h hp (Q := Q) hK
      cases g
      · simpa [undef] using this
      · cases b <;> simpa using this
  · cases h
def ands : List Prop → Prop → Prop
  | [], k => k
  | p :: r, k => p ∧ ands r k
theorem ands_iff {ps : List Prop} {k : Prop} : ands ps k ↔ Ok ps ∧ k := by
  induction ps with
  | nil => simp [ands, Ok]
  | cons p r ih => simp [ands, Ok, ih, and_assoc]
inductive Stuck : Oper → Prop
inductive StuckAt : String → Prop
theorem Stuck.no {o : Oper} (h : Stuck o) {p : Prop} : p := by cases h
theorem StuckAt.no {o : String} (h : StuckAt o) {p : Prop} : p := by cases h
end
def liveB (ob : List SO) (i : Nat) : Bool :=
  match ob[i]? with
  | some (.cells _ _ _) | some (.row _ _ _ _ _) | some (.rown _ _ _ _ _ _) | some (.mp _ _ _ _ _ _) => true
  | _ => false
def PV.bndB (n : Nat → Bool) : PV → Bool
  | .p o _ => n o
  | .v _ => true
def SC.bndB (n : Nat → Bool) : SC → Bool
  | .ptr o _ | .pti o _ _ _ | .sl o _ _ _ | .sls o _ _ _ _ | .ptw o _ _ _ | .slw o _ _ _ _ | .ifc _ o _ | .mpr o => n o
  | .fn _ caps => caps.all (PV.bndB n)
  | .num _ _ | .bit _ | .val _ | .xs _ _ _ _ _ | .px _ _ _ => true
def SK.bndB (n : Nat → Bool) : SK → Bool
  | .c s => s.bndB n
  | .u _ | .f _ _ _ => true
def SA.bndB (n : Nat → Bool) : SA → Bool
  | .sc c => c.bndB n
  | .agg ks => ks.all (SK.bndB n)
def SV.bndB (n : Nat → Bool) : SV → Bool
  | .any => true
  | .one x => x.bndB n
  | .tup xs => xs.all (SA.bndB n)
  | .gd _ x => x.bndB n
def obB (n : Nat → Bool) : SO → Bool
  | .rown _ _ _ _ _ p => n p
  | .gone | .dead | .row _ _ _ _ _ | .mp _ _ _ _ _ _ => true
  | .cells _ ks _ => ks.all (SK.bndB n)
theorem liveB_iff {ob : List SO} {i : Nat} (h : liveB ob i = true) : live ob i := by
  unfold liveB at h
  split at h
  · exact ⟨_, by assumption, rfl⟩
  · exact ⟨_, by assumption, rfl⟩
  · exact ⟨_, by assumption, rfl⟩
  · exact ⟨_, by assumption, rfl⟩
  · cases h
def Env.soft (n : Env) : Env := ⟨fun _ => True, n.fz⟩
theorem Env.le_soft (n : Env) : Env.le n n.soft := ⟨fun _ _ => True.intro, fun _ _ _ h => h⟩
section
variable {n : Nat → Bool} {E m : Env} (hm : ∀ i, n i = true → m.lv i) (hf : ∀ b o v, E.fz b o v → m.fz b o v)
include hm hf
omit hf in
theorem PV.bnd_re : ∀ {c : PV}, c.bndB n = true → c.bnd m
  | .p _ _, h => hm _ h
  | .v _, _ => trivial
theorem SC.bnd_re : ∀ {c : SC}, c.bnd E.soft → c.bndB n = true → c.bnd m
  | .ptr _ _, _, h | .pti _ _ _ _, _, h | .sl _ _ _ _, _, h | .sls _ _ _ _ _, _, h | .ptw _ _ _ _, _, h | .slw _ _ _ _ _, _, h | .ifc _ _ _, _, h | .mpr _, _, h => hm _ h
  | .fn _ _, _, h => fun c hc => PV.bnd_re hm (List.all_eq_true.1 h c hc)
  | .num _ _, _, _ | .bit _, _, _ | .val _, _, _ => trivial
  | .xs _ _ _ _ _, k1, _ => ⟨k1.1, k1.2.1, fun b hb => ⟨(k1.2.2 b hb).1, fun i hi c hc => ⟨SC.bnd_mono (n := E.bare) (m := m.bare) ⟨fun _ x => x, hf⟩ ((k1.2.2 b hb).2 i hi c hc).1, ((k1.2.2 b hb).2 i hi c hc).2.1, hf _ _ _ ((k1.2.2 b hb).2 i hi c hc).2.2⟩⟩⟩
  | .px _ _ _, k1, _ => ⟨k1.1, fun c hc => ⟨SC.bnd_mono (n := E.bare) (m := m.bare) ⟨fun _ x => x, hf⟩ (k1.2 c hc).1, (k1.2 c hc).2.1, hf _ _ _ (k1.2 c hc).2.2⟩⟩
theorem SK.bnd_re : ∀ {c : SK}, c.bnd E.soft → c.bndB n = true → c.bnd m
  | .c _, k, h => SC.bnd_re hm hf k h
  | .u _, _, _ | .f _ _ _, _, _ => trivial
theorem SA.bnd_re : ∀ {c : SA}, c.bnd E.soft → c.bndB n = true → c.bnd m
  | .sc _, k, h => SC.bnd_re hm hf k h
  | .agg _, j, h => fun k hk => SK.bnd_re hm hf (j k hk) (List.all_eq_true.1 h k hk)
theorem SV.bnd_re : ∀ {c : SV}, c.bnd E.soft → c.bndB n = true → c.bnd m
  | .any, _, _ => trivial
  | .one _, k, h => SA.bnd_re hm hf k h
  | .tup _, j, h => fun k hk => SA.bnd_re hm hf (j k hk) (List.all_eq_true.1 h k hk)
  | .gd _ _, k, h => fun e => SA.bnd_re hm hf (k e) h
end
theorem SO.ok_re {n : Nat → Bool} {E m : Env} (hm : ∀ i, n i = true → m.lv i) (hf : ∀ b o v, E.fz b o v → m.fz b o v) : ∀ {x : SO}, x.ok E → obB n x = true → x.ok m
  | .gone, _, _ | .dead, _, _ => trivial
  | .rown _ _ _ _ _ p, k, h => ⟨hm p h, fun i hi c hc => ⟨SC.bnd_mono (n := E.one p) (m := m.one p) ⟨fun _ x => x, hf⟩ (k.2 i hi c hc).1, (k.2 i hi c hc).2⟩⟩
  | .row _ _ _ _ _, k, _ | .mp _ _ _ _ _ _, k, _ => fun i hi c hc => ⟨SC.bnd_mono (n := E.bare) (m := m.bare) ⟨fun _ x => x, hf⟩ (k i hi c hc).1, (k i hi c hc).2⟩
  | .cells _ _ _, j, h => ⟨fun k hk => SK.bnd_re hm hf (SK.bnd_mono E.le_soft (j.1 k hk)) (List.all_eq_true.1 h k hk), j.2⟩
def scrub1 (ob : List SO) (s : SV) : SV :=
  match SV.bndB (liveB ob) s with
  | true => s
  | false => .any
def scrub (ob : List SO) (tm : List SV) : List SV := tm.map (scrub1 ob)
theorem scrub_get (ob : List SO) (tm : List SV) (t : Nat) : (scrub ob tm).getD t .any = .any ∨ ((scrub ob tm).getD t .any = tm.getD t .any ∧ SV.bndB (liveB ob) (tm.getD t .any) = true) := by
  unfold scrub
  simp only [List.getD_eq_getElem?_getD, List.getElem?_map]
  cases h : tm[t]? with
  | none => exact .inl rfl
  | some s =>
    simp only [Option.map_some, Option.getD_some, scrub1]
    split
    · rename_i hb; exact .inr ⟨rfl, hb⟩
    · exact .inl rfl
theorem scrub_length (ob : List SO) (tm : List SV) : (scrub ob tm).length = tm.length := by simp [scrub]
section
variable {P : Program} {W0 : Base} {ρ : Rho} {tm : List SV} {ob : List SO} {a : Act} {w : World}
theorem Holds.ontoS {ρ' : Rho} {ob' : List SO} {w' : World} (H : Holds W0 ρ tm ob a w) (obS : List SO) (hS : ∀ i, live obS i → live ob' i) (hag : ∀ i, live ob i → live obS i → ρ' i = ρ i) (hf : ∀ b o v, ρ.fz b o v → ρ'.fz b o v) (hn : ∀ b o v, ρ'.fz b o v → (∃ o u, ρ.fz b o u) ∨ W0.w.heap.size ≤ b) (hb : Below W0.w.heap.size W0.w w') (hm : Mem W0.w.heap.size ρ' ob' w') (hk : Kept W0 ρ' ob') (hkp : Keeps W0.keep ρ' ob' w') : Holds W0 ρ' (scrub obS tm) ob' a w' := by
  refine ⟨by rw [scrub_length]; exact H.size, fun t => ?_, fun t => ?_, H.defers, hb, hm, hk, fun p hp => ?_, ⟨fun b o v h => hf _ _ _ (H.fzs.le b o v h), fun b o v h => (hn b o v h).elim (fun ⟨_, _, h⟩ => H.fzs.own b _ _ h) .inr⟩, hkp⟩
  · rcases scrub_get obS tm t with e | ⟨e, hb⟩
    · rw [e]; trivial
    · rw [e]
      have h1 : SV.bnd ⟨fun i => live ob i ∧ live obS i, ρ.fz⟩ (tm.getD t .any) := by
        have k := H.bnd t
        generalize tm.getD t .any = s at k hb
        have pv : ∀ {c : PV}, c.bnd (lv ρ ob) → c.bndB (liveB obS) = true → c.bnd ⟨fun i => live ob i ∧ live obS i, ρ.fz⟩ := by
          intro c h1 h2
          cases c with
          | v _ => trivial
          | p o off => exact ⟨h1, liveB_iff h2⟩
        have sc : ∀ {c : SC}, c.bnd (lv ρ ob) → c.bndB (liveB obS) = true → c.bnd ⟨fun i => live ob i ∧ live obS i, ρ.fz⟩ := by
          intro c h1 h2
          cases c with
          | ptr o off => exact ⟨h1, liveB_iff h2⟩
          | ifc _ o off => exact ⟨h1, liveB_iff h2⟩
          | mpr o => exact ⟨h1, liveB_iff h2⟩
          | pti o _ _ _ => exact ⟨h1, liveB_iff h2⟩
          | sl o _ _ _ => exact ⟨h1, liveB_iff h2⟩
          | sls o _ _ _ _ => exact ⟨h1, liveB_iff h2⟩
          | ptw o _ _ _ => exact ⟨h1, liveB_iff h2⟩
          | slw o _ _ _ _ => exact ⟨h1, liveB_iff h2⟩
          | fn f caps => exact fun c hc => pv (h1 c hc) (List.all_eq_true.1 h2 c hc)
          | num _ _ => trivial
          | bit _ => trivial
          | val _ => trivial
          | xs _ _ _ _ _ => exact h1
          | px _ _ _ => exact h1
        have sk : ∀ {c : SK}, c.bnd (lv ρ ob) → c.bndB (liveB obS) = true → c.bnd ⟨fun i => live ob i ∧ live obS i, ρ.fz⟩ := by
          intro c h1 h2
          cases c with
          | c s => exact sc h1 h2
          | u _ => trivial
          | f _ _ _ => trivial
        have sa : ∀ {c : SA}, c.bnd (lv ρ ob) → c.bndB (liveB obS) = true → c.bnd ⟨fun i => live ob i ∧ live obS i, ρ.fz⟩ := by
          intro c h1 h2
          cases c with
          | sc c => exact sc h1 h2
          | agg ks => exact fun c hc => sk (h1 c hc) (List.all_eq_true.1 h2 c hc)
        cases s with
        | any => trivial
        | one x => exact sa k hb
        | tup xs => exact fun c hc => sa (k c hc) (List.all_eq_true.1 hb c hc)
        | gd g x => exact fun e => sa (k e) hb
      exact Agree.sv (n := ⟨fun i => live ob i ∧ live obS i, ρ.fz⟩) (fun i hi => hag i hi.1 hi.2) h1 (H.rep t)
  · rcases scrub_get obS tm t with e | ⟨e, hb⟩
    · rw [e]; trivial
    · rw [e]; exact SV.bnd_re (E := lv ρ ob) (m := lv ρ' ob') (fun i hi => hS i (liveB_iff hi)) hf (SV.bnd_mono (Env.le_soft _) (H.bnd t)) hb
  · obtain ⟨g1, g2⟩ := H.gl p hp
    exact ⟨fun k hk => SK.bnd_mono (n := ⟨fun _ => False, ρ.fz⟩) (m := ⟨fun _ => False, ρ'.fz⟩) ⟨fun _ x => x, hf⟩ (g1 k hk), fun o v h => hf _ _ _ (g2 o v h)⟩
theorem Holds.onto {ρ' : Rho} {ob' : List SO} {w' : World} (H : Holds W0 ρ tm ob a w) (hag : ∀ i, live ob i → live ob' i → ρ' i = ρ i) (hf : ∀ b o v, ρ.fz b o v → ρ'.fz b o v) (hn : ∀ b o v, ρ'.fz b o v → (∃ o u, ρ.fz b o u) ∨ W0.w.heap.size ≤ b) (hb : Below W0.w.heap.size W0.w w') (hm : Mem W0.w.heap.size ρ' ob' w') (hk : Kept W0 ρ' ob') (hkp : Keeps W0.keep ρ' ob' w') : Holds W0 ρ' (scrub ob' tm) ob' a w' :=
  H.ontoS ob' (fun _ h => h) hag hf hn hb hm hk hkp
inductive When where
  | yes
  | no
  | on (b : Bool)
def whenOf (ops : Array Oper) (tm : List SV) (o : Oper) : Option When :=
  match o.guard with
  | none => some .yes
  | some (j, want) =>
    match (ops[j]?).bind (·.dst) with
    | none => none
    | some d =>
      match tm.getD d .any with
      | .one (.sc (.bit b)) => if b == want then some .yes else some .no
      | .one (.sc (.val (.bool b))) => match want with
        | true => some (.on b)
        | false => some (.on (!b))
      | .gd g (.sc (.bit b)) => if b == want then some (.on g) else some .no
      | .gd g (.sc (.val (.bool b))) => match want with
        | true => some (.on (g && b))
        | false => some (.on (g && !b))
      | _ => none
def When.is : When → Bool → Prop
  | .yes, b => b = true
  | .no, b => b = false
  | .on c, b => b = c
theorem whenOf_sound (H : Holds W0 ρ tm ob a w) {ops : Array Oper} {o : Oper} {x : When} (h : whenOf ops tm o = some x) : x.is (Region.wanted o (yielded ops a.tmps)) := by
  unfold whenOf at h
  split at h
  · rename_i hg
    simp only [Option.some.injEq] at h; subst h
    simp [When.is, Region.wanted, hg]
  rename_i j want hg
  split at h
  · cases h
  rename_i d hd
  have hrep := H.rep d
  have hw : Region.wanted o (yielded ops a.tmps) = ((match a.tmps.getD d undef with | .bool b => some b | _ => none) == some want) := by
    simp only [Region.wanted, hg, yielded_of hd]
  rw [hw]
  split at h
  · rename_i b hb
    rw [hb] at hrep
    simp only [SV.rep, SA.conc, SC.conc] at hrep
    rw [hrep]
    split at h <;> rename_i e <;> simp only [Option.some.injEq] at h <;> subst h
    · simpa [When.is] using e
    · simpa [When.is] using e
  · rename_i b hb
    rw [hb] at hrep
    simp only [SV.rep, SA.conc, SC.conc] at hrep
    rw [hrep]
    split at h <;> simp only [Option.some.injEq] at h <;> subst h <;> cases b <;> rfl
  · rename_i g b hb
    rw [hb] at hrep
    simp only [SV.rep, SA.conc, SC.conc] at hrep
    rw [hrep]
    split at h <;> rename_i e <;> simp only [Option.some.injEq] at h <;> subst h
    · have e : b = want := by simpa using e
      subst e
      cases g <;> simp [When.is, undef]
    · have e : (b == want) = false := by simpa using e
      cases g <;> simp [When.is, undef, e]
  · rename_i g b hb
    rw [hb] at hrep
    simp only [SV.rep, SA.conc, SC.conc] at hrep
    rw [hrep]
    split at h <;> simp only [Option.some.injEq] at h <;> subst h <;> cases g <;> cases b <;> simp [When.is, undef]
  · cases h
end
def getW : List (Nat × WSpec) → Nat → Option WSpec
  | [], _ => none
  | (g, s) :: r, f => match Nat.beq g f with
    | true => some s
    | false => getW r f
theorem getW_ok {P : Program} {gl : Globs} : ∀ {l : List (Nat × WSpec)} {f : Nat} {s : WSpec}, (∀ p ∈ l, FnOKw P gl p.1 p.2) → getW l f = some s → FnOKw P gl f s
  | [], _, _, _, h => by simp [getW] at h
  | (g, s') :: r, f, s, hc, h => by
    simp only [getW] at h
    split at h
    · rename_i hg
      simp only [Option.some.injEq] at h; subst h
      have : g = f := Nat.eq_of_beq_eq_true hg
      subst this
      exact hc (g, s') (by simp)
    · exact getW_ok (fun p hp => hc p (by simp [hp])) h
def ptrL : List SK → Option Nat
  | [] => none
  | .c (.ptr o _) :: _ => some o
  | _ :: r => ptrL r
def ptrA : SA → Option Nat
  | .sc (.ptr o _) => some o
  | .sc _ => none
  | .agg ks => ptrL ks
def ptrs : List SA → Option Nat
  | [] => none
  | x :: r => match ptrA x with
    | some o => some o
    | none => ptrs r
def renC : SC → SC
  | .ptr _ off => .ptr 0 off
  | c => c
def renK : SK → SK
  | .c s => .c (renC s)
  | k => k
def renA : SA → SA
  | .sc c => .sc (renC c)
  | .agg ks => .agg (ks.map renK)
def onlyC (o : Nat) : SC → Bool
  | .ptr i _ => Nat.beq i o
  | .pti _ _ _ _ | .sl _ _ _ _ | .sls _ _ _ _ _ | .ptw _ _ _ _ | .slw _ _ _ _ _ | .ifc _ _ _ | .mpr _ => false
  | .fn _ caps => caps.all (PV.bndB fun _ => false)
  | .num _ _ | .bit _ | .val _ | .xs _ _ _ _ _ | .px _ _ _ => true
def onlyK (o : Nat) : SK → Bool
  | .c s => onlyC o s
  | .u _ | .f _ _ _ => true
def onlyA (o : Nat) : SA → Bool
  | .sc c => onlyC o c
  | .agg ks => ks.all (onlyK o)
section
variable {ρ : Rho} {o : Nat}
theorem renPV {l : List PV} (h : l.all (PV.bndB fun _ => false) = true) (p : Nat → Nat) : l.map (PV.conc ⟨p, ρ.fz⟩) = l.map (PV.conc ρ) := by
  refine List.map_congr_left fun c hc => ?_
  have := List.all_eq_true.1 h c hc
  cases c with
  | v x => rfl
  | p o off => cases this
theorem renC_conc {c : SC} (h : onlyC o c = true) : (renC c).conc ⟨fun _ => ρ o, ρ.fz⟩ = c.conc ρ := by
  cases c with
  | ptr i off =>
    have : i = o := Nat.eq_of_beq_eq_true h
    subst this
    rfl
  | fn f caps =>
    show Value.func _ _ _ = Value.func _ _ _
    rw [renPV h]
  | pti _ _ _ _ => cases h
  | sl _ _ _ _ => cases h
  | sls _ _ _ _ _ => cases h
  | ptw _ _ _ _ => cases h
  | slw _ _ _ _ _ => cases h
  | ifc _ _ _ => cases h
  | mpr _ => cases h
  | num _ _ => rfl
  | bit _ => rfl
  | val _ => rfl
  | xs _ _ _ _ _ => rfl
  | px _ _ _ => rfl
theorem renK_conc {k : SK} (h : onlyK o k = true) : (renK k).cells.map (SC.conc ⟨fun _ => ρ o, ρ.fz⟩) = k.cells.map (SC.conc ρ) := by
  cases k with
  | c s => simp only [renK, SK.cells, List.map_cons, List.map_nil, renC_conc (ρ := ρ) h]
  | u n => rfl
  | f k n g => simp only [renK, SK.cells, List.map_map]; rfl
theorem renKs_conc : ∀ {ks : List SK}, ks.all (onlyK o) = true → concs ⟨fun _ => ρ o, ρ.fz⟩ (ks.map renK) = concs ρ ks
  | [], _ => rfl
  | k :: r, h => by
    simp only [List.all_cons, Bool.and_eq_true] at h
    have h1 := renK_conc (ρ := ρ) h.1
    have h2 := renKs_conc (ks := r) h.2
    simp only [concs] at h2 ⊢
    simp only [List.map_cons, flat, List.map_append, h1, h2]
theorem renA_conc {x : SA} (h : onlyA o x = true) : (renA x).conc ⟨fun _ => ρ o, ρ.fz⟩ = x.conc ρ := by
  cases x with
  | sc c => exact renC_conc h
  | agg ks =>
    show Value.agg _ = Value.agg _
    rw [renKs_conc h]
theorem renC_soft {E : Env} {c : SC} (h : c.bnd E) : (renC c).bnd E.soft := by
  cases c with
  | ptr i off => exact trivial
  | _ => exact SC.bnd_mono (Env.le_soft E) h
theorem renC_bndB {c : SC} (h : onlyC o c = true) : (renC c).bndB (fun i => Nat.beq i 0) = true := by
  cases c with
  | ptr i off => rfl
  | fn f caps =>
    refine List.all_eq_true.2 fun x hx => ?_
    have := List.all_eq_true.1 h x hx
    cases x with
    | v x => rfl
    | p o off => cases this
  | pti _ _ _ _ => cases h
  | sl _ _ _ _ => cases h
  | sls _ _ _ _ _ => cases h
  | ptw _ _ _ _ => cases h
  | slw _ _ _ _ _ => cases h
  | ifc _ _ _ => cases h
  | mpr _ => cases h
  | num _ _ => rfl
  | bit _ => rfl
  | val _ => rfl
  | xs _ _ _ _ _ => rfl
  | px _ _ _ => rfl
theorem renK_soft {E : Env} {k : SK} (h : k.bnd E) : (renK k).bnd E.soft := by
  cases k with
  | c s => exact renC_soft (c := s) h
  | u n => exact trivial
  | f k n g => exact trivial
theorem renK_bndB {k : SK} (h : onlyK o k = true) : (renK k).bndB (fun i => Nat.beq i 0) = true := by
  cases k with
  | c s => exact renC_bndB (c := s) h
  | u n => rfl
  | f k n g => rfl
theorem renA_bnd {E m : Env} (hm : m.lv 0) (hf : ∀ b o v, E.fz b o v → m.fz b o v) {x : SA} (hx : x.bnd E) (h : onlyA o x = true) : (renA x).bnd m := by
  have hn : ∀ i, (fun i => Nat.beq i 0) i = true → m.lv i := fun i hi => by
    have : i = 0 := Nat.eq_of_beq_eq_true hi
    subst this
    exact hm
  cases x with
  | sc c => exact SC.bnd_re hn hf (renC_soft hx) (renC_bndB h)
  | agg ks =>
    intro k hk
    obtain ⟨y, hy, rfl⟩ := List.mem_map.1 hk
    exact SK.bnd_re hn hf (renK_soft (hx y hy)) (renK_bndB (List.all_eq_true.1 h y hy))
end
section
variable {P : Program} {W0 : Base} {ρ : Rho} {tm : List SV} {ob : List SO} {a : Act} {w : World}
def wdo (s : WSpec) (ys : List SA) (ob : List SO) : Option (List Prop × SV × Nat × Int × Int) :=
  match ptrs ys with
  | none => none
  | some o => match ob[o]? with
    | some (.cells e [.c x] 0) => match asI (.sc x), Nat.beq e s.e && ys.all (onlyA o) with
      | some (kd, n), true => match decide (kd = s.k) with
        | true => match s.of (ys.map renA) n with
          | some (qs, sv, m) => some (qs, sv, o, n, m)
          | none => none
        | false => none
      | _, _ => none
    | _ => none
theorem wdo_at {s : WSpec} {ys : List SA} {ob ob2 : List SO} {qs : List Prop} {sv : SV} {k : Nat} {n m : Int} (h : wdo s ys ob = some (qs, sv, k, n, m)) (hl : ∀ i, ptrs ys = some i → ob2[i]? = ob[i]?) : ptrs ys = some k ∧ wdo s ys ob2 = some (qs, sv, k, n, m) := by
  unfold wdo at h ⊢
  split at h
  · cases h
  rename_i o ho
  simp only [hl o ho]
  refine ⟨?_, h⟩
  split at h
  case h_2 => cases h
  split at h
  case h_2 => cases h
  split at h
  case h_2 => cases h
  split at h
  case h_2 => cases h
  simp only [Option.some.injEq, Prod.mk.injEq] at h
  rw [ho, h.2.2.1]
theorem wdo_same (H : Holds W0 ρ tm ob a w) {s : WSpec} {ys : List SA} {qs : List Prop} {sv : SV} {k : Nat} {n m : Int} (h : wdo s ys ob = some (qs, sv, k, n, m)) : Holds W0 ρ tm (ob.set k (noteO s.e s.k n)) a w := by
  unfold wdo at h
  split at h
  · cases h
  rename_i o ho
  split at h
  case h_2 => cases h
  rename_i e x hob
  split at h
  case h_2 => cases h
  rename_i kd n' hx hea
  simp only [Bool.and_eq_true] at hea
  have he : e = s.e := Nat.eq_of_beq_eq_true hea.1
  subst he
  split at h
  case h_2 => cases h
  rename_i hk
  have hk := of_decide_eq_true hk
  subst hk
  split at h
  case h_2 => cases h
  simp only [Option.some.injEq, Prod.mk.injEq] at h
  obtain ⟨_, _, rfl, rfl, _⟩ := h
  have hlive : live ob o := live_cells hob
  obtain ⟨hB, ⟨rest, hrest, hrow⟩, _⟩ := H.mem.obj o s.e [.c x] 0 hob
  have hxc : x.conc ρ = .int s.k n' := asI_sound hx ρ
  have hlt := ob_lt hob
  have hat : (ob.set o (noteO s.e s.k n'))[o]? = some (noteO s.e s.k n') := by simp [hlt]
  have hne : ∀ i, i ≠ o → (ob.set o (noteO s.e s.k n'))[i]? = ob[i]? := fun i hi => List.getElem?_set_ne (fun e => hi e.symm)
  have alive : ∀ i, live (ob.set o (noteO s.e s.k n')) i → live ob i := by
    rintro i ⟨y, hy, hh⟩
    by_cases hio : i = o
    · subst hio; exact hlive
    · rw [hne i hio] at hy; exact ⟨y, hy, hh⟩
  have hlive' : ∀ i, live ob i → live (ob.set o (noteO s.e s.k n')) i := by
    rintro i ⟨y, hy, hh⟩
    by_cases hio : i = o
    · subst hio; exact ⟨_, hat, rfl⟩
    · exact ⟨y, by rw [hne i hio]; exact hy, hh⟩
  have hle : Env.le (lv ρ ob) (lv ρ (ob.set o (noteO s.e s.k n'))) := ⟨hlive', fun _ _ _ k => k⟩
  refine ⟨H.size, H.rep, fun t => SV.bnd_mono hle (H.bnd t), H.defers, H.below, ⟨fun i y hi hy => ?_, fun i j hi hj hij => H.mem.injs i j (alive i hi) (alive j hj) hij, fun b c u hu => ⟨(H.mem.frz b c u hu).1, fun i hi => (H.mem.frz b c u hu).2 i (alive i hi)⟩⟩, ⟨fun i hi => ?_, fun i hi => ?_, ?_⟩, H.gl, H.fzs, fun b x hx => ⟨(H.keeps b x hx).1, fun i hi => (H.keeps b x hx).2 i (alive i hi)⟩⟩
  · by_cases hio : i = o
    · subst hio
      rw [hat] at hi
      simp only [Option.some.injEq] at hi
      subst hi
      refine ⟨hB, ⟨rest, hrest, ?_⟩, ⟨fun k hk => by simp only [List.mem_singleton] at hk; subst hk; exact trivial, fun k hk => by simp only [List.mem_singleton] at hk; subst hk; rfl⟩⟩
      rw [hrow]
      simp only [concs, flat, SK.cells, List.append_nil, List.map_cons, List.map_nil, hxc, noteO, SO.vals, SO.elem]
      rfl
    · rw [hne i hio] at hi
      obtain ⟨a1, ⟨rs, hrs, a2⟩, a3⟩ := H.mem.objs i y hi hy
      exact ⟨a1, ⟨rs, hrs, a2⟩, SO.ok_mono hle a3⟩
  · rcases H.kept.1 i hi with ⟨k1, k2⟩ | k1
    · exact .inl ⟨hlive' i k1, k2⟩
    · refine .inr ?_
      have hio : i ≠ o := fun e => by subst e; rw [hob] at k1; cases k1
      rw [hne i hio, k1]
  · have k1 := H.kept.2.1 i hi
    have hio : i ≠ o := fun e => by subst e; rw [hob] at k1; cases k1
    rw [hne i hio, k1]
  · rw [List.length_set]; exact H.kept.2.2
theorem rep_bare {s : SV} (h : s.bnd none0) {ρ ρ' : Rho} {v : Value} (hr : s.rep ρ v) : s.rep ρ' v := Agree.sv (n := none0) (fun _ hi => hi.elim) h hr
theorem wdo_sound (H : Holds W0 ρ tm ob a w) {f : Nat} {s : WSpec} (hfn : FnOKw P W0.gl f s) {ys : List SA} (hargs : ∀ y ∈ ys, y.bnd (lv ρ ob)) {qs : List Prop} {sv : SV} {k : Nat} {n m : Int} (h : wdo s ys ob = some (qs, sv, k, n, m)) (hq : Ok qs) :
    (callFunc f (ys.map (SA.conc ρ)).toArray).run P w = .ok (.enter f (ys.map (SA.conc ρ)).toArray) w ∧
      Calls P f (ys.map (SA.conc ρ)).toArray w fun e w' => ∃ v, e = .returned v ∧ sv.rep ρ v ∧ sv.bnd none0 ∧ Holds W0 ρ tm (ob.set k (noteO s.e s.k m)) a w' := by
  unfold wdo at h
  split at h
  · cases h
  rename_i o ho
  split at h
  case h_2 => cases h
  rename_i e x hob
  split at h
  case h_2 => cases h
  rename_i kd n hx hea
  simp only [Bool.and_eq_true] at hea
  have he : e = s.e := Nat.eq_of_beq_eq_true hea.1
  subst he
  split at h
  case h_2 => cases h
  rename_i hk
  have hk := of_decide_eq_true hk
  subst hk
  split at h
  case h_2 => cases h
  rename_i qs' sv' m hof
  simp only [Option.some.injEq, Prod.mk.injEq] at h
  obtain ⟨rfl, rfl, rfl, rfl, rfl⟩ := h
  obtain ⟨hsv, hfn⟩ := hfn _ _ _ _ _ hof hq
  have hlive : live ob o := live_cells hob
  obtain ⟨hB, ⟨rest, hrest, hrow⟩, _⟩ := H.mem.obj o s.e [.c x] 0 hob
  have hr0 : rest = [] := List.length_eq_zero_iff.1 hrest
  subst hr0
  have hxc : x.conc ρ = .int s.k n := asI_sound hx ρ
  have hm0 : Mem W0.w.heap.size ⟨fun _ => ρ o, ρ.fz⟩ [noteO s.e s.k n] w := by
    refine ⟨fun i y hi hy => ?_, fun i j hi hj _ => ?_, fun b c v hv => ?_⟩
    · cases i with
      | succ i => simp at hi
      | zero =>
        simp only [List.getElem?_cons_zero, Option.some.injEq] at hi
        subst hi
        refine ⟨hB, ⟨[], rfl, ?_⟩, fun k hk => ?_, fun k hk => ?_⟩
        · rw [hrow]
          simp only [concs, flat, SK.cells, List.append_nil, List.map_cons, List.map_nil, hxc, noteO, SO.vals, SO.elem]
          rfl
        · simp only [List.mem_singleton] at hk; subst hk; exact trivial
        · simp only [List.mem_singleton] at hk; subst hk; rfl
    · obtain ⟨y, hy, _⟩ := hi
      obtain ⟨z, hz', _⟩ := hj
      cases i with
      | succ i => simp at hy
      | zero => cases j with
        | succ j => simp at hz'
        | zero => rfl
    · obtain ⟨k1, k2⟩ := H.mem.frz b c v hv
      exact ⟨k1, fun _ _ => k2 o hlive⟩
  have hlv : (lv ⟨fun _ => ρ o, ρ.fz⟩ [noteO s.e s.k n]).lv 0 := ⟨_, rfl, rfl⟩
  have hall := List.all_eq_true.1 hea.2
  have hkeep : Keeps (fun b x => W0.keep b x ∨ ∃ i, live ob i ∧ i ≠ o ∧ ρ i = b ∧ w.heap[b]? = some x) ⟨fun _ => ρ o, ρ.fz⟩ [noteO s.e s.k n] w := fun b x hx => by
    rcases hx with hx | ⟨i, hi, hio, rfl, hx⟩
    · exact ⟨(H.keeps b x hx).1, fun _ _ => (H.keeps b x hx).2 o hlive⟩
    · exact ⟨hx, fun _ _ e => hio (H.mem.injs i o hi hlive e.symm)⟩
  obtain ⟨r, hc⟩ := hfn W0.w ⟨fun _ => ρ o, ρ.fz⟩ w H.below hm0 H.gl (fun y hy => by
    obtain ⟨z, hz', rfl⟩ := List.mem_map.1 hy
    exact renA_bnd (E := lv ρ ob) hlv (fun _ _ _ k => k) (hargs z hz') (hall z hz')) _ hkeep
  have hconc : (ys.map renA).map (SA.conc ⟨fun _ => ρ o, ρ.fz⟩) = ys.map (SA.conc ρ) := by
    rw [List.map_map]
    exact List.map_congr_left fun y hy => renA_conc (hall y hy)
  rw [hconc] at r hc
  refine ⟨r, hc.mono ?_⟩
  rintro e' w' ⟨v, ρ', rfl, hv, hbl, hm', hρ, hfz, hkk⟩
  refine ⟨v, rfl, rep_bare hsv hv, hsv, ?_⟩
  have hlt := ob_lt hob
  have hat : (ob.set o (noteO s.e s.k m))[o]? = some (noteO s.e s.k m) := by simp [hlt]
  have hne : ∀ i, i ≠ o → (ob.set o (noteO s.e s.k m))[i]? = ob[i]? := fun i hi => List.getElem?_set_ne (fun e => hi e.symm)
  have alive : ∀ i, live (ob.set o (noteO s.e s.k m)) i → live ob i := by
    rintro i ⟨y, hy, hh⟩
    by_cases hio : i = o
    · subst hio; exact hlive
    · rw [hne i hio] at hy; exact ⟨y, hy, hh⟩
  have hlive' : ∀ i, live ob i → live (ob.set o (noteO s.e s.k m)) i := by
    rintro i ⟨y, hy, hh⟩
    by_cases hio : i = o
    · subst hio; exact ⟨_, hat, rfl⟩
    · exact ⟨y, by rw [hne i hio]; exact hy, hh⟩
  have hle : Env.le (lv ρ ob) (lv ρ (ob.set o (noteO s.e s.k m))) := ⟨hlive', fun _ _ _ k => k⟩
  obtain ⟨q1, ⟨rest', q2, q3⟩, q4⟩ := hm'.objs 0 _ rfl rfl
  have hr1 : rest' = [] := List.length_eq_zero_iff.1 q2
  subst hr1
  have hρo : ρ' 0 = ρ o := hρ
  refine ⟨H.size, H.rep, fun t => SV.bnd_mono hle (H.bnd t), H.defers, hbl, ⟨fun i y hi hy => ?_, fun i j hi hj hij => H.mem.injs i j (alive i hi) (alive j hj) hij, fun b c u hu => ?_⟩, ⟨fun i hi => ?_, fun i hi => ?_, ?_⟩, H.gl, H.fzs, fun b x hx => ?_⟩
  · by_cases hio : i = o
    · subst hio
      rw [hat] at hi
      simp only [Option.some.injEq] at hi
      subst hi
      rw [← hρo]
      exact ⟨q1, ⟨[], rfl, q3⟩, ⟨fun k hk => by simp only [List.mem_singleton] at hk; subst hk; exact trivial, fun k hk => by simp only [List.mem_singleton] at hk; subst hk; rfl⟩⟩
    · rw [hne i hio] at hi
      obtain ⟨a1, ⟨rs, hrs, a2⟩, a3⟩ := H.mem.objs i y hi hy
      exact ⟨a1, ⟨rs, hrs, (hkk (ρ i) _ (.inr ⟨i, ⟨y, hi, hy⟩, hio, rfl, a2⟩)).1⟩, SO.ok_mono hle a3⟩
  · obtain ⟨k1, k2⟩ := hm'.frz b c u (hfz b c u hu)
    exact ⟨k1, fun i hi => (H.mem.frz b c u hu).2 i (alive i hi)⟩
  · rcases H.kept.1 i hi with ⟨k1, k2⟩ | k1
    · exact .inl ⟨hlive' i k1, k2⟩
    · refine .inr ?_
      have hio : i ≠ o := fun e => by subst e; rw [hob] at k1; cases k1
      rw [hne i hio, k1]
  · have k1 := H.kept.2.1 i hi
    have hio : i ≠ o := fun e => by subst e; rw [hob] at k1; cases k1
    rw [hne i hio, k1]
  · rw [List.length_set]; exact H.kept.2.2
  · exact ⟨(hkk b x (.inl hx)).1, fun i hi => (H.keeps b x hx).2 i (alive i hi)⟩
def wcall (cx : Cx) (tm : List SV) (o : Oper) : Option (List Prop × Nat × WSpec × List SA) :=
  match cx.wf with
  | [] => none
  | _ :: _ => match o.op with
    | .call { callee := .value x, args, .. } => match calleeOf tm x, rdL tm args.toList with
      | some (p0, f, []), some (ps, ys) => match getW cx.wf f with
        | some s => some (p0 ++ ps, f, s, ys)
        | none => none
      | _, _ => none
    | _ => none
def semG (P : Program) (cx : Cx) (ops : Array Oper) (id : Nat) (tm : List SV) (ob : List SO) (o : Oper) : Option (List Prop × SV × List SO) :=
  match wcall cx tm o with
  | some (ps, _, s, ys) => match whenOf ops tm o, wdo s ys ob with
    | some .yes, some (qs, sv, k, _, m) => some (ps ++ qs, sv, ob.set k (noteO s.e s.k m))
    | some (.on g), some (qs, .one x, k, n, m) => some ((ps ++ qs).map (fun p => g = true → p), .gd g x, ob.set k (noteO s.e s.k (cond g m n)))
    | _, _ => none
  | none => semG0 P cx ops id tm ob o
theorem semG_sound {cx : Cx} (hcx : CxOK P cx) (hgl : cx.gl = W0.gl) {ops : Array Oper} {id : Nat} (H : Holds W0 ρ tm ob a w) {o : Oper} {ps : List Prop} {sv : SV} {ob' : List SO} (h : semG P cx ops id tm ob o = some (ps, sv, ob')) (hp : Ok ps)
    {K : Act → World → Prop} {Q : Exit → Act → World → Prop} (hK : ∀ ρ' a' w', Holds W0 ρ' (put tm o.dst sv) ob' a' w' → K a' w') :
    if Region.wanted o (yielded ops a.tmps) then o.wp P a w K Q else K (a.put o.dst undef) w := by
  unfold semG at h
  split at h
  case h_2 => exact semG0_sound hcx hgl H h hp hK
  rename_i p1 f s ys hw
  have key : ∀ {qs : List Prop} {sv : SV} {k : Nat} {n m : Int}, wdo s ys ob = some (qs, sv, k, n, m) → Ok (p1 ++ qs) → (∀ (w' : World) v, sv.rep ρ v → sv.bnd none0 → Holds W0 ρ tm (ob.set k (noteO s.e s.k m)) a w' → K (a.put o.dst v) w') → o.wp P a w K Q := by
    intro qs sv k n m hd hp hK
    obtain ⟨o1, o2⟩ := Ok.append.1 hp
    unfold wcall at hw
    split at hw
    · cases hw
    split at hw
    case h_2 => cases hw
    rename_i x args ts ho
    split at hw
    case h_2 => cases hw
    rename_i p0 f' ps' ys' h0 h1
    split at hw
    case h_2 => cases hw
    rename_i s' hs
    simp only [Option.some.injEq, Prod.mk.injEq] at hw
    obtain ⟨rfl, rfl, rfl, rfl⟩ := hw
    obtain ⟨o0, o1⟩ := Ok.append.1 o1
    obtain ⟨ef, bf⟩ := calleeOf_sound H h0 o0
    obtain ⟨e1, b1⟩ := rdL_sound H h1 o1
    have hargs : args.map a.eval = (ys'.map (SA.conc ρ)).toArray := by
      apply Array.ext'
      rw [Array.toList_map, e1]
    have hfn : FnOKw P W0.gl f' s' := hgl ▸ getW_ok hcx.2 hs
    have hrun : (execOp a.eval o).run P w = (callFunc f' (ys'.map (SA.conc ρ)).toArray).run P w := by
      rw [run_call_fn ho ef hargs, List.map_nil, List.append_nil]
    unfold Oper.wp
    rw [hrun]
    obtain ⟨r, hc⟩ := wdo_sound H hfn b1 hd o2
    rw [r, Oper.upon_enter]
    refine hc.mono ?_
    rintro e w' ⟨v, rfl, hv, hb, H'⟩
    exact hK w' v hv hb H'
  split at h
  · rename_i qs sv' k n m hwh hd
    simp only [Option.some.injEq, Prod.mk.injEq] at h
    obtain ⟨rfl, rfl, rfl⟩ := h
    have hwt : Region.wanted o (yielded ops a.tmps) = true := whenOf_sound H hwh
    rw [if_pos hwt]
    exact key hd hp fun w' v hv hb H' => hK ρ _ _ (H'.put o.dst hv (SV.bnd_mono none0_le hb))
  · rename_i g qs x k n m hwh hd
    simp only [Option.some.injEq, Prod.mk.injEq] at h
    obtain ⟨rfl, rfl, rfl⟩ := h
    have hwt : Region.wanted o (yielded ops a.tmps) = g := whenOf_sound H hwh
    rw [hwt]
    cases g
    · rw [if_neg (by simp)]
      exact hK ρ _ _ ((wdo_same H hd).put o.dst (sv := .gd false x) rfl (fun e => by cases e))
    · rw [if_pos rfl]
      refine key hd (Ok_map hp rfl) fun w' v hv hb H' => hK ρ _ _ (H'.put o.dst (sv := .gd true x) (by simpa [SV.rep] using hv) (fun _ => SA.bnd_mono none0_le hb))
  · cases h
def CxAt (cx : Cx) (W0 : Base) : Prop := cx.gl = W0.gl ∧ W0.ob.length ≤ cx.kn
abbrev Inl := Nat → List SA → List SO → (SV → List SO → Prop) → Prop
inductive Special where
  | call (ps : List Prop) (f : Nat) (args : List SA)
  | app (ps : List Prop) (ts : List TypeId) (s x : SA)
  | appR (ps : List Prop) (ts : List TypeId) (s x : SA)
  | cpy (ps : List Prop) (ts : List TypeId) (s x : SA)
  | s2b (ps : List Prop) (b : ByteArray)
  | boxF (ps : List Prop) (e : TypeId) (l : List SC)
  | mark (ps : List Prop) (o off len cap : Nat)
  | lenN (ps : List Prop) (k : IntKind) (n : Int)
  | frz (ps : List Prop) (f : Nat) (pre : List SA) (o off len cap : Nat) (post : List SA)
  | mkM (k : IntKind) (sc : Bool) (w : Nat)
  | mlook (ps : List Prop) (o : Nat) (k : IntKind) (sc : Bool) (zs : List SK) (x : Int) (ok : Bool)
  | mup (ps : List Prop) (o : Nat) (k : IntKind) (sc : Bool) (x : Int) (cs : List SC)
  | mlen (ps : List Prop) (o : Nat)
def frzOf : List SA → Option (List SA × Nat × Nat × Nat × Nat × List SA)
  | [] => none
  | .sc (.sl o off len cap) :: r => some ([], o, off, len, cap, r)
  | x :: r => match frzOf r with
    | some (p, z) => some (x :: p, z)
    | none => none
theorem frzOf_spec : ∀ {l p q : List SA} {o off len cap : Nat}, frzOf l = some (p, o, off, len, cap, q) → l = p ++ SA.sc (.sl o off len cap) :: q
  | [], _, _, _, _, _, _, h => by cases h
  | x :: r, p, q, o, off, len, cap, h => by
    unfold frzOf at h
    split at h
    · cases h
    · rename_i heq
      simp only [List.cons.injEq] at heq
      obtain ⟨rfl, rfl⟩ := heq
      simp only [Option.some.injEq, Prod.mk.injEq] at h
      obtain ⟨rfl, rfl, rfl, rfl, rfl, rfl⟩ := h
      rfl
    · rename_i heq
      simp only [List.cons.injEq] at heq
      obtain ⟨rfl, rfl⟩ := heq
      split at h
      · rename_i p' z hz
        simp only [Option.some.injEq, Prod.mk.injEq] at h
        obtain ⟨rfl, rfl⟩ := h
        rw [frzOf_spec hz]
        rfl
      · cases h
def isBytesT (P : Program) (t : TypeId) : Bool :=
  match P.underlying t with
  | some (.slice e) => match P.underlying e with
    | some (.int .u8) => true
    | _ => false
  | _ => false
theorem isBytesT_spec {P : Program} {t : TypeId} (h : isBytesT P t = true) : ∃ e, P.underlying t = some (.slice e) ∧ P.underlying e = some (.int .u8) := by
  unfold isBytesT at h
  split at h
  · rename_i e h1
    split at h
    · rename_i h2; exact ⟨e, h1, h2⟩
    · cases h
  · cases h
def isTexts (P : Program) (s d : TypeId) : Bool :=
  match P.underlying s, P.underlying d with
  | some .string, some (.slice e) => match P.underlying e with
    | some (.int .u8) => true
    | _ => false
  | _, _ => false
theorem isTexts_spec {P : Program} {s d : TypeId} (h : isTexts P s d = true) : ∃ e, P.underlying s = some .string ∧ P.underlying d = some (.slice e) ∧ P.underlying e = some (.int .u8) := by
  unfold isTexts at h
  split at h
  · rename_i e h1 h2
    split at h
    · rename_i h3; exact ⟨e, h1, h2, h3⟩
    · cases h
  · cases h
def frzBox (cx : Cx) (e : TypeId) : Bool := (cx.get 1000000008).isSome || (cx.get (1100000000 + e)).isSome
def methOf (P : Program) (t : TypeId) (name : String) : Option FuncId :=
  match P.info? t with
  | none => none
  | some i => match i.methods.find? (·.name == name) with
    | none => none
    | some m => match m.path.toList, m.func, P.underlying t with
      | [], some (f, true), some (.pointer _) => some f
      | _, _, _ => none
theorem run_method {P : Program} {t : TypeId} {name : String} {f : FuncId} (h : methOf P t name = some f) (ad : Addr) (n : Nat) (w : World) :
    (method (n + 1) t (.pointer (some ad)) name).run P w = .ok (f, .pointer (some ad)) w := by
  unfold methOf at h
  split at h
  · cases h
  rename_i i hi
  split at h
  · cases h
  rename_i m hm
  split at h
  · rename_i f' e hp hf hu
    simp only [Option.some.injEq] at h
    subst h
    unfold method
    simp only [Sem.run_bind, run_typeInfo w hi, Result.andThen_ok, hm, hp, follow, Sem.run_pure, hf, receiverAt, run_underlying hu, Place.get]
  · cases h
theorem run_call_inv {P : Program} {a : Act} {w : World} {o : Oper} {r : Operand} {m : String} {args : Array Operand} {ts : Array TypeId} (ho : o.op = .call { callee := .invoke r m, args, argTypes := ts }) {t : TypeId} {f : Nat} (hf : methOf P t m = some f) {ad : Addr} (hx : a.eval r = .iface t (.pointer (some ad))) {vs : List Value} (hv : args.map a.eval = vs.toArray) :
    (execOp a.eval o).run P w = (callFunc f (.pointer (some ad) :: vs).toArray).run P w := by
  obtain ⟨n, hn⟩ : ∃ n, P.types.size + Made.depth = n + 1 := ⟨P.types.size + 99, rfl⟩
  unfold execOp
  simp only [ho, resolve, hv, hx, Sem.run_bind, Sem.run_pure, Result.andThen_ok, invoke, callMethod, run_program, hn]
  simp [hn, run_method hf]
def isMapT (P : Program) (t : TypeId) : Bool := match P.underlying t with
  | some (.map _ _) => true
  | _ => false
def special (P : Program) (cx : Cx) (tm : List SV) (o : Oper) : Option Special :=
  match o.op with
  | .call { callee := .value x, args, .. } =>
    match calleeOf tm x, rdL tm args.toList with
    | some (p0, f, caps), some (ps, ys) => match cx.get f with
      | some _ => match frzOf ys with
        | some (pre, o, off, len, cap, post) => some (.frz (p0 ++ ps) f pre o off len cap (post ++ caps.map ofPV))
        | none => none
      | none => match getW cx.wf f with
        | none => some (.call (p0 ++ ps) f (ys ++ caps.map ofPV))
        | some _ => none
    | _, _ => none
  | .call { callee := .builtin .append, args, argTypes } =>
    match rdL tm args.toList with
    | some (ps, [s, x]) => match cx.get 1000000007 with
      | some _ => some (.appR ps argTypes.toList s x)
      | none => some (.app ps argTypes.toList s x)
    | _ => none
  | .call { callee := .builtin .copy, args, argTypes } =>
    match rdL tm args.toList with
    | some (_, [.sc (.sl _ _ _ _), .sc (.val _)]) => none
    | some (ps, [s, x]) => some (.cpy ps argTypes.toList s x)
    | _ => none
  | .box e x => match frzBox cx e with
    | true => match rd tm x with
      | some (ps, y) => match (flat (toKs y)).all bareC with
        | true => some (.boxF ps e (flat (toKs y)))
        | false => none
      | none => none
    | false => none
  | .convert s d x => match isTexts P s d with
    | true => match rd tm x with
      | some (ps, .sc (.val (.string b))) => some (.s2b ps b)
      | _ => none
    | false => match Nat.beq s d && isBytesT P s with
      | true => match rd tm x with
        | some (ps, .sc (.sl o off len cap)) => some (.mark ps o off len cap)
        | _ => none
      | false => none
  | .call { callee := .invoke r m, args, .. } =>
    match rd tm r, rdL tm args.toList with
    | some (p0, .sc (.ifc t o off)), some (ps, ys) => match methOf P t m with
      | some f => some (.call (p0 ++ ps) f (.sc (.ptr o off) :: ys))
      | none => none
    | _, _ => none
  | .call { callee := .builtin .len, args, argTypes } =>
    match argTypes.toList with
    | [t] => match cx.get (1300000000 + t) with
      | some _ => match rdL tm args.toList with
        | some (ps, ys) => match semLen P argTypes o.type ys with
          | some (qs, .sc (.val (.int k n))) => some (.lenN (ps ++ qs) k n)
          | _ => none
        | none => none
      | none => match rdL tm args.toList with
        | some (ps, [.sc (.mpr o)]) => match isMapT P t with
          | true => some (.mlen ps o)
          | false => none
        | _ => none
    | _ => none
  | .makeMap t none => match mapT P t with
    | some (k, sc, zs) => some (.mkM k sc zs.length)
    | none => none
  | .lookup t m x ok => match rd tm m, rd tm x, mapT P t with
    | some (p0, .sc (.mpr o)), some (p1, y), some (k, sc, zs) => match asI y with
      | some (k', n) => match decide (k' = k) with
        | true => some (.mlook (p0 ++ p1) o k sc zs n ok)
        | false => none
      | none => none
    | _, _, _ => none
  | .mapUpdate t m x v => match rd tm m, rd tm x, rd tm v, mapT P t with
    | some (p0, .sc (.mpr o)), some (p1, y), some (p2, z), some (k, sc, zs) => match asI y, laidM sc z with
      | some (k', n), some cs => match decide (k' = k) && Nat.beq zs.length cs.length && cs.all bareC with
        | true => some (.mup (p0 ++ (p1 ++ p2)) o k sc n cs)
        | false => none
      | _, _ => none
    | _, _, _, _ => none
  | _ => none
def tailOf (ob : List SO) (size : Nat) (x : SA) : Option (Nat × List SK) :=
  match x with
  | .sc (.sl o off m _) =>
    match ob[o]? with
    | some (.cells _ ks _) => (sub ks off (m * size)).map fun r => (m, r)
    | _ => none
  | _ => none
def headOf (ob : List SO) (size : Nat) (e : TypeId) (x : SA) : Option (Nat × List Prop × List SK × List SO) :=
  match x with
  | .sc (.val (.slice none 0 0)) => some (0, [], [], ob)
  | .sc (.sl o 0 n cap) =>
    match ob[o]? with
    | some (.cells e' ks sp) => if Nat.beq e' e ∧ Nat.beq (flat ks).length (n * size) then some (n, [n ≤ cap ∧ cap ≤ maxLen ∧ cap * size = n * size + sp], ks, ob.set o .dead) else
      match Nat.beq e' e && Nat.beq n 0 with
      | true => some (0, [cap ≤ maxLen ∧ cap * size = (flat ks).length + sp], [], ob.set o .dead)
      | false => none
    | _ => none
  | _ => none
def growPlan (P : Program) (ob : List SO) (ts : List TypeId) (s x : SA) : Option (TypeId × Nat × Nat × List SK) :=
  match ts, s with
  | [t, t'], .sc (.val (.slice none 0 0)) =>
    match P.underlying t, P.underlying t', asI x with
    | some (.slice e), some (.int _), some (_, n) =>
      match P.info? e, semMake P e n n with
      | some ie, some ks => if 0 < ie.size ∧ 0 < n ∧ n.toNat ≤ maxLen ∧ n.toNat * ie.bytes ≤ 140737488355328 ∧ ks.all SK.fit = true ∧ ob.all (obB (liveB ob)) = true then some (e, ie.size, n.toNat, ks) else none
      | _, _ => none
    | _, _, _ => none
  | _, _ => none
def appPlan (P : Program) (ob : List SO) (ts : List TypeId) (s x : SA) : Option (List Prop × TypeId × Nat × Nat × List SK × List SO) :=
  match ts with
  | [t, t'] =>
    if Nat.beq t t' then
      match P.underlying t with
      | some (.slice e) =>
        match P.info? e with
        | some ie =>
          match ie.zero with
          | some z =>
            match tailOf ob ie.size x, headOf ob ie.size e s with
            | some (m, new), some (n, qs, old, ob1) =>
              if z.cells.size = ie.size ∧ 0 < ie.size ∧ m ≠ 0 ∧ n + m ≤ maxLen ∧ (n + m) * ie.bytes ≤ 140737488355328 ∧ new.all SK.fit = true ∧ old.all SK.fit = true ∧
                (old ++ new).all (SK.bndB (liveB ob1)) = true ∧ ob1.all (obB (liveB ob1)) = true then some (qs, e, ie.size, n + m, old ++ new, ob1) else none
            | _, _ => none
          | none => none
        | none => none
      | _ => none
    else none
  | _ => none
def fixAt (fs : List SC) (size : Nat) : Nat → Nat → Nat → Nat → SC
  | 0, _, _, _ => .bit false
  | 1, j, _, c => fs.getD (j * size + c) (.bit false)
  | k + 2, j, i, c => selC (decide (i = j)) (fs.getD (j * size + c) (.bit false)) (fixAt fs size (k + 1) (j + 1) i c)
def tailG (ob : List SO) (size : Nat) (x : SA) : Option (List Prop × Nat × (Nat → Nat → SC) × Bool) :=
  match x with
  | .sc (.slw o w off m _) =>
    match ob[o]? with
    | some (.row _ w' n g _) => match Nat.beq w size && Nat.beq w' size with
      | true => some ([off + m ≤ n], m, fun i c => g (off + i) c, false)
      | false => none
    | _ => none
  | .sc (.xs _ m _ w g) => match Nat.beq w size with
    | true => some ([], m, g, false)
    | false => none
  | .sc (.sl o off m _) =>
    match ob[o]? with
    | some (.cells _ ks _) => match sub ks off (m * size) with
      | some cs => if (flat cs).all bareC = true ∧ m ≠ 0 ∧ m ≤ 16 then some ([], m, fixAt (flat cs) size m 0, true) else match kindHead cs with
        | some k => if kindAll k cs ∧ size = 1 ∧ m ≠ 0 then some ([], m, fun i _ => .val (.int k (selG cs i)), true) else none
        | none => none
      | none => none
    | _ => none
  | .sc (.sls o base lo hi _) =>
    match ob[o]? with
    | some (.cells _ ks _) => match sub ks base hi with
      | some cs => match kindHead cs with
        | some k => if kindAll k cs ∧ size = 1 then some ([lo ≤ hi], hi - lo, fun i _ => .val (.int k (selG cs (lo + i))), false) else none
        | none => none
      | none => none
    | _ => none
  | .sc (.val (.slice none 0 0)) => some ([], 0, fun _ _ => .bit false, false)
  | _ => none
def headG (ob : List SO) (size : Nat) (e : TypeId) (x : SA) : Option (List Prop × Nat × (Nat → Nat → SC) × List SO × Option Nat) :=
  match x with
  | .sc (.val (.slice none 0 0)) => some ([], 0, fun _ _ => .bit false, ob, none)
  | .sc (.slw o w off n cap) =>
    match ob[o]? with
    | some (.row e' w' n' g sp) => match Nat.beq w size && Nat.beq w' size && Nat.beq e' e with
      | true => some ([off = 0, n = n', n ≤ cap ∧ cap ≤ maxLen ∧ cap * size = n * size + sp], n, g, ob.set o .dead, some o)
      | false => none
    | _ => none
  | .sc (.sl o 0 n cap) =>
    match ob[o]? with
    | some (.cells e' ks sp) => if Nat.beq e' e ∧ Nat.beq (flat ks).length (n * size) ∧ (flat ks).all bareC = true ∧ n ≤ 16 then some ([n ≤ cap ∧ cap ≤ maxLen ∧ cap * size = n * size + sp], n, fixAt (flat ks) size n 0, ob.set o .dead, some o) else match kindHead ks with
      | some k => if Nat.beq e' e ∧ Nat.beq (flat ks).length n ∧ kindAll k ks ∧ size = 1 then some ([n ≤ cap ∧ cap ≤ maxLen ∧ cap * size = n * size + sp], n, fun i _ => .val (.int k (selG ks i)), ob.set o .dead, some o) else none
      | none => none
    | _ => none
  | _ => none
def growAt (kn : Nat) (old : Option Nat) (ob0 : List SO) (y : SO) : Nat × List SO :=
  match old with
  | some o => match Nat.ble kn o with
    | true => (o, ob0.set o y)
    | false => (ob0.length, ob0 ++ [y])
  | none => (ob0.length, ob0 ++ [y])
def newG (x : SA) (n : Nat) (g new : Nat → Nat → SC) : Nat → Nat → SC :=
  match x with
  | .sc (.val (.slice none 0 0)) => g
  | _ => fun i c => selC (decide (i < n)) (g i c) (new (i - n) c)
def newH (s x : SA) (n : Nat) (g new : Nat → Nat → SC) : Nat → Nat → SC :=
  match s with
  | .sc (.sl _ 0 0 _) => new
  | _ => newG x n g new
theorem headG_zero {ob : List SO} {size : Nat} {e : TypeId} {o cap : Nat} {r : List Prop × Nat × (Nat → Nat → SC) × List SO × Option Nat} (h : headG ob size e (.sc (.sl o 0 0 cap)) = some r) : r.2.1 = 0 := by
  simp only [headG] at h
  split at h
  · split at h
    · simp only [Option.some.injEq] at h; rw [← h]
    · split at h
      · split at h
        · simp only [Option.some.injEq] at h; rw [← h]
        · cases h
      · cases h
  · cases h
structure AppG where
  qs : List Prop
  e : TypeId
  size : Nat
  n : Nat
  g : Nat → Nat → SC
  ob0 : List SO
  old : Option Nat
  nil : Bool
  m : Nat
def roomW (cap k b : Nat) : Prop := k * b ≤ 140737488355328 ∨ k ≤ cap ∨ (cap = 0 ∧ k * b ≤ 281474976710656)
def roomL (wd : Bool) (cap k b : Nat) : List Prop := match wd with
  | false => [k ≤ maxLen ∧ k * b ≤ 140737488355328]
  | true => [k ≤ maxLen ∧ roomW cap k b]
theorem roomL_spec {wd : Bool} {cap k b : Nat} (h : Ok (roomL wd cap k b)) : k ≤ maxLen ∧ roomW cap k b := by
  cases wd with
  | false => exact ⟨h.1.1, .inl h.1.2⟩
  | true => exact h.1
def capA : SA → Nat
  | .sc (.slw _ _ _ _ cap) => cap
  | .sc (.sl _ _ _ cap) => cap
  | _ => 0
def capQ (wd : Bool) (cap n c : Nat) (X : Prop) : Prop := match wd with
  | false => X
  | true => (n ≤ cap → n + c = cap) → X
theorem capQ_elim {wd : Bool} {cap n c : Nat} {X : Prop} (h : capQ wd cap n c X) (hq : n ≤ cap → n + c = cap) : X := by
  cases wd with
  | false => exact h
  | true => exact h hq
def wideR (cx : Cx) : Bool := (cx.get 1000000021).isSome
def appG (wd : Bool) (P : Program) (ob : List SO) (ts : List TypeId) (s x : SA) : Option AppG :=
  match ts with
  | [t, t'] =>
    if Nat.beq t t' then
      match P.underlying t with
      | some (.slice e) =>
        match P.info? e with
        | some ie =>
          match ie.zero with
          | some z =>
            match tailG ob ie.size x, headG ob ie.size e s with
            | some (ps, m, new, lit), some (qs, n, g, ob0, old) =>
              if z.cells.size = ie.size ∧ 0 < ie.size ∧ ob0.all (obB (liveB ob0)) = true then
                (match old with
                | none => some ⟨ps ++ (qs ++ roomL wd (capA s) m ie.bytes), e, ie.size, m, new, ob0, old, !lit, m⟩
                | some _ => some ⟨ps ++ (qs ++ roomL wd (capA s) (n + m) ie.bytes), e, ie.size, n + m, newH s x n g new, ob0, old, false, m⟩)
              else none
            | _, _ => none
          | none => none
        | none => none
      | _ => none
    else none
  | _ => none
def rowL (w n : Nat) (g : Nat → Nat → SC) : List SK := (List.range n).flatMap fun i => (List.range w).map fun c => .c (g i c)
def appX (P : Program) (ob : List SO) (ts : List TypeId) (s x : SA) : Option (List Prop × TypeId × Nat × Nat × List SK × List SO) :=
  match ts with
  | [t, t'] =>
    if Nat.beq t t' then
      match P.underlying t with
      | some (.slice e) =>
        match P.info? e with
        | some ie =>
          match ie.zero with
          | some z =>
            match s with
            | .sc (.xs _ n cap wd g) =>
              match tailOf ob ie.size x with
              | some (m, new) =>
                if z.cells.size = ie.size ∧ 0 < ie.size ∧ Nat.beq wd ie.size ∧ n ≠ 0 ∧ m ≠ 0 ∧ Nat.beq cap n ∧ n + m ≤ maxLen ∧ (n + m) * ie.bytes ≤ 140737488355328 ∧ new.all SK.fit = true ∧
                  new.all (SK.bndB (liveB ob)) = true ∧ ob.all (obB (liveB ob)) = true then some ([], e, ie.size, n + m, rowL wd n g ++ new, ob) else none
              | none => none
            | s =>
              match x with
              | .sc (.xs _ m _ wd g) =>
                match headOf ob ie.size e s with
                | some (n, qs, old, ob1) =>
                  if z.cells.size = ie.size ∧ 0 < ie.size ∧ Nat.beq wd ie.size ∧ m ≠ 0 ∧ n + m ≤ maxLen ∧ (n + m) * ie.bytes ≤ 140737488355328 ∧ old.all SK.fit = true ∧
                    old.all (SK.bndB (liveB ob1)) = true ∧ ob1.all (obB (liveB ob1)) = true then some (qs, e, ie.size, n + m, old ++ rowL wd m g, ob1) else none
                | none => none
              | _ => none
          | none => none
        | none => none
      | _ => none
    else none
  | _ => none
def appY (P : Program) (ob : List SO) (ts : List TypeId) (s x : SA) : Option (List Prop × TypeId × Nat × Nat × (Nat → Nat → SC)) :=
  match ts with
  | [t, t'] =>
    if Nat.beq t t' then
      match P.underlying t with
      | some (.slice e) =>
        match P.info? e with
        | some ie =>
          match ie.zero with
          | some z =>
            match s with
            | .sc (.xs _ n cap wd g) =>
              match tailG ob ie.size x with
              | some (ps, m, new, true) =>
                if z.cells.size = ie.size ∧ 0 < ie.size ∧ Nat.beq wd ie.size ∧ ob.all (obB (liveB ob)) = true then some (ps ++ [n ≠ 0, cap = n, n + m ≤ maxLen ∧ (n + m) * ie.bytes ≤ 140737488355328], e, ie.size, n + m, fun i c => selC (decide (i < n)) (g i c) (new (i - n) c)) else none
              | _ => none
            | _ => none
          | none => none
        | none => none
      | _ => none
    else none
  | _ => none
def cpyPlan (P : Program) (ob : List SO) (ts : List TypeId) (s x : SA) : Option (List Prop × SA × List SO) :=
  match ts with
  | t :: _ =>
    match P.underlying t with
    | some (.slice e) =>
      match P.info? e with
      | some ie =>
        match s with
        | .sc (.sl o off n _) =>
          match ob[o]? with
          | some (.cells e' ks sp) =>
            match x with
            | .sc (.sl o2 off2 m _) =>
              match ob[o2]? with
              | some (.cells _ ks2 _) =>
                match sub ks2 off2 (Nat.min m n * ie.size) with
                | some new => if new.all SK.fit then (lay ks off new).map fun r => ([], .sc (.num .i64 ((Nat.min m n : Nat) : Int)), ob.set o (.cells e' r sp)) else none
                | none => none
              | _ => none
            | _ => none
          | _ => none
        | _ => none
      | none => none
    | _ => none
  | _ => none
def srcG (ob : List SO) (size : Nat) (x : SA) : Option (List Prop × Nat × (Nat → Nat → SC)) :=
  match x with
  | .sc (.val (.string b)) => match Nat.beq size 1 with
    | true => some ([], b.size, fun i _ => .val (.int .u8 ((b.data.getD i 0).toNat : Int)))
    | false => none
  | x => match tailG ob size x with
    | some (ps, m, g, _) => some (ps, m, g)
    | none => none
def cpyG (P : Program) (ob : List SO) (ts : List TypeId) (s x : SA) : Option (List Prop × SA × List SO) :=
  match ts with
  | t :: _ =>
    match P.underlying t with
    | some (.slice e) =>
      match P.info? e with
      | some ie =>
        match srcG ob ie.size x with
        | some (ps, m, src) =>
          match s with
          | .sc (.sls o base lo hi _) =>
            match ob[o]? with
            | some (.cells e' ks sp) => match sub ks base hi with
              | some cs => match kindHead cs with
                | some k => if kindAll k cs ∧ ie.size = 1 then (lay ks base [.f k hi (fun j => if lo ≤ j ∧ j < lo + Nat.min m (hi - lo) then intsC (src (j - lo) 0) else selG cs j)]).map fun r => (ps ++ [lo ≤ hi, ∀ j, isKind k (src j 0)], .sc (.val (.int .i64 ((Nat.min m (hi - lo) : Nat) : Int))), ob.set o (.cells e' r sp)) else none
                | none => none
              | none => none
            | _ => none
          | .sc (.sl o base hi _) =>
            match ob[o]? with
            | some (.cells e' ks sp) => match sub ks base hi with
              | some cs => match kindHead cs with
                | some k => if kindAll k cs ∧ ie.size = 1 then (lay ks base [.f k hi (fun j => if j < Nat.min m hi then intsC (src j 0) else selG cs j)]).map fun r => (ps ++ [∀ j, isKind k (src j 0)], .sc (.val (.int .i64 ((Nat.min m hi : Nat) : Int))), ob.set o (.cells e' r sp)) else none
                | none => none
              | none => none
            | _ => none
          | .sc (.slw o w off len _) =>
            match ob[o]? with
            | some (.row e' w' n g sp) => match Nat.beq w ie.size && Nat.beq w' ie.size with
              | true => some (ps ++ [off + len ≤ n], .sc (.val (.int .i64 ((Nat.min m len : Nat) : Int))), ob.set o (.row e' w' n (fun i c => selC (decide (off ≤ i) && decide (i < off + Nat.min m len)) (src (i - off) c) (g i c)) sp))
              | false => none
            | some (.rown e' w' n g sp p) => match Nat.beq w ie.size && Nat.beq w' ie.size with
              | true => some (ps ++ [off + len ≤ n], .sc (.val (.int .i64 ((Nat.min m len : Nat) : Int))), ob.set o (.rown e' w' n (fun i c => cond (decide (off ≤ i) && decide (i < off + Nat.min m len)) (src (i - off) c) (g i c)) sp p))
              | false => none
            | _ => none
          | .sc (.xs _ n _ _ _) => some (ps ++ [n = 0], .sc (.num .i64 0), ob)
          | _ => none
        | none => none
      | none => none
    | _ => none
  | _ => none
def cpyF (P : Program) (ob : List SO) (ts : List TypeId) (s x : SA) : Option (List Prop × SA × List SO) :=
  match ts with
  | t :: _ =>
    match P.underlying t with
    | some (.slice e) =>
      match P.info? e with
      | some ie =>
        match srcG ob ie.size x with
        | some (ps, m, src) =>
          match s with
          | .sc (.sl o base hi _) =>
            match ob[o]? with
            | some (.cells e' ks sp) => match sub ks base hi with
              | some cs => match kindHead cs with
                | some k => if kindAll k cs ∧ ie.size = 1 then (lay ks base [.f k hi (fun j => intsC (src j 0))]).map fun r => (ps ++ [hi ≤ m, ∀ j, isKind k (src j 0)], .sc (.num .i64 (hi : Int)), ob.set o (.cells e' r sp)) else none
                | none => none
              | none => none
            | _ => none
          | _ => none
        | none => none
      | none => none
    | _ => none
  | _ => none
def growZ (wd : Bool) (P : Program) (ob : List SO) (ts : List TypeId) (s x : SA) : Option (List Prop × TypeId × Nat × Nat) :=
  match ts with
  | [t, t'] => match s with
    | .sc (.val (.slice none 0 0)) => match P.underlying t, P.underlying t', asI x with
      | some (.slice e), some (.int _), some (_, v) => match P.info? e with
        | some ie => match ie.zero with
          | some z => if z.cells.size = ie.size ∧ 0 < ie.size ∧ ob.all (obB (liveB ob)) = true then some ((match wd with
            | false => [0 < v ∧ v ≤ (maxLen : Int) ∧ v * (ie.bytes : Int) ≤ 140737488355328]
            | true => [0 < v ∧ v ≤ (maxLen : Int) ∧ v * (ie.bytes : Int) ≤ 281474976710656]), e, ie.size, v.toNat) else none
          | none => none
        | none => none
      | _, _, _ => none
    | _ => none
  | _ => none
def forgetK (o : Nat) (ad : Nat → Addr) : SK → SK
  | .c (.slw o' w off n cap) => match Nat.beq o' o with
    | true => .c (.val (.slice (some (ad (off * w))) n cap))
    | false => .c (.slw o' w off n cap)
  | k => k
def forgetO (o : Nat) (ad : Nat → Addr) : SO → SO
  | .cells e ks sp => .cells e (ks.map (forgetK o ad)) sp
  | x => x
def forget (o : Nat) (ad : Nat → Addr) (ob : List SO) : List SO := ob.map (forgetO o ad)
def doSpecial (P : Program) (cx : Cx) (inl : Inl) (ob : List SO) (k : SV → List SO → List SO → Prop) : Special → Prop
  | .call ps f args => ands ps (inl f args ob fun sv ob' => k sv ob' ob')
  | .app ps ts s x => match (match cx.get 1000000020 with
      | some _ => appY P ob ts s x
      | none => none) with
    | some (qs, e, size, n, g) => ands (ps ++ qs) (∀ c : Nat, n + c ≤ maxLen → k (.one (.sc (.slw ob.length size 0 n (n + c)))) ob (ob ++ [.row e size n g (c * size)]))
    | none => match (match cx.get 1000000015 with
      | some _ => appX P ob ts s x
      | none => none) with
    | some (qs, e, size, n, ks, ob1) => ands (ps ++ qs) (∀ c : Nat, n + c ≤ maxLen → k (.one (.sc (.sl ob1.length 0 n (n + c)))) ob1 (ob1 ++ [.cells e ks (c * size)]))
    | none => match (match cx.get 1000000016 with
      | some _ => growZ (wideR cx) P ob ts s x
      | none => none) with
    | some (qs, e, size, n) => ands (ps ++ qs) (∀ c : Nat, n + c ≤ maxLen → k (.one (.sc (.slw ob.length size 0 n (n + c)))) ob (ob ++ [.row e size 0 (fun _ _ => .bit false) ((n + c) * size)]))
    | none => match appPlan P ob ts s x with
    | some (qs, e, size, n, ks, ob1) => ands (ps ++ qs) (∀ c : Nat, n + c ≤ maxLen → k (.one (.sc (.sl ob1.length 0 n (n + c)))) ob1 (ob1 ++ [.cells e ks (c * size)]))
    | none => match appG (wideR cx) P ob ts s x with
      | some p => ands (ps ++ p.qs) (match p.nil with
        | true => (p.m = 0 → k (.one (.sc (.val (.slice none 0 0)))) ob ob) ∧ (p.m ≠ 0 → ∀ c : Nat, p.n + c ≤ maxLen → capQ (wideR cx) (capA s) p.n c (k (.one (.sc (.slw (growAt cx.kn p.old p.ob0 .gone).1 p.size 0 p.n (p.n + c)))) p.ob0 (growAt cx.kn p.old p.ob0 (.row p.e p.size p.n p.g (c * p.size))).2))
        | false => ∀ c : Nat, p.n + c ≤ maxLen → capQ (wideR cx) (capA s) p.n c (k (.one (.sc (.slw (growAt cx.kn p.old p.ob0 .gone).1 p.size 0 p.n (p.n + c)))) p.ob0 (growAt cx.kn p.old p.ob0 (.row p.e p.size p.n p.g (c * p.size))).2))
      | none => match growPlan P ob ts s x with
        | some (e, size, n, ks) => ands ps (∀ c : Nat, n + c ≤ maxLen → k (.one (.sc (.sl ob.length 0 n (n + c)))) ob (ob ++ [.cells e ks (c * size)]))
        | none => StuckAt "append"
  | .appR ps ts s x => match appG (wideR cx) P ob ts s x with
    | some ⟨qs, e, size, n, g, ob0, old, nl, m⟩ => ands (ps ++ qs) (match nl with
      | true => (m = 0 → k (.one (.sc (.val (.slice none 0 0)))) ob ob) ∧ (m ≠ 0 → ∀ c : Nat, n + c ≤ maxLen → capQ (wideR cx) (capA s) n c (match growAt cx.kn old ob0 (.row e size n g (c * size)) with
        | (o, ob1) => k (.one (.sc (.slw o size 0 n (n + c)))) ob0 ob1))
      | false => ∀ c : Nat, n + c ≤ maxLen → capQ (wideR cx) (capA s) n c (match growAt cx.kn old ob0 (.row e size n g (c * size)) with
        | (o, ob1) => k (.one (.sc (.slw o size 0 n (n + c)))) ob0 ob1))
    | none => match s with
      | .sc (.slw o' _ _ _ _) => ∀ ad : Nat → Addr, match appG (wideR cx) P (forget o' ad ob) ts s x with
        | some ⟨qs, e, size, n, g, ob0, old, nl, m⟩ => ands (ps ++ qs) (match nl with
          | true => (m = 0 → k (.one (.sc (.val (.slice none 0 0)))) (forget o' ad ob) (forget o' ad ob)) ∧ (m ≠ 0 → ∀ c : Nat, n + c ≤ maxLen → capQ (wideR cx) (capA s) n c (match growAt cx.kn old ob0 (.row e size n g (c * size)) with
            | (o, ob1) => k (.one (.sc (.slw o size 0 n (n + c)))) ob0 ob1))
          | false => ∀ c : Nat, n + c ≤ maxLen → capQ (wideR cx) (capA s) n c (match growAt cx.kn old ob0 (.row e size n g (c * size)) with
            | (o, ob1) => k (.one (.sc (.slw o size 0 n (n + c)))) ob0 ob1))
        | none => StuckAt "append"
      | _ => StuckAt "append"
  | .cpy ps ts s x => match cpyPlan P ob ts s x with
    | some (qs, z, ob1) => ands (ps ++ qs) (k (.one z) ob1 ob1)
    | none => match (match cx.get 1000000011 with
      | some _ => cpyF P ob ts s x
      | none => none) with
      | some (qs, z, ob1) => ands (ps ++ qs) (k (.one z) ob1 ob1)
      | none => match cpyG P ob ts s x with
        | some (qs, z, ob1) => ands (ps ++ qs) (k (.one z) ob1 ob1)
        | none => StuckAt "copy"
  | .mark ps o off len cap => match ob[o]? with
    | some (.cells _ ks _) => match sub ks off len with
      | some cs => match kindAll .u8 cs && (ob.set o .dead).all (obB (liveB (ob.set o .dead))) with
        | true => ands (ps ++ [len ≤ cap]) (∀ a : Addr, k (.one (.sc (.xs (some a) len cap 1 (fun i _ => .val (.int .u8 (selG cs i)))))) (ob.set o .dead) (ob.set o .dead))
        | false => StuckAt "mark"
      | none => StuckAt "mark"
    | _ => StuckAt "mark"
  | .frz ps f pre o off len cap post => match cx.get f, ob[o]? with
    | some s, some (.cells _ ks _) => match sub ks off len with
      | some cs => match kindAll .u8 cs && (ob.set o .dead).all (obB (liveB (ob.set o .dead))) with
        | true => ands (ps ++ [len ≤ cap]) (∀ a : Addr, match s (pre ++ SA.sc (.xs (some a) len cap 1 (fun i _ => .val (.int .u8 (selG cs i)))) :: post) with
          | some (qs, sv) => ands qs (k sv (ob.set o .dead) (ob.set o .dead))
          | none => StuckAt "card")
        | false => StuckAt "freeze"
      | none => StuckAt "freeze"
    | _, _ => StuckAt "freeze"
  | .lenN ps kd n => ands ps (k (.one (.sc (.num kd n))) ob ob)
  | .mkM kk sc w => k (.one (.sc (.mpr ob.length))) ob (ob ++ [.mp sc kk w 0 (fun _ => 0) (fun _ _ => .bit false)])
  | .mlook ps o kk sc zs x ok => match ob[o]? with
    | some (.mp sc' kk' w n key g) => match sc == sc' && decide (kk = kk') && Nat.beq w zs.length with
      | true => ands ps (match ok with
        | true => k (.tup [lookA sc (mHas n (mIx n key x)) w (g (mIx n key x)) (zeroC zs), .sc (.val (.bool (mHas n (mIx n key x))))]) ob ob
        | false => k (.one (lookA sc (mHas n (mIx n key x)) w (g (mIx n key x)) (zeroC zs))) ob ob)
      | false => StuckAt "map"
    | _ => StuckAt "map"
  | .mup ps o kk sc x cs => match ob[o]? with
    | some (.mp sc' kk' w n key g) => match sc == sc' && decide (kk = kk') && Nat.beq w cs.length with
      | true => ands ps (k .any ob (ob.set o (.mp sc kk w (mN n (mIx n key x)) (mK n key x) (mG (mIx n key x) cs g))))
      | false => StuckAt "map"
    | _ => StuckAt "map"
  | .mlen ps o => match ob[o]? with
    | some (.mp _ _ _ n _ _) => ands ps (k (.one (.sc (.val (.int .i64 (n : Int))))) ob ob)
    | _ => StuckAt "map"
  | .boxF ps _ l => ands ps (∀ a : Addr, k (.one (.sc (.px a l.length (fun c => l.getD c (.bit false))))) ob ob)
  | .s2b ps b => ands ps (∀ (a : Addr) (cap : Nat), b.size ≤ cap → k (.one (.sc (.xs (some a) b.size cap 1 (fun i _ => .val (.int .u8 ((b.data.getD i 0).toNat : Int)))))) ob ob)
def litOf : Bool → Bool → Bool
  | true, w => w
  | false, w => !w
def relit (cx : Cx) (ops : Array Oper) (o : Oper) (tm : List SV) (v : Bool) (T : List SV) : List SV :=
  match cx.get 1000000014 with
  | none => T
  | some _ => match o.guard with
    | none => T
    | some (j, want) => match (ops[j]?).bind (·.dst) with
      | none => T
      | some d => match tm.getD d .any, T.getD d .any with
        | .one (.sc (.val (.bool _))), .one (.sc (.val (.bool _))) => match (match o.dst with | some e => Nat.beq e d | none => false) with
          | false => T.set d (.one (.sc (.bit (litOf v want))))
          | true => T
        | _, _ => T
theorem relit_sound {W0 : Base} {ρ ρ' : Rho} {tm T : List SV} {ob ob' : List SO} {a a' : Act} {w w' : World} (H : Holds W0 ρ tm ob a w) {cx : Cx} {ops : Array Oper} {o : Oper} {v : Bool} (hv : Region.wanted o (yielded ops a.tmps) = v)
    (H' : Holds W0 ρ' T ob' a' w') (hT : ∀ d, o.dst ≠ some d → T.getD d .any = .any ∨ T.getD d .any = tm.getD d .any) : Holds W0 ρ' (relit cx ops o tm v T) ob' a' w' := by
  unfold relit
  split
  · exact H'
  split
  · exact H'
  rename_i j want hg
  split
  · exact H'
  rename_i d hd
  split
  · rename_i b b' h1 h2
    split
    · rename_i hne
      have hdst : o.dst ≠ some d := by
        intro e
        rw [e] at hne
        simp at hne
      have hbb : b' = b := by
        rcases hT d hdst with e | e
        · rw [e] at h2; cases h2
        · rw [e, h1] at h2; simpa using h2.symm
      have r1 := H.rep d
      rw [h1] at r1
      have r1 : a.tmps.getD d undef = .bool b := r1
      have hw : Region.wanted o (yielded ops a.tmps) = (some b == some want) := by
        simp only [Region.wanted, hg, yielded_of hd, r1]
      have hlit : litOf v want = b := by
        rw [hw] at hv
        subst hv
        cases b <;> cases want <;> rfl
      have r2 := H'.rep d
      rw [h2] at r2
      have r2 : a'.tmps.getD d undef = .bool b' := r2
      refine ⟨by rw [List.length_set]; exact H'.size, fun t => ?_, fun t => ?_, H'.defers, H'.below, H'.mem, H'.kept, H'.gl, H'.fzs, H'.keeps⟩
      · by_cases e : d = t
        · subst e
          rcases Nat.lt_or_ge d T.length with hl | hl
          · rw [List.getD_eq_getElem?_getD, List.getElem?_set_self hl, Option.getD_some]
            show a'.tmps.getD d undef = .bool _
            rw [r2, hbb, hlit]
          · rw [List.set_eq_of_length_le hl]
            exact H'.rep d
        · rw [List.getD_eq_getElem?_getD, List.getElem?_set_ne e, ← List.getD_eq_getElem?_getD]
          exact H'.rep t
      · by_cases e : d = t
        · subst e
          rcases Nat.lt_or_ge d T.length with hl | hl
          · rw [List.getD_eq_getElem?_getD, List.getElem?_set_self hl, Option.getD_some]
            exact trivial
          · rw [List.set_eq_of_length_le hl]
            exact H'.bnd d
        · rw [List.getD_eq_getElem?_getD, List.getElem?_set_ne e, ← List.getD_eq_getElem?_getD]
          exact H'.bnd t
    · exact H'
  · exact H'
theorem put_other {T : List SV} {dst : Option Tmp} {sv : SV} {d : Nat} (h : dst ≠ some d) : (put T dst sv).getD d .any = T.getD d .any := by
  cases dst with
  | none => rfl
  | some e =>
    have : e ≠ d := fun h' => h (by rw [h'])
    simp only [put]
    rw [List.getD_eq_getElem?_getD, List.getElem?_set_ne this, ← List.getD_eq_getElem?_getD]
def runs (P : Program) (cx : Cx) (inl : Inl) (ops : Array Oper) (d : Bool) : Nat → List Oper → List SV → List SO → (List SV → List SO → Prop) → Prop
  | _, [], tm, ob, K => K tm ob
  | i, o :: r, tm, ob, K =>
    match d, special P cx tm o with
    | false, some sp =>
      match whenOf ops tm o with
      | some .yes => doSpecial P cx inl ob (fun sv obS ob' => runs P cx inl ops d (i + 1) r (put (scrub obS tm) o.dst sv) ob' K) sp
      | some .no => runs P cx inl ops d (i + 1) r (put tm o.dst (.one (.sc (.val undef)))) ob K
      | some (.on b) => (b = true → doSpecial P cx inl ob (fun sv obS ob' => runs P cx inl ops d (i + 1) r (relit cx ops o tm true (put (scrub obS tm) o.dst sv)) ob' K) sp) ∧ (b = false → runs P cx inl ops d (i + 1) r (relit cx ops o tm false (put tm o.dst (.one (.sc (.val undef))))) ob K)
      | none => Stuck o
    | _, _ =>
      match semG P cx ops (match d with | true => i | false => ob.length) tm ob o with
      | some (ps, sv, ob') => ands ps (runs P cx inl ops d (i + 1) r (put tm o.dst sv) ob' K)
      | none => match d, whenOf ops tm o, semOp P cx ob.length tm ob o with
        | false, some (.on b), some (ps, sv, ob') => (b = true → ands ps (runs P cx inl ops d (i + 1) r (relit cx ops o tm true (put tm o.dst sv)) ob' K)) ∧ (b = false → runs P cx inl ops d (i + 1) r (relit cx ops o tm false (put tm o.dst (.one (.sc (.val undef))))) ob K)
        | _, _, _ => Stuck o
def InlOK (P : Program) (gl : Globs) (inl : Inl) : Prop := ∀ f args ob k, inl f args ob k → ∀ {Z : Base} {ρ : Rho} {tm : List SV} {a : Act} {w : World}, Z.gl = gl → Holds Z ρ tm ob a w → (∀ x ∈ args, x.bnd (lv ρ ob)) →
  (callFunc f (args.map (SA.conc ρ)).toArray).run P w = .ok (.enter f (args.map (SA.conc ρ)).toArray) w ∧
    Calls P f (args.map (SA.conc ρ)).toArray w fun e w' => ∃ v, e = .returned v ∧ ∃ ρ' sv ob', k sv ob' ∧ sv.rep ρ' v ∧ sv.bnd (lv ρ' ob') ∧ Holds Z ρ' (scrub ob' tm) ob' a w'
def noInl : Inl := fun _ _ _ _ => StuckAt "depth"
theorem noInl_ok (P : Program) (gl : Globs) : InlOK P gl noInl := fun _ _ _ _ h => h.no
end
end Go.Sx
end
