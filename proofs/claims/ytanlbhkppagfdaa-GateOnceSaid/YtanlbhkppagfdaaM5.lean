/-
  Texts: Sx9a.
-/
import Derived.Test.YtanlbhkppagfdaaM1
import Derived.Test.YtanlbhkppagfdaaM2
import Derived.Test.YtanlbhkppagfdaaM3
import Derived.Test.YtanlbhkppagfdaaM4
import Derived.Lib.AppendZeros
section
namespace Go.Sx
open Go.RowKit
section
variable {P : Program} {W0 : Base} {ρ : Rho} {tm : List SV} {ob : List SO} {a : Act} {w : World}
theorem all_bnd {ρ : Rho} {ob ob1 : List SO} {ks : List SK} (h : ks.all (SK.bndB (liveB ob)) = true) (hs : ∀ k ∈ ks, k.bnd (lv ρ ob1)) : ∀ k ∈ ks, k.bnd (lv ρ ob) :=
  fun k hk => SK.bnd_re (E := lv ρ ob1) (m := lv ρ ob) (fun _ h => liveB_iff h) (fun _ _ _ h => h) (SK.bnd_mono (Env.le_soft _) (hs k hk)) (List.all_eq_true.1 h k hk)
theorem live_dead {ob : List SO} {o i : Nat} : live (ob.set o .dead) i ↔ live ob i ∧ i ≠ o := by
  constructor
  · rintro ⟨x, h, hx⟩
    rw [List.getElem?_set] at h
    split at h
    · split at h
      · cases h; cases hx
      · cases h
    · rename_i hne; exact ⟨⟨x, h, hx⟩, fun e => hne e.symm⟩
  · rintro ⟨⟨x, h, hx⟩, hne⟩
    exact ⟨x, by rw [List.getElem?_set_ne (fun e => hne e.symm)]; exact h, hx⟩
theorem cell_lt {w : World} {b o : Nat} {v : Value} (h : w.cell? ⟨b, o, none⟩ = some v) : b < w.heap.size := by
  rcases Nat.lt_or_ge b w.heap.size with k | k
  · exact k
  · simp only [World.cell?, Array.getElem?_eq_none k] at h; cases h
def Killed (ρ : Rho) (ob ob0 : List SO) (v0 : Value) : Prop := (v0.ownBlock = none ∧ ob0 = ob) ∨ ∃ o x, ob[o]? = some x ∧ x.has = true ∧ ob0 = ob.set o .dead ∧ v0.ownBlock = some (ρ o)
theorem heap_lt' {w : World} {b : Nat} {x : Obj} (h : w.heap[b]? = some x) : b < w.heap.size := by
  rcases Nat.lt_or_ge b w.heap.size with k | k
  · exact k
  · rw [Array.getElem?_eq_none k] at h; cases h
structure Grew (W0 : Base) (ob ob0 : List SO) (y : SO) (id : Nat) (ob' : List SO) : Prop where
  new : ob'[id]? = some y
  old : ∀ i, i ≠ id → ob'[i]? = ob0[i]?
  free : ¬ live ob0 id
  far : W0.ob.length ≤ id
  len : ob.length ≤ ob'.length
theorem Holds.appended (H : Holds W0 ρ tm ob a w) {v0 : Value} {ob0 : List SO} (hob : Killed ρ ob ob0 v0) {w' : World} (hgb : w.grownBy w' v0.ownBlock) {g : Nat} (hbg : W0.w.heap.size ≤ g) (hwhere : v0.ownBlock = some g ∨ g = w.heap.size)
    (hall : ob0.all (obB (liveB ob0)) = true) {y : SO} (hy : y.has = true) (hyok : y.ok (lv ρ ob0)) {rest : List Value} (hr : rest.length = y.spare) (hg : w'.heap[g]? = some (y.lies ρ rest))
    {id : Nat} {ob' : List SO} (G : Grew W0 ob ob0 y id ob') : Holds W0 (grown ρ id g) (scrub ob0 tm) ob' a w' ∧ live ob' id := by
  have hl0 : ∀ i, live ob0 i → live ob i := by
    intro i hi
    rcases hob with ⟨_, rfl⟩ | ⟨o, x, ho, hx, rfl, _⟩
    · exact hi
    · exact (live_dead.1 hi).1
  have hget0 : ∀ (i : Nat) x, ob0[i]? = some x → x.has = true → ob[i]? = some x := by
    intro i x hi hx'
    rcases hob with ⟨_, rfl⟩ | ⟨o, x, ho, hx, rfl, _⟩
    · exact hi
    · rw [List.getElem?_set] at hi
      split at hi
      · split at hi
        · cases hi; cases hx'
        · cases hi
      · exact hi
  have hapart : ∀ i, live ob0 i → some (ρ i) ≠ v0.ownBlock := by
    intro i hi
    rcases hob with ⟨e, rfl⟩ | ⟨o, x, ho, hx, rfl, hb⟩
    · rw [e]; simp
    · obtain ⟨h1, hne⟩ := live_dead.1 hi
      rw [hb]
      simp only [ne_eq, Option.some.injEq]
      exact fun e => hne (H.mem.injs _ _ h1 ⟨x, ho, hx⟩ e)
  have hplace : ∀ i, live ob i → ρ i < w.heap.size := by
    rintro i ⟨x, hi, hx⟩
    obtain ⟨_, ⟨_, _, h2⟩, _⟩ := H.mem.objs i x hi hx
    exact heap_lt h2
  have hgne : ∀ i, live ob0 i → ρ i ≠ g := by
    intro i hi e
    rcases hwhere with k | k
    · exact hapart i hi (by rw [e, k])
    · have := hplace i (hl0 i hi); omega
  have hne : ∀ i, live ob0 i → i ≠ id := by rintro i hi rfl; exact G.free hi
  have hnew : ∀ i, live ob0 i → live ob' i := by
    rintro i hi
    obtain ⟨x, h1, h2⟩ := hi
    exact ⟨x, by rw [G.old i (hne i ⟨x, h1, h2⟩)]; exact h1, h2⟩
  have hcase : ∀ (i : Nat) x, ob'[i]? = some x → x.has = true → (ob0[i]? = some x ∧ i ≠ id) ∨ (i = id ∧ x = y) := by
    intro i x hi hx
    by_cases e : i = id
    · subst e
      rw [G.new] at hi
      simp only [Option.some.injEq] at hi
      exact .inr ⟨rfl, hi.symm⟩
    · exact .inl ⟨by rw [← G.old i e]; exact hi, e⟩
  have hag : Agree (lv ρ ob0) ρ (grown ρ id g) := fun i hi => by simp only [grown, if_neg (hne i hi)]
  have hid : grown ρ id g id = g := by simp [grown]
  have hle : Env.le (lv ρ ob0) (lv (grown ρ id g) ob') := ⟨hnew, fun _ _ _ h => h⟩
  have hbase : ∀ k, v0.ownBlock = some k → W0.w.heap.size ≤ k := by
    intro k hk
    rcases hob with ⟨e, rfl⟩ | ⟨o, x, ho, hx, rfl, hb⟩
    · rw [e] at hk; cases hk
    · rw [hb] at hk
      simp only [Option.some.injEq] at hk
      rw [← hk]; exact (H.mem.objs o x ho hx).1
  have hfrb : ∀ b o v, ρ.fz b o v → some b ≠ v0.ownBlock ∧ b < w.heap.size ∧ w.cell? ⟨b, o, none⟩ = some v := by
    intro b o v hv
    obtain ⟨k1, k2⟩ := H.mem.frz b o v hv
    refine ⟨?_, cell_lt k1, k1⟩
    rcases hob with ⟨e, rfl⟩ | ⟨o, x, ho, hx, rfl, hb⟩
    · rw [e]; simp
    · rw [hb]
      simp only [ne_eq, Option.some.injEq]
      exact fun e => k2 o ⟨x, ho, hx⟩ e.symm
  have hkeeps : Keeps W0.keep (grown ρ id g) ob' w' := fun b z hz => by
    obtain ⟨k1, k2⟩ := H.keeps b z hz
    have hb : some b ≠ v0.ownBlock := by
      rcases hob with ⟨e, rfl⟩ | ⟨o, x, ho, hx, rfl, hb⟩
      · rw [e]; simp
      · rw [hb]
        simp only [ne_eq, Option.some.injEq]
        exact fun e => k2 o ⟨x, ho, hx⟩ e.symm
    refine ⟨by rw [hgb.block b (heap_lt' k1) hb]; exact k1, fun i hi => ?_⟩
    obtain ⟨x, hi, hx⟩ := hi
    rcases hcase i x hi hx with ⟨h1, _⟩ | ⟨k4, _⟩
    · rw [hag i ⟨x, h1, hx⟩]; exact k2 i (hl0 i ⟨x, h1, hx⟩)
    · rw [k4, hid]
      rcases hwhere with k | k
      · rw [k] at hb; exact fun e => hb (by rw [e])
      · have := heap_lt' k1; omega
  refine ⟨H.ontoS ob0 hnew (fun i _ hi' => hag i hi') (fun _ _ _ h => h) (fun _ _ _ h => .inl ⟨_, _, h⟩) (H.below.grown hgb H.below.size hbase) ⟨fun i x hi hx => ?_, fun i j hi hj hij => ?_, fun b o v hv => ?_⟩ ⟨fun i hi => ?_, fun i hi => ?_, ?_⟩ hkeeps, ⟨y, G.new, hy⟩⟩
  · rcases hcase i x hi hx with ⟨hi, _⟩ | ⟨rfl, rfl⟩
    · obtain ⟨a1, ⟨rs, hrs, a2⟩, a3⟩ := H.mem.objs i x (hget0 i x hi hx) hx
      have hli : live ob0 i := ⟨x, hi, hx⟩
      have hx0 : x.ok (lv ρ ob0) := SO.ok_re (E := lv ρ ob) (m := lv ρ ob0) (fun _ h => liveB_iff h) (fun _ _ _ h => h) a3 (List.all_eq_true.1 hall x (List.mem_of_getElem? hi))
      rw [hag i hli]
      refine ⟨a1, ⟨rs, hrs, ?_⟩, SO.ok_mono hle hx0⟩
      rw [lies_agree hag hx0, hgb.block _ (heap_lt a2) (hapart i hli)]; exact a2
    · rw [hid]
      exact ⟨hbg, ⟨rest, hr, by rw [lies_agree hag hyok]; exact hg⟩, SO.ok_mono hle hyok⟩
  · obtain ⟨x, hi, hx⟩ := hi
    obtain ⟨z, hj, hz⟩ := hj
    rcases hcase i x hi hx with ⟨h1, _⟩ | ⟨k1, _⟩ <;> rcases hcase j z hj hz with ⟨h2, _⟩ | ⟨k2, _⟩
    · rw [hag i ⟨x, h1, hx⟩, hag j ⟨z, h2, hz⟩] at hij
      exact H.mem.injs _ _ (hl0 _ ⟨x, h1, hx⟩) (hl0 _ ⟨z, h2, hz⟩) hij
    · rw [hag i ⟨x, h1, hx⟩, k2, hid] at hij
      exact absurd hij (hgne i ⟨x, h1, hx⟩)
    · rw [hag j ⟨z, h2, hz⟩, k1, hid] at hij
      exact absurd hij.symm (hgne j ⟨z, h2, hz⟩)
    · rw [k1, k2]
  · obtain ⟨k1, k2, k3⟩ := hfrb b o v hv
    refine ⟨?_, fun i hi => ?_⟩
    · simp only [World.cell?] at k3 ⊢
      rw [hgb.block _ k2 k1]; exact k3
    · obtain ⟨x, hi, hx⟩ := hi
      rcases hcase i x hi hx with ⟨h1, _⟩ | ⟨k4, _⟩
      · rw [hag i ⟨x, h1, hx⟩]; exact (H.mem.frz b o v hv).2 i (hl0 i ⟨x, h1, hx⟩)
      · rw [k4, hid]
        rcases hwhere with k | k
        · rw [k] at k1; exact fun e => k1 (by rw [e])
        · omega
  · have hlt : i < W0.ob.length := by obtain ⟨x, h1, _⟩ := hi; exact ob_lt h1
    have hni : i ≠ id := by have := G.far; omega
    rcases H.kept.1 i hi with ⟨k1, k2⟩ | k
    · rcases hob with ⟨_, rfl⟩ | ⟨o, x, ho, hx, rfl, _⟩
      · exact .inl ⟨hnew i k1, by rw [hag i k1, k2]⟩
      · by_cases e : i = o
        · subst e
          exact .inr (by rw [G.old i hni]; simp [ob_lt ho])
        · have hli : live (ob.set o .dead) i := live_dead.2 ⟨k1, e⟩
          exact .inl ⟨hnew i hli, by rw [hag i hli, k2]⟩
    · refine .inr ?_
      rw [G.old i hni]
      rcases hob with ⟨_, rfl⟩ | ⟨o, x, ho, hx, rfl, _⟩
      · exact k
      · have : o ≠ i := by rintro rfl; rw [ho] at k; cases k; cases hx
        rw [List.getElem?_set_ne this]; exact k
  · have k := H.kept.2.1 i hi
    have hlt := ob_lt hi
    rw [G.old i (by have := G.far; omega)]
    rcases hob with ⟨_, rfl⟩ | ⟨o, x, ho, hx, rfl, _⟩
    · exact k
    · have : o ≠ i := by rintro rfl; rw [ho] at k; cases k; cases hx
      rw [List.getElem?_set_ne this]; exact k
  · exact Nat.le_trans H.kept.2.2 G.len
theorem Holds.frozen (H : Holds W0 ρ tm ob a w) (F : Nat → Nat → Value → Prop) (hF : ∀ b o v, F b o v → w.cell? ⟨b, o, none⟩ = some v ∧ ∀ i, live ob i → ρ i ≠ b) (hB : ∀ b o v, F b o v → (∃ o u, ρ.fz b o u) ∨ W0.w.heap.size ≤ b) : Holds W0 ⟨ρ.pos, fun b o v => ρ.fz b o v ∨ F b o v⟩ tm ob a w := by
  have hle : Env.le (lv ρ ob) (lv ⟨ρ.pos, fun b o v => ρ.fz b o v ∨ F b o v⟩ ob) := ⟨fun _ h => h, fun _ _ _ h => .inl h⟩
  refine ⟨H.size, fun t => Agree.sv (n := lv ρ ob) (ρ := ρ) (fun _ _ => rfl) (H.bnd t) (H.rep t), fun t => SV.bnd_mono hle (H.bnd t), H.defers, H.below, ⟨fun i x hi hx => ?_, H.mem.injs, fun b o v hv => ?_⟩, H.kept, fun p hp => ?_, ⟨fun b o v h => .inl (H.fzs.le b o v h), fun b o v h => h.elim (H.fzs.own b o v) fun h => (hB b o v h).elim (fun ⟨_, _, h⟩ => H.fzs.own b _ _ h) .inr⟩, H.keeps⟩
  · obtain ⟨a1, a2, a3⟩ := H.mem.objs i x hi hx
    have e := lies_agree (ρ := ρ) (ρ' := ⟨ρ.pos, fun b o v => ρ.fz b o v ∨ F b o v⟩) (E := lv ρ ob) (fun _ _ => rfl) a3
    obtain ⟨rest, r1, r2⟩ := a2
    exact ⟨a1, ⟨rest, r1, by rw [e]; exact r2⟩, SO.ok_mono hle a3⟩
  · rcases hv with hv | hv
    · exact H.mem.frz b o v hv
    · exact hF b o v hv
  · obtain ⟨g1, g2⟩ := H.gl p hp
    exact ⟨fun k hk => SK.bnd_mono (n := ⟨fun _ => False, ρ.fz⟩) (m := ⟨fun _ => False, fun b o v => ρ.fz b o v ∨ F b o v⟩) ⟨fun _ x => x, fun _ _ _ h => .inl h⟩ (g1 k hk), fun o v h => .inl (g2 o v h)⟩
theorem conc_posC {ρ : Rho} {F : Nat → Nat → Value → Prop} : ∀ x : SC, SC.conc ⟨ρ.pos, F⟩ x = SC.conc ρ x
  | .fn f caps => by
    simp only [SC.conc]
    rw [List.map_congr_left fun c _ => show PV.conc ⟨ρ.pos, F⟩ c = PV.conc ρ c by cases c <;> rfl]
  | .num _ _ | .bit _ | .val _ | .ptr _ _ | .pti _ _ _ _ | .sl _ _ _ _ | .sls _ _ _ _ _ | .ptw _ _ _ _ | .slw _ _ _ _ _ | .xs _ _ _ _ _ | .px _ _ _ | .ifc _ _ _ | .mpr _ => rfl
theorem conc_pos {ρ : Rho} {F : Nat → Nat → Value → Prop} : ∀ x : SA, SA.conc ⟨ρ.pos, F⟩ x = SA.conc ρ x
  | .sc c => conc_posC c
  | .agg ks => by
    simp only [SA.conc, concs]
    rw [List.map_congr_left fun c _ => conc_posC (ρ := ρ) (F := F) c]
theorem headOf_sound (H : Holds W0 ρ tm ob a w) {size n : Nat} {e : TypeId} {s : SA} {qs : List Prop} {old : List SK} {ob1 : List SO} (h : headOf ob size e s = some (n, qs, old, ob1)) (hq : Ok qs) :
    w.ownsRow W0.w.heap.size e size (s.conc ρ) n (concs ρ old) ∧ Killed ρ ob ob1 (s.conc ρ) ∧ ∀ k ∈ old, k.bnd (lv ρ ob) := by
  unfold headOf at h
  split at h
  · simp only [Option.some.injEq, Prod.mk.injEq] at h
    obtain ⟨rfl, rfl, rfl, rfl⟩ := h
    exact ⟨World.ownsRow_nil w _ e size, .inl ⟨rfl, rfl⟩, fun k hk => by cases hk⟩
  · rename_i o m cap
    split at h
    · rename_i e' ks sp ho
      split at h
      · rename_i hc
        obtain ⟨c1, c2⟩ := hc
        have c1 := Nat.eq_of_beq_eq_true c1
        have c2 := Nat.eq_of_beq_eq_true c2
        subst c1
        simp only [Option.some.injEq, Prod.mk.injEq] at h
        obtain ⟨rfl, rfl, rfl, rfl⟩ := h
        obtain ⟨⟨q0, q1, q2⟩, _⟩ := hq
        obtain ⟨h1, ⟨rest, hr, h2⟩, h3, h4⟩ := H.mem.obj o e' ks sp ho
        have hl : (concs ρ ks).length = m * size := by simp [concs, c2]
        refine ⟨⟨hl, .inr ⟨ρ o, cap, _, rfl, h1, h2, q0, q1, ?_, ?_⟩⟩, .inr ⟨o, _, ho, rfl, rfl, rfl⟩, h3⟩
        · simp only [List.size_toArray, List.length_append, hl, hr, q2]
        · simp only [← hl, List.take_left]
      · split at h
        case h_2 => cases h
        rename_i hz
        rw [Bool.and_eq_true] at hz
        have c1 := Nat.eq_of_beq_eq_true hz.1
        have c2 := Nat.eq_of_beq_eq_true hz.2
        subst c1 c2
        simp only [Option.some.injEq, Prod.mk.injEq] at h
        obtain ⟨rfl, rfl, rfl, rfl⟩ := h
        obtain ⟨⟨q1, q2⟩, _⟩ := hq
        obtain ⟨h1, ⟨rest, hr, h2⟩, h3, h4⟩ := H.mem.obj o e' ks sp ho
        have hl : (concs ρ ks).length = (flat ks).length := by simp [concs]
        refine ⟨⟨by simp [concs, flat], .inr ⟨ρ o, cap, _, rfl, h1, h2, Nat.zero_le _, q1, ?_, ?_⟩⟩, .inr ⟨o, _, ho, rfl, rfl, rfl⟩, fun k hk => by cases hk⟩
        · simp only [List.size_toArray, List.length_append, hl, hr, q2]
        · simp [concs, flat]
    · cases h
  · cases h
theorem tailOf_sound (H : Holds W0 ρ tm ob a w) {size m : Nat} {x : SA} {new : List SK} (h : tailOf ob size x = some (m, new)) : (concs ρ new).length = m * size ∧ ∃ ad c, x.conc ρ = .slice (some ad) m c ∧ (∀ j u, (concs ρ new)[j]? = some u → w.cell? (ad.add j) = some u) ∧ ∀ k ∈ new, k.bnd (lv ρ ob) := by
  unfold tailOf at h
  split at h
  · rename_i o off m' cap
    split at h
    · rename_i e ks sp ho
      obtain ⟨r, hr, he⟩ := Option.map_eq_some_iff.1 h
      simp only [Prod.mk.injEq] at he
      obtain ⟨rfl, rfl⟩ := he
      obtain ⟨h1, ⟨rest, _, h2⟩, h3, h4⟩ := H.mem.obj o e ks sp ho
      obtain ⟨l1, l2⟩ := concs_sub hr ρ
      refine ⟨by rw [l2]; simp; omega, ⟨ρ o, off, none⟩, cap, rfl, fun j u hj => ?_, bnd_flat.2 (mem_sub hr (bnd_flat.1 h3))⟩
      rw [l2, List.getElem?_take] at hj
      split at hj
      · rename_i hlt
        rw [List.getElem?_drop] at hj
        simp only [add_addr, World.cell?, h2]
        rw [show (concs ρ ks ++ rest).toArray[off + j]? = (concs ρ ks ++ rest)[off + j]? by simp, List.getElem?_append_left (by omega)]
        exact hj
      · cases hj
    · cases h
  · cases h
theorem grew_end (hkn : W0.ob.length ≤ ob.length) {ob0 : List SO} (hl : ob0.length = ob.length) (y : SO) : Grew W0 ob ob0 y ob0.length (ob0 ++ [y]) := by
  refine ⟨by simp, fun i hi => ?_, fun ⟨x, h, _⟩ => ?_, by omega, by simp; omega⟩
  · rcases Nat.lt_or_ge i ob0.length with h | h
    · rw [List.getElem?_append_left h]
    · rw [List.getElem?_eq_none h, List.getElem?_eq_none (by simp; omega)]
  · have := ob_lt h; omega
theorem Killed.length {ob0 : List SO} {v0 : Value} (h : Killed ρ ob ob0 v0) : ob0.length = ob.length := by
  rcases h with ⟨_, rfl⟩ | ⟨o, x, _, _, rfl, _⟩ <;> simp
theorem app_sound (H : Holds W0 ρ tm ob a w) {ts : List TypeId} {ty : TypeId} {s x : SA} {qs : List Prop} {e : TypeId} {size n : Nat} {ks : List SK} {ob1 : List SO} (h : appPlan P ob ts s x = some (qs, e, size, n, ks, ob1)) (hq : Ok qs) :
    ∃ v w' c ρ', (Builtin.append_ ts.toArray ty #[s.conc ρ, x.conc ρ]).run P w = .ok v w' ∧ n + c ≤ maxLen ∧ v = SA.conc ρ' (.sc (.sl ob1.length 0 n (n + c))) ∧ live (ob1 ++ [.cells e ks (c * size)]) ob1.length ∧
      Holds W0 ρ' (scrub ob1 tm) (ob1 ++ [.cells e ks (c * size)]) a w' := by
  unfold appPlan at h
  split at h
  case h_2 => cases h
  rename_i t t'
  split at h
  case isFalse => cases h
  rename_i htt
  have htt := Nat.eq_of_beq_eq_true htt
  subst htt
  split at h
  case h_2 => cases h
  rename_i e0 hu
  split at h
  case h_2 => cases h
  rename_i ie hie
  split at h
  case h_2 => cases h
  rename_i z hz
  split at h
  case h_2 => cases h
  rename_i m new n0 qs0 old ob0 ht hh
  split at h
  case isFalse => cases h
  rename_i hc
  simp only [Option.some.injEq, Prod.mk.injEq] at h
  obtain ⟨rfl, rfl, rfl, rfl, rfl, rfl⟩ := h
  obtain ⟨c1, c2, c3, c4, c5, c6, c7, c8, c9⟩ := hc
  obtain ⟨hown, hob, hbo⟩ := headOf_sound H hh hq
  obtain ⟨tl, ad, cp, hx, hcells, hbn⟩ := tailOf_sound H ht
  have hfit : ∀ u ∈ concs ρ new, u.oneCell' = true := concs_fit (fun k hk => List.all_eq_true.1 c6 k hk) ρ
  obtain ⟨v, w', hrun, hown', hgb, hnil, hwhere⟩ := run_append_own_at (P := P) w W0.w.heap.size t ty e0 ie z ie.size ie.bytes hu hie hz rfl rfl c1 c2 (s.conc ρ) n0 (concs ρ old) hown ad m cp (concs ρ new) tl hcells hfit c4 c5 H.below.size
  have hv : v ≠ .slice none 0 0 := fun e => c3 (hnil.1 e).2
  obtain ⟨hl', h2⟩ := hown'
  rcases h2 with ⟨e, _⟩ | ⟨g, cap, cur, rfl, hbg, hg, hnc, hcm, hcs, htk⟩
  · exact absurd e hv
  have hlen : (concs ρ old ++ concs ρ new).length = (n0 + m) * ie.size := hl'
  have hcc : concs ρ (old ++ new) = concs ρ old ++ concs ρ new := by simp [concs, flat_append]
  have hsp : (cap - (n0 + m)) * ie.size = cur.size - (n0 + m) * ie.size := by rw [hcs, Nat.sub_mul]
  have hcap : n0 + m + (cap - (n0 + m)) = cap := by omega
  have hb0 : ∀ k ∈ old ++ new, k.bnd (lv ρ ob0) := all_bnd c8 (fun k hk => by
    rcases List.mem_append.1 hk with hk | hk
    · exact hbo k hk
    · exact hbn k hk)
  have hw2 : (s.conc ρ).ownBlock = some g ∨ g = w.heap.size := by
    have k' : (Value.slice (some ⟨g, 0, none⟩) (n0 + m) cap).ownBlock = some g := rfl
    rw [k'] at hwhere
    rcases hwhere with k | k
    · exact .inl k.symm
    · simp only [Option.some.injEq] at k; exact .inr k
  obtain ⟨H', hlv⟩ := H.appended hob hgb hbg hw2 c9 (y := .cells e0 (old ++ new) ((cap - (n0 + m)) * ie.size)) rfl ⟨hb0, fun k hk => by
      rcases List.mem_append.1 hk with hk | hk
      · exact List.all_eq_true.1 c7 k hk
      · exact List.all_eq_true.1 c6 k hk⟩ (rest := cur.toList.drop ((n0 + m) * ie.size)) (by simp [hsp, SO.spare]) (by
      show _ = some (Obj.cells (concs ρ (old ++ new) ++ _).toArray e0 (0, 0))
      rw [hg, hcc, ← htk, List.take_append_drop, Array.toArray_toList]) (grew_end (by have := H.kept.2.2; omega) hob.length _)
  refine ⟨.slice (some ⟨g, 0, none⟩) (n0 + m) cap, w', cap - (n0 + m), _, ?_, by omega, ?_, hlv, H'⟩
  · rw [hx]; exact hrun
  · simp [SA.conc, SC.conc, grown, hcap]
theorem grow_sound (H : Holds W0 ρ tm ob a w) {ts : List TypeId} {ty : TypeId} {s x : SA} {e : TypeId} {size n : Nat} {ks : List SK} (h : growPlan P ob ts s x = some (e, size, n, ks)) :
    ∃ v w' c ρ', (Builtin.append_ ts.toArray ty #[s.conc ρ, x.conc ρ]).run P w = .ok v w' ∧ n + c ≤ maxLen ∧ v = SA.conc ρ' (.sc (.sl ob.length 0 n (n + c))) ∧ live (ob ++ [.cells e ks (c * size)]) ob.length ∧
      Holds W0 ρ' (scrub ob tm) (ob ++ [.cells e ks (c * size)]) a w' := by
  unfold growPlan at h
  split at h
  case h_2 => cases h
  rename_i t t'
  split at h
  case h_2 => cases h
  rename_i e0 kn k0 n0 hu htn hx
  split at h
  case h_2 => cases h
  rename_i ie ks0 hie hmk
  split at h
  case isFalse => cases h
  rename_i hc
  obtain ⟨c1, c2, c3, c4, c5, c6⟩ := hc
  simp only [Option.some.injEq, Prod.mk.injEq] at h
  obtain ⟨rfl, rfl, rfl, rfl⟩ := h
  have hb := (semMake_sound (kl := .i64) (kc := .i64) hu hmk ρ w).2
  unfold semMake at hmk
  split at hmk
  case h_2 => cases hmk
  rename_i ie' zk hie' hzk
  rw [hie] at hie'
  cases hie'
  split at hmk
  case isFalse => cases hmk
  rename_i hc2
  obtain ⟨_, _, _, d6⟩ := hc2
  simp only [Option.some.injEq] at hmk
  subst hmk
  unfold zeroKs at hzk
  split at hzk
  case h_2 => cases hzk
  rename_i z hz
  rw [hie] at hz
  simp only [Option.bind_some] at hz
  simp only [Option.some.injEq] at hzk
  have hcz : concs ρ zk = z.cells.toList := by rw [← hzk, litCs_conc]
  have hsz : z.cells.size = ie.size := by
    have := congrArg List.length hcz
    simp only [concs, List.length_map, Array.length_toList] at this
    omega
  have hzc : (Builtin.zeroCells z.cells n0.toNat).toList = concs ρ (repKs zk n0.toNat) := by
    unfold Builtin.zeroCells
    rw [rows_zero, concs_rep, hcz]
  obtain ⟨m, hm⟩ := Int.eq_ofNat_of_zero_le (Int.le_of_lt c2)
  subst hm
  rw [Int.toNat_natCast] at *
  have hm0 : 0 < m := by omega
  have hrun := Go.Lib.run_append_nil_zeros (P := P) w t t' ty e0 ie z k0 kn hu htn hie hz m hm0 c1 (by simp only [maxLen] at c3; omega) (by omega)
  have hge := grownCap_ge w m 0 e0
  have hle := grownCap_le_maxLen w m 0 e0 (by omega)
  generalize grownCap w m 0 e0 = cap at hrun hge hle
  have hnew : (w.drew.alloc (.cells (Builtin.zeroCells z.cells m ++ Builtin.zeroCells z.cells (cap - m)) e0)).heap[w.heap.size]? = some (.cells (Builtin.zeroCells z.cells m ++ Builtin.zeroCells z.cells (cap - m)) e0 (0, 0)) := heap_alloc_new w.drew _
  obtain ⟨H', hlv⟩ := H.appended (v0 := .slice none 0 0) (ob0 := ob) (.inl ⟨rfl, rfl⟩) (w' := w.drew.alloc (.cells (Builtin.zeroCells z.cells m ++ Builtin.zeroCells z.cells (cap - m)) e0)) ⟨rfl, rfl, rfl, by simp, fun k hk _ => heap_alloc_old w.drew _ hk⟩ (g := w.heap.size) H.below.size (.inr rfl) c6
    (y := .cells e0 (repKs zk m) ((cap - m) * ie.size)) rfl ⟨hb _, fun k hk => List.all_eq_true.1 c5 k hk⟩ (rest := (Builtin.zeroCells z.cells (cap - m)).toList) (by simp [Builtin.zeroCells, hsz, SO.spare]) (by
      show _ = some (Obj.cells (concs ρ (repKs zk m) ++ _).toArray e0 (0, 0))
      rw [hnew, ← hzc, ← Array.toList_append, Array.toArray_toList]) (grew_end H.kept.2.2 rfl _)
  refine ⟨.slice (some ⟨w.heap.size, 0, none⟩) m cap, _, cap - m, _, ?_, by omega, ?_, hlv, H'⟩
  · rw [asI_sound hx ρ]
    exact hrun
  · have : m + (cap - m) = cap := by omega
    simp [SA.conc, SC.conc, grown, this]
theorem cpy_sound (H : Holds W0 ρ tm ob a w) {ts : List TypeId} {ty : TypeId} {s x : SA} {qs : List Prop} {z : SA} {ob1 : List SO} (h : cpyPlan P ob ts s x = some (qs, z, ob1)) :
    ∃ w', (Builtin.copy_ ts.toArray ty #[s.conc ρ, x.conc ρ]).run P w = .ok (z.conc ρ) w' ∧ z.bnd (lv ρ ob1) ∧ Holds W0 ρ (scrub ob1 tm) ob1 a w' := by
  have fin : ∀ {ob1 : List SO} {w' : World}, Holds W0 ρ tm ob1 a w' → Holds W0 ρ (scrub ob1 tm) ob1 a w' := fun H1 => H1.onto (fun _ _ _ => rfl) (fun _ _ _ h => h) (fun _ _ _ h => .inl ⟨_, _, h⟩) H1.below H1.mem H1.kept H1.keeps
  unfold cpyPlan at h
  split at h
  case h_2 => cases h
  rename_i t ts'
  split at h
  case h_2 => cases h
  rename_i e hu
  split at h
  case h_2 => cases h
  rename_i ie hie
  split at h
  case h_2 => cases h
  rename_i o off n cap
  split at h
  case h_2 => cases h
  rename_i e' ks sp ho
  obtain ⟨h1, ⟨rest, hrest, h2⟩, h3, h4⟩ := H.mem.obj o e' ks sp ho
  have hkl : (concs ρ ks).length = (flat ks).length := by simp [concs]
  split at h
  · rename_i o2 off2 m cap2
    split at h
    case h_2 => cases h
    rename_i e2 ks2 sp2 ho2
    split at h
    case h_2 => cases h
    rename_i new hnw
    split at h
    case isFalse => cases h
    rename_i hf
    obtain ⟨r, hr, he⟩ := Option.map_eq_some_iff.1 h
    simp only [Prod.mk.injEq] at he
    obtain ⟨rfl, rfl, rfl⟩ := he
    obtain ⟨l1, l2⟩ := lay_flat hr
    obtain ⟨g1, ⟨rest2, _, g2⟩, g3, g4⟩ := H.mem.obj o2 e2 ks2 sp2 ho2
    obtain ⟨s1, s2⟩ := concs_sub hnw ρ
    have hlen : (concs ρ new).length = Nat.min m n * ie.size := by rw [s2]; simp; omega
    have hfl : (flat new).length = (concs ρ new).length := by simp [concs]
    have hfit : ∀ u ∈ concs ρ new, u.oneCell' = true := concs_fit (fun k hk => List.all_eq_true.1 hf k hk) ρ
    have hload := run_loadCells_list (P := P) w ⟨ρ o2, off2, none⟩ (concs ρ new) (fun j u hj => by
      rw [s2, List.getElem?_take] at hj
      split at hj
      · rename_i hlt
        rw [List.getElem?_drop] at hj
        simp only [add_addr, World.cell?, g2]
        rw [show (concs ρ ks2 ++ rest2).toArray[off2 + j]? = (concs ρ ks2 ++ rest2)[off2 + j]? by simp, List.getElem?_append_left (by omega)]
        exact hj
      · cases hj)
    have hst := run_storeCells_at (P := P) (ρ o) off e' (concs ρ new) 0 (concs ρ ks ++ rest).toArray w h2 (by simp; omega) hfit
    have hnew : ((concs ρ ks ++ rest).toArray.toList.take (off + 0) ++ concs ρ new ++ (concs ρ ks ++ rest).toArray.toList.drop (off + 0 + (concs ρ new).length)).toArray = (concs ρ r ++ rest).toArray := by
      congr 1
      simp only [Nat.add_zero]
      rw [List.take_append_of_le_length (by omega), List.drop_append_of_le_length (by omega), ← hfl]
      simp only [concs, l2, List.map_append, List.map_take, List.map_drop, List.append_assoc]
    rw [hnew] at hst
    refine ⟨_, ?_, trivial, fin (H.turned ho hrest h2 (bnd_flat.2 (lay_all hr (bnd_flat.1 h3) (fun c hc => mem_sub hnw (bnd_flat.1 g3) c hc))) (fit_flat.2 (lay_all hr (fit_flat.1 h4) (fun c hc => mem_sub hnw (fit_flat.1 g4) c hc))))⟩
    rw [show SA.conc ρ (.sc (.sl o off n cap)) = .slice (some ⟨ρ o, off, none⟩) n cap from rfl, show SA.conc ρ (.sc (.sl o2 off2 m cap2)) = .slice (some ⟨ρ o2, off2, none⟩) m cap2 from rfl]
    rw [hlen, show ie.size = P.cellsOf e by simp [Program.cellsOf, hie]] at hload
    simp [Builtin.copy_, run_underlying hu, Builtin.lenOf, Builtin.firstCells, run_sizeOf w hie, hload, goInt, SA.conc, SC.conc, hst]
  · cases h
theorem fixAt_spec (fs : List SC) (size : Nat) (hb : ∀ c ∈ fs, ∀ {E : Env}, c.bnd E → c.bnd E.bare) (hf : ∀ c ∈ fs, c.fit = true) {E : Env} (he : ∀ c ∈ fs, c.bnd E) : ∀ (n j i c : Nat), j ≤ i → i < j + n → c < size → (j + n) * size = fs.length →
    (fixAt fs size n j i c).conc Rho.nil = (fs.getD (i * size + c) (.bit false)).conc Rho.nil ∧ (fixAt fs size n j i c).bnd E.bare ∧ (fixAt fs size n j i c).fit = true := by
  have mem : ∀ {i c : Nat}, i * size + c < fs.length → (fs.getD (i * size + c) (.bit false)).bnd E.bare ∧ (fs.getD (i * size + c) (.bit false)).fit = true := by
    intro i c h
    have hm : fs.getD (i * size + c) (.bit false) ∈ fs := by rw [List.getD_eq_getElem?_getD, List.getElem?_eq_getElem h]; exact List.getElem_mem _
    exact ⟨hb _ hm (he _ hm), hf _ hm⟩
  have lt : ∀ {i c n : Nat}, i < n → c < size → n * size = fs.length → i * size + c < fs.length := by
    intro i c n h1 h2 h3
    rw [← h3]
    calc i * size + c < i * size + size := by omega
      _ = (i + 1) * size := by rw [Nat.succ_mul]
      _ ≤ n * size := Nat.mul_le_mul_right size h1
  intro n
  induction n with
  | zero => intro j i c h1 h2; omega
  | succ n ih =>
    intro j i c h1 h2 hc hl
    have hi := lt (i := i) (c := c) h2 hc hl
    have hj := lt (i := j) (c := c) (n := j + (n + 1)) (by omega) hc hl
    cases n with
    | zero =>
      have : i = j := by omega
      subst this
      exact ⟨rfl, mem hi⟩
    | succ n =>
      simp only [fixAt]
      by_cases e : i = j
      · subst e
        refine ⟨by rw [selC_conc]; simp, selC_ok _ _ _ (fun _ => mem hi) (fun h => by simp at h)⟩
      · obtain ⟨k1, k2, k3⟩ := ih (j + 1) i c (by omega) (by omega) hc (by rw [← hl]; congr 1; omega)
        refine ⟨by rw [selC_conc]; simp only [e, decide_false, cond_false]; exact k1, selC_ok _ _ _ (fun h => by simp [e] at h) (fun _ => ⟨k2, k3⟩)⟩
structure Reads (w : World) (E : Env) (v : Value) (size m : Nat) (g : Nat → Nat → SC) : Prop where
  at' : ∃ a c, v = .slice a m c ∧ (a = none → m = 0 ∧ c = 0) ∧ ∀ ad, a = some ad → ∀ j u, (rowc size m g)[j]? = some u → w.cell? (ad.add j) = some u
  ok : rowOK E size m g
theorem rowc_at {size m : Nat} {g : Nat → Nat → SC} {j : Nat} {u : Value} (h : (rowc size m g)[j]? = some u) : ∃ i c, i < m ∧ c < size ∧ j = i * size + c ∧ u = (g i c).conc Rho.nil := by
  have hlt := (List.getElem?_eq_some_iff.1 h).1
  rw [rowc_length] at hlt
  have hw : 0 < size := by rcases Nat.eq_zero_or_pos size with e | e; subst e; simp at hlt; exact e
  have hi : j / size < m := Nat.div_lt_of_lt_mul (by rw [Nat.mul_comm]; exact hlt)
  have hc : j % size < size := Nat.mod_lt _ hw
  have hm : j / size * size + j % size = j := by rw [Nat.mul_comm]; exact Nat.div_add_mod j size
  have h2 := rowc_get (g := g) hi hc
  rw [hm, h] at h2
  exact ⟨j / size, j % size, hi, hc, hm.symm, by simpa using h2⟩
theorem bareC_bare {c : SC} (h : bareC c = true) {E : Env} (hb : c.bnd E) : c.bnd E.bare := (bareC_ok h hb).1
theorem tailG_sound (H : Holds W0 ρ tm ob a w) {size : Nat} {x : SA} (hx : x.bnd (lv ρ ob)) {ps : List Prop} {m : Nat} {g : Nat → Nat → SC} {lit : Bool} (h : tailG ob size x = some (ps, m, g, lit)) (hp : Ok ps) : Reads w (lv ρ ob) (x.conc ρ) size m g ∧ (lit = true → m ≠ 0) := by
  unfold tailG at h
  split at h
  · rename_i o k off m' cap
    split at h
    case h_2 => cases h
    rename_i e k' n g' sp ho
    split at h
    case h_2 => cases h
    rename_i hk
    simp only [Bool.and_eq_true] at hk
    have hk1 := Nat.eq_of_beq_eq_true hk.1
    have hk2 := Nat.eq_of_beq_eq_true hk.2
    subst hk1 hk2
    simp only [Option.some.injEq, Prod.mk.injEq] at h
    obtain ⟨rfl, rfl, rfl, rfl⟩ := h
    obtain ⟨hn, _⟩ := hp
    obtain ⟨_, ⟨rest, _, h2⟩, h3⟩ := H.mem.rows ho
    refine ⟨⟨⟨_, _, rfl, fun e => (by cases e), fun ad had j u hj => ?_⟩, fun i hi c hc => h3 (off + i) (by omega) c hc⟩, fun e => by cases e⟩
    simp only [Option.some.injEq] at had
    subst had
    obtain ⟨i, c, hi, hc, rfl, rfl⟩ := rowc_at hj
    rw [add_addr]
    simp only [World.cell?, h2]
    have := rowc_get (w := k') (n := n) (g := g') (i := off + i) (c := c) (by omega) hc
    simp only [Option.isSome_none, Bool.false_eq_true, if_false, List.getElem?_toArray]
    rw [show off * k' + (i * k' + c) = (off + i) * k' + c by rw [Nat.add_mul]; omega, List.getElem?_append_left (List.getElem?_eq_some_iff.1 this).1]
    exact this
  · rename_i a' m' cap k g'
    split at h
    case h_2 => cases h
    rename_i hk
    have hk := Nat.eq_of_beq_eq_true hk
    subst hk
    simp only [Option.some.injEq, Prod.mk.injEq] at h
    obtain ⟨rfl, rfl, rfl, rfl⟩ := h
    obtain ⟨q1, q2, q3⟩ := hx
    refine ⟨⟨⟨a', cap, rfl, q1, fun ad had j u hj => ?_⟩, fun i hi c hc => ?_⟩, fun e => by cases e⟩
    · obtain ⟨r1, r2⟩ := q3 ad had
      obtain ⟨i, c, hi, hc, rfl, rfl⟩ := rowc_at hj
      rw [fz_add (r1 (by omega))]
      exact (H.mem.frz _ _ _ (r2 i hi c hc).2.2).1
    · cases a' with
      | none => have := (q1 rfl).1; omega
      | some ad => obtain ⟨r1, r2⟩ := q3 ad rfl; exact ⟨(r2 i hi c hc).1, (r2 i hi c hc).2.1⟩
  · rename_i o off m' cap
    split at h
    case h_2 => cases h
    rename_i e ks sp ho
    split at h
    case h_2 => cases h
    rename_i cs hs
    split at h
    case isFalse =>
      split at h
      case h_2 => cases h
      rename_i k hk
      split at h
      case isFalse => cases h
      rename_i hc
      obtain ⟨ha, rfl, hm0⟩ := hc
      simp only [Option.some.injEq, Prod.mk.injEq] at h
      obtain ⟨rfl, rfl, rfl, rfl⟩ := h
      obtain ⟨_, ⟨rest, _, h2⟩, _, _⟩ := H.mem.obj o e ks sp ho
      obtain ⟨l1, l2⟩ := concs_sub hs ρ
      have hlen : (flat cs).length = m' := by
        obtain ⟨a, b⟩ := sub_flat hs
        rw [b]; simp; omega
      refine ⟨⟨⟨_, _, rfl, fun e => (by cases e), fun ad had j u hj => ?_⟩, fun i hi c hc => ⟨trivial, rfl⟩⟩, fun _ => hm0⟩
      simp only [Option.some.injEq] at had
      subst had
      obtain ⟨i, c, hi', hc, rfl, rfl⟩ := rowc_at hj
      have : c = 0 := by omega
      subst this
      have := selG_conc ha ρ (j := i) (by omega)
      rw [l2, List.getElem?_take, if_pos (by omega), List.getElem?_drop] at this
      rw [add_addr]
      simp only [World.cell?, h2, Option.isSome_none, Bool.false_eq_true, if_false, List.getElem?_toArray]
      rw [List.getElem?_append_left (by omega), Nat.mul_one, Nat.add_zero, this]
      rfl
    rename_i hc
    obtain ⟨c1, c2, _⟩ := hc
    simp only [Option.some.injEq, Prod.mk.injEq] at h
    obtain ⟨rfl, rfl, rfl, rfl⟩ := h
    obtain ⟨_, ⟨rest, _, h2⟩, h3, h4⟩ := H.mem.obj o e ks sp ho
    obtain ⟨l1, l2⟩ := sub_flat hs
    have hl : (flat cs).length = m' * size := by rw [l2]; simp; omega
    have spec := fixAt_spec (flat cs) size (fun c hc => fun {E} hb => bareC_bare (List.all_eq_true.1 c1 c hc) hb) (fun c hc => (bareC_ok (E := lv ρ ob) (List.all_eq_true.1 c1 c hc) (mem_sub hs (bnd_flat.1 h3) c hc)).2) (E := lv ρ ob) (fun c hc => mem_sub hs (bnd_flat.1 h3) c hc) m' 0
    refine ⟨⟨⟨_, _, rfl, fun e => (by cases e), fun ad had j u hj => ?_⟩, fun i hi c hc => (spec i c (by omega) (by omega) hc (by rw [hl, Nat.zero_add])).2⟩, fun _ => c2⟩
    simp only [Option.some.injEq] at had
    subst had
    obtain ⟨i, c, hi, hc, rfl, rfl⟩ := rowc_at hj
    rw [add_addr, (spec i c (by omega) (by omega) hc (by rw [hl, Nat.zero_add])).1]
    simp only [World.cell?, h2]
    have hlt : i * size + c < (flat cs).length := by
      rw [hl]
      calc i * size + c < i * size + size := by omega
        _ = (i + 1) * size := by rw [Nat.succ_mul]
        _ ≤ m' * size := Nat.mul_le_mul_right size hi
    have e1 : (flat cs)[i * size + c]? = (flat ks)[off + (i * size + c)]? := by rw [l2, List.getElem?_take, if_pos (by omega), List.getElem?_drop]
    have hbc := bareC_bare (List.all_eq_true.1 c1 _ (List.getElem_mem hlt)) (mem_sub hs (bnd_flat.1 h3) _ (List.getElem_mem hlt))
    simp only [Option.isSome_none, Bool.false_eq_true, if_false, List.getElem?_toArray]
    rw [List.getElem?_append_left (by simp only [concs, List.length_map]; omega), concs, List.getElem?_map, ← e1, List.getD_eq_getElem?_getD, List.getElem?_eq_getElem hlt, Option.map_some, Option.getD_some, conc_bare hbc ρ]
  · rename_i o base lo hi cap
    split at h
    case h_2 => cases h
    rename_i e ks sp ho
    split at h
    case h_2 => cases h
    rename_i cs hs
    split at h
    case h_2 => cases h
    rename_i k hk
    split at h
    case isFalse => cases h
    rename_i hc
    obtain ⟨ha, rfl⟩ := hc
    simp only [Option.some.injEq, Prod.mk.injEq] at h
    obtain ⟨rfl, rfl, rfl, rfl⟩ := h
    obtain ⟨hlo, _⟩ := hp
    obtain ⟨_, ⟨rest, _, h2⟩, _, _⟩ := H.mem.obj o e ks sp ho
    obtain ⟨l1, l2⟩ := concs_sub hs ρ
    have hlen : (flat cs).length = hi := by
      obtain ⟨a, b⟩ := sub_flat hs
      rw [b]; simp; omega
    refine ⟨⟨⟨_, _, rfl, fun e => (by cases e), fun ad had j u hj => ?_⟩, fun i hi c hc => ⟨trivial, rfl⟩⟩, fun e => by cases e⟩
    simp only [Option.some.injEq] at had
    subst had
    obtain ⟨i, c, hi', hc, rfl, rfl⟩ := rowc_at hj
    have : c = 0 := by omega
    subst this
    have := selG_conc ha ρ (j := lo + i) (by omega)
    rw [l2, List.getElem?_take, if_pos (by omega), List.getElem?_drop] at this
    rw [add_addr]
    simp only [World.cell?, h2, Option.isSome_none, Bool.false_eq_true, if_false, List.getElem?_toArray]
    rw [List.getElem?_append_left (by omega), Nat.mul_one, Nat.add_zero, Nat.add_assoc, this]
    rfl
  · simp only [Option.some.injEq, Prod.mk.injEq] at h
    obtain ⟨rfl, rfl, rfl, rfl⟩ := h
    exact ⟨⟨⟨none, 0, rfl, fun _ => ⟨rfl, rfl⟩, fun ad had => by cases had⟩, fun i hi => absurd hi (Nat.not_lt_zero _)⟩, fun e => by cases e⟩
  · cases h
theorem rowL_concs {ρ : Rho} {E : Env} {w n : Nat} {g : Nat → Nat → SC} (h : rowOK E w n g) : concs ρ (rowL w n g) = rowc w n g := by
  have fl : ∀ l : List SC, flat (l.map SK.c) = l := fun l => by
    induction l with
    | nil => rfl
    | cons a l ih => show [a] ++ flat (l.map SK.c) = a :: l; rw [ih]; rfl
  unfold rowL rowc concs
  have key : ∀ m, m ≤ n → (flat ((List.range m).flatMap fun i => (List.range w).map fun c => SK.c (g i c))).map (SC.conc ρ) = (List.range m).flatMap fun i => (List.range w).map fun c => (g i c).conc Rho.nil := by
    intro m
    induction m with
    | zero => intro _; rfl
    | succ m ih =>
      intro hm
      rw [List.range_succ, List.flatMap_append, List.flatMap_append, flat_append, List.map_append, ih (by omega)]
      congr 1
      simp only [List.flatMap_cons, List.flatMap_nil, List.append_nil]
      rw [show (List.range w).map (fun c => SK.c (g m c)) = ((List.range w).map fun c => g m c).map SK.c by rw [List.map_map]; rfl, fl, List.map_map]
      refine List.map_congr_left fun c hc => ?_
      exact conc_bare (h m (by omega) c (List.mem_range.1 hc)).1 ρ
  exact key n (Nat.le_refl n)
theorem rowL_mem {w n : Nat} {g : Nat → Nat → SC} {k : SK} (h : k ∈ rowL w n g) : ∃ i c, i < n ∧ c < w ∧ k = .c (g i c) := by
  unfold rowL at h
  obtain ⟨i, hi, hk⟩ := List.mem_flatMap.1 h
  obtain ⟨c, hc, rfl⟩ := List.mem_map.1 hk
  exact ⟨i, c, List.mem_range.1 hi, List.mem_range.1 hc, rfl⟩
theorem rowL_bare {E : Env} {c : SC} (h : c.bnd E.bare) {n : Nat → Bool} : SK.bndB n (.c c) = true := by
  show SC.bndB n c = true
  cases c <;> first | rfl | exact h.elim | skip
  rename_i f caps
  show caps.all (PV.bndB n) = true
  rw [List.all_eq_true]
  intro x hx
  have := h x hx
  cases x
  · rfl
  · exact this.elim
theorem xs_read (H : Holds W0 ρ tm ob a w) {ad : Option Addr} {n cap wd : Nat} {g : Nat → Nat → SC} (hx : SC.bnd (lv ρ ob) (.xs ad n cap wd g)) :
    rowOK (lv ρ ob) wd n g ∧ ∀ b, ad = some b → ∀ j u, (rowc wd n g)[j]? = some u → w.cell? (b.add j) = some u := by
  obtain ⟨q1, q2, q3⟩ := hx
  refine ⟨fun i hi c hc => ?_, fun b hb j u hj => ?_⟩
  · cases ad with
    | none => have := (q1 rfl).1; omega
    | some b => obtain ⟨r1, r2⟩ := q3 b rfl; exact ⟨(r2 i hi c hc).1, (r2 i hi c hc).2.1⟩
  · obtain ⟨r1, r2⟩ := q3 b hb
    obtain ⟨i, c, hi, hc, rfl, rfl⟩ := rowc_at hj
    rw [fz_add (r1 (by omega))]
    exact (H.mem.frz _ _ _ (r2 i hi c hc).2.2).1
theorem growZ_sound (H : Holds W0 ρ tm ob a w) {wd : Bool} {ts : List TypeId} {ty : TypeId} {s x : SA} {qs : List Prop} {e : TypeId} {size n : Nat} (h : growZ wd P ob ts s x = some (qs, e, size, n)) (hq : Ok qs) :
    ∃ v w' c ρ', (Builtin.append_ ts.toArray ty #[s.conc ρ, x.conc ρ]).run P w = .ok v w' ∧ n + c ≤ maxLen ∧ v = SA.conc ρ' (.sc (.slw ob.length size 0 n (n + c))) ∧ live (ob ++ [.row e size 0 (fun _ _ => .bit false) ((n + c) * size)]) ob.length ∧
      Holds W0 ρ' (scrub ob tm) (ob ++ [.row e size 0 (fun _ _ => .bit false) ((n + c) * size)]) a w' := by
  unfold growZ at h
  split at h
  case h_2 => cases h
  rename_i t t'
  split at h
  case h_2 => cases h
  split at h
  case h_2 => cases h
  rename_i e0 kn k0 v0 hu htn hx
  split at h
  case h_2 => cases h
  rename_i ie hie
  split at h
  case h_2 => cases h
  rename_i z hz
  split at h
  case isFalse => cases h
  rename_i hc
  obtain ⟨c1, c2, c6⟩ := hc
  simp only [Option.some.injEq, Prod.mk.injEq] at h
  obtain ⟨rfl, rfl, rfl, rfl⟩ := h
  obtain ⟨q1, q2, q3⟩ : 0 < v0 ∧ v0 ≤ (maxLen : Int) ∧ v0 * (ie.bytes : Int) ≤ 281474976710656 := by
    cases wd with
    | false => exact ⟨hq.1.1, hq.1.2.1, by have := hq.1.2.2; omega⟩
    | true => exact hq.1
  obtain ⟨m, hm⟩ := Int.eq_ofNat_of_zero_le (Int.le_of_lt q1)
  subst hm
  rw [Int.toNat_natCast]
  have hm0 : 0 < m := by omega
  have q3' : m * ie.bytes ≤ 281474976710656 := by
    rw [← Int.natCast_mul] at q3
    omega
  have hrun := Go.Lib.run_append_nil_zeros (P := P) w t t' ty e0 ie z k0 kn hu htn hie hz m hm0 c2 (by simp only [maxLen] at q2; omega) (by omega)
  have hge := grownCap_ge w m 0 e0
  have hle := grownCap_le_maxLen w m 0 e0 (by omega)
  generalize grownCap w m 0 e0 = cap at hrun hge hle
  have hcap : m + (cap - m) = cap := by omega
  have hnew : (w.drew.alloc (.cells (Builtin.zeroCells z.cells m ++ Builtin.zeroCells z.cells (cap - m)) e0)).heap[w.heap.size]? = some (.cells (Builtin.zeroCells z.cells m ++ Builtin.zeroCells z.cells (cap - m)) e0 (0, 0)) := heap_alloc_new w.drew _
  obtain ⟨H', hlv⟩ := H.appended (v0 := .slice none 0 0) (ob0 := ob) (.inl ⟨rfl, rfl⟩) (w' := w.drew.alloc (.cells (Builtin.zeroCells z.cells m ++ Builtin.zeroCells z.cells (cap - m)) e0)) ⟨rfl, rfl, rfl, by simp, fun k hk _ => heap_alloc_old w.drew _ hk⟩ (g := w.heap.size) H.below.size (.inr rfl) c6
    (y := .row e0 ie.size 0 (fun _ _ => .bit false) ((m + (cap - m)) * ie.size)) rfl (fun i hi => by omega) (rest := (Builtin.zeroCells z.cells m).toList ++ (Builtin.zeroCells z.cells (cap - m)).toList) (by
      simp only [List.length_append, Array.length_toList, size_zeroCells, c1, SO.spare, Nat.add_mul]) (by
      show _ = some (Obj.cells ([] ++ _).toArray e0 (0, 0))
      rw [hnew, List.nil_append, ← Array.toList_append, Array.toArray_toList]) (grew_end H.kept.2.2 rfl _)
  refine ⟨.slice (some ⟨w.heap.size, 0, none⟩) m cap, _, cap - m, _, ?_, by omega, ?_, hlv, H'⟩
  · rw [asI_sound hx ρ]
    exact hrun
  · simp [SA.conc, SC.conc, grown, hcap]
theorem app_done (H : Holds W0 ρ tm ob a w) {v0 : Value} {ob1 : List SO} (hob : Killed ρ ob ob1 v0) {w' : World} {v : Value} {e size n : Nat} {ks : List SK} (hown : w'.ownsRow W0.w.heap.size e size v n (concs ρ ks)) (hgb : w.grownBy w' v0.ownBlock)
    (hv : v ≠ .slice none 0 0) (hwhere : v.ownBlock = v0.ownBlock ∨ v.ownBlock = some w.heap.size) (hall : ob1.all (obB (liveB ob1)) = true) (hb : ∀ k ∈ ks, k.bnd (lv ρ ob1)) (hf : ∀ k ∈ ks, k.fit = true) :
    ∃ c ρ', n + c ≤ maxLen ∧ v = SA.conc ρ' (.sc (.sl ob1.length 0 n (n + c))) ∧ live (ob1 ++ [.cells e ks (c * size)]) ob1.length ∧ Holds W0 ρ' (scrub ob1 tm) (ob1 ++ [.cells e ks (c * size)]) a w' := by
  obtain ⟨hl', h2⟩ := hown
  rcases h2 with ⟨e', _⟩ | ⟨g, cap, cur, rfl, hbg, hg, hnc, hcm, hcs, htk⟩
  · exact absurd e' hv
  have hsp : (cap - n) * size = cur.size - n * size := by rw [hcs, Nat.sub_mul]
  have hcap : n + (cap - n) = cap := by omega
  have hw2 : v0.ownBlock = some g ∨ g = w.heap.size := by
    have k' : (Value.slice (some ⟨g, 0, none⟩) n cap).ownBlock = some g := rfl
    rw [k'] at hwhere
    rcases hwhere with k | k
    · exact .inl k.symm
    · simp only [Option.some.injEq] at k; exact .inr k
  obtain ⟨H', hlv⟩ := H.appended hob hgb hbg hw2 hall (y := .cells e ks ((cap - n) * size)) rfl ⟨hb, hf⟩ (rest := cur.toList.drop (n * size)) (by simp [hsp, SO.spare]) (by
      show _ = some (Obj.cells (concs ρ ks ++ _).toArray e (0, 0))
      rw [hg, ← htk, List.take_append_drop, Array.toArray_toList]) (grew_end (by have := H.kept.2.2; omega) hob.length _)
  exact ⟨cap - n, _, by omega, by simp [SA.conc, SC.conc, grown, hcap], hlv, H'⟩
theorem grows_at (w : World) (t ty e : TypeId) (i : TypeInfo) (z : Value) (size bytes : Nat) (ht : P.underlying t = some (.slice e)) (hi : P.info? e = some i) (hz : i.zero = some z)
    (hsize : i.size = size) (hby : i.bytes = bytes) (hzs : z.cells.size = size)
    (b : Addr) (n cap : Nat) (olds : List Value) (hlo : olds.length = n * size) (holds : ∀ j u, olds[j]? = some u → w.cell? (b.add j) = some u)
    (a : Addr) (m c : Nat) (news : List Value) (hl : news.length = m * size) (hnews : ∀ j u, news[j]? = some u → w.cell? (a.add j) = some u)
    (hg : cap < n + m) (h63 : n + m ≤ maxLen) (hbytes : (n + m) * bytes ≤ 140737488355328) :
    ∃ v' w', (Builtin.append_ #[t, t] ty #[.slice (some b) n cap, .slice (some a) m c]).run P w = .ok v' w' ∧ w'.ownsRow w.heap.size e size v' (n + m) (olds ++ news) ∧ w.grownBy w' none ∧ v'.ownBlock = some w.heap.size := by
  subst hsize
  subst hby
  have hlen : (olds ++ news).length = (n + m) * i.size := by rw [List.length_append, hlo, hl, Nat.add_mul]
  refine ⟨_, _, run_append_grow (P := P) w t ty e i z ht hi hz b n cap olds hlo holds a m c news hl hnews hg (by simp only [maxLen] at h63; omega) (growslice_fits hg hbytes), ⟨hlen, .inr ⟨w.heap.size, _, _, rfl, Nat.le_refl _, heap_alloc_new w.drew _, grownCap_ge w (n + m) cap e, grownCap_le_maxLen w (n + m) cap e h63, ?_, ?_⟩⟩, ⟨rfl, rfl, rfl, by simp, fun k hk _ => heap_alloc_old w.drew _ hk⟩, rfl⟩
  · have := grownCap_ge w (n + m) cap e
    simp only [Array.size_append, List.size_toArray, size_zeroCells, hzs, hlo, hl, ← Nat.add_mul]
    congr 1
    omega
  · simp only [Array.toList_append, List.append_assoc]
    rw [← List.append_assoc, ← hlen]
    exact List.take_left
theorem appX_sound (H : Holds W0 ρ tm ob a w) {ts : List TypeId} {ty : TypeId} {s x : SA} (hsb : s.bnd (lv ρ ob)) (hxb : x.bnd (lv ρ ob)) {qs : List Prop} {e : TypeId} {size n : Nat} {ks : List SK} {ob1 : List SO} (h : appX P ob ts s x = some (qs, e, size, n, ks, ob1)) (hq : Ok qs) :
    ∃ v w' c ρ', (Builtin.append_ ts.toArray ty #[s.conc ρ, x.conc ρ]).run P w = .ok v w' ∧ n + c ≤ maxLen ∧ v = SA.conc ρ' (.sc (.sl ob1.length 0 n (n + c))) ∧ live (ob1 ++ [.cells e ks (c * size)]) ob1.length ∧
      Holds W0 ρ' (scrub ob1 tm) (ob1 ++ [.cells e ks (c * size)]) a w' := by
  unfold appX at h
  split at h
  case h_2 => cases h
  rename_i t t'
  split at h
  case isFalse => cases h
  rename_i htt
  have htt := Nat.eq_of_beq_eq_true htt
  subst htt
  split at h
  case h_2 => cases h
  rename_i e0 hu
  split at h
  case h_2 => cases h
  rename_i ie hie
  split at h
  case h_2 => cases h
  rename_i z hz
  split at h
  · rename_i ad n0 cap wd g
    split at h
    case h_2 => cases h
    rename_i m new ht
    split at h
    case isFalse => cases h
    rename_i hc
    simp only [Option.some.injEq, Prod.mk.injEq] at h
    obtain ⟨rfl, rfl, rfl, rfl, rfl, rfl⟩ := h
    obtain ⟨c1, c2, c3, c4, c5, c6, c7, c8, c9, c10, c11⟩ := hc
    have c3 := Nat.eq_of_beq_eq_true c3
    have c6 := Nat.eq_of_beq_eq_true c6
    subst c3 c6
    obtain ⟨hok, hrd⟩ := xs_read H hsb
    obtain ⟨tl, ad2, cp, hx, hcells, hbn⟩ := tailOf_sound H ht
    cases ad with
    | none => exact absurd (hsb.1 rfl).1 c4
    | some b =>
      have hk := rowL_concs (ρ := ρ) hok
      obtain ⟨v, w', hrun, hown, hgb, hwh⟩ := grows_at (P := P) w t ty e0 ie z ie.size ie.bytes hu hie hz rfl rfl c1 b cap cap (rowc ie.size cap g) (rowc_length _ _ _) (hrd b rfl) ad2 m cp (concs ρ new) tl hcells (by omega) c7 c8
      have hown' : w'.ownsRow W0.w.heap.size e0 ie.size v (cap + m) (concs ρ (rowL ie.size cap g ++ new)) := by
        rw [show concs ρ (rowL ie.size cap g ++ new) = rowc ie.size cap g ++ concs ρ new by rw [← hk]; simp [concs, flat_append]]
        refine ⟨hown.1, hown.2.imp id fun ⟨g', cap', cur, q1, q2, q3⟩ => ⟨g', cap', cur, q1, Nat.le_trans H.below.size q2, q3⟩⟩
      have hv : v ≠ .slice none 0 0 := fun ev => by
        rcases hown.2 with ⟨_, e⟩ | ⟨g', cap', cur, q1, _⟩
        · omega
        · rw [ev] at q1; cases q1
      obtain ⟨c, ρ', d1, d2, d3, d4⟩ := app_done H (v0 := .slice none 0 0) (.inl ⟨rfl, rfl⟩) hown' hgb hv (.inr hwh) c11 (fun k hk => by
        rcases List.mem_append.1 hk with hk | hk
        · obtain ⟨i, j, hi, hj, rfl⟩ := rowL_mem hk
          exact bare_lv (hok i hi j hj).1
        · exact hbn k hk) (fun k hk => by
        rcases List.mem_append.1 hk with hk | hk
        · obtain ⟨i, j, hi, hj, rfl⟩ := rowL_mem hk
          exact (hok i hi j hj).2
        · exact List.all_eq_true.1 c9 k hk)
      exact ⟨v, w', c, ρ', by rw [hx]; exact hrun, d1, d2, d3, d4⟩
  · split at h
    case h_2 => cases h
    rename_i ad m cap wd g
    split at h
    case h_2 => cases h
    rename_i n0 qs0 old ob0 hh
    split at h
    case isFalse => cases h
    rename_i hc
    simp only [Option.some.injEq, Prod.mk.injEq] at h
    obtain ⟨rfl, rfl, rfl, rfl, rfl, rfl⟩ := h
    obtain ⟨c1, c2, c3, c5, c7, c8, c9, c10, c11⟩ := hc
    have c3 := Nat.eq_of_beq_eq_true c3
    subst c3
    obtain ⟨hok, hrd⟩ := xs_read H hxb
    obtain ⟨hown, hob, hbo⟩ := headOf_sound H hh hq
    cases ad with
    | none => exact absurd (hxb.1 rfl).1 c5
    | some b =>
      have hk := rowL_concs (ρ := ρ) hok
      obtain ⟨v, w', hrun, hown', hgb, hnil, hwhere⟩ := run_append_own_at (P := P) w W0.w.heap.size t ty e0 ie z ie.size ie.bytes hu hie hz rfl rfl c1 c2 (s.conc ρ) n0 (concs ρ old) hown b m cap (rowc ie.size m g) (rowc_length _ _ _) (hrd b rfl) (by
        rw [← hk]
        exact concs_fit (fun k hk => by
          obtain ⟨i, j, hi, hj, rfl⟩ := rowL_mem hk
          exact (hok i hi j hj).2) ρ) c7 c8 H.below.size
      have hv : v ≠ .slice none 0 0 := fun e => c5 (hnil.1 e).2
      rw [show concs ρ old ++ rowc ie.size m g = concs ρ (old ++ rowL ie.size m g) by rw [← hk]; simp [concs, flat_append]] at hown'
      obtain ⟨c, ρ', d1, d2, d3, d4⟩ := app_done H hob hown' hgb hv hwhere c11 (all_bnd (by
          rw [List.all_append, c10, Bool.true_and, List.all_eq_true]
          intro k hk
          obtain ⟨i, j, hi, hj, rfl⟩ := rowL_mem hk
          exact rowL_bare (hok i hi j hj).1) (fun k hk => by
        rcases List.mem_append.1 hk with hk | hk
        · exact hbo k hk
        · obtain ⟨i, j, hi, hj, rfl⟩ := rowL_mem hk
          exact bare_lv (hok i hi j hj).1)) (fun k hk => by
        rcases List.mem_append.1 hk with hk | hk
        · exact List.all_eq_true.1 c9 k hk
        · obtain ⟨i, j, hi, hj, rfl⟩ := rowL_mem hk
          exact (hok i hi j hj).2)
      exact ⟨v, w', c, ρ', hrun, d1, d2, d3, d4⟩
theorem headG_sound (H : Holds W0 ρ tm ob a w) {size n : Nat} {e : TypeId} {s : SA} {qs : List Prop} {g : Nat → Nat → SC} {ob0 : List SO} {old : Option Nat} (h : headG ob size e s = some (qs, n, g, ob0, old)) (hq : Ok qs) :
    w.ownsRow W0.w.heap.size e size (s.conc ρ) n (rowc size n g) ∧ Killed ρ ob ob0 (s.conc ρ) ∧ rowOK (lv ρ ob) size n g ∧
    ((old = none ∧ n = 0 ∧ s.conc ρ = .slice none 0 0 ∧ ob0 = ob) ∨ ∃ o, old = some o ∧ ob0 = ob.set o .dead ∧ o < ob.length ∧ s.conc ρ ≠ .slice none 0 0) := by
  unfold headG at h
  split at h
  · simp only [Option.some.injEq, Prod.mk.injEq] at h
    obtain ⟨rfl, rfl, rfl, rfl, rfl⟩ := h
    exact ⟨World.ownsRow_nil w _ e size, .inl ⟨rfl, rfl⟩, fun i hi => by omega, .inl ⟨rfl, rfl, rfl, rfl⟩⟩
  · rename_i o k off m cap
    split at h
    case h_2 => cases h
    rename_i e' k' n' g' sp ho
    split at h
    case h_2 => cases h
    rename_i hc
    simp only [Bool.and_eq_true] at hc
    have c1 := Nat.eq_of_beq_eq_true hc.1.1
    have c2 := Nat.eq_of_beq_eq_true hc.1.2
    have c3 := Nat.eq_of_beq_eq_true hc.2
    subst c1 c2 c3
    simp only [Option.some.injEq, Prod.mk.injEq] at h
    obtain ⟨rfl, rfl, rfl, rfl, rfl⟩ := h
    obtain ⟨rfl, rfl, ⟨q0, q1, q2⟩, _⟩ := hq
    obtain ⟨h1, ⟨rest, hr, h2⟩, h3⟩ := H.mem.rows ho
    refine ⟨⟨rowc_length _ _ _, .inr ⟨ρ o, cap, _, by simp [SA.conc, SC.conc], h1, h2, q0, q1, ?_, ?_⟩⟩, .inr ⟨o, _, ho, rfl, rfl, rfl⟩, h3, .inr ⟨o, rfl, rfl, ob_lt ho, by simp [SA.conc, SC.conc]⟩⟩
    · simp only [List.size_toArray, List.length_append, rowc_length, hr, q2]
    · simp only
      rw [← rowc_length k' m g', List.take_left]
  · rename_i o m cap
    split at h
    case h_2 => cases h
    rename_i e' ks sp ho
    split at h
    case isFalse =>
      split at h
      case h_2 => cases h
      rename_i k hk
      split at h
      case isFalse => cases h
      rename_i hc
      obtain ⟨c1, c2, ha, rfl⟩ := hc
      have c1 := Nat.eq_of_beq_eq_true c1
      have c2 := Nat.eq_of_beq_eq_true c2
      subst c1
      simp only [Option.some.injEq, Prod.mk.injEq] at h
      obtain ⟨rfl, rfl, rfl, rfl, rfl⟩ := h
      obtain ⟨⟨q0, q1, q2⟩, _⟩ := hq
      obtain ⟨h1, ⟨rest, hr, h2⟩, h3, h4⟩ := H.mem.obj o e' ks sp ho
      have hcc : concs ρ ks = rowc 1 m (fun i _ => .val (.int k (selG ks i))) := by
        refine rowc_ext (by simp [concs, c2]) fun i c hi hc => ?_
        have : c = 0 := by omega
        subst this
        rw [Nat.mul_one, Nat.add_zero, selG_conc ha ρ (j := i) (by omega)]
        rfl
      rw [hcc] at h2
      refine ⟨⟨rowc_length _ _ _, .inr ⟨ρ o, cap, _, rfl, h1, h2, q0, q1, ?_, ?_⟩⟩, .inr ⟨o, _, ho, rfl, rfl, rfl⟩, fun i hi c hc => ⟨trivial, rfl⟩, .inr ⟨o, rfl, rfl, ob_lt ho, by simp [SA.conc, SC.conc]⟩⟩
      · simp only [List.size_toArray, List.length_append, rowc_length, hr, q2]
      · simp only
        rw [← rowc_length _ m (fun i _ => .val (.int k (selG ks i))), List.take_left]
    rename_i hc
    obtain ⟨c1, c2, c3, _⟩ := hc
    have c1 := Nat.eq_of_beq_eq_true c1
    have c2 := Nat.eq_of_beq_eq_true c2
    subst c1
    simp only [Option.some.injEq, Prod.mk.injEq] at h
    obtain ⟨rfl, rfl, rfl, rfl, rfl⟩ := h
    obtain ⟨⟨q0, q1, q2⟩, _⟩ := hq
    obtain ⟨h1, ⟨rest, hr, h2⟩, h3, h4⟩ := H.mem.obj o e' ks sp ho
    have spec := fixAt_spec (flat ks) size (fun c hc => fun {E} hb => bareC_bare (List.all_eq_true.1 c3 c hc) hb) (fun c hc => (bareC_ok (E := lv ρ ob) (List.all_eq_true.1 c3 c hc) (bnd_flat.1 h3 c hc)).2) (E := lv ρ ob) (bnd_flat.1 h3) m 0
    have hcc : concs ρ ks = rowc size m (fixAt (flat ks) size m 0) := by
      refine rowc_ext (by simp [concs, c2]) fun i c hi hc => ?_
      rw [(spec i c (by omega) (by omega) hc (by rw [c2, Nat.zero_add])).1]
      have hlt : i * size + c < (flat ks).length := by
        rw [c2]
        calc i * size + c < i * size + size := by omega
          _ = (i + 1) * size := by rw [Nat.succ_mul]
          _ ≤ m * size := Nat.mul_le_mul_right size hi
      have hbc := bareC_bare (List.all_eq_true.1 c3 _ (List.getElem_mem hlt)) (bnd_flat.1 h3 _ (List.getElem_mem hlt))
      rw [concs, List.getElem?_map, List.getD_eq_getElem?_getD, List.getElem?_eq_getElem hlt, Option.map_some, Option.getD_some, conc_bare hbc ρ]
    rw [hcc] at h2
    refine ⟨⟨rowc_length _ _ _, .inr ⟨ρ o, cap, _, rfl, h1, h2, q0, q1, ?_, ?_⟩⟩, .inr ⟨o, _, ho, rfl, rfl, rfl⟩, fun i hi c hc => (spec i c (by omega) (by omega) hc (by rw [c2, Nat.zero_add])).2, .inr ⟨o, rfl, rfl, ob_lt ho, by simp [SA.conc, SC.conc]⟩⟩
    · simp only [List.size_toArray, List.length_append, rowc_length, hr, q2]
    · simp only
      rw [← rowc_length _ m (fixAt (flat ks) size m 0), List.take_left]
  · cases h
theorem run_append_nil_tail {P : Program} (w : World) {base : Nat} {t ty e : TypeId} {i : TypeInfo} (ht : P.underlying t = some (.slice e)) (hi : P.info? e = some i) {size n : Nat} {v : Value} {xs : List Value} (h : w.ownsRow base e size v n xs) :
    (Builtin.append_ #[t, t] ty #[v, .slice none 0 0]).run P w = .ok v w := by
  rcases h.2 with ⟨rfl, rfl⟩ | ⟨g, cap, cur, rfl, _, _, hnc, _⟩
  · simp [Builtin.append_, run_underlying ht, run_sizeOf w hi, Builtin.lenOf, Builtin.firstCells]
  · have hz : (match TypeDesc.slice e with | .int _ => true | _ => false) = false := rfl
    simp [Builtin.append_, run_underlying ht, run_sizeOf w hi, Builtin.lenOf, Builtin.firstCells, hnc, storeCells]
theorem rowc_append {size n m : Nat} (g new : Nat → Nat → SC) : rowc size n g ++ rowc size m new = rowc size (n + m) (fun i c => selC (decide (i < n)) (g i c) (new (i - n) c)) := by
  refine rowc_ext (by rw [List.length_append, rowc_length, rowc_length, Nat.add_mul]) fun i c hi hc => ?_
  rw [selC_conc]
  by_cases h : i < n
  · have := rowc_get (g := g) h hc
    rw [List.getElem?_append_left (List.getElem?_eq_some_iff.1 this).1, this]
    simp [h]
  · have := rowc_get (w := size) (n := m) (g := new) (i := i - n) (c := c) (by omega) hc
    have hle : n * size ≤ i * size := Nat.mul_le_mul_right size (by omega)
    rw [List.getElem?_append_right (by rw [rowc_length]; omega), rowc_length, show i * size + c - n * size = (i - n) * size + c by rw [Nat.sub_mul]; omega, this]
    simp [h]
theorem growAt_fst (kn : Nat) (old : Option Nat) (ob0 : List SO) (y z : SO) : (growAt kn old ob0 y).1 = (growAt kn old ob0 z).1 := by
  unfold growAt
  split
  · split <;> rfl
  · rfl
theorem growAt_grew {kn : Nat} (hkn : W0.ob.length ≤ kn) (hk2 : W0.ob.length ≤ ob.length) {old : Option Nat} {ob0 : List SO} (hl : ob0.length = ob.length) (ho : ∀ o, old = some o → ob0 = ob.set o .dead ∧ o < ob.length) (y : SO) : Grew W0 ob ob0 y (growAt kn old ob0 y).1 (growAt kn old ob0 y).2 := by
  unfold growAt
  split
  · rename_i o
    obtain ⟨rfl, hlt⟩ := ho o rfl
    split
    · rename_i hb
      have hb := Nat.le_of_ble_eq_true hb
      refine ⟨by simp [hlt], fun i hi => ?_, fun h => (live_dead.1 h).2 rfl, by simp only; omega, by simp⟩
      simp only
      rw [List.getElem?_set_ne (fun e => hi e.symm)]
    · exact grew_end hk2 hl y
  · exact grew_end hk2 hl y
theorem run_append_own_wide {P : Program} (w : World) (base : Nat) (t ty e : TypeId) (i : TypeInfo) (z : Value) (size bytes : Nat) (ht : P.underlying t = some (.slice e)) (hi : P.info? e = some i) (hz : i.zero = some z)
    (hsize : i.size = size) (hby : i.bytes = bytes) (hzs : z.cells.size = size)
    (v : Value) (n cp : Nat) (xs : List Value) (hown : w.ownsRow base e size v n xs)
    (a : Addr) (m c : Nat) (news : List Value) (hl : news.length = m * size) (hnews : ∀ j u, news[j]? = some u → w.cell? (a.add j) = some u) (h1 : ∀ u ∈ news, u.oneCell' = true)
    (h63 : n + m ≤ maxLen) (hv : ∃ b, v = .slice b n cp) (hbytes : roomW cp (n + m) bytes) (hbase : base ≤ w.heap.size) :
    ∃ v' w', (Builtin.append_ #[t, t] ty #[v, .slice (some a) m c]).run P w = .ok v' w' ∧ w'.ownsRow base e size v' (n + m) (xs ++ news) ∧ w.grownBy w' v.ownBlock ∧
      (v' = .slice none 0 0 ↔ v = .slice none 0 0 ∧ m = 0) ∧ (v'.ownBlock = v.ownBlock ∨ v'.ownBlock = some w.heap.size) ∧ (n + m ≤ cp → ∃ b', v' = .slice b' (n + m) cp) := by
  obtain ⟨bb, hv⟩ := hv
  subst hsize
  subst hby
  have hlen : (xs ++ news).length = (n + m) * i.size := by rw [List.length_append, hown.1, hl, Nat.add_mul]
  have hsmall : n + m ≤ 9223372036854775807 := by simp only [maxLen] at h63; omega
  have grown : ∀ (old : Nat), old < n + m → ∀ (row : Option Nat),
      (w.drew.alloc (.cells (xs.toArray ++ news.toArray ++ Builtin.zeroCells z.cells (grownCap w (n + m) old e - (n + m))) e)).ownsRow base e i.size
        (.slice (some ⟨w.heap.size, 0, none⟩) (n + m) (grownCap w (n + m) old e)) (n + m) (xs ++ news) ∧
      w.grownBy (w.drew.alloc (.cells (xs.toArray ++ news.toArray ++ Builtin.zeroCells z.cells (grownCap w (n + m) old e - (n + m))) e)) row := by
    intro old _ row
    have hge := grownCap_ge w (n + m) old e
    refine ⟨⟨hlen, .inr ⟨w.heap.size, _, _, rfl, hbase, heap_alloc_new w.drew _, hge, grownCap_le_maxLen w (n + m) old e h63, ?_, ?_⟩⟩, ⟨rfl, rfl, rfl, by simp, fun k hk _ => heap_alloc_old w.drew _ hk⟩⟩
    · simp only [Array.size_append, List.size_toArray, size_zeroCells, hzs, hown.1, hl, ← Nat.add_mul]
      congr 1
      omega
    · simp only [Array.toList_append, List.append_assoc]
      rw [← List.append_assoc, ← hlen]
      exact List.take_left
  rcases hown.2 with ⟨e1, rfl⟩ | ⟨g, cap, cur, e1, hbg, hg, hnc, hcm, hcs, htake⟩
  · rw [e1] at hv
    simp only [Value.slice.injEq] at hv
    obtain ⟨rfl, _, rfl⟩ := hv
    have hx : xs = [] := List.eq_nil_of_length_eq_zero (by simpa using hown.1)
    subst hx
    subst e1
    by_cases hm : m = 0
    · subst hm
      have hn : news = [] := List.eq_nil_of_length_eq_zero (by simpa using hl)
      subst hn
      refine ⟨.slice none 0 0, w, ?_, World.ownsRow_nil w base e i.size, ⟨rfl, rfl, rfl, Nat.le_refl _, fun _ _ _ => rfl⟩, by simp, Or.inl rfl, fun _ => ⟨none, rfl⟩⟩
      simp [Builtin.append_, run_underlying ht, sizeOf, typeInfo, hi, Builtin.lenOf, Builtin.firstCells, loadCells, loadCellsFrom]
    · have h48 : m * i.bytes ≤ 281474976710656 := by
        rw [Nat.zero_add] at hbytes
        rcases hbytes with q | q | ⟨_, q⟩
        · omega
        · omega
        · exact q
      have hr := run_append_nil (P := P) w t ty e i z ht hi hz a m c news hl hnews (by omega) (by omega) h48
      have hgr := grown 0 (by omega) (Value.ownBlock (.slice none 0 0))
      simp only [Nat.zero_add, List.nil_append, Array.empty_append] at hgr ⊢
      exact ⟨_, _, hr, hgr.1, hgr.2, by simp [hm], Or.inr rfl, fun h => absurd h (by omega)⟩
  · rw [e1] at hv
    simp only [Value.slice.injEq] at hv
    obtain ⟨_, _, rfl⟩ := hv
    subst e1
    by_cases hroom : n + m ≤ cap
    · have hfit : n * i.size + news.length ≤ cur.size := by rw [hl, hcs, ← Nat.add_mul]; exact Nat.mul_le_mul_right _ hroom
      have hr := run_append_room (P := P) w t ty e i ht hi g n cap cur hg a m c news hl hnews h1 hroom hfit
      refine ⟨_, _, hr, ⟨hlen, .inr ⟨g, cap, _, rfl, hbg, setRow_heap w g cur _ e _ hg, hroom, hcm, ?_, ?_⟩⟩, ⟨rfl, rfl, rfl, by simp, fun k _ hk => setRow_other w g k _ (fun e => hk (by simp [Value.ownBlock, e]))⟩, by simp, Or.inl rfl, fun _ => ⟨_, rfl⟩⟩
      · simp only [List.size_toArray, List.length_append, List.length_take, List.length_drop, Array.length_toList]
        omega
      · rw [htake, ← hlen]
        exact List.take_left
    · have hfit : Builtin.nextslicecap (n + m) cap * i.bytes ≤ 281474976710656 := by
        rcases hbytes with q | q | ⟨q1, q2⟩
        · exact growslice_fits (by omega) q
        · exact absurd q hroom
        · subst q1
          rw [nextslicecap_zero (by omega)]; exact q2
      have holds : ∀ j u, xs[j]? = some u → w.cell? ((⟨g, 0, none⟩ : Addr).add j) = some u := hown.cells (g := g) rfl
      have hr := run_append_grow (P := P) w t ty e i z ht hi hz ⟨g, 0, none⟩ n cap xs hown.1 holds a m c news hl hnews (by omega) (by omega) hfit
      have hgr := grown cap (by omega) (Value.ownBlock (.slice (some ⟨g, 0, none⟩) n cap))
      exact ⟨_, _, hr, hgr.1, hgr.2, by simp, Or.inr rfl, fun h => absurd h hroom⟩
theorem headG_cap {ob : List SO} {size : Nat} {e : TypeId} {s : SA} {qs : List Prop} {n : Nat} {g : Nat → Nat → SC} {ob0 : List SO} {old : Option Nat} (h : headG ob size e s = some (qs, n, g, ob0, old)) (ρ : Rho) : ∃ b, s.conc ρ = .slice b n (capA s) := by
  unfold headG at h
  split at h
  · simp only [Option.some.injEq, Prod.mk.injEq] at h
    obtain ⟨_, rfl, _⟩ := h
    exact ⟨none, rfl⟩
  · split at h
    · split at h
      · simp only [Option.some.injEq, Prod.mk.injEq] at h
        obtain ⟨_, rfl, _⟩ := h
        exact ⟨_, rfl⟩
      · cases h
    · cases h
  · split at h
    · split at h
      · simp only [Option.some.injEq, Prod.mk.injEq] at h
        obtain ⟨_, rfl, _⟩ := h
        exact ⟨_, rfl⟩
      · split at h
        · split at h
          · simp only [Option.some.injEq, Prod.mk.injEq] at h
            obtain ⟨_, rfl, _⟩ := h
            exact ⟨_, rfl⟩
          · cases h
        · cases h
    · cases h
  · cases h
theorem appG_sound (H : Holds W0 ρ tm ob a w) {wd : Bool} {kn : Nat} (hkn : W0.ob.length ≤ kn) {ts : List TypeId} {ty : TypeId} {s x : SA} (hxb : x.bnd (lv ρ ob)) {p : AppG} (h : appG wd P ob ts s x = some p) (hq : Ok p.qs) :
    (p.nil = true ∧ p.m = 0 ∧ (Builtin.append_ ts.toArray ty #[s.conc ρ, x.conc ρ]).run P w = .ok (.slice none 0 0) w) ∨ (¬ (p.nil = true ∧ p.m = 0) ∧
    ∃ v w' c ρ', (Builtin.append_ ts.toArray ty #[s.conc ρ, x.conc ρ]).run P w = .ok v w' ∧ (p.n + c ≤ maxLen ∧ (p.n ≤ capA s → p.n + c = capA s)) ∧ v = SA.conc ρ' (.sc (.slw (growAt kn p.old p.ob0 .gone).1 p.size 0 p.n (p.n + c))) ∧ live (growAt kn p.old p.ob0 (.row p.e p.size p.n p.g (c * p.size))).2 (growAt kn p.old p.ob0 .gone).1 ∧
      Holds W0 ρ' (scrub p.ob0 tm) (growAt kn p.old p.ob0 (.row p.e p.size p.n p.g (c * p.size))).2 a w') := by
  unfold appG at h
  split at h
  case h_2 => cases h
  rename_i t t'
  split at h
  case isFalse => cases h
  rename_i htt
  have htt := Nat.eq_of_beq_eq_true htt
  subst htt
  split at h
  case h_2 => cases h
  rename_i e0 hu
  split at h
  case h_2 => cases h
  rename_i ie hie
  split at h
  case h_2 => cases h
  rename_i z hz
  split at h
  case h_2 => cases h
  rename_i ps m new lit qs0 n0 g0 ob0 old ht hh
  split at h
  case isFalse => cases h
  rename_i hc
  obtain ⟨c1, c2, c9⟩ := hc
  have core : ∀ (n' : Nat) (g' : Nat → Nat → SC) (nl : Bool), n' = n0 + m → (nl = true → old = none) → (old = none → nl = !lit) → Ok ps → Ok qs0 → n' ≤ maxLen → roomW (capA s) n' ie.bytes →
      rowc ie.size n' g' = rowc ie.size n0 g0 ++ rowc ie.size m new → (rowOK (lv ρ ob) ie.size n0 g0 → rowOK (lv ρ ob) ie.size m new → rowOK (lv ρ ob) ie.size n' g') →
      (nl = true ∧ m = 0 ∧ (Builtin.append_ [t, t].toArray ty #[s.conc ρ, x.conc ρ]).run P w = .ok (.slice none 0 0) w) ∨ (¬ (nl = true ∧ m = 0) ∧
    ∃ v w' c ρ', (Builtin.append_ [t, t].toArray ty #[s.conc ρ, x.conc ρ]).run P w = .ok v w' ∧ (n' + c ≤ maxLen ∧ (n' ≤ capA s → n' + c = capA s)) ∧ v = SA.conc ρ' (.sc (.slw (growAt kn old ob0 .gone).1 ie.size 0 n' (n' + c))) ∧ live (growAt kn old ob0 (.row e0 ie.size n' g' (c * ie.size))).2 (growAt kn old ob0 .gone).1 ∧
      Holds W0 ρ' (scrub ob0 tm) (growAt kn old ob0 (.row e0 ie.size n' g' (c * ie.size))).2 a w') := by
    intro n' g' nl rn rnl rlit hps hqs hmax hby hrow hrok
    subst rn
    obtain ⟨hown, hkl, hok0, hold⟩ := headG_sound H hh hqs
    obtain ⟨⟨⟨ad, cp, hx, hnil0, hcells⟩, hok1⟩, hlit⟩ := tailG_sound H hxb ht hps
    have hrun0 : ∃ v w', (Builtin.append_ [t, t].toArray ty #[s.conc ρ, x.conc ρ]).run P w = .ok v w' ∧ w'.ownsRow W0.w.heap.size e0 ie.size v (n0 + m) (rowc ie.size n0 g0 ++ rowc ie.size m new) ∧ w.grownBy w' (s.conc ρ).ownBlock ∧
      (v = .slice none 0 0 ↔ s.conc ρ = .slice none 0 0 ∧ m = 0) ∧ (v.ownBlock = (s.conc ρ).ownBlock ∨ v.ownBlock = some w.heap.size) ∧ (m = 0 → s.conc ρ = .slice none 0 0 → w' = w) ∧ (n0 + m ≤ capA s → ∃ b', v = .slice b' (n0 + m) (capA s)) := by
      have hcapv := headG_cap hh ρ
      cases ad with
      | none =>
        obtain ⟨rfl, rfl⟩ := hnil0 rfl
        refine ⟨_, w, by rw [hx]; exact run_append_nil_tail w hu hie hown, ?_, ⟨rfl, rfl, rfl, Nat.le_refl _, fun _ _ _ => rfl⟩, by simp, .inl rfl, fun _ _ => rfl, fun _ => hcapv⟩
        simpa [rowc] using hown
      | some ad =>
        have hfit : ∀ u ∈ rowc ie.size m new, u.oneCell' = true := by
          intro u hu
          obtain ⟨j, hj⟩ := List.getElem?_of_mem hu
          obtain ⟨i, c, hi, hc, _, rfl⟩ := rowc_at hj
          rw [← oneCell_eq]; exact fit_one (hok1 i hi c hc).2
        obtain ⟨v, w', k1, k2, k3, k4, k5, k6⟩ := run_append_own_wide (P := P) w W0.w.heap.size t ty e0 ie z ie.size ie.bytes hu hie hz rfl rfl c1 (s.conc ρ) n0 (capA s) (rowc ie.size n0 g0) hown ad m cp (rowc ie.size m new) (rowc_length _ _ _) (hcells ad rfl) hfit hmax hcapv hby H.below.size
        refine ⟨v, w', by rw [hx]; exact k1, k2, k3, k4, k5, fun hm hs => ?_, k6⟩
        subst hm
        have hn0 : n0 = 0 := by
          rcases hold with ⟨_, h, _⟩ | ⟨_, _, _, _, h⟩
          · exact h
          · exact absurd hs h
        have : (Builtin.append_ #[t, t] ty #[Value.slice none 0 0, .slice (some ad) 0 cp]).run P w = .ok (.slice none 0 0) w := by
          simp [Builtin.append_, run_underlying hu, run_sizeOf w hie, Builtin.lenOf, Builtin.firstCells, loadCells, loadCellsFrom]
        rw [hs] at k1
        rw [this] at k1
        simp only [Result.ok.injEq] at k1
        exact k1.2.symm
    obtain ⟨v, w', hrun, hown', hgb, hnil, hwhere, hsame, hkcap⟩ := hrun0
    by_cases hcase : nl = true ∧ m = 0
    · left
      obtain ⟨h1, h2⟩ := hcase
      have hs : s.conc ρ = .slice none 0 0 := by
        rcases hold with ⟨_, _, h, _⟩ | ⟨o, h, _⟩
        · exact h
        · rw [rnl h1] at h; cases h
      have := hsame h2 hs
      subst this
      have hv := hnil.2 ⟨hs, h2⟩
      subst hv
      exact ⟨h1, h2, hrun⟩
    · right
      refine ⟨hcase, ?_⟩
      have hv : v ≠ .slice none 0 0 := by
        intro e
        obtain ⟨h1, h2⟩ := hnil.1 e
        rcases hold with ⟨h3, _, _, _⟩ | ⟨o, _, _, _, h⟩
        · have := rlit h3
          cases lit with
          | true => exact hlit rfl h2
          | false => exact hcase ⟨this, h2⟩
        · exact h h1
      obtain ⟨hl', h2⟩ := hown'
      rcases h2 with ⟨e, _⟩ | ⟨g, cap, cur, rfl, hbg, hg, hnc, hcm, hcs, htk⟩
      · exact absurd e hv
      have hsp : (cap - (n0 + m)) * ie.size = cur.size - (n0 + m) * ie.size := by rw [hcs, Nat.sub_mul]
      have hcap : n0 + m + (cap - (n0 + m)) = cap := by omega
      have hw2 : (s.conc ρ).ownBlock = some g ∨ g = w.heap.size := by
        have k' : (Value.slice (some ⟨g, 0, none⟩) (n0 + m) cap).ownBlock = some g := rfl
        rw [k'] at hwhere
        rcases hwhere with k | k
        · exact .inl k.symm
        · simp only [Option.some.injEq] at k; exact .inr k
      have G := growAt_grew (kn := kn) hkn H.kept.2.2 (old := old) (hkl.length) (fun o ho => by
        rcases hold with ⟨h, _⟩ | ⟨o', h, h2, h3, _⟩
        · rw [h] at ho; cases ho
        · rw [h] at ho; simp only [Option.some.injEq] at ho; subst ho; exact ⟨h2, h3⟩) (SO.row e0 ie.size (n0 + m) g' ((cap - (n0 + m)) * ie.size))
      obtain ⟨H', hlv⟩ := H.appended hkl hgb hbg hw2 c9 (y := .row e0 ie.size (n0 + m) g' ((cap - (n0 + m)) * ie.size)) rfl (fun i hi c hc => hrok hok0 hok1 i hi c hc) (rest := cur.toList.drop ((n0 + m) * ie.size)) (by simp [hsp, SO.spare]) (by
        show _ = some (Obj.cells (rowc ie.size (n0 + m) g' ++ _).toArray e0 (0, 0))
        rw [hg, hrow, ← htk, List.take_append_drop, Array.toArray_toList]) G
      rw [growAt_fst kn old ob0 _ .gone] at H' hlv
      refine ⟨.slice (some ⟨g, 0, none⟩) (n0 + m) cap, w', cap - (n0 + m), _, hrun, ⟨by omega, fun hk => ?_⟩, ?_, hlv, H'⟩
      · obtain ⟨b', eb⟩ := hkcap hk
        simp only [Value.slice.injEq] at eb
        omega
      · simp [SA.conc, SC.conc, grown, hcap]
  split at h
  · rename_i hold
    simp only [Option.some.injEq] at h
    subst h
    obtain ⟨hps, hq⟩ := Ok.append.1 hq
    obtain ⟨hqs, hm⟩ := Ok.append.1 hq
    obtain ⟨hm1, hm2⟩ := roomL_spec hm
    have hn0 : n0 = 0 := by
      obtain ⟨_, _, _, h4⟩ := headG_sound H hh hqs
      rcases h4 with ⟨_, h, _⟩ | ⟨o, h, _⟩
      · exact h
      · cases h
    subst hn0
    exact core m new (!lit) (by omega) (fun _ => rfl) (fun _ => rfl) hps hqs hm1 hm2 (by simp [rowc]) (fun _ h => h)
  · rename_i o
    simp only [Option.some.injEq] at h
    subst h
    obtain ⟨hps, hq⟩ := Ok.append.1 hq
    obtain ⟨hqs, hm⟩ := Ok.append.1 hq
    obtain ⟨hm1, hm2⟩ := roomL_spec hm
    have hrow : rowc ie.size (n0 + m) (newH s x n0 g0 new) = rowc ie.size n0 g0 ++ rowc ie.size m new := by
      unfold newH
      split
      · have := headG_zero hh
        simp only at this
        subst this
        rw [Nat.zero_add]; simp [rowc]
      unfold newG
      split
      · simp only [tailG, Option.some.injEq, Prod.mk.injEq] at ht
        obtain ⟨_, rfl, _⟩ := ht
        simp [rowc]
      · exact (rowc_append g0 new).symm
    refine core (n0 + m) _ false rfl (fun h => by cases h) (fun h => by cases h) hps hqs hm1 hm2 hrow (fun h1 h2 i hi c hc => ?_)
    show (newH s x n0 g0 new i c).bnd _ ∧ _
    unfold newH
    split
    · have := headG_zero hh
      simp only at this
      subst this
      exact h2 i (by omega) c hc
    unfold newG
    split
    · simp only [tailG, Option.some.injEq, Prod.mk.injEq] at ht
      obtain ⟨_, rfl, _⟩ := ht
      exact h1 i hi c hc
    · exact selC_ok _ _ _ (fun hb => h1 i (by simpa using hb) c hc) (fun hb => h2 (i - n0) (by simp at hb; omega) c hc)
theorem srcG_sound (H : Holds W0 ρ tm ob a w) {size : Nat} {x : SA} (hx : x.bnd (lv ρ ob)) {ps : List Prop} {m : Nat} {g : Nat → Nat → SC} (h : srcG ob size x = some (ps, m, g)) (hp : Ok ps) (l : Nat) :
    (Builtin.lenOf (x.conc ρ)).run P w = .ok m w ∧ (l ≤ m → (Builtin.firstCells size l (x.conc ρ)).run P w = .ok (rowc size l g).toArray w) ∧ rowOK (lv ρ ob) size m g := by
  unfold srcG at h
  split at h
  · rename_i b
    split at h
    case h_2 => cases h
    rename_i hs
    have hs := Nat.eq_of_beq_eq_true hs
    subst hs
    simp only [Option.some.injEq, Prod.mk.injEq] at h
    obtain ⟨rfl, rfl, rfl⟩ := h
    refine ⟨by simp [Builtin.lenOf, SA.conc, SC.conc], fun hl => ?_, fun i hi c hc => ⟨trivial, rfl⟩⟩
    simp only [Builtin.firstCells, SA.conc, SC.conc]
    rw [Sem.run_pure]
    congr 1
    apply Array.ext'
    rw [data_extract b l hl]
    refine rowc_ext (by simp) fun i c hi hc => ?_
    have : c = 0 := by omega
    subst this
    simp [hi, SC.conc]
  · split at h
    case h_2 => cases h
    rename_i ps' m' g' lit ht
    simp only [Option.some.injEq, Prod.mk.injEq] at h
    obtain ⟨rfl, rfl, rfl⟩ := h
    obtain ⟨⟨⟨ad, cp, hx', hnil, hcells⟩, hok⟩, _⟩ := tailG_sound H hx ht hp
    rw [hx']
    refine ⟨by simp [Builtin.lenOf], fun hl => ?_, hok⟩
    cases ad with
    | none =>
      obtain ⟨rfl, rfl⟩ := hnil rfl
      have : l = 0 := by omega
      subst this
      simp [Builtin.firstCells, rowc]
    | some ad =>
      have := run_loadCells_list (P := P) w ad (rowc size l g') (fun j u hj => by
        obtain ⟨i, c, hi, hc, rfl, rfl⟩ := rowc_at hj
        exact hcells ad rfl _ _ (rowc_get (by omega) hc))
      rw [rowc_length] at this
      simp only [Builtin.firstCells]
      exact this
theorem concs_f1 (ρ : Rho) (k : IntKind) (n : Nat) (g : Nat → Int) : concs ρ [SK.f k n g] = (List.range n).map fun j => .int k (g j) := by simp [concs, flat, SK.cells, Function.comp_def, SC.conc]
theorem window_set {ks cs r : List SK} {base hi lo m : Nat} {k : IntKind} (hs : sub ks base hi = some cs) (ha : kindAll k cs = true) {src : Nat → Nat → SC} (hk : ∀ j, isKind k (src j 0)) {G : Nat → Int} (hG : ∀ j, j < hi → G j = if lo ≤ j ∧ j < lo + m then intsC (src (j - lo) 0) else selG cs j)
    (hm : lo + m ≤ hi) (hr : lay ks base [.f k hi G] = some r) (ρ : Rho) (rest : List Value) :
    (concs ρ ks ++ rest).take (base + lo) ++ rowc 1 m src ++ (concs ρ ks ++ rest).drop (base + lo + (rowc 1 m src).length) = concs ρ r ++ rest ∧ base + hi ≤ (concs ρ ks).length := by
  obtain ⟨l1, l2⟩ := lay_flat hr
  obtain ⟨s1, s2⟩ := concs_sub hs ρ
  have hlen : (flat cs).length = hi := by
    obtain ⟨a, b⟩ := sub_flat hs
    rw [b]; simp; omega
  have hfl : (flat [SK.f k hi G]).length = hi := by simp [flat, SK.cells]
  have hcl : (concs ρ ks).length = (flat ks).length := by simp [concs]
  refine ⟨?_, s1⟩
  have hcr : concs ρ r = (concs ρ ks).take base ++ concs ρ [.f k hi G] ++ (concs ρ ks).drop (base + hi) := by
    simp only [concs, l2, List.map_append, List.map_take, List.map_drop, hfl]
  have hsel : ∀ j, j < hi → (concs ρ ks)[base + j]? = some (.int k (selG cs j)) := by
    intro j hj
    have := selG_conc ha ρ (j := j) (by omega)
    rw [s2, List.getElem?_take, if_pos hj, List.getElem?_drop] at this
    exact this
  have hsrc : ∀ j, j < m → (rowc 1 m src)[j]? = some (.int k (intsC (src j 0))) := by
    intro j hj
    have := rowc_get (w := 1) (n := m) (g := src) (i := j) (c := 0) hj (by omega)
    rw [Nat.mul_one, Nat.add_zero] at this
    rw [this, isKind_sound (hk j) Rho.nil]
  rw [rowc_length, Nat.mul_one, List.take_append_of_le_length (by omega), List.drop_append_of_le_length (by omega), ← List.append_assoc, hcr, concs_f1]
  congr 1
  apply List.ext_getElem?
  intro j
  simp only [List.getElem?_append, List.length_append, List.length_take, List.getElem?_take, List.getElem?_drop, rowc_length, Nat.mul_one, List.length_map, List.length_range, Nat.min_eq_left (show base + lo ≤ (concs ρ ks).length by omega), Nat.min_eq_left (show base ≤ (concs ρ ks).length by omega)]
  by_cases c1 : j < base
  · simp [show j < base + lo + m by omega, show j < base + lo by omega, c1, show j < base + hi by omega]
  by_cases c2 : j < base + hi
  · have hj : j - base < hi := by omega
    simp only [c1, c2, if_true, if_false, List.getElem?_map, List.getElem?_range hj, Option.map_some]
    rw [hG _ hj]
    by_cases c3 : j < base + lo
    · rw [if_pos (by omega), if_pos c3, if_pos c3, if_neg (by omega)]
      have := hsel (j - base) hj
      rw [show base + (j - base) = j by omega] at this
      exact this
    · by_cases c4 : j < base + lo + m
      · rw [if_pos c4, if_neg c3, if_pos (by omega)]
        have := hsrc (j - (base + lo)) (by omega)
        rw [this]
        congr 4
        omega
      · rw [if_neg c4, if_neg (by omega)]
        have := hsel (j - base) hj
        rw [show base + lo + m + (j - (base + lo + m)) = base + (j - base) by omega]
        exact this
  · rw [if_neg (by omega), if_neg c2]
    congr 1
    omega
theorem rowc_window {size n m off : Nat} {g src : Nat → Nat → SC} (h : off + m ≤ n) (rest : List Value) :
    (rowc size n g ++ rest).take (off * size) ++ rowc size m src ++ (rowc size n g ++ rest).drop (off * size + (rowc size m src).length) = rowc size n (fun i c => selC (decide (off ≤ i) && decide (i < off + m)) (src (i - off) c) (g i c)) ++ rest := by
  have hle : off * size + m * size ≤ n * size := by rw [← Nat.add_mul]; exact Nat.mul_le_mul_right size h
  rw [rowc_length, List.take_append_of_le_length (by rw [rowc_length]; omega), List.drop_append_of_le_length (by rw [rowc_length]; omega), ← List.append_assoc]
  congr 1
  refine rowc_ext ?_ fun i c hi hc => ?_
  · simp only [List.length_append, List.length_take, List.length_drop, rowc_length]; omega
  have hg := rowc_get (w := size) (g := g) hi hc
  have lt1 : ∀ {a b : Nat}, a < b → a * size + size ≤ b * size := fun {a b} h => by
    calc a * size + size = (a + 1) * size := by rw [Nat.succ_mul]
      _ ≤ b * size := Nat.mul_le_mul_right size h
  rw [selC_conc]
  simp only [List.getElem?_append, List.length_append, List.length_take, List.getElem?_take, List.getElem?_drop, rowc_length, Nat.min_eq_left (show off * size ≤ n * size by omega)]
  by_cases c1 : i < off
  · have := lt1 c1
    rw [if_pos (by omega), if_pos (by omega), if_pos (by omega), hg]
    simp [show ¬ off ≤ i by omega]
  · have hoi : off * size ≤ i * size := Nat.mul_le_mul_right size (by omega)
    by_cases c2 : i < off + m
    · have := lt1 c2
      rw [Nat.add_mul] at this
      have hs := rowc_get (w := size) (n := m) (g := src) (i := i - off) (c := c) (by omega) hc
      rw [if_pos (by omega), if_neg (by omega), show i * size + c - off * size = (i - off) * size + c by rw [Nat.sub_mul]; omega, hs]
      simp [c2, show off ≤ i by omega]
    · have hmi : (off + m) * size ≤ i * size := Nat.mul_le_mul_right size (by omega)
      rw [Nat.add_mul] at hmi
      rw [if_neg (by omega), show off * size + m * size + (i * size + c - (off * size + m * size)) = i * size + c by omega, hg]
      simp [c2]
theorem appY_sound (H : Holds W0 ρ tm ob a w) {ts : List TypeId} {ty : TypeId} {s x : SA} (hsb : s.bnd (lv ρ ob)) (hxb : x.bnd (lv ρ ob)) {qs : List Prop} {e : TypeId} {size n : Nat} {g : Nat → Nat → SC} (h : appY P ob ts s x = some (qs, e, size, n, g)) (hq : Ok qs) :
    ∃ v w' c ρ', (Builtin.append_ ts.toArray ty #[s.conc ρ, x.conc ρ]).run P w = .ok v w' ∧ n + c ≤ maxLen ∧ v = SA.conc ρ' (.sc (.slw ob.length size 0 n (n + c))) ∧ live (ob ++ [.row e size n g (c * size)]) ob.length ∧
      Holds W0 ρ' (scrub ob tm) (ob ++ [.row e size n g (c * size)]) a w' := by
  unfold appY at h
  split at h
  case h_2 => cases h
  rename_i t t'
  split at h
  case isFalse => cases h
  rename_i htt
  have htt := Nat.eq_of_beq_eq_true htt
  subst htt
  split at h
  case h_2 => cases h
  rename_i e0 hu
  split at h
  case h_2 => cases h
  rename_i ie hie
  split at h
  case h_2 => cases h
  rename_i z hz
  split at h
  case h_2 => cases h
  rename_i ad n0 cap wd g0
  split at h
  case h_2 => cases h
  rename_i ps m new ht
  split at h
  case isFalse => cases h
  rename_i hc
  simp only [Option.some.injEq, Prod.mk.injEq] at h
  obtain ⟨rfl, rfl, rfl, rfl, rfl⟩ := h
  obtain ⟨c1, c2, c3, c9⟩ := hc
  have c3 := Nat.eq_of_beq_eq_true c3
  subst c3
  obtain ⟨hps, hn0, hcn, ⟨hm1, hm2⟩, _⟩ := Ok.append.1 hq
  subst hcn
  obtain ⟨hok, hrd⟩ := xs_read H hsb
  obtain ⟨⟨⟨ad2, cp, hx, hnil0, hcells⟩, hok1⟩, hlit⟩ := tailG_sound H hxb ht hps
  have hm0 := hlit rfl
  cases ad with
  | none => exact absurd (hsb.1 rfl).1 hn0
  | some b =>
    cases ad2 with
    | none => exact absurd (hnil0 rfl).1 hm0
    | some b2 =>
      obtain ⟨v, w', hrun, hown, hgb, hwh⟩ := grows_at (P := P) w t ty e0 ie z ie.size ie.bytes hu hie hz rfl rfl c1 b cap cap (rowc ie.size cap g0) (rowc_length _ _ _) (hrd b rfl) b2 m cp (rowc ie.size m new) (rowc_length _ _ _) (hcells b2 rfl) (by omega) hm1 hm2
      obtain ⟨hl', h2⟩ := hown
      rcases h2 with ⟨_, e'⟩ | ⟨g, cap', cur, rfl, hbg, hg, hnc, hcm, hcs, htk⟩
      · omega
      have hsp : (cap' - (cap + m)) * ie.size = cur.size - (cap + m) * ie.size := by rw [hcs, Nat.sub_mul]
      have hcap : cap + m + (cap' - (cap + m)) = cap' := by omega
      have hgw : g = w.heap.size := by
        have k' : (Value.slice (some ⟨g, 0, none⟩) (cap + m) cap').ownBlock = some g := rfl
        rw [k'] at hwh
        simp only [Option.some.injEq] at hwh; exact hwh
      obtain ⟨H', hlv⟩ := H.appended (v0 := .slice none 0 0) (ob0 := ob) (.inl ⟨rfl, rfl⟩) hgb (by rw [hgw]; exact H.below.size) (.inr hgw) c9 (y := .row e0 ie.size (cap + m) (fun i c => selC (decide (i < cap)) (g0 i c) (new (i - cap) c)) ((cap' - (cap + m)) * ie.size)) rfl
        (fun i hi c hc => selC_ok _ _ _ (fun hb => hok i (of_decide_eq_true hb) c hc) (fun hb => hok1 (i - cap) (by have := of_decide_eq_false hb; omega) c hc)) (rest := cur.toList.drop ((cap + m) * ie.size)) (by simp [hsp, SO.spare]) (by
          show _ = some (Obj.cells (rowc ie.size (cap + m) _ ++ _).toArray e0 (0, 0))
          rw [hg, ← rowc_append, ← htk, List.take_append_drop, Array.toArray_toList]) (grew_end H.kept.2.2 rfl _)
      refine ⟨.slice (some ⟨g, 0, none⟩) (cap + m) cap', w', cap' - (cap + m), _, by rw [hx]; exact hrun, by omega, ?_, hlv, H'⟩
      simp [SA.conc, SC.conc, grown, hcap]
theorem cpyG_sound (H : Holds W0 ρ tm ob a w) {ts : List TypeId} {ty : TypeId} {s x : SA} (hxb : x.bnd (lv ρ ob)) {qs : List Prop} {z : SA} {ob1 : List SO} (h : cpyG P ob ts s x = some (qs, z, ob1)) (hq : Ok qs) :
    ∃ w', (Builtin.copy_ ts.toArray ty #[s.conc ρ, x.conc ρ]).run P w = .ok (z.conc ρ) w' ∧ z.bnd (lv ρ ob1) ∧ Holds W0 ρ (scrub ob1 tm) ob1 a w' := by
  have fin : ∀ {ob1 : List SO} {w' : World}, Holds W0 ρ tm ob1 a w' → Holds W0 ρ (scrub ob1 tm) ob1 a w' := fun H1 => H1.onto (fun _ _ _ => rfl) (fun _ _ _ h => h) (fun _ _ _ h => .inl ⟨_, _, h⟩) H1.below H1.mem H1.kept H1.keeps
  unfold cpyG at h
  split at h
  case h_2 => cases h
  rename_i t ts'
  split at h
  case h_2 => cases h
  rename_i e hu
  split at h
  case h_2 => cases h
  rename_i ie hie
  split at h
  case h_2 => cases h
  rename_i ps m src hsrc
  have fitrow : ∀ {l : Nat}, rowOK (lv ρ ob) ie.size m src → l ≤ m → ∀ u ∈ rowc ie.size l src, u.oneCell' = true := by
    intro l hok hl u hu
    obtain ⟨j, hj⟩ := List.getElem?_of_mem hu
    obtain ⟨i, c, hi, hc, _, rfl⟩ := rowc_at hj
    rw [← oneCell_eq]; exact fit_one (hok i (by omega) c hc).2
  split at h
  · rename_i o base lo hi cap
    split at h
    case h_2 => cases h
    rename_i e' ks sp ho
    split at h
    case h_2 => cases h
    rename_i cs hs
    split at h
    case h_2 => cases h
    rename_i k hk
    split at h
    case isFalse => cases h
    rename_i hc
    obtain ⟨ha, hsz⟩ := hc
    obtain ⟨r, hr, he⟩ := Option.map_eq_some_iff.1 h
    simp only [Prod.mk.injEq] at he
    obtain ⟨rfl, rfl, rfl⟩ := he
    obtain ⟨hps, hlo, hkd, _⟩ := Ok.append.1 hq
    obtain ⟨q1, q2, q3⟩ := srcG_sound (P := P) H hxb hsrc hps (Nat.min m (hi - lo))
    have q2 := q2 (Nat.min_le_left _ _)
    obtain ⟨h1, ⟨rest, hrest, h2⟩, h3, h4⟩ := H.mem.obj o e' ks sp ho
    have hmm : Nat.min m (hi - lo) ≤ hi - lo := Nat.min_le_right _ _
    obtain ⟨w1, w2⟩ := window_set (lo := lo) (m := Nat.min m (hi - lo)) hs ha hkd (fun j hj => rfl) (by omega) hr ρ rest
    have hst := run_storeCells_at (P := P) (ρ o) (base + lo) e' (rowc 1 (Nat.min m (hi - lo)) src) 0 (concs ρ ks ++ rest).toArray w h2 (by rw [rowc_length, List.size_toArray, List.length_append]; omega) (by rw [← hsz]; exact fitrow q3 (Nat.min_le_left _ _))
    simp only [Nat.add_zero] at hst
    rw [w1] at hst
    refine ⟨_, ?_, trivial, fin (H.turned ho hrest h2 (bnd_flat.2 (lay_all hr (bnd_flat.1 h3) bnd_f)) (fit_flat.2 (lay_all hr (fit_flat.1 h4) fit_f)))⟩
    rw [hsz] at q2
    have hce : P.cellsOf e = 1 := by simp [Program.cellsOf, hie, hsz]
    have hx0 : SA.conc ρ (.sc (.sls o base lo hi cap)) = .slice (some ⟨ρ o, base + lo, none⟩) (hi - lo) cap := rfl
    rw [hx0]
    generalize SA.conc ρ x = xv at q1 q2 ⊢
    simp [Builtin.copy_, run_underlying hu, run_sizeOf w hie, hce, q1, q2, goInt, SA.conc, SC.conc, hst]
  · rename_i o base hi cap
    split at h
    case h_2 => cases h
    rename_i e' ks sp ho
    split at h
    case h_2 => cases h
    rename_i cs hs
    split at h
    case h_2 => cases h
    rename_i k hk
    split at h
    case isFalse => cases h
    rename_i hc
    obtain ⟨ha, hsz⟩ := hc
    obtain ⟨r, hr, he⟩ := Option.map_eq_some_iff.1 h
    simp only [Prod.mk.injEq] at he
    obtain ⟨rfl, rfl, rfl⟩ := he
    obtain ⟨hps, hkd, _⟩ := Ok.append.1 hq
    obtain ⟨q1, q2, q3⟩ := srcG_sound (P := P) H hxb hsrc hps (Nat.min m hi)
    have q2 := q2 (Nat.min_le_left _ _)
    obtain ⟨h1, ⟨rest, hrest, h2⟩, h3, h4⟩ := H.mem.obj o e' ks sp ho
    have hmm : Nat.min m hi ≤ hi := Nat.min_le_right _ _
    obtain ⟨w1, w2⟩ := window_set (lo := 0) (m := Nat.min m hi) hs ha hkd (fun j hj => by simp) (by omega) hr ρ rest
    have hst := run_storeCells_at (P := P) (ρ o) base e' (rowc 1 (Nat.min m hi) src) 0 (concs ρ ks ++ rest).toArray w h2 (by rw [rowc_length, List.size_toArray, List.length_append]; omega) (by rw [← hsz]; exact fitrow q3 (Nat.min_le_left _ _))
    simp only [Nat.add_zero] at hst w1
    rw [w1] at hst
    refine ⟨_, ?_, trivial, fin (H.turned ho hrest h2 (bnd_flat.2 (lay_all hr (bnd_flat.1 h3) bnd_f)) (fit_flat.2 (lay_all hr (fit_flat.1 h4) fit_f)))⟩
    rw [hsz] at q2
    have hce : P.cellsOf e = 1 := by simp [Program.cellsOf, hie, hsz]
    have hx0 : SA.conc ρ (.sc (.sl o base hi cap)) = .slice (some ⟨ρ o, base, none⟩) hi cap := rfl
    rw [hx0]
    generalize SA.conc ρ x = xv at q1 q2 ⊢
    simp [Builtin.copy_, run_underlying hu, run_sizeOf w hie, hce, q1, q2, goInt, SA.conc, SC.conc, hst]
  · rename_i o k off len cap
    split at h
    · rename_i e' k' n g sp ho
      split at h
      case h_2 => cases h
      rename_i hc
      simp only [Bool.and_eq_true] at hc
      have c1 := Nat.eq_of_beq_eq_true hc.1
      have c2 := Nat.eq_of_beq_eq_true hc.2
      subst c1 c2
      simp only [Option.some.injEq, Prod.mk.injEq] at h
      obtain ⟨rfl, rfl, rfl⟩ := h
      obtain ⟨hps, hn, _⟩ := Ok.append.1 hq
      obtain ⟨q1, q2, q3⟩ := srcG_sound (P := P) H hxb hsrc hps (Nat.min m len)
      have q2 := q2 (Nat.min_le_left _ _)
      obtain ⟨h1, ⟨rest, hrest, h2⟩, h3⟩ := H.mem.rows ho
      have hmm : Nat.min m len ≤ len := Nat.min_le_right _ _
      have hml : Nat.min m len ≤ m := Nat.min_le_left _ _
      have w1 := rowc_window (size := ie.size) (n := n) (m := Nat.min m len) (off := off) (g := g) (src := src) (by omega) rest
      have hle : off * ie.size + Nat.min m len * ie.size ≤ n * ie.size := by rw [← Nat.add_mul]; exact Nat.mul_le_mul_right _ (by omega)
      have hst := run_storeCells_at (P := P) (ρ o) (off * ie.size) e' (rowc ie.size (Nat.min m len) src) 0 (rowc ie.size n g ++ rest).toArray w h2 (by rw [rowc_length, List.size_toArray, List.length_append, rowc_length]; omega) (fitrow q3 (Nat.min_le_left _ _))
      simp only [Nat.add_zero] at hst
      rw [w1] at hst
      refine ⟨_, ?_, trivial, fin (H.turnedO (x' := .row e' ie.size n (fun i c => selC (decide (off ≤ i) && decide (i < off + Nat.min m len)) (src (i - off) c) (g i c)) sp) ho rfl rfl rfl hrest h2 (fun i hi c hc => selC_ok _ _ _ (fun hb => q3 (i - off) (by rw [Bool.and_eq_true, decide_eq_true_eq, decide_eq_true_eq] at hb; omega) c hc) (fun _ => h3 i hi c hc)))⟩
      have hce : P.cellsOf e = ie.size := by simp [Program.cellsOf, hie]
      have hx0 : SA.conc ρ (.sc (.slw o ie.size off len cap)) = .slice (some ⟨ρ o, off * ie.size, none⟩) len cap := rfl
      rw [hx0]
      generalize SA.conc ρ x = xv at q1 q2 ⊢
      simp [Builtin.copy_, run_underlying hu, run_sizeOf w hie, hce, q1, q2, goInt, SA.conc, SC.conc, hst]
      rfl
    · rename_i e' k' n g sp p ho
      split at h
      case h_2 => cases h
      rename_i hc
      simp only [Bool.and_eq_true] at hc
      have c1 := Nat.eq_of_beq_eq_true hc.1
      have c2 := Nat.eq_of_beq_eq_true hc.2
      subst c1 c2
      simp only [Option.some.injEq, Prod.mk.injEq] at h
      obtain ⟨rfl, rfl, rfl⟩ := h
      obtain ⟨hps, hn, _⟩ := Ok.append.1 hq
      obtain ⟨q1, q2, q3⟩ := srcG_sound (P := P) H hxb hsrc hps (Nat.min m len)
      have q2 := q2 (Nat.min_le_left _ _)
      obtain ⟨h1, ⟨rest, hrest, h2⟩, hlp, h3⟩ := H.mem.rowsn ho
      have hmm : Nat.min m len ≤ len := Nat.min_le_right _ _
      have hml : Nat.min m len ≤ m := Nat.min_le_left _ _
      have w1 := rowc_window (size := ie.size) (n := n) (m := Nat.min m len) (off := off) (g := valG ρ g) (src := src) (by omega) rest
      have hsb : ∀ i c, off ≤ i → i < off + Nat.min m len → c < ie.size → (src (i - off) c).bnd (lv ρ ob).bare ∧ (src (i - off) c).fit = true := fun i c h1 h2 hc => q3 (i - off) (by omega) c hc
      have w2 : rowc ie.size n (fun i c => selC (decide (off ≤ i) && decide (i < off + Nat.min m len)) (src (i - off) c) (valG ρ g i c)) = rowc ie.size n (valG ρ fun i c => cond (decide (off ≤ i) && decide (i < off + Nat.min m len)) (src (i - off) c) (g i c)) := by
        refine rowc_pt fun i hi c hc => ?_
        rw [selC_conc]
        show _ = (cond (decide (off ≤ i) && decide (i < off + Nat.min m len)) (src (i - off) c) (g i c)).conc ρ
        cases hb : (decide (off ≤ i) && decide (i < off + Nat.min m len)) with
        | true =>
          rw [Bool.and_eq_true, decide_eq_true_eq, decide_eq_true_eq] at hb
          exact (conc_bare (hsb i c hb.1 hb.2 hc).1 ρ).symm
        | false => rfl
      rw [w2] at w1
      have hle : off * ie.size + Nat.min m len * ie.size ≤ n * ie.size := by rw [← Nat.add_mul]; exact Nat.mul_le_mul_right _ (by omega)
      have hst := run_storeCells_at (P := P) (ρ o) (off * ie.size) e' (rowc ie.size (Nat.min m len) src) 0 (rowc ie.size n (valG ρ g) ++ rest).toArray w h2 (by rw [rowc_length, List.size_toArray, List.length_append, rowc_length]; omega) (fitrow q3 (Nat.min_le_left _ _))
      simp only [Nat.add_zero] at hst
      rw [w1] at hst
      refine ⟨_, ?_, trivial, fin (H.turnedO (x' := .rown e' ie.size n (fun i c => cond (decide (off ≤ i) && decide (i < off + Nat.min m len)) (src (i - off) c) (g i c)) sp p) ho rfl rfl rfl hrest h2 ⟨hlp, fun i hi c hc => by
        show (cond (decide (off ≤ i) && decide (i < off + Nat.min m len)) (src (i - off) c) (g i c)).bnd _ ∧ (cond (decide (off ≤ i) && decide (i < off + Nat.min m len)) (src (i - off) c) (g i c)).fit = true
        cases hb : (decide (off ≤ i) && decide (i < off + Nat.min m len)) with
        | true =>
          rw [Bool.and_eq_true, decide_eq_true_eq, decide_eq_true_eq] at hb
          obtain ⟨r1, r2⟩ := hsb i c hb.1 hb.2 hc
          exact ⟨SC.bnd_mono (n := (lv ρ ob).bare) (m := (lv ρ ob).one p) ⟨fun _ k => False.elim k, fun _ _ _ k => k⟩ r1, r2⟩
        | false => exact h3 i hi c hc⟩)⟩
      have hce : P.cellsOf e = ie.size := by simp [Program.cellsOf, hie]
      have hx0 : SA.conc ρ (.sc (.slw o ie.size off len cap)) = .slice (some ⟨ρ o, off * ie.size, none⟩) len cap := rfl
      rw [hx0]
      generalize SA.conc ρ x = xv at q1 q2 ⊢
      simp [Builtin.copy_, run_underlying hu, run_sizeOf w hie, hce, q1, q2, goInt, SA.conc, SC.conc, hst]
      rfl
    · cases h
  · rename_i a n cap w' g
    simp only [Option.some.injEq, Prod.mk.injEq] at h
    obtain ⟨rfl, rfl, rfl⟩ := h
    obtain ⟨hps, hn, _⟩ := Ok.append.1 hq
    subst hn
    obtain ⟨q1, q2, q3⟩ := srcG_sound (P := P) H hxb hsrc hps 0
    have q2 := q2 (Nat.zero_le _)
    refine ⟨w, ?_, trivial, fin H⟩
    have hce : P.cellsOf e = ie.size := by simp [Program.cellsOf, hie]
    have hx0 : SA.conc ρ (.sc (.xs a 0 cap w' g)) = .slice a 0 cap := rfl
    rw [hx0]
    generalize SA.conc ρ x = xv at q1 q2 ⊢
    have q2 : (Builtin.firstCells ie.size 0 xv).run P w = .ok #[] w := q2
    cases a <;> simp [Builtin.copy_, run_underlying hu, run_sizeOf w hie, hce, q1, q2, goInt, SA.conc, SC.conc, storeCells]
  · cases h
theorem cpyF_sound (H : Holds W0 ρ tm ob a w) {ts : List TypeId} {ty : TypeId} {s x : SA} (hxb : x.bnd (lv ρ ob)) {qs : List Prop} {z : SA} {ob1 : List SO} (h : cpyF P ob ts s x = some (qs, z, ob1)) (hq : Ok qs) :
    ∃ w', (Builtin.copy_ ts.toArray ty #[s.conc ρ, x.conc ρ]).run P w = .ok (z.conc ρ) w' ∧ z.bnd (lv ρ ob1) ∧ Holds W0 ρ (scrub ob1 tm) ob1 a w' := by
  have fin : ∀ {ob1 : List SO} {w' : World}, Holds W0 ρ tm ob1 a w' → Holds W0 ρ (scrub ob1 tm) ob1 a w' := fun H1 => H1.onto (fun _ _ _ => rfl) (fun _ _ _ h => h) (fun _ _ _ h => .inl ⟨_, _, h⟩) H1.below H1.mem H1.kept H1.keeps
  unfold cpyF at h
  split at h
  case h_2 => cases h
  rename_i t ts'
  split at h
  case h_2 => cases h
  rename_i e hu
  split at h
  case h_2 => cases h
  rename_i ie hie
  split at h
  case h_2 => cases h
  rename_i ps m src hsrc
  have fitrow : ∀ {l : Nat}, rowOK (lv ρ ob) ie.size m src → l ≤ m → ∀ u ∈ rowc ie.size l src, u.oneCell' = true := by
    intro l hok hl u hu
    obtain ⟨j, hj⟩ := List.getElem?_of_mem hu
    obtain ⟨i, c, hi, hc, _, rfl⟩ := rowc_at hj
    rw [← oneCell_eq]; exact fit_one (hok i (by omega) c hc).2
  split at h
  case h_2 => cases h
  rename_i o base hi cap
  split at h
  case h_2 => cases h
  rename_i e' ks sp ho
  split at h
  case h_2 => cases h
  rename_i cs hs
  split at h
  case h_2 => cases h
  rename_i k hk
  split at h
  case isFalse => cases h
  rename_i hc
  obtain ⟨ha, hsz⟩ := hc
  obtain ⟨r, hr, he⟩ := Option.map_eq_some_iff.1 h
  simp only [Prod.mk.injEq] at he
  obtain ⟨rfl, rfl, rfl⟩ := he
  obtain ⟨hps, him, hkd, _⟩ := Ok.append.1 hq
  have hmin : Nat.min m hi = hi := Nat.min_eq_right him
  obtain ⟨q1, q2, q3⟩ := srcG_sound (P := P) H hxb hsrc hps hi
  have q2 := q2 him
  obtain ⟨h1, ⟨rest, hrest, h2⟩, h3, h4⟩ := H.mem.obj o e' ks sp ho
  obtain ⟨w1, w2⟩ := window_set (lo := 0) (m := hi) hs ha hkd (fun j hj => by simp [hj]) (by omega) hr ρ rest
  have hst := run_storeCells_at (P := P) (ρ o) base e' (rowc 1 hi src) 0 (concs ρ ks ++ rest).toArray w h2 (by rw [rowc_length, List.size_toArray, List.length_append]; omega) (by rw [← hsz]; exact fitrow q3 him)
  simp only [Nat.add_zero] at hst w1
  rw [w1] at hst
  refine ⟨_, ?_, trivial, fin (H.turned ho hrest h2 (bnd_flat.2 (lay_all hr (bnd_flat.1 h3) bnd_f)) (fit_flat.2 (lay_all hr (fit_flat.1 h4) fit_f)))⟩
  rw [hsz] at q2
  have hce : P.cellsOf e = 1 := by simp [Program.cellsOf, hie, hsz]
  have hx0 : SA.conc ρ (.sc (.sl o base hi cap)) = .slice (some ⟨ρ o, base, none⟩) hi cap := rfl
  rw [hx0]
  have hm2 : min m hi = hi := hmin
  generalize SA.conc ρ x = xv at q1 q2 ⊢
  simp [Builtin.copy_, run_underlying hu, run_sizeOf w hie, hce, q1, q2, goInt, SA.conc, SC.conc, hst, hm2]
theorem Holds.world (H : Holds W0 ρ tm ob a w) {w' : World} (hb : Below w.heap.size w w') : Holds W0 ρ tm ob a w' :=
  ⟨H.size, H.rep, H.bnd, H.defers, H.below.trans (hb.mono H.below.size), H.mem.grow hb (Agree.refl _ _) rfl, H.kept, H.gl, H.fzs, H.keeps.grow hb⟩
theorem Holds.scrubbed (H : Holds W0 ρ tm ob a w) : Holds W0 ρ (scrub ob tm) ob a w := H.onto (fun _ _ _ => rfl) (fun _ _ _ h => h) (fun _ _ _ h => .inl ⟨_, _, h⟩) H.below H.mem H.kept H.keeps
theorem args_eq {a : Act} {args : Array Operand} {ys : List SA} (e1 : args.toList.map a.eval = ys.map (SA.conc ρ)) : args.map a.eval = (ys.map (SA.conc ρ)).toArray := by
  apply Array.ext'
  rw [Array.toList_map, e1]
theorem Holds.killed (H : Holds W0 ρ tm ob a w) {o : Nat} {x : SO} (ho : ob[o]? = some x) (hx : x.has = true) {w' : World} (hgb : w.grownBy w' (some (ρ o))) (hall : (ob.set o .dead).all (obB (liveB (ob.set o .dead))) = true) :
    Holds W0 ρ (scrub (ob.set o .dead) tm) (ob.set o .dead) a w' := by
  have hl0 : ∀ i, live (ob.set o .dead) i → live ob i ∧ i ≠ o := fun i hi => live_dead.1 hi
  have hbo := (H.mem.objs o x ho hx).1
  refine H.onto (fun _ _ _ => rfl) (fun _ _ _ h => h) (fun _ _ _ h => .inl ⟨_, _, h⟩) (H.below.grown hgb H.below.size (fun k hk => by simp only [Option.some.injEq] at hk; omega)) ⟨fun i y hi hy => ?_, fun i j hi hj hij => H.mem.injs i j (hl0 i hi).1 (hl0 j hj).1 hij, fun b c v hv => ?_⟩ ⟨fun i hi => ?_, fun i hi => ?_, by simpa using H.kept.2.2⟩ (fun b z hz => by
    obtain ⟨k1, k2⟩ := H.keeps b z hz
    refine ⟨?_, fun i hi => k2 i (hl0 i hi).1⟩
    rw [hgb.block b (heap_lt' k1) (by simp only [ne_eq, Option.some.injEq]; exact fun e => k2 o ⟨x, ho, hx⟩ e.symm)]
    exact k1)
  · have hy0 : y.ok (lv ρ (ob.set o .dead)) := by
      have hne := (hl0 i ⟨y, hi, hy⟩).2
      have hi' : ob[i]? = some y := by rwa [List.getElem?_set_ne (fun e => hne e.symm)] at hi
      exact SO.ok_re (E := lv ρ ob) (m := lv ρ (ob.set o .dead)) (fun _ h => liveB_iff h) (fun _ _ _ h => h) (H.mem.objs i y hi' hy).2.2 (List.all_eq_true.1 hall y (List.mem_of_getElem? hi))
    obtain ⟨h1, hne⟩ := hl0 i ⟨y, hi, hy⟩
    have hi' : ob[i]? = some y := by rwa [List.getElem?_set_ne (fun e => hne e.symm)] at hi
    obtain ⟨a1, ⟨rs, hrs, a2⟩, _⟩ := H.mem.objs i y hi' hy
    refine ⟨a1, ⟨rs, hrs, ?_⟩, hy0⟩
    rw [hgb.block _ (heap_lt a2) (by simp only [ne_eq, Option.some.injEq]; exact fun e => hne (H.mem.injs _ _ h1 ⟨x, ho, hx⟩ e))]
    exact a2
  · obtain ⟨k1, k2⟩ := H.mem.frz b c v hv
    refine ⟨?_, fun i hi => k2 i (hl0 i hi).1⟩
    have := hgb.block b (cell_lt k1) (by simp only [ne_eq, Option.some.injEq]; exact fun e => k2 o ⟨x, ho, hx⟩ e.symm)
    simp only [World.cell?] at k1 ⊢
    rw [this]; exact k1
  · rcases H.kept.1 i hi with ⟨k1, k2⟩ | k
    · by_cases e : i = o
      · subst e; exact .inr (by simp [ob_lt ho])
      · exact .inl ⟨live_dead.2 ⟨k1, e⟩, k2⟩
    · refine .inr ?_
      have : o ≠ i := by rintro rfl; rw [ho] at k; cases k; cases hx
      rw [List.getElem?_set_ne this]; exact k
  · have k := H.kept.2.1 i hi
    have : o ≠ i := by rintro rfl; rw [ho] at k; cases k; cases hx
    rw [List.getElem?_set_ne this]; exact k
theorem run_mark {P : Program} {w : World} {t e : TypeId} {b off : Nat} {C : Array Value} {ty : TypeId} {fr : Nat × Nat} {n c : Nat} (ht : P.underlying t = some (.slice e)) (he : P.underlying e = some (.int .u8)) (hb : w.heap[b]? = some (.cells C ty fr)) :
    ∃ w', (convert t t (.slice (some ⟨b, off, none⟩) n c)).run P w = .ok (.slice (some ⟨b, off, none⟩) n c) w' ∧ w.grownBy w' (some b) ∧ ∃ fr', w'.heap[b]? = some (.cells C ty fr') := by
  have hsh : w.shape? b = some (ty, C.size) := by unfold World.shape?; rw [hb]
  refine ⟨w.freeze ⟨b, C.size, none⟩ 1, by simp [convert, run_underlying ht, run_underlying he, markStringish, hsh], ⟨rfl, rfl, rfl, ?_, fun k _ hk => ?_⟩, ?_⟩
  · unfold World.freeze; rw [if_neg (by decide)]; simp
  · unfold World.freeze; rw [if_neg (by decide)]
    simp only [ne_eq, Option.some.injEq] at hk
    simp only [Array.getElem?_modify]
    rw [if_neg (fun e => hk e.symm)]
  · unfold World.freeze; rw [if_neg (by decide)]
    simp only [Array.getElem?_modify, if_true, hb, Option.map_some]
    exact ⟨_, rfl⟩
theorem concs_cons0 (ρ : Rho) (k : SK) (r : List SK) : concs ρ (k :: r) = concs ρ [k] ++ concs ρ r := by simp [concs, flat]
theorem forgetK_conc (ρ : Rho) (o : Nat) (k : SK) : concs ρ [forgetK o (fun d => ⟨ρ o, d, none⟩) k] = concs ρ [k] := by
  unfold forgetK
  split
  · rename_i o' w' off n cap
    split
    · rename_i h
      have h := Nat.eq_of_beq_eq_true h
      subst h
      rfl
    · rfl
  · rfl
theorem forgetKs_conc (ρ : Rho) (o : Nat) : ∀ ks : List SK, concs ρ (ks.map (forgetK o fun d => ⟨ρ o, d, none⟩)) = concs ρ ks
  | [] => rfl
  | k :: r => by rw [List.map_cons, concs_cons0, concs_cons0 ρ k r, forgetK_conc, forgetKs_conc ρ o r]
theorem forgetK_bnd {o : Nat} {ad : Nat → Addr} {E : Env} {k : SK} (h : k.bnd E) : (forgetK o ad k).bnd E := by
  unfold forgetK
  split
  · split
    · trivial
    · exact h
  · exact h
theorem forgetK_fit {o : Nat} {ad : Nat → Addr} {k : SK} (h : k.fit = true) : (forgetK o ad k).fit = true := by
  unfold forgetK
  split
  · split
    · rfl
    · exact h
  · exact h
theorem forget_get {o : Nat} {ad : Nat → Addr} {ob : List SO} {i : Nat} {x : SO} (h : (forget o ad ob)[i]? = some x) : ∃ y, ob[i]? = some y ∧ x = forgetO o ad y := by
  unfold forget at h
  rw [List.getElem?_map] at h
  obtain ⟨y, hy, e⟩ := Option.map_eq_some_iff.1 h
  exact ⟨y, hy, e.symm⟩
theorem forget_has {o : Nat} {ad : Nat → Addr} (x : SO) : (forgetO o ad x).has = x.has := by cases x <;> rfl
theorem forget_live {o : Nat} {ad : Nat → Addr} {ob : List SO} : live (forget o ad ob) = live ob := by
  funext i
  refine propext ⟨fun ⟨x, hx, hh⟩ => ?_, fun ⟨x, hx, hh⟩ => ?_⟩
  · obtain ⟨y, hy, rfl⟩ := forget_get hx
    exact ⟨y, hy, by rw [← forget_has (o := o) (ad := ad)]; exact hh⟩
  · exact ⟨forgetO o ad x, by unfold forget; rw [List.getElem?_map, hx]; rfl, by rw [forget_has]; exact hh⟩
theorem Holds.forget (H : Holds W0 ρ tm ob a w) (o : Nat) : Holds W0 ρ tm (Sx.forget o (fun d => ⟨ρ o, d, none⟩) ob) a w := by
  have hl := forget_live (o := o) (ad := fun d => ⟨ρ o, d, none⟩) (ob := ob)
  have he : lv ρ (Sx.forget o (fun d => ⟨ρ o, d, none⟩) ob) = lv ρ ob := by unfold lv; rw [hl]
  have hd : ∀ i : Nat, ob[i]? = some .dead → (Sx.forget o (fun d => ⟨ρ o, d, none⟩) ob)[i]? = some .dead := fun i h => by
    unfold Sx.forget; rw [List.getElem?_map, h]; rfl
  refine ⟨H.size, H.rep, fun t => by rw [he]; exact H.bnd t, H.defers, H.below, ⟨fun i x hi hx => ?_, fun i j hi hj hij => H.mem.injs i j (by rw [← hl]; exact hi) (by rw [← hl]; exact hj) hij, fun b o' v hv => ⟨(H.mem.frz b o' v hv).1, fun i hi => (H.mem.frz b o' v hv).2 i (by rw [← hl]; exact hi)⟩⟩,
    ⟨fun i hi => (H.kept.1 i hi).imp (fun h => ⟨by rw [hl]; exact h.1, h.2⟩) (fun h => hd i h), fun i hi => hd i (H.kept.2.1 i hi), by have := H.kept.2.2; unfold Sx.forget; simp; omega⟩, H.gl, H.fzs, fun b z hz => ⟨(H.keeps b z hz).1, fun i hi => (H.keeps b z hz).2 i (by rw [← hl]; exact hi)⟩⟩
  obtain ⟨y, hy, rfl⟩ := forget_get hi
  rw [forget_has] at hx
  obtain ⟨a1, a2, a3⟩ := H.mem.objs i y hy hx
  rw [he]
  cases y with
  | cells e ks sp =>
    refine ⟨a1, ?_, fun k hk => ?_, fun k hk => ?_⟩
    · obtain ⟨rest, h1, h2⟩ := a2
      refine ⟨rest, h1, ?_⟩
      simp only [forgetO, SO.lies, forgetKs_conc]
      exact h2
    · obtain ⟨k0, hk0, rfl⟩ := List.mem_map.1 hk
      exact forgetK_bnd (a3.1 k0 hk0)
    · obtain ⟨k0, hk0, rfl⟩ := List.mem_map.1 hk
      exact forgetK_fit (a3.2 k0 hk0)
  | row e w n g sp => exact ⟨a1, a2, a3⟩
  | rown e w n g sp p => exact ⟨a1, a2, a3⟩
  | mp => exact ⟨a1, a2, a3⟩
  | gone => cases hx
  | dead => cases hx
theorem special_sound {cx : Cx} (hcx : CxOK P cx) (hat : CxAt cx W0) {inl : Inl} (hin : InlOK P cx.gl inl) (H : Holds W0 ρ tm ob a w) {o : Oper} {sp : Special} (hs : special P cx tm o = some sp) {k : SV → List SO → List SO → Prop} (h : doSpecial P cx inl ob k sp)
    {K : Act → World → Prop} {Q : Exit → Act → World → Prop} (hK : ∀ ρ' a' w' sv obS ob', k sv obS ob' → Holds W0 ρ' (put (scrub obS tm) o.dst sv) ob' a' w' → K a' w') : o.wp P a w K Q := by
  unfold special at hs
  split at hs
  · rename_i x args ts ho
    split at hs
    case h_2 => cases hs
    rename_i p0 f caps p1 ys h0 h1
    split at hs
    · split at hs
      case h_2 => cases hs
      rename_i pre fo off len cap post hfz
      simp only [Option.some.injEq] at hs
      subst hs
      simp only [doSpecial] at h
      split at h
      case h_2 => exact h.no
      rename_i s e' ks sp hgs hob
      split at h
      case h_2 => exact h.no
      rename_i cs hcs
      split at h
      case h_2 => exact h.no
      rename_i hkb
      simp only [Bool.and_eq_true] at hkb
      obtain ⟨hp, h⟩ := ands_iff.1 h
      obtain ⟨hp1, hlc, _⟩ := Ok.append.1 hp
      obtain ⟨o0, o1⟩ := Ok.append.1 hp1
      obtain ⟨ef, bf⟩ := calleeOf_sound H h0 o0
      obtain ⟨e1, b1⟩ := rdL_sound H h1 o1
      have hys := frzOf_spec hfz
      obtain ⟨_, ⟨rest, _, hrow⟩, _⟩ := H.mem.obj fo e' ks sp hob
      have hgb : w.grownBy w (some (ρ fo)) := ⟨rfl, rfl, rfl, Nat.le_refl _, fun _ _ _ => rfl⟩
      have H1 := (H.killed hob rfl hgb hkb.2).frozen (fun bl o v => bl = ρ fo ∧ (concs ρ ks ++ rest)[o]? = some v) (fun bl o v hF => by
        obtain ⟨rfl, hv⟩ := hF
        refine ⟨by simp only [World.cell?, hrow]; simpa using hv, fun i hi => ?_⟩
        obtain ⟨q1, q2⟩ := live_dead.1 hi
        exact fun e => q2 (H.mem.injs _ _ q1 (live_cells hob) e)) (fun bl o v hF => by rw [hF.1]; exact .inr (H.mem.objs _ _ hob rfl).1)
      have h := h ⟨ρ fo, off, none⟩
      split at h
      case h_2 => exact h.no
      rename_i qs sv hsv
      obtain ⟨hq, h⟩ := ands_iff.1 h
      obtain ⟨b0, hfn⟩ := Cx.get_ok hcx hgs _ qs sv hsv hq
      obtain ⟨l1, l2⟩ := concs_sub hcs ρ
      have hxs : (SA.sc (.xs (some ⟨ρ fo, off, none⟩) len cap 1 (fun i _ => .val (.int .u8 (selG cs i))))).bnd ⟨fun _ => True, fun b o v => ρ.fz b o v ∨ (b = ρ fo ∧ (concs ρ ks ++ rest)[o]? = some v)⟩ := by
        refine ⟨fun e => (by cases e), hlc, fun bb hb => ?_⟩
        simp only [Option.some.injEq] at hb
        subst hb
        refine ⟨fun _ => rfl, fun i hi c hc => ⟨trivial, rfl, .inr ⟨rfl, ?_⟩⟩⟩
        have hc0 : c = 0 := by omega
        subst hc0
        have hlen : (flat cs).length = len := by
          obtain ⟨a, b⟩ := sub_flat hcs
          rw [b]; simp; omega
        have := selG_conc hkb.1 ρ (j := i) (by omega)
        rw [l2, List.getElem?_take, if_pos hi, List.getElem?_drop] at this
        rw [Nat.mul_one, Nat.add_zero, List.getElem?_append_left (List.getElem?_eq_some_iff.1 this).1]
        exact this
      have hcaps : (caps.map ofPV).map (SA.conc ρ) = caps.map (PV.conc ρ) := by
        rw [List.map_map]; exact List.map_congr_left fun p _ => ofPV_conc ρ p
      have hle : Env.le ⟨fun _ => True, ρ.fz⟩ ⟨fun _ => True, fun b o v => ρ.fz b o v ∨ (b = ρ fo ∧ (concs ρ ks ++ rest)[o]? = some v)⟩ := ⟨fun _ x => x, fun _ _ _ x => .inl x⟩
      have hall : ∀ x ∈ pre ++ SA.sc (.xs (some ⟨ρ fo, off, none⟩) len cap 1 (fun i _ => .val (.int .u8 (selG cs i)))) :: (post ++ caps.map ofPV), x.bnd ⟨fun _ => True, fun b o v => ρ.fz b o v ∨ (b = ρ fo ∧ (concs ρ ks ++ rest)[o]? = some v)⟩ := by
        intro x hx
        have old : ∀ y ∈ ys, y.bnd ⟨fun _ => True, fun b o v => ρ.fz b o v ∨ (b = ρ fo ∧ (concs ρ ks ++ rest)[o]? = some v)⟩ := fun y hy => SA.bnd_mono hle (SA.bnd_mono lv_all (b1 y hy))
        rw [hys] at old
        rcases List.mem_append.1 hx with hx | hx
        · exact old x (by simp [hx])
        · rcases List.mem_cons.1 hx with rfl | hx
          · exact hxs
          · rcases List.mem_append.1 hx with hx | hx
            · exact old x (by simp [hx])
            · obtain ⟨p, hp, rfl⟩ := List.mem_map.1 hx
              exact SA.bnd_mono hle (SA.bnd_mono lv_all (ofPV_bnd (bf p hp)))
      have hconc : (pre ++ SA.sc (.xs (some ⟨ρ fo, off, none⟩) len cap 1 (fun i _ => .val (.int .u8 (selG cs i)))) :: (post ++ caps.map ofPV)).map (SA.conc ⟨ρ.pos, fun b o v => ρ.fz b o v ∨ (b = ρ fo ∧ (concs ρ ks ++ rest)[o]? = some v)⟩) = (ys ++ caps.map ofPV).map (SA.conc ρ) := by
        have hpos : ∀ x : SA, SA.conc ⟨ρ.pos, fun b o v => ρ.fz b o v ∨ (b = ρ fo ∧ (concs ρ ks ++ rest)[o]? = some v)⟩ x = SA.conc ρ x := fun x => conc_pos x
        rw [List.map_congr_left (fun x _ => hpos x), hys]
        simp only [List.map_append, List.map_cons, List.append_assoc, List.cons_append]
        rfl
      have hrun : (execOp a.eval o).run P w = (callFunc f ((ys ++ caps.map ofPV).map (SA.conc ρ)).toArray).run P w := by
        rw [run_call_fn ho ef (args_eq e1), List.map_append, hcaps]
      unfold Oper.wp
      rw [hrun, ← hconc]
      rcases hfn ⟨ρ.pos, fun b o v => ρ.fz b o v ∨ (b = ρ fo ∧ (concs ρ ks ++ rest)[o]? = some v)⟩ w (fun b o v k => (H1.mem.frz b o v k).1) (by rw [hat.1]; exact H1.gl) hall with ⟨r, hc⟩ | ⟨v, r, hv⟩
      · rw [r, Oper.upon_enter]
        refine hc.mono ?_
        rintro e w' ⟨v, rfl, hv, hbl⟩
        refine hK _ _ _ _ _ _ h (Holds.put ⟨H1.size, H1.rep, H1.bnd, H1.defers, ?_, H1.mem.grow hbl (Agree.refl _ _) rfl, H1.kept, H1.gl, H1.fzs, H1.keeps.grow hbl⟩ o.dst hv (SV.bnd_mono none0_le b0))
        exact H1.below.trans (hbl.mono H1.below.size)
      · rw [r, Oper.upon_value]
        exact hK _ _ _ _ _ _ h (H1.put o.dst hv (SV.bnd_mono none0_le b0))
    rename_i hcx
    split at hs
    case h_2 => cases hs
    simp only [Option.some.injEq] at hs
    subst hs
    simp only [doSpecial] at h
    obtain ⟨hp, h⟩ := ands_iff.1 h
    obtain ⟨o0, o1⟩ := Ok.append.1 hp
    obtain ⟨ef, bf⟩ := calleeOf_sound H h0 o0
    obtain ⟨e1, b1⟩ := rdL_sound H h1 o1
    have hcaps : (caps.map ofPV).map (SA.conc ρ) = caps.map (PV.conc ρ) := by
      rw [List.map_map]; exact List.map_congr_left fun p _ => ofPV_conc ρ p
    obtain ⟨hrun, hc⟩ := hin f _ ob _ h hat.1.symm H (fun y hy => by
      rcases List.mem_append.1 hy with hy | hy
      · exact b1 y hy
      · obtain ⟨p, hp, rfl⟩ := List.mem_map.1 hy; exact ofPV_bnd (bf p hp))
    unfold Oper.wp
    rw [run_call_fn ho ef (args_eq e1), ← hcaps, ← List.map_append, hrun, Oper.upon_enter]
    refine hc.mono ?_
    rintro e w' ⟨v, rfl, ρ', sv, ob', hk, hr, hb, H'⟩
    exact hK ρ' _ _ sv ob' ob' hk (H'.put o.dst hr hb)
  · rename_i args ts ho
    split at hs
    case h_2 => cases hs
    rename_i p1 s x h1
    have exec : ∀ {v : Value} {w' : World}, Ok p1 → (Builtin.append_ ts.toList.toArray o.type #[s.conc ρ, x.conc ρ]).run P w = .ok v w' → (execOp a.eval o).run P w = .ok (.value v) w' := by
      intro v w' o1 hrun
      obtain ⟨e1, b1⟩ := rdL_sound H h1 o1
      rw [Array.toArray_toList] at hrun
      unfold execOp
      have := args_eq e1
      simp only [List.map_cons, List.map_nil] at this
      simp only [ho, resolve, this, Sem.run_bind, Sem.run_pure, Result.andThen_ok, invoke, builtin, hrun]
    split at hs
    · simp only [Option.some.injEq] at hs
      subst hs
      simp only [doSpecial] at h
      have go : ∀ (ob2 : List SO), Holds W0 ρ tm ob2 a w → ∀ {qs : List Prop} {e : TypeId} {size n : Nat} {g : Nat → Nat → SC} {ob0 : List SO} {old : Option Nat} {nl : Bool} {m : Nat}, appG (wideR cx) P ob2 ts.toList s x = some ⟨qs, e, size, n, g, ob0, old, nl, m⟩ →
          ands (p1 ++ qs) (match nl with
            | true => (m = 0 → k (.one (.sc (.val (.slice none 0 0)))) ob2 ob2) ∧ (m ≠ 0 → ∀ c : Nat, n + c ≤ maxLen → capQ (wideR cx) (capA s) n c (match growAt cx.kn old ob0 (.row e size n g (c * size)) with
              | (o, ob1) => k (.one (.sc (.slw o size 0 n (n + c)))) ob0 ob1))
            | false => ∀ c : Nat, n + c ≤ maxLen → capQ (wideR cx) (capA s) n c (match growAt cx.kn old ob0 (.row e size n g (c * size)) with
              | (o, ob1) => k (.one (.sc (.slw o size 0 n (n + c)))) ob0 ob1)) → o.wp P a w K Q := by
        intro ob2 H qs e size n g ob0 old nl m hpl h
        obtain ⟨hp, h⟩ := ands_iff.1 h
        obtain ⟨o1, o2⟩ := Ok.append.1 hp
        obtain ⟨e1, b1⟩ := rdL_sound H h1 o1
        unfold Oper.wp
        rcases appG_sound (ty := o.type) H hat.2 (b1 x (by simp)) hpl o2 with ⟨n1, n2, hrun⟩ | ⟨hn, v, w', c, ρ', hrun, hc, rfl, hl, H'⟩
        · rw [exec o1 hrun, Oper.upon_value]
          simp only at n1 n2
          subst n1
          exact hK ρ _ _ _ _ _ (h.1 n2) (H.scrubbed.put o.dst (sv := .one (.sc (.val (.slice none 0 0)))) rfl trivial)
        · rw [exec o1 hrun, Oper.upon_value]
          refine hK ρ' _ _ _ _ _ ?_ (H'.put o.dst (sv := .one (.sc (.slw (growAt cx.kn old ob0 .gone).1 size 0 n (n + c)))) rfl hl)
          cases hnl : nl with
          | true =>
            rw [hnl] at h
            rw [growAt_fst cx.kn old ob0 .gone (.row e size n g (c * size))]
            exact capQ_elim (h.2 (fun e => hn ⟨hnl, e⟩) c hc.1) hc.2
          | false =>
            rw [hnl] at h
            rw [growAt_fst cx.kn old ob0 .gone (.row e size n g (c * size))]
            exact capQ_elim (h c hc.1) hc.2
      split at h
      · rename_i qs e size n g ob0 old nl m hpl
        exact go ob H hpl h
      · split at h
        case h_2 => exact h.no
        rename_i o' w' off' n' c' hs'
        have h := h fun d => ⟨ρ o', d, none⟩
        split at h
        · rename_i qs e size n g ob0 old nl m hpl
          exact go _ (H.forget o') hpl h
        · exact h.no
    · simp only [Option.some.injEq] at hs
      subst hs
      simp only [doSpecial] at h
      split at h
      · rename_i qs e size n g hpl
        split at hpl
        case h_2 => cases hpl
        obtain ⟨hp, h⟩ := ands_iff.1 h
        obtain ⟨o1, o2⟩ := Ok.append.1 hp
        obtain ⟨e1, b1⟩ := rdL_sound H h1 o1
        obtain ⟨v, w', c, ρ', hrun, hc, rfl, hl, H'⟩ := appY_sound (ty := o.type) H (b1 s (by simp)) (b1 x (by simp)) hpl o2
        unfold Oper.wp
        rw [exec o1 hrun, Oper.upon_value]
        exact hK ρ' _ _ _ _ _ (h c hc) (H'.put o.dst (sv := .one (.sc (.slw ob.length size 0 n (n + c)))) rfl hl)
      split at h
      · rename_i qs e size n ks ob1 hpl
        split at hpl
        case h_2 => cases hpl
        obtain ⟨hp, h⟩ := ands_iff.1 h
        obtain ⟨o1, o2⟩ := Ok.append.1 hp
        obtain ⟨e1, b1⟩ := rdL_sound H h1 o1
        obtain ⟨v, w', c, ρ', hrun, hc, rfl, hl, H'⟩ := appX_sound (ty := o.type) H (b1 s (by simp)) (b1 x (by simp)) hpl o2
        unfold Oper.wp
        rw [exec o1 hrun, Oper.upon_value]
        exact hK ρ' _ _ _ _ _ (h c hc) (H'.put o.dst (sv := .one (.sc (.sl ob1.length 0 n (n + c)))) rfl hl)
      split at h
      · rename_i qs e size n hgz
        split at hgz
        case h_2 => cases hgz
        obtain ⟨hp, h⟩ := ands_iff.1 h
        obtain ⟨o1, o2⟩ := Ok.append.1 hp
        obtain ⟨v, w', c, ρ', hrun, hc, rfl, hl, H'⟩ := growZ_sound (ty := o.type) H hgz o2
        unfold Oper.wp
        rw [exec o1 hrun, Oper.upon_value]
        exact hK ρ' _ _ _ _ _ (h c hc) (H'.put o.dst (sv := .one (.sc (.slw ob.length size 0 n (n + c)))) rfl hl)
      split at h
      · rename_i qs e size n ks ob1 hpl
        obtain ⟨hp, h⟩ := ands_iff.1 h
        obtain ⟨o1, o2⟩ := Ok.append.1 hp
        obtain ⟨v, w', c, ρ', hrun, hc, rfl, hl, H'⟩ := app_sound (ty := o.type) H hpl o2
        unfold Oper.wp
        rw [exec o1 hrun, Oper.upon_value]
        exact hK ρ' _ _ _ _ _ (h c hc) (H'.put o.dst (sv := .one (.sc (.sl ob1.length 0 n (n + c)))) rfl hl)
      · split at h
        case h_2 =>
          split at h
          case h_2 => exact h.no
          rename_i e size n ks hgp
          obtain ⟨o1, h⟩ := ands_iff.1 h
          obtain ⟨v, w', c, ρ', hrun, hc, rfl, hl, H'⟩ := grow_sound (ty := o.type) H hgp
          unfold Oper.wp
          rw [exec o1 hrun, Oper.upon_value]
          exact hK ρ' _ _ _ _ _ (h c hc) (H'.put o.dst (sv := .one (.sc (.sl ob.length 0 n (n + c)))) rfl hl)
        rename_i p hpl
        obtain ⟨hp, h⟩ := ands_iff.1 h
        obtain ⟨o1, o2⟩ := Ok.append.1 hp
        obtain ⟨e1, b1⟩ := rdL_sound H h1 o1
        unfold Oper.wp
        rcases appG_sound (ty := o.type) H hat.2 (b1 x (by simp)) hpl o2 with ⟨n1, n2, hrun⟩ | ⟨hn, v, w', c, ρ', hrun, hc, rfl, hl, H'⟩
        · rw [exec o1 hrun, Oper.upon_value]
          rw [n1] at h
          exact hK ρ _ _ _ _ _ (h.1 n2) (H.scrubbed.put o.dst (sv := .one (.sc (.val (.slice none 0 0)))) rfl trivial)
        · rw [exec o1 hrun, Oper.upon_value]
          refine hK ρ' _ _ _ _ _ ?_ (H'.put o.dst (sv := .one (.sc (.slw (growAt cx.kn p.old p.ob0 .gone).1 p.size 0 p.n (p.n + c)))) rfl hl)
          cases hnl : p.nil with
          | true =>
            rw [hnl] at h
            exact capQ_elim (h.2 (fun e => hn ⟨hnl, e⟩) c hc.1) hc.2
          | false =>
            rw [hnl] at h
            exact capQ_elim (h c hc.1) hc.2
  · rename_i args ts ho
    split at hs
    · cases hs
    case h_3 => cases hs
    rename_i p1 s x _ h1
    simp only [Option.some.injEq] at hs
    subst hs
    have exec : ∀ {v : Value} {w' : World}, Ok p1 → (Builtin.copy_ ts.toList.toArray o.type #[s.conc ρ, x.conc ρ]).run P w = .ok v w' → (execOp a.eval o).run P w = .ok (.value v) w' := by
      intro v w' o1 hrun
      obtain ⟨e1, b1⟩ := rdL_sound H h1 o1
      rw [Array.toArray_toList] at hrun
      unfold execOp
      have := args_eq e1
      simp only [List.map_cons, List.map_nil] at this
      simp only [ho, resolve, this, Sem.run_bind, Sem.run_pure, Result.andThen_ok, invoke, builtin, hrun]
    simp only [doSpecial] at h
    split at h
    · rename_i qs z ob1 hpl
      obtain ⟨hp, h⟩ := ands_iff.1 h
      obtain ⟨o1, o2⟩ := Ok.append.1 hp
      obtain ⟨w', hrun, hb, H'⟩ := cpy_sound (ty := o.type) H hpl
      unfold Oper.wp
      rw [exec o1 hrun, Oper.upon_value]
      exact hK ρ _ _ _ _ _ h (H'.put o.dst (sv := .one z) rfl hb)
    · split at h
      · rename_i qs z ob1 hpl
        split at hpl
        case h_2 => cases hpl
        obtain ⟨hp, h⟩ := ands_iff.1 h
        obtain ⟨o1, o2⟩ := Ok.append.1 hp
        obtain ⟨e1, b1⟩ := rdL_sound H h1 o1
        obtain ⟨w', hrun, hb, H'⟩ := cpyF_sound (ty := o.type) H (b1 x (by simp)) hpl o2
        unfold Oper.wp
        rw [exec o1 hrun, Oper.upon_value]
        exact hK ρ _ _ _ _ _ h (H'.put o.dst (sv := .one z) rfl hb)
      · split at h
        case h_2 => exact h.no
        rename_i qs z ob1 hpl
        obtain ⟨hp, h⟩ := ands_iff.1 h
        obtain ⟨o1, o2⟩ := Ok.append.1 hp
        obtain ⟨e1, b1⟩ := rdL_sound H h1 o1
        obtain ⟨w', hrun, hb, H'⟩ := cpyG_sound (ty := o.type) H (b1 x (by simp)) hpl o2
        unfold Oper.wp
        rw [exec o1 hrun, Oper.upon_value]
        exact hK ρ _ _ _ _ _ h (H'.put o.dst (sv := .one z) rfl hb)
  · rename_i e x ho
    split at hs
    case h_2 => cases hs
    split at hs
    case h_2 => cases hs
    rename_i p1 y h1
    split at hs
    case h_2 => cases hs
    rename_i hall
    simp only [Option.some.injEq] at hs
    subst hs
    simp only [doSpecial] at h
    obtain ⟨o1, h⟩ := ands_iff.1 h
    obtain ⟨e1, b1⟩ := rd_sound h1 o1 H
    have hbare : ∀ c ∈ flat (toKs y), c.bnd (lv ρ ob).bare ∧ c.fit = true := fun c hc => bareC_ok (List.all_eq_true.1 hall c hc) (bnd_flat.1 (toKs_bnd b1) c hc)
    have hbl : Below w.heap.size w (w.alloc (.cells (concs ρ (toKs y)).toArray e)) := (Below.refl _ _).alloc (Nat.le_refl _) _
    have hnew : (w.alloc (.cells (concs ρ (toKs y)).toArray e)).heap[w.heap.size]? = some (.cells (concs ρ (toKs y)).toArray e (0, 0)) := by
      show (w.heap.push _)[w.heap.size]? = _
      simp
    have H1 := (H.world hbl).frozen (fun bl o v => bl = w.heap.size ∧ (concs ρ (toKs y))[o]? = some v) (fun bl o v hF => by
      obtain ⟨rfl, hv⟩ := hF
      refine ⟨by simp only [World.cell?, hnew]; simpa using hv, fun i hi => ?_⟩
      obtain ⟨y, hy, hh⟩ := hi
      obtain ⟨_, ⟨_, _, h2⟩, _⟩ := H.mem.objs i y hy hh
      have := heap_lt h2; omega) (fun bl o v hF => by rw [hF.1]; exact .inr H.below.size)
    unfold Oper.wp execOp
    simp only [ho, Sem.run_bind, Instr.box, e1, newVar, newRow, toKs_conc, run_newObj, Result.andThen_ok, Sem.run_pure, Oper.upon]
    refine hK _ _ _ _ _ _ (h ⟨w.heap.size, 0, none⟩) (H1.scrubbed.put o.dst (sv := .one (.sc (.px ⟨w.heap.size, 0, none⟩ (flat (toKs y)).length fun c => (flat (toKs y)).getD c (.bit false)))) rfl ?_)
    refine ⟨rfl, fun c hc => ?_⟩
    have hm : (flat (toKs y)).getD c (.bit false) ∈ flat (toKs y) := by
      rw [List.getD_eq_getElem?_getD, List.getElem?_eq_getElem hc, Option.getD_some]
      exact List.getElem_mem hc
    obtain ⟨q1, q2⟩ := hbare _ hm
    have hle : Env.le (lv ρ ob).bare (Env.bare (lv ⟨ρ.pos, fun bl o v => ρ.fz bl o v ∨ (bl = w.heap.size ∧ (concs ρ (toKs y))[o]? = some v)⟩ ob)) := ⟨fun _ x => x, fun _ _ _ x => .inl x⟩
    refine ⟨SC.bnd_mono hle q1, q2, .inr ⟨rfl, ?_⟩⟩
    show (concs ρ (toKs y))[0 + c]? = some (SC.conc Rho.nil ((flat (toKs y)).getD c (SC.bit false)))
    rw [Nat.zero_add, concs, List.getElem?_map, List.getElem?_eq_getElem hc, Option.map_some, List.getD_eq_getElem?_getD, List.getElem?_eq_getElem hc, Option.getD_some]
    have := conc_bare (E := lv ρ ob) (c := (flat (toKs y))[c]) (by
      have := hbare _ (List.getElem_mem hc)
      exact this.1) ρ
    rw [this]
  · rename_i s d x ho
    split at hs
    case h_2 =>
      split at hs
      case h_2 => cases hs
      rename_i hbt
      split at hs
      case h_2 => cases hs
      rename_i p1 ox off len cap h1
      simp only [Option.some.injEq] at hs
      subst hs
      simp only [Bool.and_eq_true] at hbt
      have hsd := Nat.eq_of_beq_eq_true hbt.1
      subst hsd
      obtain ⟨e, u1, u2⟩ := isBytesT_spec hbt.2
      simp only [doSpecial] at h
      split at h
      case h_2 => exact h.no
      rename_i e' ks sp hob
      split at h
      case h_2 => exact h.no
      rename_i cs hcs
      split at h
      case h_2 => exact h.no
      rename_i hkb
      simp only [Bool.and_eq_true] at hkb
      obtain ⟨hp, h⟩ := ands_iff.1 h
      obtain ⟨hp1, hlc, _⟩ := Ok.append.1 hp
      obtain ⟨e1, _⟩ := rd_sound h1 hp1 H
      obtain ⟨_, ⟨rest, _, hrow⟩, _⟩ := H.mem.obj ox e' ks sp hob
      obtain ⟨w', hrun, hgb, fr, hrow'⟩ := run_mark (P := P) (off := off) (n := len) (c := cap) u1 u2 hrow
      obtain ⟨l1, l2⟩ := concs_sub hcs ρ
      have hlen : (flat cs).length = len := by
        obtain ⟨a, b⟩ := sub_flat hcs
        rw [b]; simp; omega
      have H1 := (H.killed hob rfl hgb hkb.2).frozen (fun bl o v => bl = ρ ox ∧ (concs ρ ks ++ rest)[o]? = some v) (fun bl o v hF => by
        obtain ⟨rfl, hv⟩ := hF
        refine ⟨by simp only [World.cell?, hrow']; simpa using hv, fun i hi => ?_⟩
        obtain ⟨q1, q2⟩ := live_dead.1 hi
        exact fun e => q2 (H.mem.injs _ _ q1 (live_cells hob) e)) (fun bl o v hF => by rw [hF.1]; exact .inr (H.mem.objs _ _ hob rfl).1)
      unfold Oper.wp execOp
      simp only [ho, Sem.run_bind, e1, SA.conc, SC.conc, hrun, Result.andThen_ok, Sem.run_pure, Oper.upon]
      refine hK _ _ _ _ _ _ (h ⟨ρ ox, off, none⟩) (H1.put o.dst (sv := .one (.sc (.xs (some ⟨ρ ox, off, none⟩) len cap 1 (fun i _ => .val (.int .u8 (selG cs i)))))) rfl ?_)
      refine ⟨fun e => (by cases e), hlc, fun bb hb => ?_⟩
      simp only [Option.some.injEq] at hb
      subst hb
      refine ⟨fun _ => rfl, fun i hi c hc => ⟨trivial, rfl, .inr ⟨rfl, ?_⟩⟩⟩
      have hc0 : c = 0 := by omega
      subst hc0
      have := selG_conc hkb.1 ρ (j := i) (by omega)
      rw [l2, List.getElem?_take, if_pos hi, List.getElem?_drop] at this
      rw [Nat.mul_one, Nat.add_zero, List.getElem?_append_left (List.getElem?_eq_some_iff.1 this).1]
      exact this
    rename_i hst
    split at hs
    case h_2 => cases hs
    rename_i p1 b h1
    simp only [Option.some.injEq] at hs
    subst hs
    obtain ⟨e, u1, u2, u3⟩ := isTexts_spec hst
    simp only [doSpecial] at h
    obtain ⟨hp, h⟩ := ands_iff.1 h
    obtain ⟨e1, _⟩ := rd_sound h1 hp H
    have hrun := run_bytes_of_string (P := P) w s d e b u1 u2 u3
    have hge := grownCap_ge w b.size 0 e
    generalize grownCap w b.size 0 e = cap at hrun hge
    generalize hrow : bytesRow b cap = row at hrun
    have hbl : Below w.heap.size w (w.drew.alloc (.cells row e (row.size, row.size + 1))) := (Below.refl _ _).drew.alloc (Nat.le_refl _) _
    have hnew : (w.drew.alloc (.cells row e (row.size, row.size + 1))).heap[w.heap.size]? = some (.cells row e (row.size, row.size + 1)) := by
      show (w.heap.push _)[w.heap.size]? = _
      simp
    have H1 := (H.world hbl).frozen (fun bl o v => bl = w.heap.size ∧ row[o]? = some v) (fun bl o v hF => by
      obtain ⟨rfl, hv⟩ := hF
      refine ⟨by simp only [World.cell?, hnew]; simpa using hv, fun i hi => ?_⟩
      obtain ⟨y, hy, hh⟩ := hi
      obtain ⟨_, ⟨_, _, h2⟩, _⟩ := H.mem.objs i y hy hh
      have := heap_lt h2; omega) (fun bl o v hF => by rw [hF.1]; exact .inr H.below.size)
    unfold Oper.wp execOp
    simp only [ho, Sem.run_bind, e1, SA.conc, SC.conc, hrun, Result.andThen_ok, Sem.run_pure, Oper.upon]
    refine hK _ _ _ _ _ _ (h ⟨w.heap.size, 0, none⟩ cap hge) (H1.scrubbed.put o.dst (sv := .one (.sc (.xs (some ⟨w.heap.size, 0, none⟩) b.size cap 1 (fun i _ => .val (.int .u8 ((b.data.getD i 0).toNat : Int)))))) rfl ?_)
    refine ⟨fun e => (by cases e), hge, fun bb hb => ?_⟩
    simp only [Option.some.injEq] at hb
    subst hb
    refine ⟨fun _ => rfl, fun i hi c hc => ⟨trivial, rfl, .inr ⟨rfl, ?_⟩⟩⟩
    have : c = 0 := by omega
    subst this
    rw [← hrow]
    have := bytesRow_at b cap i (by simpa using hi)
    simp only [Nat.zero_add, Nat.mul_one, Nat.add_zero, SC.conc]
    rw [this]
    have hi' : i < b.data.size := by simpa using hi
    rw [Array.getD_eq_getD_getElem?, Array.getElem?_eq_getElem hi', Option.getD_some]
  · rename_i r m args ts ho
    split at hs
    case h_2 => cases hs
    rename_i p0 t o' off p1 ys h0 h1
    split at hs
    case h_2 => cases hs
    rename_i f hf
    simp only [Option.some.injEq] at hs
    subst hs
    simp only [doSpecial] at h
    obtain ⟨hp, h⟩ := ands_iff.1 h
    obtain ⟨o0, o1⟩ := Ok.append.1 hp
    obtain ⟨e0, b0⟩ := rd_sound h0 o0 H
    obtain ⟨e1, b1⟩ := rdL_sound H h1 o1
    obtain ⟨hrun, hc⟩ := hin f _ ob _ h hat.1.symm H (fun y hy => by
      rcases List.mem_cons.1 hy with rfl | hy
      · exact b0
      · exact b1 y hy)
    unfold Oper.wp
    rw [run_call_inv ho hf (ad := ⟨ρ o', off, none⟩) e0 (args_eq e1)]
    rw [show (Value.pointer (some ⟨ρ o', off, none⟩) :: ys.map (SA.conc ρ)) = (SA.sc (.ptr o' off) :: ys).map (SA.conc ρ) from rfl, hrun, Oper.upon_enter]
    refine hc.mono ?_
    rintro e w' ⟨v, rfl, ρ', sv, ob', hk, hr, hb, H'⟩
    exact hK ρ' _ _ sv ob' ob' hk (H'.put o.dst hr hb)
  · rename_i args ts ho
    split at hs
    case h_2 => cases hs
    rename_i t hts
    split at hs
    case h_2 =>
      split at hs
      case h_2 => cases hs
      rename_i p1 o' h1
      split at hs
      case h_2 => cases hs
      rename_i hmt
      simp only [Option.some.injEq] at hs
      subst hs
      simp only [doSpecial] at h
      split at h
      case h_2 => exact h.no
      rename_i sc kk wd n key g hob
      obtain ⟨hp, h⟩ := ands_iff.1 h
      obtain ⟨e1, _⟩ := rdL_sound H h1 hp
      have e2 := args_eq e1
      have hts' : ts = #[t] := Array.ext' hts
      obtain ⟨hm, _⟩ := H.mapAt hob
      obtain ⟨kt, et, hu⟩ : ∃ kt et, P.underlying t = some (.map kt et) := by
        unfold isMapT at hmt
        split at hmt
        · rename_i kt et hu; exact ⟨kt, et, hu⟩
        · cases hmt
      have hsz : (mpE sc kk wd n key g).size = n := by simp [mpE]
      have hrun : (Builtin.len_ ts o.type #[.map (some (ρ o'))]).run P w = .ok (.int .i64 (n : Int)) w := by
        rw [hts']
        simp [Builtin.len_, run_underlying hu, Go.MapKept.run_getObj_map hm, goInt, hsz, Result.andThen]
      have e3 : args.map a.eval = #[.map (some (ρ o'))] := e2
      unfold Oper.wp execOp
      simp only [ho, resolve, e3, Sem.run_bind, Sem.run_pure, Result.andThen_ok, invoke, builtin, hrun, Oper.upon]
      exact hK ρ _ _ _ _ _ h (H.scrubbed.put o.dst (sv := .one (.sc (.val (.int .i64 (n : Int))))) rfl trivial)
    split at hs
    case h_2 => cases hs
    rename_i p1 ys h1
    split at hs
    case h_2 => cases hs
    rename_i qs kd n hl
    simp only [Option.some.injEq] at hs
    subst hs
    simp only [doSpecial] at h
    obtain ⟨hp, h⟩ := ands_iff.1 h
    obtain ⟨o1, o2⟩ := Ok.append.1 hp
    obtain ⟨e1, b1⟩ := rdL_sound H h1 o1
    obtain ⟨hrun, _⟩ := semLen_sound hl ρ (lv ρ ob) w
    have e2 := args_eq e1
    unfold Oper.wp execOp
    simp only [ho, resolve, e2, Sem.run_bind, Sem.run_pure, Result.andThen_ok, invoke, builtin, hrun, Oper.upon]
    exact hK ρ _ _ _ _ _ h (H.scrubbed.put o.dst (sv := .one (.sc (.num kd n))) rfl trivial)
  · rename_i t ho
    split at hs
    case h_2 => cases hs
    rename_i kk sc zs hmt
    simp only [Option.some.injEq] at hs
    subst hs
    simp only [doSpecial] at h
    have hp : Sx.place ob ob.length (.mp sc kk zs.length 0 (fun _ => 0) (fun _ _ => .bit false)) = some (ob ++ [.mp sc kk zs.length 0 (fun _ => 0) (fun _ _ => .bit false)]) := by
      unfold Sx.place
      rw [List.getElem?_eq_none (Nat.le_refl _)]
      simp only [Nat.beq_refl, if_true]
    obtain ⟨H1, hl, hg⟩ := H.scrubbed.placedO (x := .mp sc kk zs.length 0 (fun _ => 0) (fun _ _ => .bit false)) (rest := []) rfl rfl hp (fun i hi => by omega)
    unfold Oper.wp execOp
    simp only [ho, Option.map_none]
    have hrun : (Instr.makeMap t none).run P w = .ok (.map (some w.heap.size)) (w.alloc (.map #[] 0)) := rfl
    simp only [Sem.run_bind, hrun, Result.andThen_ok, Sem.run_pure, Oper.upon]
    refine hK _ _ _ _ _ _ h (H1.put o.dst (sv := .one (.sc (.mpr ob.length))) ?_ hl)
    show _ = Value.map (some (grown ρ ob.length w.heap.size ob.length))
    rw [hg]
  · rename_i t m x ok ho
    split at hs
    case h_2 => cases hs
    rename_i p0 o' p1 y kk sc zs h0 h1 hmt
    split at hs
    case h_2 => cases hs
    rename_i k' n hn
    split at hs
    case h_2 => cases hs
    rename_i hkk
    have hkk := of_decide_eq_true hkk
    subst hkk
    simp only [Option.some.injEq] at hs
    subst hs
    simp only [doSpecial] at h
    split at h
    case h_2 => exact h.no
    rename_i sc' kk' wd nn key g hob
    split at h
    case h_2 => exact h.no
    rename_i hq
    simp only [Bool.and_eq_true, beq_iff_eq, decide_eq_true_eq] at hq
    obtain ⟨⟨q1, q2⟩, q3⟩ := hq
    have q3 := Nat.eq_of_beq_eq_true q3
    subst q1 q2 q3
    obtain ⟨hp, h⟩ := ands_iff.1 h
    obtain ⟨o0, o1⟩ := Ok.append.1 hp
    obtain ⟨e0, _⟩ := rd_sound h0 o0 H
    obtain ⟨e1, _⟩ := rd_sound h1 o1 H
    have hy := asI_sound hn ρ
    obtain ⟨hm, hrow⟩ := H.mapAt hob
    obtain ⟨kt, et, z, u1, u2, u3, u4, u5, u6⟩ := mapT_spec hmt
    have hrun := run_lookup u1 u2 u3 hm n ok
    obtain ⟨l1, l2⟩ := lookA_sound hrow (z := zeroC zs) (fun c hc => u6 c hc _) u5 (mIx nn key n) ρ
    rw [u4] at l1
    unfold Oper.wp execOp
    have e0' : a.eval m = .map (some (ρ o')) := e0
    simp only [ho, e0', e1, hy, Sem.run_bind, hrun, Result.andThen_ok, Sem.run_pure, Oper.upon]
    cases ok with
    | true => exact hK ρ _ _ _ _ _ h (H.scrubbed.put o.dst (sv := .tup [lookA sc (mHas nn (mIx nn key n)) zs.length (g (mIx nn key n)) (zeroC zs), .sc (.val (.bool (mHas nn (mIx nn key n))))]) (by
        show _ = Value.tuple #[_, _]
        rw [l1]; rfl) (fun x hx => by
        rcases List.mem_cons.1 hx with rfl | hx
        · exact l2
        · rw [List.mem_singleton.1 hx]; exact trivial))
    | false => exact hK ρ _ _ _ _ _ h (H.scrubbed.put o.dst (sv := .one (lookA sc (mHas nn (mIx nn key n)) zs.length (g (mIx nn key n)) (zeroC zs))) (by
        show _ = SA.conc ρ _
        rw [l1]; rfl) l2)
  · rename_i t m x v ho
    split at hs
    case h_2 => cases hs
    rename_i p0 o' p1 y p2 z kk sc zs h0 h1 h2 hmt
    split at hs
    case h_2 => cases hs
    rename_i k' n cs hn hlaid
    split at hs
    case h_2 => cases hs
    rename_i hkk
    simp only [Bool.and_eq_true, decide_eq_true_eq] at hkk
    obtain ⟨⟨r1, r2⟩, r3⟩ := hkk
    subst r1
    simp only [Option.some.injEq] at hs
    subst hs
    simp only [doSpecial] at h
    split at h
    case h_2 => exact h.no
    rename_i sc' kk' wd nn key g hob
    split at h
    case h_2 => exact h.no
    rename_i hq
    simp only [Bool.and_eq_true, beq_iff_eq, decide_eq_true_eq] at hq
    obtain ⟨⟨q1, q2⟩, q3⟩ := hq
    have q3 := Nat.eq_of_beq_eq_true q3
    subst q1 q2 q3
    obtain ⟨hp, h⟩ := ands_iff.1 h
    obtain ⟨o0, o12⟩ := Ok.append.1 hp
    obtain ⟨o1, o2⟩ := Ok.append.1 o12
    obtain ⟨e0, _⟩ := rd_sound h0 o0 H
    obtain ⟨e1, _⟩ := rd_sound h1 o1 H
    obtain ⟨e2, b2⟩ := rd_sound h2 o2 H
    have hy := asI_sound hn ρ
    obtain ⟨hm, hrow⟩ := H.mapAt hob
    obtain ⟨kt, et, z', u1, u2, _⟩ := mapT_spec hmt
    obtain ⟨l1, l2⟩ := laidM_sound hlaid b2 r3 ρ
    have hrun := run_mapUpdate u1 u2 hm n l1
    have H1 := H.scrubbed.turnedM (key' := mK nn key n) hob (mG_ok hrow l2 rfl (mIx_le nn key n))
    unfold Oper.wp execOp
    have e0' : a.eval m = .map (some (ρ o')) := e0
    simp only [ho, e0', e1, e2, hy, Sem.run_bind, hrun, Result.andThen_ok, Sem.run_pure, Oper.upon]
    exact hK ρ _ _ _ _ _ h (H1.put o.dst (sv := .any) trivial trivial)
  · cases hs
theorem runs_sound {cx : Cx} (hcx : CxOK P cx) (hat : CxAt cx W0) {inl : Inl} (hin : InlOK P cx.gl inl) {ops : Array Oper} {d : Bool} {Q : Exit → Act → World → Prop} {K : List SV → List SO → Prop} (hK : ∀ ρ tm ob a w, Holds W0 ρ tm ob a w → K tm ob → Q .normal a w) :
    ∀ {l : List Oper} {i : Nat} {ρ : Rho} {tm : List SV} {ob : List SO} {a : Act} {w : World}, Holds W0 ρ tm ob a w → runs P cx inl ops d i l tm ob K → wpList P ops Q l a w
  | [], i, ρ, tm, ob, a, w, H, h => hK ρ tm ob a w H h
  | o :: r, i, ρ, tm, ob, a, w, H, h => by
    have plain : ∀ id ps sv ob', semG P cx ops id tm ob o = some (ps, sv, ob') → ands ps (runs P cx inl ops d (i + 1) r (put tm o.dst sv) ob' K) → wpList P ops Q (o :: r) a w := by
      intro id ps sv ob' hs h
      obtain ⟨hp, h⟩ := ands_iff.1 h
      have := semG_sound hcx hat.1 H hs hp (Q := Q) (K := wpList P ops Q r) fun ρ' a' w' H' => runs_sound hcx hat hin hK H' h
      unfold wpList
      split
      · rename_i hw; rw [if_pos hw] at this; exact .inl this
      · rename_i hw; rw [if_neg hw] at this; exact this
    have skip : runs P cx inl ops d (i + 1) r (put tm o.dst (.one (.sc (.val undef)))) ob K → wpList P ops Q r (a.put o.dst undef) w := fun h =>
      runs_sound hcx hat hin hK (H.put o.dst (sv := .one (.sc (.val undef))) rfl trivial) h
    simp only [runs] at h
    cases d with
    | true =>
      simp only at h
      split at h
      · rename_i hs; exact plain _ _ _ _ hs h
      · exact h.no
    | false =>
      cases hsp : special P cx tm o with
      | none =>
        rw [hsp] at h
        simp only at h
        split at h
        · rename_i hs; exact plain _ _ _ _ hs h
        · split at h
          · rename_i b ps sv ob' _ hwn hso
            have := whenOf_sound H hwn
            simp only [When.is] at this
            unfold wpList
            cases b with
            | true =>
              rw [if_pos this]
              obtain ⟨hp, h1⟩ := ands_iff.1 (h.1 rfl)
              exact .inl (semOp_sound hcx hat.1 H hso hp fun ρ' a' w' H' => runs_sound hcx hat hin hK (relit_sound H this H' fun d hd => .inr (put_other hd)) h1)
            | false =>
              rw [if_neg (by rw [this]; simp)]
              exact runs_sound hcx hat hin hK (relit_sound H this (H.put o.dst (sv := .one (.sc (.val undef))) rfl trivial) fun d hd => .inr (put_other hd)) (h.2 rfl)
          · exact h.no
      | some sp =>
        rw [hsp] at h
        simp only at h
        have go : doSpecial P cx inl ob (fun sv obS ob' => runs P cx inl ops false (i + 1) r (put (scrub obS tm) o.dst sv) ob' K) sp → o.wp P a w (wpList P ops Q r) Q := fun h =>
          special_sound hcx hat hin H hsp h fun ρ' a' w' sv obS ob' hk H' => runs_sound hcx hat hin hK H' hk
        split at h
        · rename_i hwn
          have := whenOf_sound H hwn
          simp only [When.is] at this
          unfold wpList
          rw [if_pos this]
          exact .inl (go h)
        · rename_i hwn
          have := whenOf_sound H hwn
          simp only [When.is] at this
          unfold wpList
          rw [if_neg (by rw [this]; simp)]
          exact skip h
        · rename_i b hwn
          have := whenOf_sound H hwn
          simp only [When.is] at this
          unfold wpList
          cases b with
          | true =>
            rw [if_pos this]
            exact .inl (special_sound hcx hat hin H hsp (h.1 rfl) fun ρ' a' w' sv obS ob' hk H' => runs_sound hcx hat hin hK (relit_sound H this H' fun d hd => by
              rw [put_other hd]
              rcases scrub_get obS tm d with e | e
              · exact .inl e
              · exact .inr e.1) hk)
          | false =>
            rw [if_neg (by rw [this]; simp)]
            exact runs_sound hcx hat hin hK (relit_sound H this (H.put o.dst (sv := .one (.sc (.val undef))) rfl trivial) fun d hd => .inr (put_other hd)) (h.2 rfl)
        · exact h.no
end
section
variable {P : Program} {W0 : Base}
theorem runs_step {cx : Cx} (hcx : CxOK P cx) (hat : CxAt cx W0) {inl : Inl} (hin : InlOK P cx.gl inl) {ops : Array Oper} {Q : Exit → Act → World → Prop} {K : List SV → List SO → Prop} {o : Oper} {r : List Oper} {i : Nat} {ρ : Rho} {tm : List SV} {ob : List SO} {a : Act} {w : World} {Z : Act → World → Prop}
    (H : Holds W0 ρ tm ob a w) (h : runs P cx inl ops false i (o :: r) tm ob K) (hZ : ∀ ρ tm ob a w, Holds W0 ρ tm ob a w → runs P cx inl ops false (i + 1) r tm ob K → Z a w) :
    if Region.wanted o (yielded ops a.tmps) then o.wp P a w Z Q ∨ (o.asks P a w ∧ LetsOut Q) else Z (a.put o.dst undef) w := by
  have plain : ∀ id ps sv ob', semG P cx ops id tm ob o = some (ps, sv, ob') → ands ps (runs P cx inl ops false (i + 1) r (put tm o.dst sv) ob' K) → if Region.wanted o (yielded ops a.tmps) then o.wp P a w Z Q ∨ (o.asks P a w ∧ LetsOut Q) else Z (a.put o.dst undef) w := by
    intro id ps sv ob' hs h
    obtain ⟨hp, h⟩ := ands_iff.1 h
    have := semG_sound hcx hat.1 H hs hp (Q := Q) (K := Z) fun ρ' a' w' H' => hZ _ _ _ _ _ H' h
    split
    · rename_i hw; rw [if_pos hw] at this; exact .inl this
    · rename_i hw; rw [if_neg hw] at this; exact this
  have skip : runs P cx inl ops false (i + 1) r (put tm o.dst (.one (.sc (.val undef)))) ob K → Z (a.put o.dst undef) w := fun h =>
    hZ _ _ _ _ _ (H.put o.dst (sv := .one (.sc (.val undef))) rfl trivial) h
  simp only [runs] at h
  cases hsp : special P cx tm o with
  | none =>
    rw [hsp] at h
    simp only at h
    split at h
    · rename_i hs; exact plain _ _ _ _ hs h
    · split at h
      · rename_i b ps sv ob' _ hwn hso
        have := whenOf_sound H hwn
        simp only [When.is] at this
        cases b with
        | true =>
          rw [if_pos this]
          obtain ⟨hp, h1⟩ := ands_iff.1 (h.1 rfl)
          exact .inl (semOp_sound hcx hat.1 H hso hp fun ρ' a' w' H' => hZ _ _ _ _ _ (relit_sound H this H' fun d hd => .inr (put_other hd)) h1)
        | false =>
          rw [if_neg (by rw [this]; simp)]
          exact hZ _ _ _ _ _ (relit_sound H this (H.put o.dst (sv := .one (.sc (.val undef))) rfl trivial) fun d hd => .inr (put_other hd)) (h.2 rfl)
      · exact h.no
  | some sp =>
    rw [hsp] at h
    simp only at h
    have go : doSpecial P cx inl ob (fun sv obS ob' => runs P cx inl ops false (i + 1) r (put (scrub obS tm) o.dst sv) ob' K) sp → o.wp P a w Z Q := fun h =>
      special_sound hcx hat hin H hsp h fun ρ' a' w' sv obS ob' hk H' => hZ _ _ _ _ _ H' hk
    split at h
    · rename_i hwn
      have := whenOf_sound H hwn
      simp only [When.is] at this
      rw [if_pos this]
      exact .inl (go h)
    · rename_i hwn
      have := whenOf_sound H hwn
      simp only [When.is] at this
      rw [if_neg (by rw [this]; simp)]
      exact skip h
    · rename_i b hwn
      have := whenOf_sound H hwn
      simp only [When.is] at this
      cases b with
      | true =>
        rw [if_pos this]
        exact .inl (special_sound hcx hat hin H hsp (h.1 rfl) fun ρ' a' w' sv obS ob' hk H' => hZ _ _ _ _ _ (relit_sound H this H' fun d hd => by
          rw [put_other hd]
          rcases scrub_get obS tm d with e | e
          · exact .inl e
          · exact .inr e.1) hk)
      | false =>
        rw [if_neg (by rw [this]; simp)]
        exact hZ _ _ _ _ _ (relit_sound H this (H.put o.dst (sv := .one (.sc (.val undef))) rfl trivial) fun d hd => .inr (put_other hd)) (h.2 rfl)
    · exact h.no
end
end Go.Sx
end
